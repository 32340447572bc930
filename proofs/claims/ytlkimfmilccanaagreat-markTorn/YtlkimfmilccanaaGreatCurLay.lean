import Derived.Test.YtlkimfmilccanaaGreatProg
import Derived.Test.YtlkimfmilccanaaGreatCrcBits
import Derived.Test.YtlkimfmilccanaaGreatCurBase
import Derived.Test.YtlkimfmilccanaaGreatFMath
/-
  The walks of the leaves: step, Step; halfBytes, byteSteps.
-/
namespace Go.Proofs.YtlkimfmilccanaaGreat.Fr
open Go.RowKit C
attribute [local go_sem] Num.odd
set_option maxHeartbeats 400000 in
theorem step_any (n : Num) (x : BitVec 32) (w : World) :
    Calls Tryz.prog 151 #[.int .u32 (n.u x)] w fun e w' => e = .returned (.int .u32 (n.u (st x))) ∧ w' = w := by
  have h0 := n.nonneg x
  have h1 := n.lt x
  go_enter Tryz.func151, Tryz.ntmps151
  go_wp2
  all_goals go_ret
  · exact ⟨ret_int (st_true' n x ‹_›), rfl⟩
  · exact ⟨ret_int (st_false' n x ‹_›), rfl⟩
set_option maxHeartbeats 400000 in
theorem refStep_any (n : Num) (x : BitVec 32) (w : World) :
    Calls Tryz.prog 165 #[.int .u32 (n.u x)] w fun e w' => e = .returned (.int .u32 (n.u (st x))) ∧ w' = w := by
  have h0 := n.nonneg x
  have h1 := n.lt x
  go_enter Tryz.func165, Tryz.ntmps165
  go_wp2
  all_goals go_ret
  · exact ⟨ret_int (st_true' n x ‹_›), rfl⟩
  · exact ⟨ret_int (st_false' n x ‹_›), rfl⟩
theorem infoHalf (n : Num) (f : Nat → BitVec 32) : (Tryz.prog.info? 189).map (·.size) = some (tab n f 16).size := by rw [tab_size]; kernel_rfl
set_option maxHeartbeats 400000 in
theorem half_any (n : Num) (w : World) :
    Calls Tryz.prog 132 #[] w fun e w' => e = .returned (.agg (tab n (fun i => stN 4 (BitVec.ofNat 32 i)) 16)) ∧ Below w.heap.size w w' := by
  go_enter Tryz.func132, Tryz.ntmps132
  go_wp2
  go_loopw [4] (fun i wr => ∃ k : Nat, k ≤ 16 ∧ i = .int .i64 k ∧ Has n wr (w.heap.size + 1) 189 (upto (fun i => stN 4 (BitVec.ofNat 32 i)) k) 16 ∧ Has n wr w.heap.size 189 (upto (fun _ => 0#32) 0) 16 ∧ Below w.heap.size w wr) (fun i _ => 16 - (intOf i).toNat)
  case atStart =>
    refine ⟨0, by omega, rfl, ?_, ?_, ((Below.refl _ _).alloc (Nat.le_refl _) _).alloc (by simp) _⟩
    · have := Has.new n (w.alloc (.cells #[.int .u32 0, .int .u32 0, .int .u32 0, .int .u32 0, .int .u32 0, .int .u32 0, .int .u32 0, .int .u32 0, .int .u32 0, .int .u32 0, .int .u32 0, .int .u32 0, .int .u32 0, .int .u32 0, .int .u32 0, .int .u32 0] 189)) 189 _ 16 _ (zeros16 n (fun i => stN 4 (BitVec.ofNat 32 i)))
      simpa using this
    · exact (Has.new n w 189 _ 16 _ (zeros16 n _)).old _ (by simp)
  case round =>
    obtain ⟨k, hk, rfl, ht, hz, hb⟩ := hrel
    by_cases hlt : k < 16
    · have hc := ht.cell k hlt
      have hf := ht.frozen k
      have hd : decide ((k : Int) < 16) = true := by simp; omega
      go_wp2
      go_loop [3, 9] (fun x j => ∃ q : Nat, q ≤ 4 ∧ j = .int .i64 q ∧ x = .int .u32 (n.u (stN q (BitVec.ofNat 32 k)))) (fun _ j => 4 - (intOf j).toNat)
      case atStart => exact ⟨0, by omega, rfl, int_eq (n.ofNat k (by omega))⟩
      case round =>
        obtain ⟨q, hq, rfl, rfl⟩ := hrel
        by_cases hl : q < 4
        · go_wp2_with (go_at_call 151; refine (step_any n _ _).mono ?_; rintro e w' ⟨rfl, rfl⟩)
          go_round
          case rel => exact ⟨q + 1, by omega, by go_num, int_eq (by rw [stN_succ])⟩
          case measure => simp [intOf]; omega
        · have hq4 : q = 4 := by omega
          subst hq4
          go_wp2
          go_roundw
          case rel =>
            refine ⟨k + 1, by omega, by go_num, ?_, hz.other _ _ (by simp), hb.setCell (by simp) _⟩
            have := ht.set k (stN 4 (BitVec.ofNat 32 k))
            rw [upd_upto (fun i => stN 4 (BitVec.ofNat 32 i)) k] at this
            exact this
          case measure => simp [intOf]; omega
    · have hk16 : k = 16 := by omega
      subst hk16
      go_wp2_with (first | refine wpList_load_row rfl 189 _ rfl (w.heap.size + 1) rfl 189 _ (0, 0) _ ht Tryz.underlying189 rfl (infoHalf n _) ?_ | refine wpList_store_row rfl 189 _ _ rfl w.heap.size _ rfl rfl 189 _ hz (infoHalf n _) (by rw [tab_size, tab_size]) (tab_one n _ _) ?_)
      exact bodyPost_ret (results_cell_row rfl _ _ w.heap.size 189 _ (0, 0) _ rfl (hz.row _) Tryz.underlying189 rfl (infoHalf n _)) rfl ⟨by rw [tab_full], below_setRow hb (Nat.le_refl _) _⟩
end Go.Proofs.YtlkimfmilccanaaGreat.Fr
namespace Go.Proofs.YtlkimfmilccanaaGreat.Fr
open Go.RowKit C
theorem take_snoc (s : ByteArray) (k : Nat) (h : k < s.size) : s.data.toList.take (k + 1) = s.data.toList.take k ++ [s[k]] := by
  rw [List.take_succ_eq_append_getElem (by simpa using h)]; rfl
attribute [local go_sem] Num.xor Num.xor_byte Num.and15 Num.half4
set_option maxHeartbeats 400000 in
theorem turn_any (n : Num) (x : BitVec 32) (s : ByteArray) (w : World) (hs : s.size ≤ maxLen) :
    Calls Tryz.prog 101 #[.int .u32 (n.u x), .string s] w fun e w' => e = .returned (.int .u32 (n.u (tn x s.data.toList))) ∧ Below w.heap.size w w' := by
  unfold maxLen at hs
  go_enter Tryz.func101, Tryz.ntmps101
  go_wp2_with fail
  refine (half_any n _).mono ?_
  rintro e w1 ⟨rfl, hb1⟩
  have hm0 := Has.new n w1 189 _ 16 _ (zeros16 n (fun _ => 0#32))
  have hm1 := hm0.row (fun i => stN 4 (BitVec.ofNat 32 i))
  have hs1 : w.heap.size ≤ w1.heap.size := hb1.size
  go_wp2_with (refine wpList_store_row rfl 189 _ _ rfl w1.heap.size (tab n (fun i => stN 4 (BitVec.ofNat 32 i)) 16) rfl rfl 189 (tab n (upto (fun _ => 0#32) 0) 16) hm0 (infoHalf n _) ((tab_size n _ _).trans (tab_size n _ _).symm) (tab_one n _ _) ?_)
  have hb2 := below_setRow (hb1.alloc hs1 (.cells #[.int .u32 0, .int .u32 0, .int .u32 0, .int .u32 0, .int .u32 0, .int .u32 0, .int .u32 0, .int .u32 0, .int .u32 0, .int .u32 0, .int .u32 0, .int .u32 0, .int .u32 0, .int .u32 0, .int .u32 0, .int .u32 0] 189)) hs1 (tab n (fun i => stN 4 (BitVec.ofNat 32 i)) 16)
  generalize (w1.alloc (.cells #[.int .u32 0, .int .u32 0, .int .u32 0, .int .u32 0, .int .u32 0, .int .u32 0, .int .u32 0, .int .u32 0, .int .u32 0, .int .u32 0, .int .u32 0, .int .u32 0, .int .u32 0, .int .u32 0, .int .u32 0, .int .u32 0] 189)).setRow w1.heap.size (tab n (fun i => stN 4 (BitVec.ofNat 32 i)) 16) = w2 at hm1 hb2 ⊢
  clear hm0
  have hc : ∀ y : BitVec 32, w2.cell? ⟨w1.heap.size, (n.u (y &&& 15#32)).toNat, none⟩ = some (.int .u32 (n.u (stN 4 (y &&& 15#32)))) := by
    intro y
    have h1 := n.low15 y
    have h0 := n.nonneg (y &&& 15#32)
    have := hm1.cell (n.u (y &&& 15#32)).toNat (by omega)
    rw [n.idx] at this
    exact this
  have hl := n.low15
  have hn := n.nonneg
  go_loop [0, 10] (fun y i => ∃ k : Nat, k ≤ s.size ∧ i = .int .i64 k ∧ y = .int .u32 (n.u (tn x (s.data.toList.take k)))) (fun _ i => s.size - (intOf i).toNat)
  case atStart => exact ⟨0, Nat.zero_le _, rfl, rfl⟩
  case round =>
    obtain ⟨k, hk, rfl, rfl⟩ := hrel
    by_cases hlt : k < s.size
    · have HT := hide (take_snoc s k hlt)
      go_wp2
      go_round
      case rel =>
        refine ⟨k + 1, by omega, by go_num, int_eq ?_⟩
        rw [HT.out, tn_append, half_byte, half_byte, two_halves]; rfl
      case measure => simp [intOf]; omega
    · go_wp2
      go_ret
      exact ⟨ret_int (by rw [List.take_of_length_le (by simp; omega)]), hb2⟩
end Go.Proofs.YtlkimfmilccanaaGreat.Fr
/-
  On, Sum; the document's Sum and On.
-/
namespace Go.Proofs.YtlkimfmilccanaaGreat.Fr
open Go.RowKit C
attribute [local go_sem] Num.not Num.xor Num.xor_byte
set_option maxHeartbeats 400000 in
theorem on_any (n : Num) (x : BitVec 32) (s : ByteArray) (w : World) (hs : s.size ≤ maxLen) :
    Calls Tryz.prog 69 #[.int .u32 (n.u x), .string s] w fun e w' => e = .returned (.int .u32 (n.u (on x s.data.toList))) ∧ Below w.heap.size w w' := by
  go_enter Tryz.func69, Tryz.ntmps69
  go_wp2_with fail
  refine (turn_any n _ s _ hs).mono ?_
  rintro e w1 ⟨rfl, hb1⟩
  go_wp2
  go_ret
  exact ⟨rfl, hb1⟩
set_option maxHeartbeats 400000 in
theorem sum_any (n : Num) (s : ByteArray) (w : World) (hs : s.size ≤ maxLen) :
    Calls Tryz.prog 36 #[.string s] w fun e w' => e = .returned (.int .u32 (n.u (on 0#32 s.data.toList))) ∧ Below w.heap.size w w' := by
  have h := on_any n 0#32 s w hs
  rw [n.zero] at h
  have H := hide h
  clear h
  go_enter Tryz.func36, Tryz.ntmps36
  go_wp2_with fail
  refine H.out.mono ?_
  rintro e w1 ⟨rfl, hb1⟩
  go_wp2
  go_ret
  exact ⟨rfl, hb1⟩
set_option maxHeartbeats 400000 in
theorem refOn_any (n : Num) (x : BitVec 32) (s : ByteArray) (w : World) (hs : s.size ≤ maxLen) :
    Calls Tryz.prog 143 #[.int .u32 (n.u x), .string s] w fun e w' => e = .returned (.int .u32 (n.u (on x s.data.toList))) ∧ w' = w := by
  unfold maxLen at hs
  go_enter Tryz.func143, Tryz.ntmps143
  go_wp2
  go_loop [5, 6] (fun y i => ∃ k : Nat, k ≤ s.size ∧ i = .int .i64 k ∧ y = .int .u32 (n.u (tn (~~~x) (s.data.toList.take k)))) (fun _ i => s.size - (intOf i).toNat)
  case atStart => exact ⟨0, Nat.zero_le _, rfl, rfl⟩
  case round =>
    obtain ⟨k, hk, rfl, rfl⟩ := hrel
    by_cases hlt : k < s.size
    · have HT := hide (take_snoc s k hlt)
      have hd : decide ((k : Int) < (s.size : Int)) = true := by simp; omega
      go_wp2
      go_loop [5, 7] (fun y j => ∃ q : Nat, q ≤ 8 ∧ j = .int .i64 q ∧ y = .int .u32 (n.u (stN q (tn (~~~x) (s.data.toList.take k) ^^^ B s[k])))) (fun _ j => 8 - (intOf j).toNat)
      case atStart => exact ⟨0, by omega, rfl, rfl⟩
      case round =>
        obtain ⟨q, hq, rfl, rfl⟩ := hrel
        by_cases hl : q < 8
        · go_wp2_with (go_at_call 165; refine (refStep_any n _ _).mono ?_; rintro e w' ⟨rfl, rfl⟩)
          go_round
          case rel => exact ⟨q + 1, by omega, by go_num, int_eq (by rw [stN_succ])⟩
          case measure => simp [intOf]; omega
        · have hq8 : q = 8 := by omega
          subst hq8
          go_wp2
          go_round
          case rel =>
            refine ⟨k + 1, by omega, by go_num, int_eq ?_⟩
            rw [HT.out, tn_append]; rfl
          case measure => simp [intOf]; omega
    · go_wp2
      go_ret
      exact ⟨ret_int (by rw [List.take_of_length_le (by simp; omega)]; rfl), rfl⟩
set_option maxHeartbeats 400000 in
theorem refSum_any (n : Num) (s : ByteArray) (w : World) (hs : s.size ≤ maxLen) :
    Calls Tryz.prog 117 #[.string s] w fun e w' => e = .returned (.int .u32 (n.u (on 0#32 s.data.toList))) ∧ w' = w := by
  have h := refOn_any n 0#32 s w hs
  rw [n.zero] at h
  have H := hide h
  clear h
  go_enter Tryz.func117, Tryz.ntmps117
  go_wp2_with fail
  refine H.out.mono ?_
  rintro e w1 ⟨rfl, rfl⟩
  go_wp2
  go_ret
  exact ⟨rfl, rfl⟩
end Go.Proofs.YtlkimfmilccanaaGreat.Fr
/-
  The width of each kind of number, out of the library's Len64.
-/
namespace Go.Proofs.YtlkimfmilccanaaGreat.Fr
open Go.RowKit
section
variable {P : Program}
theorem wpList_index_lit {ops : Array Oper} {rest : List Oper} {o : Oper} {a : Act} {w : World} {Q : Exit → Act → World → Prop} (hgd : o.guard = none) (t : TypeId) (s x : Operand) (ho : o.op = .index t s x) (r : Value)
    (hr : (Instr.index t (a.eval s) (a.eval x)).run P w = .ok r w) (h : wpList P ops Q rest (a.put o.dst r) w) : wpList P ops Q (o :: rest) a w := by
  refine wpList_plain hgd fun K hK => ?_
  unfold Oper.wp execOp
  simp only [ho, Sem.run_bind, Sem.run_pure, Result.andThen_ok, hr]
  exact hK _ _ h
end
set_option maxRecDepth 20000 in
set_option maxHeartbeats 1000000 in
theorem len64_32 (w : World) : Calls Tryz.prog 129 #[.int .u64 4294967295] w fun e w' => e = .returned (.int .i64 32) ∧ w = w' := by
  go_enter Tryz.func129, Tryz.ntmps129
  go_wp2_with (refine wpList_index_lit rfl _ _ _ rfl (.int .u8 8) ?_ ?_; · kernel_rfl)
  go_ret
  exact ⟨rfl, rfl⟩
theorem width_32 (w : World) : Calls Tryz.prog 153 #[] w fun e w' => e = .returned (.int .i64 4) ∧ w = w' := by
  go_enter Tryz.func153, Tryz.ntmps153
  go_wp2_with fail
  refine (len64_32 _).mono ?_
  rintro e w1 ⟨rfl, rfl⟩
  go_wp2
  go_ret
  exact ⟨rfl, rfl⟩
set_option maxRecDepth 20000 in
set_option maxHeartbeats 1000000 in
theorem len64_64 (w : World) : Calls Tryz.prog 129 #[.int .u64 18446744073709551615] w fun e w' => e = .returned (.int .i64 64) ∧ w = w' := by
  go_enter Tryz.func129, Tryz.ntmps129
  go_wp2_with (refine wpList_index_lit rfl _ _ _ rfl (.int .u8 8) ?_ ?_; · kernel_rfl)
  go_ret
  exact ⟨rfl, rfl⟩
theorem width_64 (w : World) : Calls Tryz.prog 152 #[] w fun e w' => e = .returned (.int .i64 8) ∧ w = w' := by
  go_enter Tryz.func152, Tryz.ntmps152
  go_wp2_with fail
  refine (len64_64 _).mono ?_
  rintro e w1 ⟨rfl, rfl⟩
  go_wp2
  go_ret
  exact ⟨rfl, rfl⟩
end Go.Proofs.YtlkimfmilccanaaGreat.Fr
/-
  lay: a number's bytes behind others, of each kind.
-/
namespace Go.Proofs.YtlkimfmilccanaaGreat.Fr
open Go.RowKit
theorem wrap8_digit (x n j m : Nat) (hm : 8 * (n - 1 - j) = m) : IntKind.u8.wrap ((x : Int) / (2 : Int) ^ m) = ((digit x n j).toNat : Int) := by
  unfold digit
  rw [hm, toNat_ofNat8]
  have e : (x : Int) / (2 : Int) ^ m = ((x / 2 ^ m : Nat) : Int) := by simp
  rw [e]
  simp [IntKind.wrap, IntKind.bits, IntKind.signed]
theorem conv_u8 (t : TypeId) (k : IntKind) (Z : Int) (ht : (Tryz.prog.underlying t).isSome = true) (w : World) : (convert t 5 (.int k Z)).run Tryz.prog w = .ok (.int .u8 (IntKind.u8.wrap Z)) w := by
  have h := run_convert_int (P := Tryz.prog) (w := w) t 5 k Z ht (by kernel_rfl)
  rw [show Tryz.prog.intKind 5 = .u8 by kernel_rfl] at h
  exact h
set_option maxHeartbeats 1000000 in
theorem lay_32 (X : Int) (x : Nat) (hX : X = (x : Int)) (v : Value) (l : List UInt8) (B : Nat) (w : World) (hB : Bytes w B v l) (hs : B ≤ w.heap.size) (hl : l.length + 4 ≤ 140737488355328) :
    Calls Tryz.prog 134 #[v, .int .u32 X] w fun e w' => ∃ v', e = .returned v' ∧ Bytes w' B v' (l ++ nb x 4) ∧ Mv w v w' v' := by
  have HL := hide hl
  have HX := hide hX
  clear hl hX
  go_enter Tryz.func134, Tryz.ntmps134
  go_wp2_with fail
  refine (width_32 _).mono ?_
  rintro e w1 ⟨rfl, rfl⟩
  go_wp2
  go_loopw [0, 5] (fun b i wr => ∃ k : Nat, k ≤ 4 ∧ i = .int .i64 ((k : Int) - 1) ∧ Bytes wr B b (l ++ (List.range (4 - k)).map (digit x 4)) ∧ Mv w v wr b) (fun _ i _ => (intOf i + 1).toNat)
  case atStart => exact ⟨4, by omega, rfl, by rw [Nat.sub_self, List.range_zero, List.map_nil, List.append_nil]; exact hB, Mv.refl _ _⟩
  case round =>
    clear hB
    obtain ⟨k, hk, rfl, hB, hM⟩ := hrel
    have hs' : B ≤ wr.heap.size := Nat.le_trans hs hM.gr.size
    by_cases hlt : 0 < k
    · have h1 : (0 : Int) ≤ (k : Int) - 1 := by omega
      have hd : decide ((k : Int) - 1 ≥ 0) = true := by simp; omega
      obtain ⟨Z, hZ⟩ : ∃ Z : Int, X / (2 : Int) ^ (8 * (k - 1)) = Z := ⟨_, rfl⟩
      have hc : ∀ w : World, (convert 88 5 (.int .u32 Z)).run Tryz.prog w = .ok (.int .u8 ((digit x 4 (4 - k)).toNat : Int)) w := fun w => by
        rw [← wrap8_digit x 4 (4 - k) (8 * (k - 1)) (by omega), ← HX.out, hZ]
        exact conv_u8 88 .u32 Z (by kernel_rfl) w
      have HZ := hide hZ
      have HC := hide hc
      clear hZ hc
      have hll := HL.out
      obtain ⟨L, hL⟩ : ∃ L, l ++ (List.range (4 - k)).map (digit x 4) = L := ⟨_, rfl⟩
      have HLL : Hid (L.length + 1 ≤ 140737488355328) := by
        show _ ≤ _
        rw [← hL, List.length_append, List.length_map, List.length_range]; omega
      rw [hL] at hB
      have HE := hide hL
      clear hll hL
      go_wp2_with (first | (refine wpList_shr rfl _ _ _ _ rfl .u32 .i64 X _ Z (by rfl) (by rfl) (8 * (k - 1)) (by omega) (by show _ ≤ 32; omega) HZ.out ?_) | (refine wpList_conv rfl _ _ _ rfl .u32 .u8 Z _ (by rfl) (HC.out _) ?_) | (at_builtin; refine wpList_append_byte rfl _ _ rfl B _ L (digit x 4 (4 - k)) _ rfl (by rfl) hB (by rfl) rfl HLL.out hs' ?_; intro g cap w5 hB5 hM5))
      go_roundw
      case rel =>
        refine ⟨k - 1, by omega, by congr 1; omega, ?_, hM.trans hM5⟩
        rw [← HE.out, List.append_assoc, range_snoc, show 4 - k + 1 = 4 - (k - 1) by omega] at hB5
        rw [HE.out] at hB5
        exact hB5
      case measure => simp [intOf]; omega
    · have hk0 : k = 0 := by omega
      subst hk0
      go_wp2
      go_ret
      exact ⟨_, rfl, hB, hM⟩
set_option maxHeartbeats 1000000 in
theorem lay_64 (X : Int) (x : Nat) (hX : X = (x : Int)) (v : Value) (l : List UInt8) (B : Nat) (w : World) (hB : Bytes w B v l) (hs : B ≤ w.heap.size) (hl : l.length + 8 ≤ 140737488355328) :
    Calls Tryz.prog 133 #[v, .int .u64 X] w fun e w' => ∃ v', e = .returned v' ∧ Bytes w' B v' (l ++ nb x 8) ∧ Mv w v w' v' := by
  have HL := hide hl
  have HX := hide hX
  clear hl hX
  go_enter Tryz.func133, Tryz.ntmps133
  go_wp2_with fail
  refine (width_64 _).mono ?_
  rintro e w1 ⟨rfl, rfl⟩
  go_wp2
  go_loopw [0, 5] (fun b i wr => ∃ k : Nat, k ≤ 8 ∧ i = .int .i64 ((k : Int) - 1) ∧ Bytes wr B b (l ++ (List.range (8 - k)).map (digit x 8)) ∧ Mv w v wr b) (fun _ i _ => (intOf i + 1).toNat)
  case atStart => exact ⟨8, by omega, rfl, by rw [Nat.sub_self, List.range_zero, List.map_nil, List.append_nil]; exact hB, Mv.refl _ _⟩
  case round =>
    clear hB
    obtain ⟨k, hk, rfl, hB, hM⟩ := hrel
    have hs' : B ≤ wr.heap.size := Nat.le_trans hs hM.gr.size
    by_cases hlt : 0 < k
    · have h1 : (0 : Int) ≤ (k : Int) - 1 := by omega
      have hd : decide ((k : Int) - 1 ≥ 0) = true := by simp; omega
      obtain ⟨Z, hZ⟩ : ∃ Z : Int, X / (2 : Int) ^ (8 * (k - 1)) = Z := ⟨_, rfl⟩
      have hc : ∀ w : World, (convert 158 5 (.int .u64 Z)).run Tryz.prog w = .ok (.int .u8 ((digit x 8 (8 - k)).toNat : Int)) w := fun w => by
        rw [← wrap8_digit x 8 (8 - k) (8 * (k - 1)) (by omega), ← HX.out, hZ]
        exact conv_u8 158 .u64 Z (by kernel_rfl) w
      have HZ := hide hZ
      have HC := hide hc
      clear hZ hc
      have hll := HL.out
      obtain ⟨L, hL⟩ : ∃ L, l ++ (List.range (8 - k)).map (digit x 8) = L := ⟨_, rfl⟩
      have HLL : Hid (L.length + 1 ≤ 140737488355328) := by
        show _ ≤ _
        rw [← hL, List.length_append, List.length_map, List.length_range]; omega
      rw [hL] at hB
      have HE := hide hL
      clear hll hL
      go_wp2_with (first | (refine wpList_shr rfl _ _ _ _ rfl .u64 .i64 X _ Z (by rfl) (by rfl) (8 * (k - 1)) (by omega) (by show _ ≤ 64; omega) HZ.out ?_) | (refine wpList_conv rfl _ _ _ rfl .u64 .u8 Z _ (by rfl) (HC.out _) ?_) | (at_builtin; refine wpList_append_byte rfl _ _ rfl B _ L (digit x 8 (8 - k)) _ rfl (by rfl) hB (by rfl) rfl HLL.out hs' ?_; intro g cap w5 hB5 hM5))
      go_roundw
      case rel =>
        refine ⟨k - 1, by omega, by congr 1; omega, ?_, hM.trans hM5⟩
        rw [← HE.out, List.append_assoc, range_snoc, show 8 - k + 1 = 8 - (k - 1) by omega] at hB5
        rw [HE.out] at hB5
        exact hB5
      case measure => simp [intOf]; omega
    · have hk0 : k = 0 := by omega
      subst hk0
      go_wp2
      go_ret
      exact ⟨_, rfl, hB, hM⟩
end Go.Proofs.YtlkimfmilccanaaGreat.Fr
