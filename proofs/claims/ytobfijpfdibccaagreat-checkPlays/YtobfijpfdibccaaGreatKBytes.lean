import Derived.Test.YtobfijpfdibccaaGreatProg
import Derived.Test.YtobfijpfdibccaaGreatCrcBits
import Derived.Test.YtobfijpfdibccaaGreatKName
import Derived.Laws.Concat
/-
  The walks of the leaves: step, Step; halfBytes, byteSteps.
-/
namespace Go.Proofs.YtobfijpfdibccaaGreat.Fr
open Go.RowKit C
attribute [local go_sem] Num.odd
set_option maxHeartbeats 400000 in
theorem step_any (n : Num) (x : BitVec 32) (w : World) :
    Calls Tryz.prog 119 #[.int .u32 (n.u x)] w fun e w' => e = .returned (.int .u32 (n.u (st x))) ∧ w' = w := by
  have h0 := n.nonneg x
  have h1 := n.lt x
  go_enter Tryz.func119, Tryz.ntmps119
  go_wp2
  all_goals go_ret
  · exact ⟨ret_int (st_true' n x ‹_›), rfl⟩
  · exact ⟨ret_int (st_false' n x ‹_›), rfl⟩
set_option maxHeartbeats 400000 in
theorem refStep_any (n : Num) (x : BitVec 32) (w : World) :
    Calls Tryz.prog 99 #[.int .u32 (n.u x)] w fun e w' => e = .returned (.int .u32 (n.u (st x))) ∧ w' = w := by
  have h0 := n.nonneg x
  have h1 := n.lt x
  go_enter Tryz.func99, Tryz.ntmps99
  go_wp2
  all_goals go_ret
  · exact ⟨ret_int (st_true' n x ‹_›), rfl⟩
  · exact ⟨ret_int (st_false' n x ‹_›), rfl⟩
theorem infoHalf (n : Num) (f : Nat → BitVec 32) : (Tryz.prog.info? 140).map (·.size) = some (tab n f 16).size := by rw [tab_size]; kernel_rfl
set_option maxHeartbeats 400000 in
theorem half_any (n : Num) (w : World) :
    Calls Tryz.prog 108 #[] w fun e w' => e = .returned (.agg (tab n (fun i => stN 4 (BitVec.ofNat 32 i)) 16)) ∧ Below w.heap.size w w' := by
  go_enter Tryz.func108, Tryz.ntmps108
  go_wp2
  go_loopw [4] (fun i wr => ∃ k : Nat, k ≤ 16 ∧ i = .int .i64 k ∧ Has n wr (w.heap.size + 1) 140 (upto (fun i => stN 4 (BitVec.ofNat 32 i)) k) 16 ∧ Has n wr w.heap.size 140 (upto (fun _ => 0#32) 0) 16 ∧ Below w.heap.size w wr) (fun i _ => 16 - (intOf i).toNat)
  case atStart =>
    refine ⟨0, by omega, rfl, ?_, ?_, ((Below.refl _ _).alloc (Nat.le_refl _) _).alloc (by simp) _⟩
    · have := Has.new n (w.alloc (.cells #[.int .u32 0, .int .u32 0, .int .u32 0, .int .u32 0, .int .u32 0, .int .u32 0, .int .u32 0, .int .u32 0, .int .u32 0, .int .u32 0, .int .u32 0, .int .u32 0, .int .u32 0, .int .u32 0, .int .u32 0, .int .u32 0] 140)) 140 _ 16 _ (zeros16 n (fun i => stN 4 (BitVec.ofNat 32 i)))
      simpa using this
    · exact (Has.new n w 140 _ 16 _ (zeros16 n _)).old _ (by simp)
  case round =>
    obtain ⟨k, hk, rfl, ht, hz, hb⟩ := hrel
    by_cases hlt : k < 16
    · have hc := ht.cell k hlt
      have hf := ht.frozen k
      have hd : decide ((k : Int) < 16) = true := by simp; omega
      go_wp2
      go_loop [3, 9] (fun x j => ∃ q : Nat, q ≤ 4 ∧ j = .int .i64 q ∧ x = .int .u32 (n.u (stN q (BitVec.ofNat 32 k)))) (fun _ j => 4 - (intOf j).toNat)
      case atStart => exact ⟨0, by omega, rfl, int_eq (n.ofNat k (by omega))⟩
      case round =>
        obtain ⟨q, hq, rfl, rfl⟩ := hrel
        by_cases hl : q < 4
        · go_wp2_with (go_at_call 119; refine (step_any n _ _).mono ?_; rintro e w' ⟨rfl, rfl⟩)
          go_round
          case rel => exact ⟨q + 1, by omega, by go_num, int_eq (by rw [stN_succ])⟩
          case measure => simp [intOf]; omega
        · have hq4 : q = 4 := by omega
          subst hq4
          go_wp2
          go_roundw
          case rel =>
            refine ⟨k + 1, by omega, by go_num, ?_, hz.other _ _ (by simp), hb.setCell (by simp) _⟩
            have := ht.set k (stN 4 (BitVec.ofNat 32 k))
            rw [upd_upto (fun i => stN 4 (BitVec.ofNat 32 i)) k] at this
            exact this
          case measure => simp [intOf]; omega
    · have hk16 : k = 16 := by omega
      subst hk16
      go_wp2_with (first | refine wpList_load_row rfl 140 _ rfl (w.heap.size + 1) rfl 140 _ (0, 0) _ ht Tryz.underlying140 rfl (infoHalf n _) ?_ | refine wpList_store_row rfl 140 _ _ rfl w.heap.size _ rfl rfl 140 _ hz (infoHalf n _) (by rw [tab_size, tab_size]) (tab_one n _ _) ?_)
      exact bodyPost_ret (results_cell_row rfl _ _ w.heap.size 140 _ (0, 0) _ rfl (hz.row _) Tryz.underlying140 rfl (infoHalf n _)) rfl ⟨by rw [tab_full], below_setRow hb (Nat.le_refl _) _⟩
end Go.Proofs.YtobfijpfdibccaaGreat.Fr
namespace Go.Proofs.YtobfijpfdibccaaGreat.Fr
open Go.RowKit C
theorem take_snoc (s : ByteArray) (k : Nat) (h : k < s.size) : s.data.toList.take (k + 1) = s.data.toList.take k ++ [s[k]] := by
  rw [List.take_succ_eq_append_getElem (by simpa using h)]; rfl
attribute [local go_sem] Num.xor Num.xor_byte Num.and15 Num.half4
set_option maxHeartbeats 400000 in
theorem turn_any (n : Num) (x : BitVec 32) (s : ByteArray) (w : World) (hs : s.size ≤ maxLen) :
    Calls Tryz.prog 98 #[.int .u32 (n.u x), .string s] w fun e w' => e = .returned (.int .u32 (n.u (tn x s.data.toList))) ∧ Below w.heap.size w w' := by
  unfold maxLen at hs
  go_enter Tryz.func98, Tryz.ntmps98
  go_wp2_with fail
  refine (half_any n _).mono ?_
  rintro e w1 ⟨rfl, hb1⟩
  have hm0 := Has.new n w1 140 _ 16 _ (zeros16 n (fun _ => 0#32))
  have hm1 := hm0.row (fun i => stN 4 (BitVec.ofNat 32 i))
  have hs1 : w.heap.size ≤ w1.heap.size := hb1.size
  go_wp2_with (refine wpList_store_row rfl 140 _ _ rfl w1.heap.size (tab n (fun i => stN 4 (BitVec.ofNat 32 i)) 16) rfl rfl 140 (tab n (upto (fun _ => 0#32) 0) 16) hm0 (infoHalf n _) ((tab_size n _ _).trans (tab_size n _ _).symm) (tab_one n _ _) ?_)
  have hb2 := below_setRow (hb1.alloc hs1 (.cells #[.int .u32 0, .int .u32 0, .int .u32 0, .int .u32 0, .int .u32 0, .int .u32 0, .int .u32 0, .int .u32 0, .int .u32 0, .int .u32 0, .int .u32 0, .int .u32 0, .int .u32 0, .int .u32 0, .int .u32 0, .int .u32 0] 140)) hs1 (tab n (fun i => stN 4 (BitVec.ofNat 32 i)) 16)
  generalize (w1.alloc (.cells #[.int .u32 0, .int .u32 0, .int .u32 0, .int .u32 0, .int .u32 0, .int .u32 0, .int .u32 0, .int .u32 0, .int .u32 0, .int .u32 0, .int .u32 0, .int .u32 0, .int .u32 0, .int .u32 0, .int .u32 0, .int .u32 0] 140)).setRow w1.heap.size (tab n (fun i => stN 4 (BitVec.ofNat 32 i)) 16) = w2 at hm1 hb2 ⊢
  clear hm0
  have hc : ∀ y : BitVec 32, w2.cell? ⟨w1.heap.size, (n.u (y &&& 15#32)).toNat, none⟩ = some (.int .u32 (n.u (stN 4 (y &&& 15#32)))) := by
    intro y
    have h1 := n.low15 y
    have h0 := n.nonneg (y &&& 15#32)
    have := hm1.cell (n.u (y &&& 15#32)).toNat (by omega)
    rw [n.idx] at this
    exact this
  have hl := n.low15
  have hn := n.nonneg
  go_loop [0, 10] (fun y i => ∃ k : Nat, k ≤ s.size ∧ i = .int .i64 k ∧ y = .int .u32 (n.u (tn x (s.data.toList.take k)))) (fun _ i => s.size - (intOf i).toNat)
  case atStart => exact ⟨0, Nat.zero_le _, rfl, rfl⟩
  case round =>
    obtain ⟨k, hk, rfl, rfl⟩ := hrel
    by_cases hlt : k < s.size
    · have HT := hide (take_snoc s k hlt)
      go_wp2
      go_round
      case rel =>
        refine ⟨k + 1, by omega, by go_num, int_eq ?_⟩
        rw [HT.out, tn_append, half_byte, half_byte, two_halves]; rfl
      case measure => simp [intOf]; omega
    · go_wp2
      go_ret
      exact ⟨ret_int (by rw [List.take_of_length_le (by simp; omega)]), hb2⟩
end Go.Proofs.YtobfijpfdibccaaGreat.Fr
/-
  On, Sum; the document's Sum and On.
-/
namespace Go.Proofs.YtobfijpfdibccaaGreat.Fr
open Go.RowKit C
attribute [local go_sem] Num.not Num.xor Num.xor_byte
set_option maxHeartbeats 400000 in
theorem on_any (n : Num) (x : BitVec 32) (s : ByteArray) (w : World) (hs : s.size ≤ maxLen) :
    Calls Tryz.prog 81 #[.int .u32 (n.u x), .string s] w fun e w' => e = .returned (.int .u32 (n.u (on x s.data.toList))) ∧ Below w.heap.size w w' := by
  go_enter Tryz.func81, Tryz.ntmps81
  go_wp2_with fail
  refine (turn_any n _ s _ hs).mono ?_
  rintro e w1 ⟨rfl, hb1⟩
  go_wp2
  go_ret
  exact ⟨rfl, hb1⟩
set_option maxHeartbeats 400000 in
theorem sum_any (n : Num) (s : ByteArray) (w : World) (hs : s.size ≤ maxLen) :
    Calls Tryz.prog 82 #[.string s] w fun e w' => e = .returned (.int .u32 (n.u (on 0#32 s.data.toList))) ∧ Below w.heap.size w w' := by
  have h := on_any n 0#32 s w hs
  rw [n.zero] at h
  have H := hide h
  clear h
  go_enter Tryz.func82, Tryz.ntmps82
  go_wp2_with fail
  refine H.out.mono ?_
  rintro e w1 ⟨rfl, hb1⟩
  go_wp2
  go_ret
  exact ⟨rfl, hb1⟩
set_option maxHeartbeats 400000 in
theorem refOn_any (n : Num) (x : BitVec 32) (s : ByteArray) (w : World) (hs : s.size ≤ maxLen) :
    Calls Tryz.prog 83 #[.int .u32 (n.u x), .string s] w fun e w' => e = .returned (.int .u32 (n.u (on x s.data.toList))) ∧ w' = w := by
  unfold maxLen at hs
  go_enter Tryz.func83, Tryz.ntmps83
  go_wp2
  go_loop [5, 6] (fun y i => ∃ k : Nat, k ≤ s.size ∧ i = .int .i64 k ∧ y = .int .u32 (n.u (tn (~~~x) (s.data.toList.take k)))) (fun _ i => s.size - (intOf i).toNat)
  case atStart => exact ⟨0, Nat.zero_le _, rfl, rfl⟩
  case round =>
    obtain ⟨k, hk, rfl, rfl⟩ := hrel
    by_cases hlt : k < s.size
    · have HT := hide (take_snoc s k hlt)
      have hd : decide ((k : Int) < (s.size : Int)) = true := by simp; omega
      go_wp2
      go_loop [5, 7] (fun y j => ∃ q : Nat, q ≤ 8 ∧ j = .int .i64 q ∧ y = .int .u32 (n.u (stN q (tn (~~~x) (s.data.toList.take k) ^^^ B s[k])))) (fun _ j => 8 - (intOf j).toNat)
      case atStart => exact ⟨0, by omega, rfl, rfl⟩
      case round =>
        obtain ⟨q, hq, rfl, rfl⟩ := hrel
        by_cases hl : q < 8
        · go_wp2_with (go_at_call 99; refine (refStep_any n _ _).mono ?_; rintro e w' ⟨rfl, rfl⟩)
          go_round
          case rel => exact ⟨q + 1, by omega, by go_num, int_eq (by rw [stN_succ])⟩
          case measure => simp [intOf]; omega
        · have hq8 : q = 8 := by omega
          subst hq8
          go_wp2
          go_round
          case rel =>
            refine ⟨k + 1, by omega, by go_num, int_eq ?_⟩
            rw [HT.out, tn_append]; rfl
          case measure => simp [intOf]; omega
    · go_wp2
      go_ret
      exact ⟨ret_int (by rw [List.take_of_length_le (by simp; omega)]; rfl), rfl⟩
set_option maxHeartbeats 400000 in
theorem refSum_any (n : Num) (s : ByteArray) (w : World) (hs : s.size ≤ maxLen) :
    Calls Tryz.prog 73 #[.string s] w fun e w' => e = .returned (.int .u32 (n.u (on 0#32 s.data.toList))) ∧ w' = w := by
  have h := refOn_any n 0#32 s w hs
  rw [n.zero] at h
  have H := hide h
  clear h
  go_enter Tryz.func73, Tryz.ntmps73
  go_wp2_with fail
  refine H.out.mono ?_
  rintro e w1 ⟨rfl, rfl⟩
  go_wp2
  go_ret
  exact ⟨rfl, rfl⟩
end Go.Proofs.YtobfijpfdibccaaGreat.Fr
/-
  A payload's bytes: four, sumOf, bytesOf, payloadOf.
-/
namespace Go.Proofs.YtobfijpfdibccaaGreat
open Go.RowKit Go.Maps
set_option linter.unusedVariables false
theorem k8_digit (x j m : Nat) (hm : 8 * (4 - 1 - j) = m) : IntKind.u8.wrap ((x : Int) / (2 : Int) ^ m) = ((Fr.digit x 4 j).toNat : Int) := by
  unfold Fr.digit
  rw [hm, Fr.toNat_ofNat8]
  have e : (x : Int) / (2 : Int) ^ m = ((x / 2 ^ m : Nat) : Int) := by simp
  rw [e]
  simp [IntKind.wrap, IntKind.bits, IntKind.signed]
theorem kconv_u8 (Z : Int) (w : World) : (convert 94 5 (.int .u32 Z)).run Tryz.prog w = .ok (.int .u8 (IntKind.u8.wrap Z)) w := by
  have h := run_convert_int (P := Tryz.prog) (w := w) 94 5 .u32 Z (by kernel_rfl) (by kernel_rfl)
  rw [show Tryz.prog.intKind 5 = .u8 by kernel_rfl] at h
  exact h
theorem kconv_u32 (n : Nat) (hn : n < 4294967296) (w : World) : (convert 3 94 (.int .i64 (n : Int))).run Tryz.prog w = .ok (.int .u32 (n : Int)) w := by
  have h := run_convert_int (P := Tryz.prog) (w := w) 3 94 .i64 (n : Int) (by kernel_rfl) (by kernel_rfl)
  rw [show Tryz.prog.intKind 94 = .u32 by kernel_rfl] at h
  rw [h, show IntKind.u32.wrap (n : Int) = (n : Int) by simp [IntKind.wrap, IntKind.bits, IntKind.signed]; omega]
def B4 (x : Nat) : ByteArray := ⟨(Fr.nb x 4).toArray⟩
theorem B4_list (x : Nat) : (B4 x).data.toList = Fr.nb x 4 := rfl
theorem B4_size (x : Nat) : (B4 x).size = 4 := by rw [← str_len, B4_list, Fr.nb_length]
theorem Bytes.made (w : World) (l : List UInt8) (hl : l.length ≤ maxLen) : Bytes (w.alloc (.cells (l.map byteV).toArray 5)) 0 (.slice (some ⟨w.heap.size, 0, none⟩) l.length l.length) l := by
  unfold Bytes
  refine ⟨by simp, .inr ⟨w.heap.size, _, _, rfl, Nat.zero_le _, heap_alloc_new w _, Nat.le_refl _, hl, by simp, by simp only [Nat.mul_one]; exact List.take_of_length_le (by simp)⟩⟩
theorem conv_made (w : World) (l : List UInt8) (hl : l.length ≤ maxLen) : (convert 70 9 (.slice (some ⟨w.heap.size, 0, none⟩) l.length l.length)).run Tryz.prog (w.alloc (.cells (l.map byteV).toArray 5)) = .ok (.string ⟨l.toArray⟩) (w.alloc (.cells (l.map byteV).toArray 5)) := by
  have h := Bytes.made w l hl
  rw [run_conv_piece _ h (Piece.whole h) (by omega)]
  simp
theorem nb4 (x : Nat) : Fr.nb x 4 = [Fr.digit x 4 0, Fr.digit x 4 1, Fr.digit x 4 2, Fr.digit x 4 3] := rfl
set_option maxRecDepth 5000 in
set_option maxHeartbeats 1000000 in
theorem four_any (x : Nat) (X : Int) (hX : X = (x : Int)) (w : World) : Calls Tryz.prog 65 #[.int .u32 X] w fun e w' => e = .returned (.string (B4 x)) ∧ Below w.heap.size w w' := by
  obtain ⟨Z0, h0⟩ : ∃ Z : Int, X / (2 : Int) ^ 24 = Z := ⟨_, rfl⟩
  obtain ⟨Z1, h1⟩ : ∃ Z : Int, X / (2 : Int) ^ 16 = Z := ⟨_, rfl⟩
  obtain ⟨Z2, h2⟩ : ∃ Z : Int, X / (2 : Int) ^ 8 = Z := ⟨_, rfl⟩
  obtain ⟨D0, d0⟩ : ∃ d, Fr.digit x 4 0 = d := ⟨_, rfl⟩
  obtain ⟨D1, d1⟩ : ∃ d, Fr.digit x 4 1 = d := ⟨_, rfl⟩
  obtain ⟨D2, d2⟩ : ∃ d, Fr.digit x 4 2 = d := ⟨_, rfl⟩
  obtain ⟨D3, d3⟩ : ∃ d, Fr.digit x 4 3 = d := ⟨_, rfl⟩
  have c0 : ∀ w : World, (convert 94 5 (.int .u32 Z0)).run Tryz.prog w = .ok (.int .u8 (D0.toNat : Int)) w := fun w => by rw [kconv_u8, ← h0, hX, k8_digit x 0 24 rfl, d0]
  have c1 : ∀ w : World, (convert 94 5 (.int .u32 Z1)).run Tryz.prog w = .ok (.int .u8 (D1.toNat : Int)) w := fun w => by rw [kconv_u8, ← h1, hX, k8_digit x 1 16 rfl, d1]
  have c2 : ∀ w : World, (convert 94 5 (.int .u32 Z2)).run Tryz.prog w = .ok (.int .u8 (D2.toNat : Int)) w := fun w => by rw [kconv_u8, ← h2, hX, k8_digit x 2 8 rfl, d2]
  have c3 : ∀ w : World, (convert 94 5 (.int .u32 X)).run Tryz.prog w = .ok (.int .u8 (D3.toNat : Int)) w := fun w => by
    have := k8_digit x 3 0 rfl
    rw [Int.pow_zero, Int.ediv_one] at this
    rw [kconv_u8, hX, this, d3]
  have hcv := conv_made w [D0, D1, D2, D3] (by show 4 ≤ maxLen; unfold maxLen; omega)
  have hcv' : (convert 70 9 (.slice (some ⟨w.heap.size, 0, none⟩) 4 4)).run Tryz.prog (w.alloc (.cells #[.int .u8 (D0.toNat : Int), .int .u8 (D1.toNat : Int), .int .u8 (D2.toNat : Int), .int .u8 (D3.toNat : Int)] 5)) = .ok (.string ⟨#[D0, D1, D2, D3]⟩) (w.alloc (.cells #[.int .u8 (D0.toNat : Int), .int .u8 (D1.toNat : Int), .int .u8 (D2.toNat : Int), .int .u8 (D3.toNat : Int)] 5)) := hcv
  have HB : Hid (B4 x = ⟨#[D0, D1, D2, D3]⟩) := by
    show _ = _
    unfold B4
    rw [nb4, d0, d1, d2, d3]
  have H0 := hide h0
  have H1 := hide h1
  have H2 := hide h2
  have C0 := hide c0
  have C1 := hide c1
  have C2 := hide c2
  have C3 := hide c3
  clear h0 h1 h2 c0 c1 c2 c3 d0 d1 d2 d3 hX hcv
  go_enter Tryz.func65, Tryz.ntmps65
  go_wp2_with (first | (refine Fr.wpList_shr rfl _ _ _ _ rfl .u32 .u64 X _ Z0 (by rfl) (by rfl) 24 rfl (by decide) H0.out ?_) | (refine Fr.wpList_shr rfl _ _ _ _ rfl .u32 .u64 X _ Z1 (by rfl) (by rfl) 16 rfl (by decide) H1.out ?_) | (refine Fr.wpList_shr rfl _ _ _ _ rfl .u32 .u64 X _ Z2 (by rfl) (by rfl) 8 rfl (by decide) H2.out ?_) | (refine Fr.wpList_conv rfl _ _ _ rfl .u32 .u8 Z0 _ (by rfl) (C0.out _) ?_) | (refine Fr.wpList_conv rfl _ _ _ rfl .u32 .u8 Z1 _ (by rfl) (C1.out _) ?_) | (refine Fr.wpList_conv rfl _ _ _ rfl .u32 .u8 Z2 _ (by rfl) (C2.out _) ?_) | (refine Fr.wpList_conv rfl _ _ _ rfl .u32 .u8 X _ (by rfl) (C3.out _) ?_))
  go_ret
  exact ⟨by rw [HB.out]; rfl, (Below.refl _ _).alloc (Nat.le_refl _) _⟩
theorem sumOf_any (n : Fr.C.Num) (l p : ByteArray) (hl : l.size ≤ maxLen) (hp : p.size ≤ maxLen) (w : World) : Calls Tryz.prog 66 #[.string l, .string p] w fun e w' => e = .returned (.int .u32 (n.u (Fr.C.on 0#32 (l.data.toList ++ p.data.toList)))) ∧ Below w.heap.size w w' := by
  have HX := hide (Fr.C.on_append 0#32 l.data.toList p.data.toList)
  have HL := hide hl
  have HP := hide hp
  clear hl hp
  go_enter Tryz.func66, Tryz.ntmps66
  go_wp2_with fail
  refine (Fr.sum_any n l _ HL.out).mono ?_
  rintro e w1 ⟨rfl, hb1⟩
  go_wp2_with fail
  refine (Fr.on_any n _ p _ HP.out).mono ?_
  rintro e w2 ⟨rfl, hb2⟩
  go_wp2
  go_ret
  exact ⟨by rw [HX.out]; rfl, hb1.trans (hb2.mono hb1.size)⟩
theorem run_slice_str_to (w : World) (s : ByteArray) (i : Nat) (hi : i ≤ s.size) : (Instr.slice 9 (.string s) none (some (.int .i64 (i : Int))) none).run Tryz.prog w = .ok (.string (s.extract 0 i)) w := by
  simp [Instr.slice, run_underlying Tryz.underlying9, go_sem, hi]
theorem run_slice_str_mid (w : World) (s : ByteArray) (i j : Nat) (hj : j ≤ s.size) (hij : i ≤ j) : (Instr.slice 9 (.string s) (some (.int .i64 (i : Int))) (some (.int .i64 (j : Int))) none).run Tryz.prog w = .ok (.string (s.extract i j)) w := by
  simp [Instr.slice, run_underlying Tryz.underlying9, go_sem, hj, hij]
end Go.Proofs.YtobfijpfdibccaaGreat
