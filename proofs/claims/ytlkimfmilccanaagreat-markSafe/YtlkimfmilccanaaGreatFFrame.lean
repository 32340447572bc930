import Derived.Test.YtlkimfmilccanaaGreatProg
import Derived.Test.YtlkimfmilccanaaGreatCrcBits
import Derived.Shelf.Strings.Repeat
import Derived.Shelf.SlGeneric
import Derived.Test.YtlkimfmilccanaaGreatFMath
import Derived.Test.YtlkimfmilccanaaGreatCurReader2
/-
  The walks of the leaves: step, Step; halfBytes, byteSteps.
-/
namespace Go.Proofs.YtlkimfmilccanaaGreat.Fr
open Go.RowKit C
attribute [local go_sem] Num.odd
set_option maxHeartbeats 400000 in
theorem step_any (n : Num) (x : BitVec 32) (w : World) :
    Calls Tryz.prog 151 #[.int .u32 (n.u x)] w fun e w' => e = .returned (.int .u32 (n.u (st x))) ∧ w' = w := by
  have h0 := n.nonneg x
  have h1 := n.lt x
  go_enter Tryz.func151, Tryz.ntmps151
  go_wp2
  all_goals go_ret
  · exact ⟨ret_int (st_true' n x ‹_›), rfl⟩
  · exact ⟨ret_int (st_false' n x ‹_›), rfl⟩
set_option maxHeartbeats 400000 in
theorem refStep_any (n : Num) (x : BitVec 32) (w : World) :
    Calls Tryz.prog 165 #[.int .u32 (n.u x)] w fun e w' => e = .returned (.int .u32 (n.u (st x))) ∧ w' = w := by
  have h0 := n.nonneg x
  have h1 := n.lt x
  go_enter Tryz.func165, Tryz.ntmps165
  go_wp2
  all_goals go_ret
  · exact ⟨ret_int (st_true' n x ‹_›), rfl⟩
  · exact ⟨ret_int (st_false' n x ‹_›), rfl⟩
theorem infoHalf (n : Num) (f : Nat → BitVec 32) : (Tryz.prog.info? 189).map (·.size) = some (tab n f 16).size := by rw [tab_size]; kernel_rfl
set_option maxHeartbeats 400000 in
theorem half_any (n : Num) (w : World) :
    Calls Tryz.prog 132 #[] w fun e w' => e = .returned (.agg (tab n (fun i => stN 4 (BitVec.ofNat 32 i)) 16)) ∧ Below w.heap.size w w' := by
  go_enter Tryz.func132, Tryz.ntmps132
  go_wp2
  go_loopw [4] (fun i wr => ∃ k : Nat, k ≤ 16 ∧ i = .int .i64 k ∧ Has n wr (w.heap.size + 1) 189 (upto (fun i => stN 4 (BitVec.ofNat 32 i)) k) 16 ∧ Has n wr w.heap.size 189 (upto (fun _ => 0#32) 0) 16 ∧ Below w.heap.size w wr) (fun i _ => 16 - (intOf i).toNat)
  case atStart =>
    refine ⟨0, by omega, rfl, ?_, ?_, ((Below.refl _ _).alloc (Nat.le_refl _) _).alloc (by simp) _⟩
    · have := Has.new n (w.alloc (.cells #[.int .u32 0, .int .u32 0, .int .u32 0, .int .u32 0, .int .u32 0, .int .u32 0, .int .u32 0, .int .u32 0, .int .u32 0, .int .u32 0, .int .u32 0, .int .u32 0, .int .u32 0, .int .u32 0, .int .u32 0, .int .u32 0] 189)) 189 _ 16 _ (zeros16 n (fun i => stN 4 (BitVec.ofNat 32 i)))
      simpa using this
    · exact (Has.new n w 189 _ 16 _ (zeros16 n _)).old _ (by simp)
  case round =>
    obtain ⟨k, hk, rfl, ht, hz, hb⟩ := hrel
    by_cases hlt : k < 16
    · have hc := ht.cell k hlt
      have hf := ht.frozen k
      have hd : decide ((k : Int) < 16) = true := by simp; omega
      go_wp2
      go_loop [3, 9] (fun x j => ∃ q : Nat, q ≤ 4 ∧ j = .int .i64 q ∧ x = .int .u32 (n.u (stN q (BitVec.ofNat 32 k)))) (fun _ j => 4 - (intOf j).toNat)
      case atStart => exact ⟨0, by omega, rfl, int_eq (n.ofNat k (by omega))⟩
      case round =>
        obtain ⟨q, hq, rfl, rfl⟩ := hrel
        by_cases hl : q < 4
        · go_wp2_with (go_at_call 151; refine (step_any n _ _).mono ?_; rintro e w' ⟨rfl, rfl⟩)
          go_round
          case rel => exact ⟨q + 1, by omega, by go_num, int_eq (by rw [stN_succ])⟩
          case measure => simp [intOf]; omega
        · have hq4 : q = 4 := by omega
          subst hq4
          go_wp2
          go_roundw
          case rel =>
            refine ⟨k + 1, by omega, by go_num, ?_, hz.other _ _ (by simp), hb.setCell (by simp) _⟩
            have := ht.set k (stN 4 (BitVec.ofNat 32 k))
            rw [upd_upto (fun i => stN 4 (BitVec.ofNat 32 i)) k] at this
            exact this
          case measure => simp [intOf]; omega
    · have hk16 : k = 16 := by omega
      subst hk16
      go_wp2_with (first | refine wpList_load_row rfl 189 _ rfl (w.heap.size + 1) rfl 189 _ (0, 0) _ ht Tryz.underlying189 rfl (infoHalf n _) ?_ | refine wpList_store_row rfl 189 _ _ rfl w.heap.size _ rfl rfl 189 _ hz (infoHalf n _) (by rw [tab_size, tab_size]) (tab_one n _ _) ?_)
      exact bodyPost_ret (results_cell_row rfl _ _ w.heap.size 189 _ (0, 0) _ rfl (hz.row _) Tryz.underlying189 rfl (infoHalf n _)) rfl ⟨by rw [tab_full], below_setRow hb (Nat.le_refl _) _⟩
end Go.Proofs.YtlkimfmilccanaaGreat.Fr
namespace Go.Proofs.YtlkimfmilccanaaGreat.Fr
open Go.RowKit C
theorem take_snoc (s : ByteArray) (k : Nat) (h : k < s.size) : s.data.toList.take (k + 1) = s.data.toList.take k ++ [s[k]] := by
  rw [List.take_succ_eq_append_getElem (by simpa using h)]; rfl
attribute [local go_sem] Num.xor Num.xor_byte Num.and15 Num.half4
set_option maxHeartbeats 400000 in
theorem turn_any (n : Num) (x : BitVec 32) (s : ByteArray) (w : World) (hs : s.size ≤ maxLen) :
    Calls Tryz.prog 101 #[.int .u32 (n.u x), .string s] w fun e w' => e = .returned (.int .u32 (n.u (tn x s.data.toList))) ∧ Below w.heap.size w w' := by
  unfold maxLen at hs
  go_enter Tryz.func101, Tryz.ntmps101
  go_wp2_with fail
  refine (half_any n _).mono ?_
  rintro e w1 ⟨rfl, hb1⟩
  have hm0 := Has.new n w1 189 _ 16 _ (zeros16 n (fun _ => 0#32))
  have hm1 := hm0.row (fun i => stN 4 (BitVec.ofNat 32 i))
  have hs1 : w.heap.size ≤ w1.heap.size := hb1.size
  go_wp2_with (refine wpList_store_row rfl 189 _ _ rfl w1.heap.size (tab n (fun i => stN 4 (BitVec.ofNat 32 i)) 16) rfl rfl 189 (tab n (upto (fun _ => 0#32) 0) 16) hm0 (infoHalf n _) ((tab_size n _ _).trans (tab_size n _ _).symm) (tab_one n _ _) ?_)
  have hb2 := below_setRow (hb1.alloc hs1 (.cells #[.int .u32 0, .int .u32 0, .int .u32 0, .int .u32 0, .int .u32 0, .int .u32 0, .int .u32 0, .int .u32 0, .int .u32 0, .int .u32 0, .int .u32 0, .int .u32 0, .int .u32 0, .int .u32 0, .int .u32 0, .int .u32 0] 189)) hs1 (tab n (fun i => stN 4 (BitVec.ofNat 32 i)) 16)
  generalize (w1.alloc (.cells #[.int .u32 0, .int .u32 0, .int .u32 0, .int .u32 0, .int .u32 0, .int .u32 0, .int .u32 0, .int .u32 0, .int .u32 0, .int .u32 0, .int .u32 0, .int .u32 0, .int .u32 0, .int .u32 0, .int .u32 0, .int .u32 0] 189)).setRow w1.heap.size (tab n (fun i => stN 4 (BitVec.ofNat 32 i)) 16) = w2 at hm1 hb2 ⊢
  clear hm0
  have hc : ∀ y : BitVec 32, w2.cell? ⟨w1.heap.size, (n.u (y &&& 15#32)).toNat, none⟩ = some (.int .u32 (n.u (stN 4 (y &&& 15#32)))) := by
    intro y
    have h1 := n.low15 y
    have h0 := n.nonneg (y &&& 15#32)
    have := hm1.cell (n.u (y &&& 15#32)).toNat (by omega)
    rw [n.idx] at this
    exact this
  have hl := n.low15
  have hn := n.nonneg
  go_loop [0, 10] (fun y i => ∃ k : Nat, k ≤ s.size ∧ i = .int .i64 k ∧ y = .int .u32 (n.u (tn x (s.data.toList.take k)))) (fun _ i => s.size - (intOf i).toNat)
  case atStart => exact ⟨0, Nat.zero_le _, rfl, rfl⟩
  case round =>
    obtain ⟨k, hk, rfl, rfl⟩ := hrel
    by_cases hlt : k < s.size
    · have HT := hide (take_snoc s k hlt)
      go_wp2
      go_round
      case rel =>
        refine ⟨k + 1, by omega, by go_num, int_eq ?_⟩
        rw [HT.out, tn_append, half_byte, half_byte, two_halves]; rfl
      case measure => simp [intOf]; omega
    · go_wp2
      go_ret
      exact ⟨ret_int (by rw [List.take_of_length_le (by simp; omega)]), hb2⟩
end Go.Proofs.YtlkimfmilccanaaGreat.Fr
/-
  On, Sum; the document's Sum and On.
-/
namespace Go.Proofs.YtlkimfmilccanaaGreat.Fr
open Go.RowKit C
attribute [local go_sem] Num.not Num.xor Num.xor_byte
set_option maxHeartbeats 400000 in
theorem on_any (n : Num) (x : BitVec 32) (s : ByteArray) (w : World) (hs : s.size ≤ maxLen) :
    Calls Tryz.prog 69 #[.int .u32 (n.u x), .string s] w fun e w' => e = .returned (.int .u32 (n.u (on x s.data.toList))) ∧ Below w.heap.size w w' := by
  go_enter Tryz.func69, Tryz.ntmps69
  go_wp2_with fail
  refine (turn_any n _ s _ hs).mono ?_
  rintro e w1 ⟨rfl, hb1⟩
  go_wp2
  go_ret
  exact ⟨rfl, hb1⟩
set_option maxHeartbeats 400000 in
theorem sum_any (n : Num) (s : ByteArray) (w : World) (hs : s.size ≤ maxLen) :
    Calls Tryz.prog 36 #[.string s] w fun e w' => e = .returned (.int .u32 (n.u (on 0#32 s.data.toList))) ∧ Below w.heap.size w w' := by
  have h := on_any n 0#32 s w hs
  rw [n.zero] at h
  have H := hide h
  clear h
  go_enter Tryz.func36, Tryz.ntmps36
  go_wp2_with fail
  refine H.out.mono ?_
  rintro e w1 ⟨rfl, hb1⟩
  go_wp2
  go_ret
  exact ⟨rfl, hb1⟩
set_option maxHeartbeats 400000 in
theorem refOn_any (n : Num) (x : BitVec 32) (s : ByteArray) (w : World) (hs : s.size ≤ maxLen) :
    Calls Tryz.prog 143 #[.int .u32 (n.u x), .string s] w fun e w' => e = .returned (.int .u32 (n.u (on x s.data.toList))) ∧ w' = w := by
  unfold maxLen at hs
  go_enter Tryz.func143, Tryz.ntmps143
  go_wp2
  go_loop [5, 6] (fun y i => ∃ k : Nat, k ≤ s.size ∧ i = .int .i64 k ∧ y = .int .u32 (n.u (tn (~~~x) (s.data.toList.take k)))) (fun _ i => s.size - (intOf i).toNat)
  case atStart => exact ⟨0, Nat.zero_le _, rfl, rfl⟩
  case round =>
    obtain ⟨k, hk, rfl, rfl⟩ := hrel
    by_cases hlt : k < s.size
    · have HT := hide (take_snoc s k hlt)
      have hd : decide ((k : Int) < (s.size : Int)) = true := by simp; omega
      go_wp2
      go_loop [5, 7] (fun y j => ∃ q : Nat, q ≤ 8 ∧ j = .int .i64 q ∧ y = .int .u32 (n.u (stN q (tn (~~~x) (s.data.toList.take k) ^^^ B s[k])))) (fun _ j => 8 - (intOf j).toNat)
      case atStart => exact ⟨0, by omega, rfl, rfl⟩
      case round =>
        obtain ⟨q, hq, rfl, rfl⟩ := hrel
        by_cases hl : q < 8
        · go_wp2_with (go_at_call 165; refine (refStep_any n _ _).mono ?_; rintro e w' ⟨rfl, rfl⟩)
          go_round
          case rel => exact ⟨q + 1, by omega, by go_num, int_eq (by rw [stN_succ])⟩
          case measure => simp [intOf]; omega
        · have hq8 : q = 8 := by omega
          subst hq8
          go_wp2
          go_round
          case rel =>
            refine ⟨k + 1, by omega, by go_num, int_eq ?_⟩
            rw [HT.out, tn_append]; rfl
          case measure => simp [intOf]; omega
    · go_wp2
      go_ret
      exact ⟨ret_int (by rw [List.take_of_length_le (by simp; omega)]; rfl), rfl⟩
set_option maxHeartbeats 400000 in
theorem refSum_any (n : Num) (s : ByteArray) (w : World) (hs : s.size ≤ maxLen) :
    Calls Tryz.prog 117 #[.string s] w fun e w' => e = .returned (.int .u32 (n.u (on 0#32 s.data.toList))) ∧ w' = w := by
  have h := refOn_any n 0#32 s w hs
  rw [n.zero] at h
  have H := hide h
  clear h
  go_enter Tryz.func117, Tryz.ntmps117
  go_wp2_with fail
  refine H.out.mono ?_
  rintro e w1 ⟨rfl, rfl⟩
  go_wp2
  go_ret
  exact ⟨rfl, rfl⟩
end Go.Proofs.YtlkimfmilccanaaGreat.Fr
/-
  DERIVED: THE SHELF's CONTRACTS AT THIS DUMP, IN PLAIN WORDS (tools/lay-plain.mjs out of 'YtlkimfmilccanaaGreatShelfF0.lean', which tools/lay-shelf.mjs wrote): THE SAME DECLARATIONS UNDER THE SAME NAMES: 'import', 'namespace', 'open', 'def', 'theorem' AND NOTHING ELSE: no command of the shelf's: FOR A HAND-IN. Each laying: the table of numbers ('.._ren') and one theorem, a field a fact of the dump's own or the kernel's comparison; each contract: ONE APPLICATION.
-/
namespace Go.Proofs
open Go.Shelf
def Tryz.laysRepeat_ren : Go.Shelf.Ren := ⟨fun | 105 => 75 | 212 => 104 | 99 => 105 | 165 => 106 | 166 => 107 | 170 => 108 | 169 => 109 | 263 => 135 | 264 => 136 | 206 => 137 | 240 => 138 | 241 => 139 | 276 => 154 | 277 => 155 | n => n, fun | 9 => 9 | 3 => 3 | 4 => 4 | 20 => 20 | 0 => 0 | 46 => 87 | 109 => 160 | 5 => 5 | 72 => 165 | 76 => 168 | 51 => 88 | 146 => 193 | 53 => 158 | 148 => 195 | 70 => 163 | 37 => 42 | 75 => 167 | 127 => 173 | 164 => 210 | 80 => 170 | n => n, fun | n => n⟩
theorem Tryz.laysRepeat : Go.Proofs.Lays.n105 Tryz.prog Tryz.laysRepeat_ren := {
  mixed := by kernel_rfl
  f99 := Tryz.func105.trans (congrArg some (by kernel_rfl))
  f105 := Tryz.func75.trans (congrArg some (by kernel_rfl))
  f165 := Tryz.func106.trans (congrArg some (by kernel_rfl))
  f166 := Tryz.func107.trans (congrArg some (by kernel_rfl))
  f169 := Tryz.func109.trans (congrArg some (by kernel_rfl))
  f170 := Tryz.func108.trans (congrArg some (by kernel_rfl))
  f206 := Tryz.func137.trans (congrArg some (by kernel_rfl))
  f212 := Tryz.func104.trans (congrArg some (by kernel_rfl))
  f240 := Tryz.func138.trans (congrArg some (by kernel_rfl))
  f241 := Tryz.func139.trans (congrArg some (by kernel_rfl))
  f263 := Tryz.func135.trans (congrArg some (by kernel_rfl))
  f264 := Tryz.func136.trans (congrArg some (by kernel_rfl))
  f276 := Tryz.func154.trans (congrArg some (by kernel_rfl))
  f277 := Tryz.func155.trans (congrArg some (by kernel_rfl))
  t0 := Tryz.underlying0
  a0 := Tryz.isAgg0
  z0 := Tryz.sizeOf0
  v0 := Tryz.zeroValue0
  t3 := Tryz.underlying3
  a3 := Tryz.isAgg3
  z3 := Tryz.sizeOf3
  v3 := Tryz.zeroValue3
  t4 := Tryz.underlying4
  a4 := Tryz.isAgg4
  z4 := Tryz.sizeOf4
  v4 := Tryz.zeroValue4
  t5 := Tryz.underlying5
  a5 := Tryz.isAgg5
  z5 := Tryz.sizeOf5
  v5 := Tryz.zeroValue5
  t9 := Tryz.underlying9
  a9 := Tryz.isAgg9
  z9 := Tryz.sizeOf9
  v9 := Tryz.zeroValue9
  t20 := Tryz.underlying20
  a20 := Tryz.isAgg20
  z20 := Tryz.sizeOf20
  v20 := Tryz.zeroValue20
  t37 := Tryz.underlying42
  a37 := Tryz.isAgg42
  z37 := Tryz.sizeOf42
  v37 := Tryz.zeroValue42
  t46 := Tryz.underlying87
  a46 := Tryz.isAgg87
  z46 := Tryz.sizeOf87
  v46 := Tryz.zeroValue87
  t51 := Tryz.underlying88
  a51 := Tryz.isAgg88
  z51 := Tryz.sizeOf88
  v51 := Tryz.zeroValue88
  t53 := Tryz.underlying158
  a53 := Tryz.isAgg158
  z53 := Tryz.sizeOf158
  v53 := Tryz.zeroValue158
  t70 := Tryz.underlying163
  a70 := Tryz.isAgg163
  z70 := Tryz.sizeOf163
  v70 := Tryz.zeroValue163
  t72 := Tryz.underlying165
  a72 := Tryz.isAgg165
  z72 := Tryz.sizeOf165
  v72 := Tryz.zeroValue165
  t75 := Tryz.underlying167
  a75 := Tryz.isAgg167
  z75 := Tryz.sizeOf167
  v75 := Tryz.zeroValue167
  t76 := Tryz.underlying168
  a76 := Tryz.isAgg168
  z76 := Tryz.sizeOf168
  v76 := Tryz.zeroValue168
  t109 := Tryz.underlying160
  a109 := Tryz.isAgg160
  z109 := Tryz.sizeOf160
  v109 := Tryz.zeroValue160
  t127 := Tryz.underlying173
  a127 := Tryz.isAgg173
  z127 := Tryz.sizeOf173
  v127 := Tryz.zeroValue173
  t146 := Tryz.underlying193
  a146 := Tryz.isAgg193
  z146 := Tryz.sizeOf193
  v146 := Tryz.zeroValue193
  t148 := Tryz.underlying195
  a148 := Tryz.isAgg195
  z148 := Tryz.sizeOf195
  v148 := Tryz.zeroValue195
  t164 := Tryz.underlying210
  a164 := Tryz.isAgg210
  z164 := Tryz.sizeOf210
  v164 := Tryz.zeroValue210 }
theorem Tryz.Builder_Extra_105 : Builder.Extra Tryz.prog Tryz.laysRepeat_ren := {
  sizeBuilder := by kernel_rfl
  liesBuilder := by kernel_rfl
  t5 := Tryz.underlying5
  a5 := Tryz.isAgg5
  z5 := Tryz.sizeOf5
  v5 := Tryz.zeroValue5
  infoByte := by kernel_rfl
  cellsByte := by kernel_rfl
  sizeByte := by kernel_rfl
  neB5 := by decide }
end Go.Proofs
/-
  The program's fill.
-/
namespace Go.Proofs.YtlkimfmilccanaaGreat.Fr
open Go.RowKit C
theorem repeat_any (k : Nat) (w : World) (hk : k ≤ 64) (K : Int) (hK : K = (k : Int)) : Calls Tryz.prog 75 #[.string { data := #[0] }, .int .i64 K] w fun e w' => e = .returned (.string ⟨(List.replicate k 0).toArray⟩) ∧ Below w.heap.size w w' := by
  have h := Any.strings_Repeat Tryz.laysRepeat Tryz.Builder_Extra_105 { data := #[0] } k w (by omega) (by show 1 * k ≤ _; omega)
  have e : Lib.repeatL (ByteArray.mk #[0]).data.toList k = List.replicate k 0 := by
    have := Lib.repeatL_replicate 0 1 k
    rw [Nat.mul_one] at this
    exact this
  rw [e] at h
  rw [hK]
  exact h
-- left out in this seat: fill_any
end Go.Proofs.YtlkimfmilccanaaGreat.Fr
/-
  The program's Frame.
-/
namespace Go.Proofs.YtlkimfmilccanaaGreat.Fr
open Go.RowKit C
def num32 : Num := ⟨fun b => (b.toNat : Int), fun _ => rfl⟩
theorem crcSum_any (s : ByteArray) (w : World) (hs : s.size ≤ maxLen) (Z : Int) (hZ : Z = ((on 0#32 s.data.toList).toNat : Int)) : Calls Tryz.prog 36 #[.string s] w fun e w' => e = .returned (.int .u32 Z) ∧ Below w.heap.size w w' := by
  rw [hZ]; exact sum_any num32 s w hs
theorem crcOn_any (x : BitVec 32) (s : ByteArray) (w : World) (hs : s.size ≤ maxLen) (X Z : Int) (hX : X = (x.toNat : Int)) (hZ : Z = ((on x s.data.toList).toNat : Int)) : Calls Tryz.prog 69 #[.int .u32 X, .string s] w fun e w' => e = .returned (.int .u32 Z) ∧ Below w.heap.size w w' := by
  rw [hZ, hX]; exact on_any num32 x s w hs
def frameE (X : Int) (p : ByteArray) : Int := if X < 0 then 1 else if 65536 < p.size then 3 else 0
def frameS (X : Int) (p : ByteArray) : ByteArray := if X < 0 then nil8 else if 65536 < p.size then nil8 else ⟨(frameL X.toNat p.data.toList).toArray⟩
-- left out in this seat: wLen_k
theorem wOut_l (p : Nat) (v : Value) (l : List UInt8) (w : World) (h : CW w p v (some l)) (S : ByteArray) (hS : S = ⟨l.toArray⟩) :
    Calls Tryz.prog 72 #[.pointer (some ⟨p, 0, none⟩)] w fun e w' => e = .returned (.tuple #[.string S, .int .i64 0]) ∧ Below w.heap.size w w' := by
  rw [hS]; exact wOut p v (some l) w h
-- left out in this seat: fill_k
theorem Mw.sz {p : Nat} {w w' : World} {v v' : Value} (h : Mw p w v w' v') : w.heap.size ≤ w'.heap.size := h.size
-- left out in this seat: frame_ok
-- left out in this seat: frame_any
end Go.Proofs.YtlkimfmilccanaaGreat.Fr
