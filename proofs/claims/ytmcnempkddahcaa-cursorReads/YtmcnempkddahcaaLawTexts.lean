/-
  The walk of CursorTexts.
-/
import Derived.Test.YtmcnempkddahcaaHead
import Derived.Test.YtmcnempkddahcaaReadMath
namespace Go.Proofs.Ytmcnempkddahcaa
open Go.RowKit
theorem text_front (t : List UInt8) (most : Int) (want : Int) (hn : t.length ≤ 65535) (hw : want = if most < (t.length : Int) then 3 else 2) :
    textA most (ofL ((nb t.length 2 ++ t).take (t.length + 1)), 0) = nil8 ∧ textS most (ofL ((nb t.length 2 ++ t).take (t.length + 1)), 0) = (nil8, if t.length = 0 then 2 else want) := by
  by_cases h0 : t.length = 0
  · have ht : t = [] := List.length_eq_zero_iff.1 h0
    subst ht
    rw [if_pos h0]
    exact text_less _ _ (by simp [nb_length])
  · rw [if_neg h0]
    have e : (nb t.length 2 ++ t).take (t.length + 1) = nb t.length 2 ++ t.take (t.length - 1) := by
      rw [List.take_append, nb_length, List.take_of_length_le (by rw [nb_length]; omega)]
      congr 1
    rw [e, hw]
    by_cases hm : most < (t.length : Int)
    · rw [if_pos hm]
      exact text_long _ _ _ hn hm
    · rw [if_neg hm]
      exact text_cut _ _ _ hn (by omega) (by rw [List.length_take]; omega)
section
variable {ops : Array Oper} {rest : List Oper} {o : Oper} {a : Act} {w : World} {Q : Exit → Act → World → Prop}
theorem wpList_slice_to (hgd : o.guard = none) (x j : Operand) (ho : o.op = .slice 9 x none (some j) none) (b : ByteArray) (hx : a.eval x = .string b) (k : IntKind) (J : Int) (hj : a.eval j = .int k J) (m : Nat) (hJ : J = (m : Int)) (hm : m ≤ b.size) (r : ByteArray) (hr : b.extract 0 m = r)
    (h : wpList Try.prog ops Q rest (a.put o.dst (.string r)) w) : wpList Try.prog ops Q (o :: rest) a w := by
  subst hJ
  have e := run_slice_string_h (P := Try.prog) w 9 b Try.underlying9 k (m : Int) (by omega) (by omega)
  rw [Int.toNat_natCast, hr] at e
  refine wpList_plain hgd fun K hK => ?_
  unfold Oper.wp execOp
  simp only [ho, hx, hj, Option.map_some, Option.map_none, run_sliceAt_string _ 9 _ _ _ _ Try.underlying9, e, Sem.run_bind, Sem.run_pure, Result.andThen_ok]
  exact hK _ _ h
theorem wpList_slice_from (hgd : o.guard = none) (x j : Operand) (ho : o.op = .slice 9 x (some j) none none) (b : ByteArray) (hx : a.eval x = .string b) (k : IntKind) (J : Int) (hj : a.eval j = .int k J) (m : Nat) (hJ : J = (m : Int)) (hm : m ≤ b.size) (r : ByteArray) (hr : b.extract m b.size = r)
    (h : wpList Try.prog ops Q rest (a.put o.dst (.string r)) w) : wpList Try.prog ops Q (o :: rest) a w := by
  subst hJ
  have e := run_slice_string_l (P := Try.prog) w 9 b Try.underlying9 k (m : Int) (by omega) (by omega)
  rw [Int.toNat_natCast, hr] at e
  refine wpList_plain hgd fun K hK => ?_
  unfold Oper.wp execOp
  simp only [ho, hx, hj, Option.map_some, Option.map_none, run_sliceAt_string _ 9 _ _ _ _ Try.underlying9, e, Sem.run_bind, Sem.run_pure, Result.andThen_ok]
  exact hK _ _ h
end
set_option maxRecDepth 5000 in
set_option maxHeartbeats 2000000 in
theorem cuts_any (t : List UInt8) (most want : Int) (b : ByteArray) (w : World) (hb : b = ofL (nb t.length 2 ++ t)) (hn : t.length ≤ 65535) (hw : want = if most < (t.length : Int) then 3 else 2) :
    Calls Try.prog 19 #[.string b, .int .i64 most, .int .i64 want] w fun e w' => e = .returned (.bool true) ∧ Below w.heap.size w w' := by
  have hsz : b.size = t.length + 2 := by rw [hb, ofL_size, List.length_append, nb_length]; omega
  obtain ⟨x1, hx1⟩ : ∃ x1, ofL ((nb t.length 2 ++ t).take (t.length + 1)) = x1 := ⟨_, rfl⟩
  obtain ⟨x2, hx2⟩ : ∃ x2, ofL ((nb t.length 2 ++ t).take 1) = x2 := ⟨_, rfl⟩
  have s1 : b.extract 0 (t.length + 1) = x1 := by rw [hb, ofL_extract, List.drop_zero, hx1]
  have s2 : b.extract 0 1 = x2 := by rw [hb, ofL_extract, List.drop_zero, hx2]
  have z1 : x1.size ≤ 281474976710656 := by rw [← hx1, ofL_size, List.length_take]; omega
  have z2 : x2.size ≤ 281474976710656 := by rw [← hx2, ofL_size, List.length_take]; omega
  obtain ⟨a1, a2⟩ := text_front t most want hn hw
  rw [hx1] at a1 a2
  obtain ⟨a3, a4⟩ := text_less ((nb t.length 2 ++ t).take 1) most (by rw [List.length_take]; omega)
  rw [hx2] at a3 a4
  have S1 := hide s1
  have S2 := hide s2
  have Z1 := hide z1
  have Z2 := hide z2
  have A1 := hide a1
  have A2 := hide a2
  have A3 := hide a3
  have A4 := hide a4
  have HZ := hide hsz
  have hm1 : t.length + 1 ≤ b.size := by omega
  have hm2 : 1 ≤ b.size := by omega
  have hm3 : b.size ≤ 65537 := by omega
  obtain ⟨B, hB⟩ : ∃ B : Int, (b.size : Int) = B := ⟨_, rfl⟩
  have hB2 : B = (t.length : Int) + 2 := by omega
  have HB := hide hB
  clear s1 s2 z1 z2 a1 a2 a3 a4 hx1 hx2 hsz hw hb hB
  obtain ⟨W, hW⟩ : ∃ W : Int, (if t.length = 0 then 2 else want) = W := ⟨_, rfl⟩
  rw [hW] at A2
  have HW := hide hW
  clear hW
  by_cases h0 : t.length = 0
  · have hd : ((b.size : Int) == 2) = true := beq_iff_eq.2 (by have := HB.out; omega)
    have hWW : W = 2 := by rw [← HW.out, if_pos h0]
    subst hWW
    go_enter Try.func19, Try.ntmps19
    go_wp2_with (first | (refine wpList_slice_to rfl _ _ rfl b (by rfl) .i64 1 (by rfl) 1 (by omega) hm2 x2 S2.out ?_) | (refine wpList_slice_to rfl _ _ rfl b (by rfl) .i64 _ (by rfl) (t.length + 1) (by have := HB.out; omega) hm1 x1 S1.out ?_) | fail)
    refine (rOpen _ _).mono ?_
    rintro e w1 ⟨rfl, hR1, hb1, hz1⟩
    go_wp2_with (first | (refine wpList_slice_to rfl _ _ rfl b (by rfl) .i64 1 (by rfl) 1 (by omega) hm2 x2 S2.out ?_) | fail)
    refine (rOpen _ _).mono ?_
    rintro e w2 ⟨rfl, hR2, hb2, hz2⟩
    have hR1' := hR1.below hb2
    have kb2 := hb1.trans (hb2.mono hb1.size)
    rw [hz1] at hR2 ⊢
    clear hR1 hb1 hb2 hz1 hz2
    go_wp2_with fail
    refine (rText most _ _ _ hR1' Z1.out).mono ?_
    rintro e w3 ⟨rfl, h3, hM3⟩
    have hR3 := hR2.same (hM3.block _ hR2.lt (by omega))
    have kb3 := kb2.trans (hM3.below (B := w.heap.size) (Nat.le_refl _) kb2.size)
    rw [A2.out] at h3
    rw [A1.out]
    clear hR2 hR1' hM3 kb2
    have hn8 : nil8 = { data := #[] } := rfl
    rw [hn8]
    go_wp2_with fail
    refine (rErr _ _ _ h3).mono ?_
    rintro e w4 ⟨rfl, rfl⟩
    go_wp2_with fail
    refine (rText most _ _ _ hR3 Z2.out).mono ?_
    rintro e w5 ⟨rfl, h5, hM5⟩
    rw [A4.out] at h5
    rw [A3.out, hn8]
    go_wp2_with fail
    refine (rErr _ _ _ h5).mono ?_
    rintro e w6 ⟨rfl, rfl⟩
    go_wp2
    go_ret
    exact ⟨rfl, kb3.trans (hM5.below (B := w.heap.size) (by omega) kb3.size)⟩
  · have hd : ((b.size : Int) == 2) = false := beq_eq_false_iff_ne.2 (by have := HB.out; omega)
    have hWW : want = W := by rw [← HW.out, if_neg h0]
    subst hWW
    go_enter Try.func19, Try.ntmps19
    go_wp2_with (first | (refine wpList_slice_to rfl _ _ rfl b (by rfl) .i64 1 (by rfl) 1 (by omega) hm2 x2 S2.out ?_) | (refine wpList_slice_to rfl _ _ rfl b (by rfl) .i64 _ (by rfl) (t.length + 1) (by have := HB.out; omega) hm1 x1 S1.out ?_) | fail)
    refine (rOpen _ _).mono ?_
    rintro e w1 ⟨rfl, hR1, hb1, hz1⟩
    go_wp2_with (first | (refine wpList_slice_to rfl _ _ rfl b (by rfl) .i64 1 (by rfl) 1 (by omega) hm2 x2 S2.out ?_) | fail)
    refine (rOpen _ _).mono ?_
    rintro e w2 ⟨rfl, hR2, hb2, hz2⟩
    have hR1' := hR1.below hb2
    have kb2 := hb1.trans (hb2.mono hb1.size)
    rw [hz1] at hR2 ⊢
    clear hR1 hb1 hb2 hz1 hz2
    go_wp2_with fail
    refine (rText most _ _ _ hR1' Z1.out).mono ?_
    rintro e w3 ⟨rfl, h3, hM3⟩
    have hR3 := hR2.same (hM3.block _ hR2.lt (by omega))
    have kb3 := kb2.trans (hM3.below (B := w.heap.size) (Nat.le_refl _) kb2.size)
    rw [A2.out] at h3
    rw [A1.out]
    clear hR2 hR1' hM3 kb2
    have hn8 : nil8 = { data := #[] } := rfl
    rw [hn8]
    go_wp2_with fail
    refine (rErr _ _ _ h3).mono ?_
    rintro e w4 ⟨rfl, rfl⟩
    go_wp2_with fail
    refine (rText most _ _ _ hR3 Z2.out).mono ?_
    rintro e w5 ⟨rfl, h5, hM5⟩
    rw [A4.out] at h5
    rw [A3.out, hn8]
    go_wp2_with fail
    refine (rErr _ _ _ h5).mono ?_
    rintro e w6 ⟨rfl, rfl⟩
    go_wp2
    go_ret
    exact ⟨rfl, kb3.trans (hM5.below (B := w.heap.size) (by omega) kb3.size)⟩
end Go.Proofs.Ytmcnempkddahcaa
