/-
  What a sector says: HasPrefix, slotOf, slotsOf, next.
-/
import Derived.Test.YtlkimfmilccanaaGreatMkBytes
import Derived.Test.YtlkimfmilccanaaGreatLast
namespace Go.Proofs.YtlkimfmilccanaaGreat
open Go.RowKit Go.Maps
set_option linter.unusedVariables false
set_option linter.unusedSimpArgs false
set_option maxRecDepth 5000 in
theorem hasPre_in (s p : ByteArray) (h : p.size ≤ s.size) (b : Bool) (hb : decide (s.extract 0 p.size = p) = b) (w : World) : Calls Tryz.prog 137 #[.string s, .string p] w fun e w' => e = .returned (.bool b) ∧ w' = w := by
  obtain ⟨X, hX⟩ : ∃ X, s.extract 0 p.size = X := ⟨_, rfl⟩
  have hd : decide ((s.size : Int) ≥ (p.size : Int)) = true := decide_eq_true (by omega)
  have hd' : decide ((p.size : Int) ≤ (s.size : Int)) = true := decide_eq_true (by omega)
  have hs : ∀ w : World, (Instr.slice 9 (.string s) none (some (.int .i64 (p.size : Int))) none).run Tryz.prog w = .ok (.string X) w := fun w => by rw [← hX]; exact run_slice_str_to w s p.size h
  have he : (X.toList == p.toList) = b := by rw [k_beq, ← hX]; exact hb
  clear hX hb
  go_enter Tryz.func137, Tryz.ntmps137
  go_wp2
  go_ret
  exact ⟨by simp, rfl⟩
theorem hasPre_any (s p : ByteArray) (h : p.size ≤ s.size) (b : Bool) (hb : decide (s.extract 0 p.size = p) = b) (w : World) : Calls Tryz.prog 105 #[.string s, .string p] w fun e w' => e = .returned (.bool b) ∧ w' = w := by
  have hc := hasPre_in s p h b hb w
  clear h hb
  go_enter Tryz.func105, Tryz.ntmps105
  go_wp2_with fail
  refine hc.mono ?_
  rintro e w1 ⟨rfl, hw⟩
  obtain rfl := hw.symm
  go_wp2
  go_ret
  exact ⟨rfl, rfl⟩
theorem set2 {w w9 : World} {g : Nat} {T : TypeId} {a b a' b' : Value} (h : w.heap[g]? = some (.cells #[a, b] T (0, 0))) (h9 : (w.setCell ⟨g, 0, none⟩ a').setCell ⟨g, 1, none⟩ b' = w9) :
    Below g w w9 ∧ w9.cell? ⟨g, 0, none⟩ = some a' ∧ w9.cell? ⟨g, 1, none⟩ = some b' := by
  have e1 : (w.setCell ⟨g, 0, none⟩ a').heap[g]? = some (.cells #[a', b] T (0, 0)) := by
    rw [heap_setCell_same w g 0 _ T _ h]; rfl
  have e2 : w9.heap[g]? = some (.cells #[a', b'] T (0, 0)) := by
    rw [← h9, heap_setCell_same _ g 1 _ T _ e1]; rfl
  refine ⟨?_, ?_, ?_⟩
  · rw [← h9]
    exact ((Below.refl g w).setCell (p := ⟨g, 0, none⟩) (Nat.le_refl _) a').setCell (p := ⟨g, 1, none⟩) (Nat.le_refl _) b'
  · rw [cell_of_row w9 g 0 _ _ (0, 0) e2]; rfl
  · rw [cell_of_row w9 g 1 _ _ (0, 0) e2]; rfl
theorem set4 {w w9 : World} {g : Nat} {T : TypeId} {a b c d a' b' c' d' : Value} (h : w.heap[g]? = some (.cells #[a, b, c, d] T (0, 0))) (h9 : (((w.setCell ⟨g, 0, none⟩ a').setCell ⟨g, 1, none⟩ b').setCell ⟨g, 2, none⟩ c').setCell ⟨g, 3, none⟩ d' = w9) :
    Below g w w9 ∧ w9.cell? ⟨g, 0, none⟩ = some a' ∧ w9.cell? ⟨g, 1, none⟩ = some b' ∧ w9.cell? ⟨g, 2, none⟩ = some c' ∧ w9.cell? ⟨g, 3, none⟩ = some d' := by
  have e1 : (w.setCell ⟨g, 0, none⟩ a').heap[g]? = some (.cells #[a', b, c, d] T (0, 0)) := by
    rw [heap_setCell_same w g 0 _ T _ h]; rfl
  have e2 : ((w.setCell ⟨g, 0, none⟩ a').setCell ⟨g, 1, none⟩ b').heap[g]? = some (.cells #[a', b', c, d] T (0, 0)) := by
    rw [heap_setCell_same _ g 1 _ T _ e1]; rfl
  have e3 : (((w.setCell ⟨g, 0, none⟩ a').setCell ⟨g, 1, none⟩ b').setCell ⟨g, 2, none⟩ c').heap[g]? = some (.cells #[a', b', c', d] T (0, 0)) := by
    rw [heap_setCell_same _ g 2 _ T _ e2]; rfl
  have e4 : w9.heap[g]? = some (.cells #[a', b', c', d'] T (0, 0)) := by
    rw [← h9, heap_setCell_same _ g 3 _ T _ e3]; rfl
  refine ⟨?_, ?_, ?_, ?_, ?_⟩
  · rw [← h9]
    exact ((((Below.refl g w).setCell (p := ⟨g, 0, none⟩) (Nat.le_refl _) a').setCell (p := ⟨g, 1, none⟩) (Nat.le_refl _) b').setCell (p := ⟨g, 2, none⟩) (Nat.le_refl _) c').setCell (p := ⟨g, 3, none⟩) (Nat.le_refl _) d'
  · rw [cell_of_row w9 g 0 _ _ (0, 0) e4]; rfl
  · rw [cell_of_row w9 g 1 _ _ (0, 0) e4]; rfl
  · rw [cell_of_row w9 g 2 _ _ (0, 0) e4]; rfl
  · rw [cell_of_row w9 g 3 _ _ (0, 0) e4]; rfl
/-- A slot as the code holds it. -/
def slotV (t : Key) : Array Value := #[.int .i64 ((wholeL t).getD 0), .bool (wholeL t).isSome]
theorem num8 (s : ByteArray) (hs : 8 ≤ s.size) : Fr.num 8 (s, 0) = Fr.be (s.data.toList.take 8) := by
  unfold Fr.num Fr.takeA
  rw [if_pos rfl, if_neg (by show ¬ ((s.size : Int) < 8); omega)]
  show Fr.be (s.extract 0 8).data.toList = _
  rw [k_extract s 0 8 (by omega)]
  simp
set_option maxRecDepth 5000 in
set_option maxHeartbeats 2000000 in
theorem slotOf_any (s : ByteArray) (hs : s.size = 64) (w : World) : Calls Tryz.prog 100 #[.string s] w fun e w' => e = .returned (.agg (slotV s.data.toList)) ∧ Below w.heap.size w w' := by
  obtain ⟨z, hz⟩ : ∃ z, valL s.data.toList = z := ⟨_, rfl⟩
  have HZ : Hid (IntKind.i64.wrap (Fr.num 8 (s, 0) : Int) = z) := by
    show _ = _
    rw [num8 s (by omega), ← hz]; rfl
  obtain ⟨bn, hbn⟩ : ∃ b, numB z = b := ⟨_, rfl⟩
  obtain ⟨T, hT⟩ : ∃ T : ByteArray, (⟨(slotL z).toArray⟩ : ByteArray) = T := ⟨_, rfl⟩
  have zT : T.size = 64 := by rw [← hT, ← str_len]; exact slotL_length z
  obtain ⟨H, hH⟩ : ∃ H, T.extract 0 12 = H := ⟨_, rfl⟩
  have lH : H.data.toList = slotH z := by
    rw [← hH, k_extract T 0 12 (by omega), ← hT]
    simp only [List.drop_zero]
    exact slotL_take z
  have zH : H.size = 12 := by rw [← str_len, lH, slotH_length]
  have hsl : ∀ w : World, (Instr.slice 9 (.string T) none (some (.int .i64 12)) none).run Tryz.prog w = .ok (.string H) w := fun w => by rw [← hH]; exact run_slice_str_to w T 12 (by omega)
  obtain ⟨bp, hbp⟩ : ∃ b, decide (s.extract 0 H.size = H) = b := ⟨_, rfl⟩
  have HP := hide (hasPre_any s H (by omega) bp hbp)
  have hpe : (bp = true) ↔ s.data.toList.take 12 = slotH z := by
    rw [← hbp, decide_eq_true_iff, zH, ← lH]
    constructor
    · intro e
      rw [← e, k_extract s 0 12 (by omega)]
      simp
    · intro e
      refine k_ext ?_
      rw [← e, k_extract s 0 12 (by omega)]
      simp
  have HV : Hid (slotV s.data.toList = if (bn && bp) = true then #[.int .i64 z, .bool true] else #[.int .i64 0, .bool false]) := by
    show _ = _
    unfold slotV wholeL
    rw [hz, hbn]
    by_cases hc : bn = true ∧ s.data.toList.take 12 = slotH z
    · rw [if_pos hc, if_pos (by rw [hc.1, hpe.2 hc.2]; rfl)]; rfl
    · rw [if_neg hc, if_neg (fun h => hc (by rw [Bool.and_eq_true] at h; exact ⟨h.1, hpe.1 h.2⟩))]; rfl
  have HBO : Hid (∀ w : World, Calls Tryz.prog 38 #[.int .i64 z] w fun e w' => e = .returned (.string T) ∧ Below w.heap.size w w') := fun w => by rw [← hT]; exact bytesOfM_any z w
  have HN : Hid (∀ w : World, Calls Tryz.prog 37 #[.int .i64 z] w fun e w' => e = .returned (.bool bn) ∧ w' = w) := fun w => by rw [← hbn]; exact isNumber_any z w
  obtain ⟨g, hg⟩ : ∃ g, w.heap.size = g := ⟨_, rfl⟩
  obtain ⟨w0, hw0⟩ : ∃ x, w.alloc (.cells #[.int .i64 0, .bool false] 118) = x := ⟨_, rfl⟩
  have hb0 : Below g w w0 := by rw [← hw0, ← hg]; exact (Below.refl _ _).alloc (Nat.le_refl _) _
  have hc0 : w0.heap[g]? = some (.cells #[.int .i64 0, .bool false] 118 (0, 0)) := by rw [← hw0, ← hg]; exact heap_alloc_new w _
  have HB0 := hide hb0
  have HC0 := hide hc0
  rw [hg]
  obtain ⟨V, hV⟩ : ∃ V, slotV s.data.toList = V := ⟨_, rfl⟩
  rw [hV] at HV ⊢
  clear hz hbn hT zT hH lH zH hbp hpe hs hb0 hc0 hV
  go_enter Tryz.func100, Tryz.ntmps100
  go_wp2_with fail
  refine (Fr.rOpen s _).mono ?_
  rintro e w1 ⟨rfl, h1, hb1, hs1⟩
  have HBW1 := hide hb1
  obtain ⟨q, hq⟩ : ∃ q, w0.heap.size = q := ⟨_, rfl⟩
  rw [hq] at h1 hs1 ⊢
  have HQ := hide hq
  clear hb1 hs1 hq
  go_wp2_with fail
  refine (Fr.rI64 q _ _ h1 z HZ.out).mono ?_
  rintro e w2 ⟨rfl, h2, hm2⟩
  have HB2 : Hid (Below w0.heap.size w0 w2) := by
    have := hm2.below (B := w0.heap.size) (Nat.le_of_eq HQ.out) (by have := HBW1.out.size; omega)
    exact HBW1.out.trans this
  have HC2 : Hid (w2.heap[g]? = some (.cells #[.int .i64 0, .bool false] 118 (0, 0))) := by
    show _ = _
    rw [HB2.out.block g (lt_of_some HC0.out)]; exact HC0.out
  have HL : Hid (g < w0.heap.size) := lt_of_some HC0.out
  clear h1 h2 hm2 HBW1 HQ
  go_wp2_with fail
  refine (HN.out _).mono ?_
  rintro e w3 ⟨rfl, hw⟩
  obtain rfl := hw.symm
  clear hw
  have f0 : w2.frozen? ⟨g, 0, none⟩ = false := frozen_of_row w2 g 0 _ _ HC2.out
  have f1 : w2.frozen? ⟨g, 1, none⟩ = false := frozen_of_row w2 g 1 _ _ HC2.out
  have c0 : w2.cell? ⟨g, 0, none⟩ = some (.int .i64 0) := by rw [cell_of_row w2 g 0 _ _ (0, 0) HC2.out]; rfl
  have c1 : w2.cell? ⟨g, 1, none⟩ = some (.bool false) := by rw [cell_of_row w2 g 1 _ _ (0, 0) HC2.out]; rfl
  cases bn with
  | false =>
    have HE : Hid (V = #[.int .i64 0, .bool false]) := HV.out
    obtain ⟨w9, hw9⟩ : ∃ x, (w2.setCell ⟨g, 0, none⟩ (.int .i64 0)).setCell ⟨g, 1, none⟩ (.bool false) = x := ⟨_, rfl⟩
    obtain ⟨HB9, d0, d1⟩ := set2 HC2.out hw9
    have HBF := hide ((HB0.out.trans (HB2.out.mono (Nat.le_of_lt HL.out))).trans HB9)
    clear HB9
    go_wp2_with fail
    exact bodyPost_ret (v := .agg #[.int .i64 0, .bool false]) (by simp [results, Tryz.f100, go_sem, d0, d1]) rfl ⟨by rw [HE.out], HBF.out⟩
  | true =>
    clear f0 f1 c0 c1
    go_wp2_with fail
    refine (HBO.out _).mono ?_
    rintro e w4 ⟨rfl, hb4⟩
    have HC4 : Hid (w4.heap[g]? = some (.cells #[.int .i64 0, .bool false] 118 (0, 0))) := by
      show _ = _
      rw [hb4.block g (lt_of_some HC2.out)]; exact HC2.out
    have HB4 := hide ((HB0.out.trans (HB2.out.mono (Nat.le_of_lt HL.out))).trans (hb4.mono (Nat.le_of_lt (lt_of_some HC2.out))))
    have f0 : w4.frozen? ⟨g, 0, none⟩ = false := frozen_of_row w4 g 0 _ _ HC4.out
    have f1 : w4.frozen? ⟨g, 1, none⟩ = false := frozen_of_row w4 g 1 _ _ HC4.out
    have c0 : w4.cell? ⟨g, 0, none⟩ = some (.int .i64 0) := by rw [cell_of_row w4 g 0 _ _ (0, 0) HC4.out]; rfl
    have c1 : w4.cell? ⟨g, 1, none⟩ = some (.bool false) := by rw [cell_of_row w4 g 1 _ _ (0, 0) HC4.out]; rfl
    clear hb4
    go_wp2_with fail
    refine (HP.out _).mono ?_
    rintro e w5 ⟨rfl, hw⟩
    obtain rfl := hw.symm
    clear hw
    cases bp with
    | false =>
      have HE : Hid (V = #[.int .i64 0, .bool false]) := HV.out
      obtain ⟨w9, hw9⟩ : ∃ x, (w4.setCell ⟨g, 0, none⟩ (.int .i64 0)).setCell ⟨g, 1, none⟩ (.bool false) = x := ⟨_, rfl⟩
      obtain ⟨HB9, d0, d1⟩ := set2 HC4.out hw9
      have HBF := hide (HB4.out.trans HB9)
      clear HB9
      go_wp2_with fail
      exact bodyPost_ret (v := .agg #[.int .i64 0, .bool false]) (by simp [results, Tryz.f100, go_sem, d0, d1]) rfl ⟨by rw [HE.out], HBF.out⟩
    | true =>
      have HE : Hid (V = #[.int .i64 z, .bool true]) := HV.out
      obtain ⟨w9, hw9⟩ : ∃ x, (w4.setCell ⟨g, 0, none⟩ (.int .i64 z)).setCell ⟨g, 1, none⟩ (.bool true) = x := ⟨_, rfl⟩
      obtain ⟨HB9, d0, d1⟩ := set2 HC4.out hw9
      have HBF := hide (HB4.out.trans HB9)
      clear HB9
      go_wp2_with fail
      exact bodyPost_ret (v := .agg #[.int .i64 z, .bool true]) (by simp [results, Tryz.f100, go_sem, d0, d1]) rfl ⟨by rw [HE.out], HBF.out⟩
/-- Both slots of a file as the code holds them. -/
def slotsV (t : Key) : Array Value := slotV (t.take 64) ++ slotV (t.drop 64)
set_option maxRecDepth 5000 in
set_option maxHeartbeats 2000000 in
theorem slotsOf_any (t : ByteArray) (ht : t.size = 128) (w : World) : Calls Tryz.prog 67 #[.string t] w fun e w' => e = .returned (.agg (slotsV t.data.toList)) ∧ Below w.heap.size w w' := by
  obtain ⟨a, ha⟩ : ∃ a, t.extract 0 64 = a := ⟨_, rfl⟩
  obtain ⟨b, hb⟩ : ∃ b, t.extract 64 t.size = b := ⟨_, rfl⟩
  have la : a.data.toList = t.data.toList.take 64 := by rw [← ha, k_extract t 0 64 (by omega)]; simp
  have lb : b.data.toList = t.data.toList.drop 64 := by rw [← hb, extract_from]
  have za : a.size = 64 := by rw [← str_len, la, List.length_take, str_len, ht]; rfl
  have zb : b.size = 64 := by rw [← str_len, lb, List.length_drop, str_len, ht]
  have s1 : ∀ w : World, (Instr.slice 9 (.string t) none (some (.int .i64 64)) none).run Tryz.prog w = .ok (.string a) w := fun w => by rw [← ha]; exact run_slice_str_to w t 64 (by omega)
  have s2 : ∀ w : World, (Instr.slice 9 (.string t) (some (.int .i64 64)) none none).run Tryz.prog w = .ok (.string b) w := fun w => by rw [← hb]; exact run_slice_str_from w t 64 (by omega)
  obtain ⟨x0, hx0⟩ : ∃ x, (wholeL a.data.toList).getD 0 = x := ⟨_, rfl⟩
  obtain ⟨y0, hy0⟩ : ∃ x, (wholeL a.data.toList).isSome = x := ⟨_, rfl⟩
  obtain ⟨x1, hx1⟩ : ∃ x, (wholeL b.data.toList).getD 0 = x := ⟨_, rfl⟩
  obtain ⟨y1, hy1⟩ : ∃ x, (wholeL b.data.toList).isSome = x := ⟨_, rfl⟩
  have HC1 : Hid (∀ w : World, Calls Tryz.prog 100 #[.string a] w fun e w' => e = .returned (.agg #[.int .i64 x0, .bool y0]) ∧ Below w.heap.size w w') := fun w => by
    have := slotOf_any a za w
    unfold slotV at this
    rw [hx0, hy0] at this
    exact this
  have HC2 : Hid (∀ w : World, Calls Tryz.prog 100 #[.string b] w fun e w' => e = .returned (.agg #[.int .i64 x1, .bool y1]) ∧ Below w.heap.size w w') := fun w => by
    have := slotOf_any b zb w
    unfold slotV at this
    rw [hx1, hy1] at this
    exact this
  have HV : Hid (slotsV t.data.toList = #[.int .i64 x0, .bool y0, .int .i64 x1, .bool y1]) := by
    show _ = _
    unfold slotsV slotV
    rw [← la, ← lb, hx0, hy0, hx1, hy1]; rfl
  obtain ⟨V, hV⟩ : ∃ V, slotsV t.data.toList = V := ⟨_, rfl⟩
  rw [hV] at HV ⊢
  obtain ⟨g, hg⟩ : ∃ g, w.heap.size = g := ⟨_, rfl⟩
  obtain ⟨w0, hw0⟩ : ∃ x, w.alloc (.cells #[.int .i64 0, .bool false, .int .i64 0, .bool false] 120) = x := ⟨_, rfl⟩
  have hb0 : Below g w w0 := by rw [← hw0, ← hg]; exact (Below.refl _ _).alloc (Nat.le_refl _) _
  have hc0 : w0.heap[g]? = some (.cells #[.int .i64 0, .bool false, .int .i64 0, .bool false] 120 (0, 0)) := by rw [← hw0, ← hg]; exact heap_alloc_new w _
  have HB0 := hide hb0
  have HC0 := hide hc0
  rw [hg]
  clear ha hb la lb za zb hx0 hy0 hx1 hy1 hV hb0 hc0 ht
  go_enter Tryz.func67, Tryz.ntmps67
  try go_wp2
  refine wp_region_noPanic ?_
  refine wp_region_held_drew (S := fun wx => True) (by kernel_rfl) trivial (fun hHeld => ?_)
  refine tK 0 (some 3) (.string t) rfl hHeld ?_
  simp only [Act.put, pA, pB, pC]
  refine tH 1 (some 4) (.string a) rfl (fun w hw => by have := s1 w; first | rfl | (go_simp; done) | (go_simp; rfl)) hHeld ?_
  simp only [Act.put, pA, pB, pC]
  refine tK 3 (some 6) (.string t) rfl hHeld ?_
  simp only [Act.put, pA, pB, pC]
  refine tH 4 (some 7) (.string b) rfl (fun w hw => by have := s2 w; first | rfl | (go_simp; done) | (go_simp; rfl)) hHeld ?_
  simp only [Act.put, pA, pB, pC]
  refine rdH 2 rfl (fun K hK => ?_)
  go_simp
  refine (HC1.out _).mono ?_
  rintro e w1 ⟨rfl, hb1⟩
  try go_wp2_with fail
  refine hK.out _ _ trivial (fun hH => ?_)
  clear hK K hHeld
  have hHeld := hH
  clear hH
  refine rdH 5 rfl (fun K hK => ?_)
  go_simp
  refine (HC2.out _).mono ?_
  rintro e w2 ⟨rfl, hb2⟩
  try go_wp2_with fail
  refine hK.out _ _ trivial (fun hH => ?_)
  clear hK K hHeld
  have hHeld := hH
  clear hH
  refine tK 6 (some 9) (.agg #[.int .i64 x0, .bool y0, .int .i64 x1, .bool y1]) rfl hHeld ?_
  simp only [Act.put, pA, pB, pC]
  have hB1 : Below w0.heap.size w0 w1 := ⟨hb1.os, hb1.tape, hb1.output, hb1.size, hb1.block⟩
  have HL : g < w0.heap.size := lt_of_some HC0.out
  have hB2 : Below w0.heap.size w0 w2 := hB1.trans (hb2.mono hB1.size)
  have hc2 : w2.heap[g]? = some (.cells #[.int .i64 0, .bool false, .int .i64 0, .bool false] 120 (0, 0)) := by rw [hB2.block g HL]; exact HC0.out
  have f0 : w2.frozen? ⟨g, 0, none⟩ = false := frozen_of_row w2 g 0 _ _ hc2
  have f1 : w2.frozen? ⟨g, 1, none⟩ = false := frozen_of_row w2 g 1 _ _ hc2
  have f2 : w2.frozen? ⟨g, 2, none⟩ = false := frozen_of_row w2 g 2 _ _ hc2
  have f3 : w2.frozen? ⟨g, 3, none⟩ = false := frozen_of_row w2 g 3 _ _ hc2
  have c0 : w2.cell? ⟨g, 0, none⟩ = some (.int .i64 0) := by rw [cell_of_row w2 g 0 _ _ (0, 0) hc2]; rfl
  have c1 : w2.cell? ⟨g, 1, none⟩ = some (.bool false) := by rw [cell_of_row w2 g 1 _ _ (0, 0) hc2]; rfl
  have c2 : w2.cell? ⟨g, 2, none⟩ = some (.int .i64 0) := by rw [cell_of_row w2 g 2 _ _ (0, 0) hc2]; rfl
  have c3 : w2.cell? ⟨g, 3, none⟩ = some (.bool false) := by rw [cell_of_row w2 g 3 _ _ (0, 0) hc2]; rfl
  obtain ⟨w9, hw9⟩ : ∃ x, (((w2.setCell ⟨g, 0, none⟩ (.int .i64 x0)).setCell ⟨g, 1, none⟩ (.bool y0)).setCell ⟨g, 2, none⟩ (.int .i64 x1)).setCell ⟨g, 3, none⟩ (.bool y1) = x := ⟨_, rfl⟩
  obtain ⟨HB9, d0, d1, d2, d3⟩ := set4 hc2 hw9
  have HBF := hide ((HB0.out.trans (hB2.mono (Nat.le_of_lt HL))).trans HB9)
  clear hb1 hb2 hB1 hB2 hc2 HB9
  refine rdH 7 rfl (fun K hK => ?_)
  go_simp
  refine hK.out _ _ trivial (fun hH => ?_)
  clear hK K hHeld
  refine ⟨by kernel_rfl, ?_⟩
  refine NoPanic.normal ?_
  go_wp2
  exact bodyPost_ret (v := .agg #[.int .i64 x0, .bool y0, .int .i64 x1, .bool y1]) (by simp [results, Tryz.f67, go_sem, d0, d1, d2, d3]) rfl ⟨by rw [HV.out], HBF.out⟩
def nextB (x0 : Int) (y0 : Bool) (x1 : Int) (y1 : Bool) : Bool := y1 && (!y0 || decide (x0 < x1))
def nextI (b : Bool) : Int := if b then 0 else 1
set_option maxRecDepth 5000 in
set_option maxHeartbeats 2000000 in
theorem next_any (x0 : Int) (y0 : Bool) (x1 : Int) (y1 : Bool) (w : World) : Calls Tryz.prog 68 #[.agg #[.int .i64 x0, .bool y0, .int .i64 x1, .bool y1]] w fun e w' => e = .returned (.int .i64 (nextI (nextB x0 y0 x1 y1))) ∧ Below w.heap.size w w' := by
  obtain ⟨g, hg⟩ : ∃ g, w.heap.size = g := ⟨_, rfl⟩
  obtain ⟨w0, hw0⟩ : ∃ x, w.alloc (.cells #[.int .i64 x0, .bool y0, .int .i64 x1, .bool y1] 120) = x := ⟨_, rfl⟩
  have hb0 : Below g w w0 := by rw [← hw0, ← hg]; exact (Below.refl _ _).alloc (Nat.le_refl _) _
  have hc0 : w0.heap[g]? = some (.cells #[.int .i64 x0, .bool y0, .int .i64 x1, .bool y1] 120 (0, 0)) := by rw [← hw0, ← hg]; exact heap_alloc_new w _
  have c0 : w0.cell? ⟨g, 0, none⟩ = some (.int .i64 x0) := by rw [cell_of_row w0 g 0 _ _ (0, 0) hc0]; rfl
  have c1 : w0.cell? ⟨g, 1, none⟩ = some (.bool y0) := by rw [cell_of_row w0 g 1 _ _ (0, 0) hc0]; rfl
  have c2 : w0.cell? ⟨g, 2, none⟩ = some (.int .i64 x1) := by rw [cell_of_row w0 g 2 _ _ (0, 0) hc0]; rfl
  have c3 : w0.cell? ⟨g, 3, none⟩ = some (.bool y1) := by rw [cell_of_row w0 g 3 _ _ (0, 0) hc0]; rfl
  have HB0 := hide hb0
  rw [hg]
  clear hb0 hc0
  obtain ⟨lt, hlt⟩ : ∃ b, decide (x0 < x1) = b := ⟨_, rfl⟩
  unfold nextB
  rw [hlt]
  cases y1 <;> cases y0 <;> cases lt <;>
  · go_enter Tryz.func68, Tryz.ntmps68
    go_wp2
    go_ret
    exact ⟨rfl, HB0.out⟩
end Go.Proofs.YtlkimfmilccanaaGreat
