/-
  (*Both).plays, kind by kind (printed by gen_play.py).
-/
import Derived.Test.YtlkimfmilccanaaGreatMkPlayD
namespace Go.Proofs.YtlkimfmilccanaaGreat
open Go.RowKit Go.Maps Go.WideMaps
set_option linter.unusedVariables false
set_option linter.unusedSimpArgs false
set_option maxRecDepth 100000 in
set_option maxHeartbeats 40000000 in
theorem play3_0 {B : Nat} {w : World} {p r : Nat} {A : AD} {gb : Nat} {s0 s1 : PS} (h : Lies B w (PQ p r A A gb s0 s1 [])) (hx0 : xok s0) (hx1 : xok s1) (n : Int) (T : ByteArray) (ad : Option Addr) (fates : List FT) (cap : Nat) (hg : KGood B w [3, n] [T] ad fates) :
    Calls Tryz.prog 30 #[.pointer (some ⟨gb, 0, none⟩), .agg #[.int .i64 3, .bool false, .int .i64 n, .string T, .slice ad fates.length cap]] w fun e w' => e = .returned (.bool true) ∧ (∃ A' s0' s1', Lies B w' (PQ p r A' A' gb s0' s1' []) ∧ xok s0' ∧ xok s1') ∧ Below B w w' := by
  obtain ⟨go, hgo⟩ : ∃ g, w.heap.size = g := ⟨_, rfl⟩
  obtain ⟨w0, hw0⟩ : ∃ x, w.alloc (.cells #[.int .i64 3, .bool false, .int .i64 n, .string T, .slice ad fates.length cap] 59) = x := ⟨_, rfl⟩
  obtain ⟨h0, hb0⟩ := h.box _ _ w0 hw0 go hgo
  obtain ⟨opC, hop⟩ : ∃ x : Item, Item.block go (.cells #[.int .i64 3, .bool false, .int .i64 n, .string T, .slice ad fates.length cap] 59 (0, 0)) = x := ⟨_, rfl⟩
  have h0' : Lies B w0 (PQ p r A A gb s0 s1 [opC]) := by rw [← hop]; exact h0
  have HOK : Hid A.Ok := h.ok (i := 0) rfl
  have HC : Hid (∀ (W : World) (A1 A2 : AD), Lies B W (PQ p r A1 A2 gb s0 s1 [opC]) → W.cell? ⟨gb, 0, none⟩ = some (.pointer (some ⟨p, 0, none⟩)) ∧ W.cell? ⟨gb, 1, none⟩ = some (.pointer (some ⟨r, 0, none⟩)) ∧ W.cell? ⟨go, 1, none⟩ = some (.bool false) ∧ W.cell? ⟨go, 2, none⟩ = some (.int .i64 n) ∧ W.cell? ⟨go, 3, none⟩ = some (.string T) ∧ W.cell? ⟨go, 4, none⟩ = some (.slice ad fates.length cap)) := fun W A1 A2 h => by
    rw [← hop] at h
    have hc := block_at (q := 7) h rfl
    obtain ⟨y0, y1⟩ := PQ.ptrs h
    refine ⟨y0, y1, ?_, ?_, ?_, ?_⟩
    · rw [cell_of_row W go 1 _ _ (0, 0) hc]; rfl
    · rw [cell_of_row W go 2 _ _ (0, 0) hc]; rfl
    · rw [cell_of_row W go 3 _ _ (0, 0) hc]; rfl
    · rw [cell_of_row W go 4 _ _ (0, 0) hc]; rfl
  have z0 : w0.cell? ⟨go, 0, none⟩ = some (.int .i64 3) := by
    rw [← hop] at h0'
    have hc := block_at (q := 7) h0' rfl
    rw [cell_of_row w0 go 0 _ _ (0, 0) hc]; rfl
  have z1 := (HC.out _ _ _ h0').2.2.1
  have H := hide h0'
  have HB := hide hb0
  have HX0 := hide hx0
  have HX1 := hide hx1
  have HG := hide hg
  have hr1 := least_rng (n := n) (m := 8) (by decide)
  obtain ⟨q1, hq1⟩ : ∃ q, leastI n 8 = q := ⟨_, rfl⟩
  rw [hq1] at hr1
  have HL1 : Hid (∀ w : World, Calls Tryz.prog 15 #[.int .i64 n, .int .i64 8] w fun e w' => e = .returned (.int .i64 q1) ∧ w' = w) := fun w => by rw [← hq1]; exact least_any n 8 (by decide) w
  have HQR : Hid (-9223372036854775808 ≤ q1 ∧ q1 < 9223372036854775808) := ⟨by omega, by omega⟩
  clear hq1 hr1
  obtain ⟨nq, hnq⟩ : ∃ q, IntKind.i64.wrap (n.tdiv 8) = q := ⟨_, rfl⟩
  have HQO := hide hnq
  obtain ⟨q2, hq2⟩ : ∃ q, leastI nq 3 = q := ⟨_, rfl⟩
  have HL2 : Hid (∀ w : World, Calls Tryz.prog 15 #[.int .i64 nq, .int .i64 3] w fun e w' => e = .returned (.int .i64 q2) ∧ w' = w) := fun w => by rw [← hq2]; exact least_any nq 3 (by decide) w
  clear hq2 hnq
  clear h h0 h0' hb0 hx0 hx1 hg hop
  go_enter Tryz.func30, Tryz.ntmps30
  go_wp2
  clear z0 z1
  obtain ⟨V1, hV⟩ : ∃ x, w0.drew = x := ⟨_, rfl⟩
  have hv0 := H.out.same (w' := w0.drew) (Nat.le_refl _) (fun _ _ _ => rfl)
  rw [hV] at hv0
  have HVB : Hid (Below B w V1) := by rw [← hV]; exact HB.out.drew
  have HVL := hide hv0
  have HS0 := hide (HC.out _ _ _ hv0)
  have HV := hide hV
  clear hv0 hV H HB
  try go_wp2
  refine wp_region_noPanic ?_
  refine wp_region_held_drew (S := fun wx => wx.cell? ⟨gb, 0, none⟩ = some (.pointer (some ⟨p, 0, none⟩)) ∧ wx.cell? ⟨gb, 1, none⟩ = some (.pointer (some ⟨r, 0, none⟩)) ∧ wx.cell? ⟨go, 1, none⟩ = some (.bool false) ∧ wx.cell? ⟨go, 2, none⟩ = some (.int .i64 n) ∧ wx.cell? ⟨go, 3, none⟩ = some (.string T) ∧ wx.cell? ⟨go, 4, none⟩ = some (.slice ad fates.length cap)) (by kernel_rfl) (by rw [HV.out]; exact HS0.out) (fun hHeld => ?_)
  rw [HV.out] at hHeld ⊢
  clear HV HS0
  refine tK 0 (some 88) (.pointer (some ⟨gb, 0, none⟩)) rfl hHeld ?_
  simp only [Act.put, pA, pB, pC]
  refine tK 1 (some 89) (.pointer (some ⟨gb, 0, none⟩)) rfl hHeld ?_
  simp only [Act.put, pA, pB, pC]
  refine tK 2 (some 90) (.pointer (some ⟨gb, 0, none⟩)) rfl hHeld ?_
  simp only [Act.put, pA, pB, pC]
  refine tH 3 (some 91) (.pointer (some ⟨p, 0, none⟩)) rfl (fun w hw => by obtain ⟨hw0, hw1, hw2, hw3, hw4, hw5⟩ := hw; first | rfl | (go_simp; done) | (go_simp; rfl)) hHeld ?_
  simp only [Act.put, pA, pB, pC]
  refine tK 4 (some 92) (.pointer (some ⟨go, 2, none⟩)) rfl hHeld ?_
  simp only [Act.put, pA, pB, pC]
  refine tH 5 (some 93) (.int .i64 n) rfl (fun w hw => by obtain ⟨hw0, hw1, hw2, hw3, hw4, hw5⟩ := hw; first | rfl | (go_simp; done) | (go_simp; rfl)) hHeld ?_
  simp only [Act.put, pA, pB, pC]
  refine tK 7 (some 95) (.pointer (some ⟨go, 2, none⟩)) rfl hHeld ?_
  simp only [Act.put, pA, pB, pC]
  refine tH 8 (some 96) (.int .i64 n) rfl (fun w hw => by obtain ⟨hw0, hw1, hw2, hw3, hw4, hw5⟩ := hw; first | rfl | (go_simp; done) | (go_simp; rfl)) hHeld ?_
  simp only [Act.put, pA, pB, pC]
  refine tH 9 (some 97) (.int .i64 nq) rfl (fun w hw => by go_simp; exact HQO.out) hHeld ?_
  simp only [Act.put, pA, pB, pC]
  refine rdH 6 rfl (fun K hK => ?_)
  go_simp
  refine (HL1.out _).mono ?_
  rintro e wn ⟨rfl, hw⟩
  obtain rfl := hw.symm
  clear hw
  try go_wp2_with fail
  refine hK.out _ _ (HC.out _ _ _ HVL.out) (fun hH => ?_)
  clear hK K hHeld
  have hHeld := hH
  clear hH
  refine rdH 10 rfl (fun K hK => ?_)
  go_simp
  refine (HL2.out _).mono ?_
  rintro e wn ⟨rfl, hw⟩
  obtain rfl := hw.symm
  clear hw
  try go_wp2_with fail
  refine hK.out _ _ (HC.out _ _ _ HVL.out) (fun hH => ?_)
  clear hK K hHeld
  have hHeld := hH
  clear hH
  refine rdH 11 rfl (fun K hK => ?_)
  go_simp
  refine (s_arm (i := 0) HVL.out rfl q1 q2 HQR.out).mono ?_
  rintro e wc1 ⟨rfl, h2, hb2⟩
  try go_wp2_with fail
  refine hK.out _ _ (HC.out _ _ _ h2) (fun hH => ?_)
  clear hK K hHeld
  have hHeld := hH
  clear hH
  have HB := hide (HVB.out.trans hb2)
  have H := hide h2
  clear h2 hb2 HVL HVB
  refine ⟨by kernel_rfl, ?_⟩
  refine NoPanic.normal ?_
  clear hHeld
  obtain ⟨V2, hV⟩ : ∃ x, wc1.drew = x := ⟨_, rfl⟩
  have hv0 := H.out.same (w' := wc1.drew) (Nat.le_refl _) (fun _ _ _ => rfl)
  rw [hV] at hv0
  have HVB : Hid (Below B w V2) := by rw [← hV]; exact HB.out.drew
  have HVL := hide hv0
  have HS0 := hide (HC.out _ _ _ hv0)
  have HV := hide hV
  clear hv0 hV H HB
  try go_wp2
  refine wp_region_noPanic ?_
  refine wp_region_held_drew (S := fun wx => wx.cell? ⟨gb, 0, none⟩ = some (.pointer (some ⟨p, 0, none⟩)) ∧ wx.cell? ⟨gb, 1, none⟩ = some (.pointer (some ⟨r, 0, none⟩)) ∧ wx.cell? ⟨go, 1, none⟩ = some (.bool false) ∧ wx.cell? ⟨go, 2, none⟩ = some (.int .i64 n) ∧ wx.cell? ⟨go, 3, none⟩ = some (.string T) ∧ wx.cell? ⟨go, 4, none⟩ = some (.slice ad fates.length cap)) (by kernel_rfl) (by rw [HV.out]; exact HS0.out) (fun hHeld => ?_)
  rw [HV.out] at hHeld ⊢
  clear HV HS0
  refine tK 0 (some 100) (.pointer (some ⟨gb, 0, none⟩)) rfl hHeld ?_
  simp only [Act.put, pA, pB, pC]
  refine tK 1 (some 101) (.pointer (some ⟨gb, 0, none⟩)) rfl hHeld ?_
  simp only [Act.put, pA, pB, pC]
  refine tK 2 (some 102) (.pointer (some ⟨gb, 1, none⟩)) rfl hHeld ?_
  simp only [Act.put, pA, pB, pC]
  refine tH 3 (some 103) (.pointer (some ⟨r, 0, none⟩)) rfl (fun w hw => by obtain ⟨hw0, hw1, hw2, hw3, hw4, hw5⟩ := hw; first | rfl | (go_simp; done) | (go_simp; rfl)) hHeld ?_
  simp only [Act.put, pA, pB, pC]
  refine tK 4 (some 104) (.pointer (some ⟨go, 2, none⟩)) rfl hHeld ?_
  simp only [Act.put, pA, pB, pC]
  refine tH 5 (some 105) (.int .i64 n) rfl (fun w hw => by obtain ⟨hw0, hw1, hw2, hw3, hw4, hw5⟩ := hw; first | rfl | (go_simp; done) | (go_simp; rfl)) hHeld ?_
  simp only [Act.put, pA, pB, pC]
  refine tK 7 (some 107) (.pointer (some ⟨go, 2, none⟩)) rfl hHeld ?_
  simp only [Act.put, pA, pB, pC]
  refine tH 8 (some 108) (.int .i64 n) rfl (fun w hw => by obtain ⟨hw0, hw1, hw2, hw3, hw4, hw5⟩ := hw; first | rfl | (go_simp; done) | (go_simp; rfl)) hHeld ?_
  simp only [Act.put, pA, pB, pC]
  refine tH 9 (some 109) (.int .i64 nq) rfl (fun w hw => by go_simp; exact HQO.out) hHeld ?_
  simp only [Act.put, pA, pB, pC]
  refine rdH 6 rfl (fun K hK => ?_)
  go_simp
  refine (HL1.out _).mono ?_
  rintro e wn ⟨rfl, hw⟩
  obtain rfl := hw.symm
  clear hw
  try go_wp2_with fail
  refine hK.out _ _ (HC.out _ _ _ HVL.out) (fun hH => ?_)
  clear hK K hHeld
  have hHeld := hH
  clear hH
  refine rdH 10 rfl (fun K hK => ?_)
  go_simp
  refine (HL2.out _).mono ?_
  rintro e wn ⟨rfl, hw⟩
  obtain rfl := hw.symm
  clear hw
  try go_wp2_with fail
  refine hK.out _ _ (HC.out _ _ _ HVL.out) (fun hH => ?_)
  clear hK K hHeld
  have hHeld := hH
  clear hH
  refine rdH 11 rfl (fun K hK => ?_)
  go_simp
  refine (r_arm (i := 1) HVL.out rfl q1 q2).mono ?_
  rintro e wc2 ⟨rfl, h2, hb2⟩
  try go_wp2_with fail
  refine hK.out _ _ (HC.out _ _ _ h2) (fun hH => ?_)
  clear hK K hHeld
  have hHeld := hH
  clear hH
  have HB := hide (HVB.out.trans hb2)
  have H := hide h2
  clear h2 hb2 HVL HVB
  refine ⟨by kernel_rfl, ?_⟩
  refine NoPanic.normal ?_
  clear hHeld
  clear HC
  go_wp2
  go_ret
  exact ⟨rfl, ⟨(A.armed q1 q2), s0, s1, Lies.drop1 H.out, HX0.out, HX1.out⟩, HB.out⟩
set_option maxRecDepth 100000 in
set_option maxHeartbeats 40000000 in
theorem play3_1 {B : Nat} {w : World} {p r : Nat} {A : AD} {gb : Nat} {s0 s1 : PS} (h : Lies B w (PQ p r A A gb s0 s1 [])) (hx0 : xok s0) (hx1 : xok s1) (n : Int) (T : ByteArray) (ad : Option Addr) (fates : List FT) (cap : Nat) (hg : KGood B w [3, n] [T] ad fates) :
    Calls Tryz.prog 30 #[.pointer (some ⟨gb, 0, none⟩), .agg #[.int .i64 3, .bool true, .int .i64 n, .string T, .slice ad fates.length cap]] w fun e w' => e = .returned (.bool true) ∧ (∃ A' s0' s1', Lies B w' (PQ p r A' A' gb s0' s1' []) ∧ xok s0' ∧ xok s1') ∧ Below B w w' := by
  obtain ⟨go, hgo⟩ : ∃ g, w.heap.size = g := ⟨_, rfl⟩
  obtain ⟨w0, hw0⟩ : ∃ x, w.alloc (.cells #[.int .i64 3, .bool true, .int .i64 n, .string T, .slice ad fates.length cap] 59) = x := ⟨_, rfl⟩
  obtain ⟨h0, hb0⟩ := h.box _ _ w0 hw0 go hgo
  obtain ⟨opC, hop⟩ : ∃ x : Item, Item.block go (.cells #[.int .i64 3, .bool true, .int .i64 n, .string T, .slice ad fates.length cap] 59 (0, 0)) = x := ⟨_, rfl⟩
  have h0' : Lies B w0 (PQ p r A A gb s0 s1 [opC]) := by rw [← hop]; exact h0
  have HOK : Hid A.Ok := h.ok (i := 0) rfl
  have HC : Hid (∀ (W : World) (A1 A2 : AD), Lies B W (PQ p r A1 A2 gb s0 s1 [opC]) → W.cell? ⟨gb, 0, none⟩ = some (.pointer (some ⟨p, 0, none⟩)) ∧ W.cell? ⟨gb, 1, none⟩ = some (.pointer (some ⟨r, 0, none⟩)) ∧ W.cell? ⟨go, 1, none⟩ = some (.bool true) ∧ W.cell? ⟨go, 2, none⟩ = some (.int .i64 n) ∧ W.cell? ⟨go, 3, none⟩ = some (.string T) ∧ W.cell? ⟨go, 4, none⟩ = some (.slice ad fates.length cap)) := fun W A1 A2 h => by
    rw [← hop] at h
    have hc := block_at (q := 7) h rfl
    obtain ⟨y0, y1⟩ := PQ.ptrs h
    refine ⟨y0, y1, ?_, ?_, ?_, ?_⟩
    · rw [cell_of_row W go 1 _ _ (0, 0) hc]; rfl
    · rw [cell_of_row W go 2 _ _ (0, 0) hc]; rfl
    · rw [cell_of_row W go 3 _ _ (0, 0) hc]; rfl
    · rw [cell_of_row W go 4 _ _ (0, 0) hc]; rfl
  have z0 : w0.cell? ⟨go, 0, none⟩ = some (.int .i64 3) := by
    rw [← hop] at h0'
    have hc := block_at (q := 7) h0' rfl
    rw [cell_of_row w0 go 0 _ _ (0, 0) hc]; rfl
  have z1 := (HC.out _ _ _ h0').2.2.1
  have H := hide h0'
  have HB := hide hb0
  have HX0 := hide hx0
  have HX1 := hide hx1
  have HG := hide hg
  have hr1 := least_rng (n := n) (m := 8) (by decide)
  obtain ⟨q1, hq1⟩ : ∃ q, leastI n 8 = q := ⟨_, rfl⟩
  rw [hq1] at hr1
  have HL1 : Hid (∀ w : World, Calls Tryz.prog 15 #[.int .i64 n, .int .i64 8] w fun e w' => e = .returned (.int .i64 q1) ∧ w' = w) := fun w => by rw [← hq1]; exact least_any n 8 (by decide) w
  have HQR : Hid (-9223372036854775808 ≤ q1 ∧ q1 < 9223372036854775808) := ⟨by omega, by omega⟩
  clear hq1 hr1
  obtain ⟨nq, hnq⟩ : ∃ q, IntKind.i64.wrap (n.tdiv 8) = q := ⟨_, rfl⟩
  have HQO := hide hnq
  obtain ⟨q2, hq2⟩ : ∃ q, leastI nq 3 = q := ⟨_, rfl⟩
  have HL2 : Hid (∀ w : World, Calls Tryz.prog 15 #[.int .i64 nq, .int .i64 3] w fun e w' => e = .returned (.int .i64 q2) ∧ w' = w) := fun w => by rw [← hq2]; exact least_any nq 3 (by decide) w
  clear hq2 hnq
  clear h h0 h0' hb0 hx0 hx1 hg hop
  go_enter Tryz.func30, Tryz.ntmps30
  go_wp2
  clear z0 z1
  obtain ⟨V1, hV⟩ : ∃ x, w0.drew = x := ⟨_, rfl⟩
  have hv0 := H.out.same (w' := w0.drew) (Nat.le_refl _) (fun _ _ _ => rfl)
  rw [hV] at hv0
  have HVB : Hid (Below B w V1) := by rw [← hV]; exact HB.out.drew
  have HVL := hide hv0
  have HS0 := hide (HC.out _ _ _ hv0)
  have HV := hide hV
  clear hv0 hV H HB
  try go_wp2
  refine wp_region_noPanic ?_
  refine wp_region_held_drew (S := fun wx => wx.cell? ⟨gb, 0, none⟩ = some (.pointer (some ⟨p, 0, none⟩)) ∧ wx.cell? ⟨gb, 1, none⟩ = some (.pointer (some ⟨r, 0, none⟩)) ∧ wx.cell? ⟨go, 1, none⟩ = some (.bool true) ∧ wx.cell? ⟨go, 2, none⟩ = some (.int .i64 n) ∧ wx.cell? ⟨go, 3, none⟩ = some (.string T) ∧ wx.cell? ⟨go, 4, none⟩ = some (.slice ad fates.length cap)) (by kernel_rfl) (by rw [HV.out]; exact HS0.out) (fun hHeld => ?_)
  rw [HV.out] at hHeld ⊢
  clear HV HS0
  refine tK 0 (some 88) (.pointer (some ⟨gb, 0, none⟩)) rfl hHeld ?_
  simp only [Act.put, pA, pB, pC]
  refine tK 1 (some 89) (.pointer (some ⟨gb, 0, none⟩)) rfl hHeld ?_
  simp only [Act.put, pA, pB, pC]
  refine tK 2 (some 90) (.pointer (some ⟨gb, 0, none⟩)) rfl hHeld ?_
  simp only [Act.put, pA, pB, pC]
  refine tH 3 (some 91) (.pointer (some ⟨p, 0, none⟩)) rfl (fun w hw => by obtain ⟨hw0, hw1, hw2, hw3, hw4, hw5⟩ := hw; first | rfl | (go_simp; done) | (go_simp; rfl)) hHeld ?_
  simp only [Act.put, pA, pB, pC]
  refine tK 4 (some 92) (.pointer (some ⟨go, 2, none⟩)) rfl hHeld ?_
  simp only [Act.put, pA, pB, pC]
  refine tH 5 (some 93) (.int .i64 n) rfl (fun w hw => by obtain ⟨hw0, hw1, hw2, hw3, hw4, hw5⟩ := hw; first | rfl | (go_simp; done) | (go_simp; rfl)) hHeld ?_
  simp only [Act.put, pA, pB, pC]
  refine tK 7 (some 95) (.pointer (some ⟨go, 2, none⟩)) rfl hHeld ?_
  simp only [Act.put, pA, pB, pC]
  refine tH 8 (some 96) (.int .i64 n) rfl (fun w hw => by obtain ⟨hw0, hw1, hw2, hw3, hw4, hw5⟩ := hw; first | rfl | (go_simp; done) | (go_simp; rfl)) hHeld ?_
  simp only [Act.put, pA, pB, pC]
  refine tH 9 (some 97) (.int .i64 nq) rfl (fun w hw => by go_simp; exact HQO.out) hHeld ?_
  simp only [Act.put, pA, pB, pC]
  refine rdH 6 rfl (fun K hK => ?_)
  go_simp
  refine (HL1.out _).mono ?_
  rintro e wn ⟨rfl, hw⟩
  obtain rfl := hw.symm
  clear hw
  try go_wp2_with fail
  refine hK.out _ _ (HC.out _ _ _ HVL.out) (fun hH => ?_)
  clear hK K hHeld
  have hHeld := hH
  clear hH
  refine rdH 10 rfl (fun K hK => ?_)
  go_simp
  refine (HL2.out _).mono ?_
  rintro e wn ⟨rfl, hw⟩
  obtain rfl := hw.symm
  clear hw
  try go_wp2_with fail
  refine hK.out _ _ (HC.out _ _ _ HVL.out) (fun hH => ?_)
  clear hK K hHeld
  have hHeld := hH
  clear hH
  refine rdH 11 rfl (fun K hK => ?_)
  go_simp
  refine (s_arm (i := 0) HVL.out rfl q1 q2 HQR.out).mono ?_
  rintro e wc1 ⟨rfl, h2, hb2⟩
  try go_wp2_with fail
  refine hK.out _ _ (HC.out _ _ _ h2) (fun hH => ?_)
  clear hK K hHeld
  have hHeld := hH
  clear hH
  have HB := hide (HVB.out.trans hb2)
  have H := hide h2
  clear h2 hb2 HVL HVB
  refine ⟨by kernel_rfl, ?_⟩
  refine NoPanic.normal ?_
  clear hHeld
  obtain ⟨V2, hV⟩ : ∃ x, wc1.drew = x := ⟨_, rfl⟩
  have hv0 := H.out.same (w' := wc1.drew) (Nat.le_refl _) (fun _ _ _ => rfl)
  rw [hV] at hv0
  have HVB : Hid (Below B w V2) := by rw [← hV]; exact HB.out.drew
  have HVL := hide hv0
  have HS0 := hide (HC.out _ _ _ hv0)
  have HV := hide hV
  clear hv0 hV H HB
  try go_wp2
  refine wp_region_noPanic ?_
  refine wp_region_held_drew (S := fun wx => wx.cell? ⟨gb, 0, none⟩ = some (.pointer (some ⟨p, 0, none⟩)) ∧ wx.cell? ⟨gb, 1, none⟩ = some (.pointer (some ⟨r, 0, none⟩)) ∧ wx.cell? ⟨go, 1, none⟩ = some (.bool true) ∧ wx.cell? ⟨go, 2, none⟩ = some (.int .i64 n) ∧ wx.cell? ⟨go, 3, none⟩ = some (.string T) ∧ wx.cell? ⟨go, 4, none⟩ = some (.slice ad fates.length cap)) (by kernel_rfl) (by rw [HV.out]; exact HS0.out) (fun hHeld => ?_)
  rw [HV.out] at hHeld ⊢
  clear HV HS0
  refine tK 0 (some 100) (.pointer (some ⟨gb, 0, none⟩)) rfl hHeld ?_
  simp only [Act.put, pA, pB, pC]
  refine tK 1 (some 101) (.pointer (some ⟨gb, 0, none⟩)) rfl hHeld ?_
  simp only [Act.put, pA, pB, pC]
  refine tK 2 (some 102) (.pointer (some ⟨gb, 1, none⟩)) rfl hHeld ?_
  simp only [Act.put, pA, pB, pC]
  refine tH 3 (some 103) (.pointer (some ⟨r, 0, none⟩)) rfl (fun w hw => by obtain ⟨hw0, hw1, hw2, hw3, hw4, hw5⟩ := hw; first | rfl | (go_simp; done) | (go_simp; rfl)) hHeld ?_
  simp only [Act.put, pA, pB, pC]
  refine tK 4 (some 104) (.pointer (some ⟨go, 2, none⟩)) rfl hHeld ?_
  simp only [Act.put, pA, pB, pC]
  refine tH 5 (some 105) (.int .i64 n) rfl (fun w hw => by obtain ⟨hw0, hw1, hw2, hw3, hw4, hw5⟩ := hw; first | rfl | (go_simp; done) | (go_simp; rfl)) hHeld ?_
  simp only [Act.put, pA, pB, pC]
  refine tK 7 (some 107) (.pointer (some ⟨go, 2, none⟩)) rfl hHeld ?_
  simp only [Act.put, pA, pB, pC]
  refine tH 8 (some 108) (.int .i64 n) rfl (fun w hw => by obtain ⟨hw0, hw1, hw2, hw3, hw4, hw5⟩ := hw; first | rfl | (go_simp; done) | (go_simp; rfl)) hHeld ?_
  simp only [Act.put, pA, pB, pC]
  refine tH 9 (some 109) (.int .i64 nq) rfl (fun w hw => by go_simp; exact HQO.out) hHeld ?_
  simp only [Act.put, pA, pB, pC]
  refine rdH 6 rfl (fun K hK => ?_)
  go_simp
  refine (HL1.out _).mono ?_
  rintro e wn ⟨rfl, hw⟩
  obtain rfl := hw.symm
  clear hw
  try go_wp2_with fail
  refine hK.out _ _ (HC.out _ _ _ HVL.out) (fun hH => ?_)
  clear hK K hHeld
  have hHeld := hH
  clear hH
  refine rdH 10 rfl (fun K hK => ?_)
  go_simp
  refine (HL2.out _).mono ?_
  rintro e wn ⟨rfl, hw⟩
  obtain rfl := hw.symm
  clear hw
  try go_wp2_with fail
  refine hK.out _ _ (HC.out _ _ _ HVL.out) (fun hH => ?_)
  clear hK K hHeld
  have hHeld := hH
  clear hH
  refine rdH 11 rfl (fun K hK => ?_)
  go_simp
  refine (r_arm (i := 1) HVL.out rfl q1 q2).mono ?_
  rintro e wc2 ⟨rfl, h2, hb2⟩
  try go_wp2_with fail
  refine hK.out _ _ (HC.out _ _ _ h2) (fun hH => ?_)
  clear hK K hHeld
  have hHeld := hH
  clear hH
  have HB := hide (HVB.out.trans hb2)
  have H := hide h2
  clear h2 hb2 HVL HVB
  refine ⟨by kernel_rfl, ?_⟩
  refine NoPanic.normal ?_
  clear hHeld
  clear HC
  go_wp2
  go_ret
  exact ⟨rfl, ⟨(A.armed q1 q2), s0, s1, Lies.drop1 H.out, HX0.out, HX1.out⟩, HB.out⟩
set_option maxRecDepth 100000 in
set_option maxHeartbeats 40000000 in
theorem play4_0 {B : Nat} {w : World} {p r : Nat} {A : AD} {gb : Nat} {s0 s1 : PS} (h : Lies B w (PQ p r A A gb s0 s1 [])) (hx0 : xok s0) (hx1 : xok s1) (n : Int) (T : ByteArray) (ad : Option Addr) (fates : List FT) (cap : Nat) (hg : KGood B w [4, n] [T] ad fates) :
    Calls Tryz.prog 30 #[.pointer (some ⟨gb, 0, none⟩), .agg #[.int .i64 4, .bool false, .int .i64 n, .string T, .slice ad fates.length cap]] w fun e w' => e = .returned (.bool true) ∧ (∃ A' s0' s1', Lies B w' (PQ p r A' A' gb s0' s1' []) ∧ xok s0' ∧ xok s1') ∧ Below B w w' := by
  obtain ⟨go, hgo⟩ : ∃ g, w.heap.size = g := ⟨_, rfl⟩
  obtain ⟨w0, hw0⟩ : ∃ x, w.alloc (.cells #[.int .i64 4, .bool false, .int .i64 n, .string T, .slice ad fates.length cap] 59) = x := ⟨_, rfl⟩
  obtain ⟨h0, hb0⟩ := h.box _ _ w0 hw0 go hgo
  obtain ⟨opC, hop⟩ : ∃ x : Item, Item.block go (.cells #[.int .i64 4, .bool false, .int .i64 n, .string T, .slice ad fates.length cap] 59 (0, 0)) = x := ⟨_, rfl⟩
  have h0' : Lies B w0 (PQ p r A A gb s0 s1 [opC]) := by rw [← hop]; exact h0
  have HOK : Hid A.Ok := h.ok (i := 0) rfl
  have HC : Hid (∀ (W : World) (A1 A2 : AD), Lies B W (PQ p r A1 A2 gb s0 s1 [opC]) → W.cell? ⟨gb, 0, none⟩ = some (.pointer (some ⟨p, 0, none⟩)) ∧ W.cell? ⟨gb, 1, none⟩ = some (.pointer (some ⟨r, 0, none⟩)) ∧ W.cell? ⟨go, 1, none⟩ = some (.bool false) ∧ W.cell? ⟨go, 2, none⟩ = some (.int .i64 n) ∧ W.cell? ⟨go, 3, none⟩ = some (.string T) ∧ W.cell? ⟨go, 4, none⟩ = some (.slice ad fates.length cap)) := fun W A1 A2 h => by
    rw [← hop] at h
    have hc := block_at (q := 7) h rfl
    obtain ⟨y0, y1⟩ := PQ.ptrs h
    refine ⟨y0, y1, ?_, ?_, ?_, ?_⟩
    · rw [cell_of_row W go 1 _ _ (0, 0) hc]; rfl
    · rw [cell_of_row W go 2 _ _ (0, 0) hc]; rfl
    · rw [cell_of_row W go 3 _ _ (0, 0) hc]; rfl
    · rw [cell_of_row W go 4 _ _ (0, 0) hc]; rfl
  have z0 : w0.cell? ⟨go, 0, none⟩ = some (.int .i64 4) := by
    rw [← hop] at h0'
    have hc := block_at (q := 7) h0' rfl
    rw [cell_of_row w0 go 0 _ _ (0, 0) hc]; rfl
  have z1 := (HC.out _ _ _ h0').2.2.1
  have H := hide h0'
  have HB := hide hb0
  have HX0 := hide hx0
  have HX1 := hide hx1
  have HG := hide hg
  have hr1 := least_rng (n := n) (m := 8) (by decide)
  obtain ⟨q1, hq1⟩ : ∃ q, leastI n 8 = q := ⟨_, rfl⟩
  rw [hq1] at hr1
  have HL1 : Hid (∀ w : World, Calls Tryz.prog 15 #[.int .i64 n, .int .i64 8] w fun e w' => e = .returned (.int .i64 q1) ∧ w' = w) := fun w => by rw [← hq1]; exact least_any n 8 (by decide) w
  have HQR : Hid (-9223372036854775808 ≤ q1 ∧ q1 < 9223372036854775808) := ⟨by omega, by omega⟩
  clear hq1 hr1
  clear h h0 h0' hb0 hx0 hx1 hg hop
  go_enter Tryz.func30, Tryz.ntmps30
  go_wp2
  clear z0 z1
  obtain ⟨V1, hV⟩ : ∃ x, w0.drew = x := ⟨_, rfl⟩
  have hv0 := H.out.same (w' := w0.drew) (Nat.le_refl _) (fun _ _ _ => rfl)
  rw [hV] at hv0
  have HVB : Hid (Below B w V1) := by rw [← hV]; exact HB.out.drew
  have HVL := hide hv0
  have HS0 := hide (HC.out _ _ _ hv0)
  have HV := hide hV
  clear hv0 hV H HB
  try go_wp2
  refine wp_region_noPanic ?_
  refine wp_region_held_drew (S := fun wx => wx.cell? ⟨gb, 0, none⟩ = some (.pointer (some ⟨p, 0, none⟩)) ∧ wx.cell? ⟨gb, 1, none⟩ = some (.pointer (some ⟨r, 0, none⟩)) ∧ wx.cell? ⟨go, 1, none⟩ = some (.bool false) ∧ wx.cell? ⟨go, 2, none⟩ = some (.int .i64 n) ∧ wx.cell? ⟨go, 3, none⟩ = some (.string T) ∧ wx.cell? ⟨go, 4, none⟩ = some (.slice ad fates.length cap)) (by kernel_rfl) (by rw [HV.out]; exact HS0.out) (fun hHeld => ?_)
  rw [HV.out] at hHeld ⊢
  clear HV HS0
  refine tK 0 (some 114) (.pointer (some ⟨gb, 0, none⟩)) rfl hHeld ?_
  simp only [Act.put, pA, pB, pC]
  refine tK 1 (some 115) (.pointer (some ⟨gb, 0, none⟩)) rfl hHeld ?_
  simp only [Act.put, pA, pB, pC]
  refine tK 2 (some 116) (.pointer (some ⟨gb, 0, none⟩)) rfl hHeld ?_
  simp only [Act.put, pA, pB, pC]
  refine tH 3 (some 117) (.pointer (some ⟨p, 0, none⟩)) rfl (fun w hw => by obtain ⟨hw0, hw1, hw2, hw3, hw4, hw5⟩ := hw; first | rfl | (go_simp; done) | (go_simp; rfl)) hHeld ?_
  simp only [Act.put, pA, pB, pC]
  refine tK 4 (some 118) (.pointer (some ⟨go, 2, none⟩)) rfl hHeld ?_
  simp only [Act.put, pA, pB, pC]
  refine tH 5 (some 119) (.int .i64 n) rfl (fun w hw => by obtain ⟨hw0, hw1, hw2, hw3, hw4, hw5⟩ := hw; first | rfl | (go_simp; done) | (go_simp; rfl)) hHeld ?_
  simp only [Act.put, pA, pB, pC]
  refine rdH 6 rfl (fun K hK => ?_)
  go_simp
  refine (HL1.out _).mono ?_
  rintro e wn ⟨rfl, hw⟩
  obtain rfl := hw.symm
  clear hw
  try go_wp2_with fail
  refine hK.out _ _ (HC.out _ _ _ HVL.out) (fun hH => ?_)
  clear hK K hHeld
  have hHeld := hH
  clear hH
  refine rdH 7 rfl (fun K hK => ?_)
  go_simp
  refine (s_fall (i := 0) HVL.out rfl q1 HQR.out).mono ?_
  rintro e wc1 ⟨rfl, h2, hb2⟩
  try go_wp2_with fail
  refine hK.out _ _ (HC.out _ _ _ h2) (fun hH => ?_)
  clear hK K hHeld
  have hHeld := hH
  clear hH
  have HB := hide (HVB.out.trans hb2)
  have H := hide h2
  clear h2 hb2 HVL HVB
  refine ⟨by kernel_rfl, ?_⟩
  refine NoPanic.normal ?_
  clear hHeld
  obtain ⟨V2, hV⟩ : ∃ x, wc1.drew = x := ⟨_, rfl⟩
  have hv0 := H.out.same (w' := wc1.drew) (Nat.le_refl _) (fun _ _ _ => rfl)
  rw [hV] at hv0
  have HVB : Hid (Below B w V2) := by rw [← hV]; exact HB.out.drew
  have HVL := hide hv0
  have HS0 := hide (HC.out _ _ _ hv0)
  have HV := hide hV
  clear hv0 hV H HB
  try go_wp2
  refine wp_region_noPanic ?_
  refine wp_region_held_drew (S := fun wx => wx.cell? ⟨gb, 0, none⟩ = some (.pointer (some ⟨p, 0, none⟩)) ∧ wx.cell? ⟨gb, 1, none⟩ = some (.pointer (some ⟨r, 0, none⟩)) ∧ wx.cell? ⟨go, 1, none⟩ = some (.bool false) ∧ wx.cell? ⟨go, 2, none⟩ = some (.int .i64 n) ∧ wx.cell? ⟨go, 3, none⟩ = some (.string T) ∧ wx.cell? ⟨go, 4, none⟩ = some (.slice ad fates.length cap)) (by kernel_rfl) (by rw [HV.out]; exact HS0.out) (fun hHeld => ?_)
  rw [HV.out] at hHeld ⊢
  clear HV HS0
  refine tK 0 (some 122) (.pointer (some ⟨gb, 0, none⟩)) rfl hHeld ?_
  simp only [Act.put, pA, pB, pC]
  refine tK 1 (some 123) (.pointer (some ⟨gb, 0, none⟩)) rfl hHeld ?_
  simp only [Act.put, pA, pB, pC]
  refine tK 2 (some 124) (.pointer (some ⟨gb, 1, none⟩)) rfl hHeld ?_
  simp only [Act.put, pA, pB, pC]
  refine tH 3 (some 125) (.pointer (some ⟨r, 0, none⟩)) rfl (fun w hw => by obtain ⟨hw0, hw1, hw2, hw3, hw4, hw5⟩ := hw; first | rfl | (go_simp; done) | (go_simp; rfl)) hHeld ?_
  simp only [Act.put, pA, pB, pC]
  refine tK 4 (some 126) (.pointer (some ⟨go, 2, none⟩)) rfl hHeld ?_
  simp only [Act.put, pA, pB, pC]
  refine tH 5 (some 127) (.int .i64 n) rfl (fun w hw => by obtain ⟨hw0, hw1, hw2, hw3, hw4, hw5⟩ := hw; first | rfl | (go_simp; done) | (go_simp; rfl)) hHeld ?_
  simp only [Act.put, pA, pB, pC]
  refine rdH 6 rfl (fun K hK => ?_)
  go_simp
  refine (HL1.out _).mono ?_
  rintro e wn ⟨rfl, hw⟩
  obtain rfl := hw.symm
  clear hw
  try go_wp2_with fail
  refine hK.out _ _ (HC.out _ _ _ HVL.out) (fun hH => ?_)
  clear hK K hHeld
  have hHeld := hH
  clear hH
  refine rdH 7 rfl (fun K hK => ?_)
  go_simp
  refine (r_fall (i := 1) HVL.out rfl q1).mono ?_
  rintro e wc2 ⟨rfl, h2, hb2⟩
  try go_wp2_with fail
  refine hK.out _ _ (HC.out _ _ _ h2) (fun hH => ?_)
  clear hK K hHeld
  have hHeld := hH
  clear hH
  have HB := hide (HVB.out.trans hb2)
  have H := hide h2
  clear h2 hb2 HVL HVB
  refine ⟨by kernel_rfl, ?_⟩
  refine NoPanic.normal ?_
  clear hHeld
  clear HC
  go_wp2
  go_ret
  exact ⟨rfl, ⟨(A.fallen q1), s0, s1, Lies.drop1 H.out, HX0.out, HX1.out⟩, HB.out⟩
set_option maxRecDepth 100000 in
set_option maxHeartbeats 40000000 in
theorem play4_1 {B : Nat} {w : World} {p r : Nat} {A : AD} {gb : Nat} {s0 s1 : PS} (h : Lies B w (PQ p r A A gb s0 s1 [])) (hx0 : xok s0) (hx1 : xok s1) (n : Int) (T : ByteArray) (ad : Option Addr) (fates : List FT) (cap : Nat) (hg : KGood B w [4, n] [T] ad fates) :
    Calls Tryz.prog 30 #[.pointer (some ⟨gb, 0, none⟩), .agg #[.int .i64 4, .bool true, .int .i64 n, .string T, .slice ad fates.length cap]] w fun e w' => e = .returned (.bool true) ∧ (∃ A' s0' s1', Lies B w' (PQ p r A' A' gb s0' s1' []) ∧ xok s0' ∧ xok s1') ∧ Below B w w' := by
  obtain ⟨go, hgo⟩ : ∃ g, w.heap.size = g := ⟨_, rfl⟩
  obtain ⟨w0, hw0⟩ : ∃ x, w.alloc (.cells #[.int .i64 4, .bool true, .int .i64 n, .string T, .slice ad fates.length cap] 59) = x := ⟨_, rfl⟩
  obtain ⟨h0, hb0⟩ := h.box _ _ w0 hw0 go hgo
  obtain ⟨opC, hop⟩ : ∃ x : Item, Item.block go (.cells #[.int .i64 4, .bool true, .int .i64 n, .string T, .slice ad fates.length cap] 59 (0, 0)) = x := ⟨_, rfl⟩
  have h0' : Lies B w0 (PQ p r A A gb s0 s1 [opC]) := by rw [← hop]; exact h0
  have HOK : Hid A.Ok := h.ok (i := 0) rfl
  have HC : Hid (∀ (W : World) (A1 A2 : AD), Lies B W (PQ p r A1 A2 gb s0 s1 [opC]) → W.cell? ⟨gb, 0, none⟩ = some (.pointer (some ⟨p, 0, none⟩)) ∧ W.cell? ⟨gb, 1, none⟩ = some (.pointer (some ⟨r, 0, none⟩)) ∧ W.cell? ⟨go, 1, none⟩ = some (.bool true) ∧ W.cell? ⟨go, 2, none⟩ = some (.int .i64 n) ∧ W.cell? ⟨go, 3, none⟩ = some (.string T) ∧ W.cell? ⟨go, 4, none⟩ = some (.slice ad fates.length cap)) := fun W A1 A2 h => by
    rw [← hop] at h
    have hc := block_at (q := 7) h rfl
    obtain ⟨y0, y1⟩ := PQ.ptrs h
    refine ⟨y0, y1, ?_, ?_, ?_, ?_⟩
    · rw [cell_of_row W go 1 _ _ (0, 0) hc]; rfl
    · rw [cell_of_row W go 2 _ _ (0, 0) hc]; rfl
    · rw [cell_of_row W go 3 _ _ (0, 0) hc]; rfl
    · rw [cell_of_row W go 4 _ _ (0, 0) hc]; rfl
  have z0 : w0.cell? ⟨go, 0, none⟩ = some (.int .i64 4) := by
    rw [← hop] at h0'
    have hc := block_at (q := 7) h0' rfl
    rw [cell_of_row w0 go 0 _ _ (0, 0) hc]; rfl
  have z1 := (HC.out _ _ _ h0').2.2.1
  have H := hide h0'
  have HB := hide hb0
  have HX0 := hide hx0
  have HX1 := hide hx1
  have HG := hide hg
  have hr1 := least_rng (n := n) (m := 8) (by decide)
  obtain ⟨q1, hq1⟩ : ∃ q, leastI n 8 = q := ⟨_, rfl⟩
  rw [hq1] at hr1
  have HL1 : Hid (∀ w : World, Calls Tryz.prog 15 #[.int .i64 n, .int .i64 8] w fun e w' => e = .returned (.int .i64 q1) ∧ w' = w) := fun w => by rw [← hq1]; exact least_any n 8 (by decide) w
  have HQR : Hid (-9223372036854775808 ≤ q1 ∧ q1 < 9223372036854775808) := ⟨by omega, by omega⟩
  clear hq1 hr1
  clear h h0 h0' hb0 hx0 hx1 hg hop
  go_enter Tryz.func30, Tryz.ntmps30
  go_wp2
  clear z0 z1
  obtain ⟨V1, hV⟩ : ∃ x, w0.drew = x := ⟨_, rfl⟩
  have hv0 := H.out.same (w' := w0.drew) (Nat.le_refl _) (fun _ _ _ => rfl)
  rw [hV] at hv0
  have HVB : Hid (Below B w V1) := by rw [← hV]; exact HB.out.drew
  have HVL := hide hv0
  have HS0 := hide (HC.out _ _ _ hv0)
  have HV := hide hV
  clear hv0 hV H HB
  try go_wp2
  refine wp_region_noPanic ?_
  refine wp_region_held_drew (S := fun wx => wx.cell? ⟨gb, 0, none⟩ = some (.pointer (some ⟨p, 0, none⟩)) ∧ wx.cell? ⟨gb, 1, none⟩ = some (.pointer (some ⟨r, 0, none⟩)) ∧ wx.cell? ⟨go, 1, none⟩ = some (.bool true) ∧ wx.cell? ⟨go, 2, none⟩ = some (.int .i64 n) ∧ wx.cell? ⟨go, 3, none⟩ = some (.string T) ∧ wx.cell? ⟨go, 4, none⟩ = some (.slice ad fates.length cap)) (by kernel_rfl) (by rw [HV.out]; exact HS0.out) (fun hHeld => ?_)
  rw [HV.out] at hHeld ⊢
  clear HV HS0
  refine tK 0 (some 114) (.pointer (some ⟨gb, 0, none⟩)) rfl hHeld ?_
  simp only [Act.put, pA, pB, pC]
  refine tK 1 (some 115) (.pointer (some ⟨gb, 0, none⟩)) rfl hHeld ?_
  simp only [Act.put, pA, pB, pC]
  refine tK 2 (some 116) (.pointer (some ⟨gb, 0, none⟩)) rfl hHeld ?_
  simp only [Act.put, pA, pB, pC]
  refine tH 3 (some 117) (.pointer (some ⟨p, 0, none⟩)) rfl (fun w hw => by obtain ⟨hw0, hw1, hw2, hw3, hw4, hw5⟩ := hw; first | rfl | (go_simp; done) | (go_simp; rfl)) hHeld ?_
  simp only [Act.put, pA, pB, pC]
  refine tK 4 (some 118) (.pointer (some ⟨go, 2, none⟩)) rfl hHeld ?_
  simp only [Act.put, pA, pB, pC]
  refine tH 5 (some 119) (.int .i64 n) rfl (fun w hw => by obtain ⟨hw0, hw1, hw2, hw3, hw4, hw5⟩ := hw; first | rfl | (go_simp; done) | (go_simp; rfl)) hHeld ?_
  simp only [Act.put, pA, pB, pC]
  refine rdH 6 rfl (fun K hK => ?_)
  go_simp
  refine (HL1.out _).mono ?_
  rintro e wn ⟨rfl, hw⟩
  obtain rfl := hw.symm
  clear hw
  try go_wp2_with fail
  refine hK.out _ _ (HC.out _ _ _ HVL.out) (fun hH => ?_)
  clear hK K hHeld
  have hHeld := hH
  clear hH
  refine rdH 7 rfl (fun K hK => ?_)
  go_simp
  refine (s_fall (i := 0) HVL.out rfl q1 HQR.out).mono ?_
  rintro e wc1 ⟨rfl, h2, hb2⟩
  try go_wp2_with fail
  refine hK.out _ _ (HC.out _ _ _ h2) (fun hH => ?_)
  clear hK K hHeld
  have hHeld := hH
  clear hH
  have HB := hide (HVB.out.trans hb2)
  have H := hide h2
  clear h2 hb2 HVL HVB
  refine ⟨by kernel_rfl, ?_⟩
  refine NoPanic.normal ?_
  clear hHeld
  obtain ⟨V2, hV⟩ : ∃ x, wc1.drew = x := ⟨_, rfl⟩
  have hv0 := H.out.same (w' := wc1.drew) (Nat.le_refl _) (fun _ _ _ => rfl)
  rw [hV] at hv0
  have HVB : Hid (Below B w V2) := by rw [← hV]; exact HB.out.drew
  have HVL := hide hv0
  have HS0 := hide (HC.out _ _ _ hv0)
  have HV := hide hV
  clear hv0 hV H HB
  try go_wp2
  refine wp_region_noPanic ?_
  refine wp_region_held_drew (S := fun wx => wx.cell? ⟨gb, 0, none⟩ = some (.pointer (some ⟨p, 0, none⟩)) ∧ wx.cell? ⟨gb, 1, none⟩ = some (.pointer (some ⟨r, 0, none⟩)) ∧ wx.cell? ⟨go, 1, none⟩ = some (.bool true) ∧ wx.cell? ⟨go, 2, none⟩ = some (.int .i64 n) ∧ wx.cell? ⟨go, 3, none⟩ = some (.string T) ∧ wx.cell? ⟨go, 4, none⟩ = some (.slice ad fates.length cap)) (by kernel_rfl) (by rw [HV.out]; exact HS0.out) (fun hHeld => ?_)
  rw [HV.out] at hHeld ⊢
  clear HV HS0
  refine tK 0 (some 122) (.pointer (some ⟨gb, 0, none⟩)) rfl hHeld ?_
  simp only [Act.put, pA, pB, pC]
  refine tK 1 (some 123) (.pointer (some ⟨gb, 0, none⟩)) rfl hHeld ?_
  simp only [Act.put, pA, pB, pC]
  refine tK 2 (some 124) (.pointer (some ⟨gb, 1, none⟩)) rfl hHeld ?_
  simp only [Act.put, pA, pB, pC]
  refine tH 3 (some 125) (.pointer (some ⟨r, 0, none⟩)) rfl (fun w hw => by obtain ⟨hw0, hw1, hw2, hw3, hw4, hw5⟩ := hw; first | rfl | (go_simp; done) | (go_simp; rfl)) hHeld ?_
  simp only [Act.put, pA, pB, pC]
  refine tK 4 (some 126) (.pointer (some ⟨go, 2, none⟩)) rfl hHeld ?_
  simp only [Act.put, pA, pB, pC]
  refine tH 5 (some 127) (.int .i64 n) rfl (fun w hw => by obtain ⟨hw0, hw1, hw2, hw3, hw4, hw5⟩ := hw; first | rfl | (go_simp; done) | (go_simp; rfl)) hHeld ?_
  simp only [Act.put, pA, pB, pC]
  refine rdH 6 rfl (fun K hK => ?_)
  go_simp
  refine (HL1.out _).mono ?_
  rintro e wn ⟨rfl, hw⟩
  obtain rfl := hw.symm
  clear hw
  try go_wp2_with fail
  refine hK.out _ _ (HC.out _ _ _ HVL.out) (fun hH => ?_)
  clear hK K hHeld
  have hHeld := hH
  clear hH
  refine rdH 7 rfl (fun K hK => ?_)
  go_simp
  refine (r_fall (i := 1) HVL.out rfl q1).mono ?_
  rintro e wc2 ⟨rfl, h2, hb2⟩
  try go_wp2_with fail
  refine hK.out _ _ (HC.out _ _ _ h2) (fun hH => ?_)
  clear hK K hHeld
  have hHeld := hH
  clear hH
  have HB := hide (HVB.out.trans hb2)
  have H := hide h2
  clear h2 hb2 HVL HVB
  refine ⟨by kernel_rfl, ?_⟩
  refine NoPanic.normal ?_
  clear hHeld
  clear HC
  go_wp2
  go_ret
  exact ⟨rfl, ⟨(A.fallen q1), s0, s1, Lies.drop1 H.out, HX0.out, HX1.out⟩, HB.out⟩
set_option maxRecDepth 100000 in
set_option maxHeartbeats 40000000 in
theorem play5_0 {B : Nat} {w : World} {p r : Nat} {A : AD} {gb : Nat} {s0 s1 : PS} (h : Lies B w (PQ p r A A gb s0 s1 [])) (hx0 : xok s0) (hx1 : xok s1) (n : Int) (T : ByteArray) (ad : Option Addr) (fates : List FT) (cap : Nat) (hg : KGood B w [5, n] [T] ad fates) :
    Calls Tryz.prog 30 #[.pointer (some ⟨gb, 0, none⟩), .agg #[.int .i64 5, .bool false, .int .i64 n, .string T, .slice ad fates.length cap]] w fun e w' => e = .returned (.bool true) ∧ (∃ A' s0' s1', Lies B w' (PQ p r A' A' gb s0' s1' []) ∧ xok s0' ∧ xok s1') ∧ Below B w w' := by
  obtain ⟨go, hgo⟩ : ∃ g, w.heap.size = g := ⟨_, rfl⟩
  obtain ⟨w0, hw0⟩ : ∃ x, w.alloc (.cells #[.int .i64 5, .bool false, .int .i64 n, .string T, .slice ad fates.length cap] 59) = x := ⟨_, rfl⟩
  obtain ⟨h0, hb0⟩ := h.box _ _ w0 hw0 go hgo
  obtain ⟨opC, hop⟩ : ∃ x : Item, Item.block go (.cells #[.int .i64 5, .bool false, .int .i64 n, .string T, .slice ad fates.length cap] 59 (0, 0)) = x := ⟨_, rfl⟩
  have h0' : Lies B w0 (PQ p r A A gb s0 s1 [opC]) := by rw [← hop]; exact h0
  have HOK : Hid A.Ok := h.ok (i := 0) rfl
  have HC : Hid (∀ (W : World) (A1 A2 : AD), Lies B W (PQ p r A1 A2 gb s0 s1 [opC]) → W.cell? ⟨gb, 0, none⟩ = some (.pointer (some ⟨p, 0, none⟩)) ∧ W.cell? ⟨gb, 1, none⟩ = some (.pointer (some ⟨r, 0, none⟩)) ∧ W.cell? ⟨go, 1, none⟩ = some (.bool false) ∧ W.cell? ⟨go, 2, none⟩ = some (.int .i64 n) ∧ W.cell? ⟨go, 3, none⟩ = some (.string T) ∧ W.cell? ⟨go, 4, none⟩ = some (.slice ad fates.length cap)) := fun W A1 A2 h => by
    rw [← hop] at h
    have hc := block_at (q := 7) h rfl
    obtain ⟨y0, y1⟩ := PQ.ptrs h
    refine ⟨y0, y1, ?_, ?_, ?_, ?_⟩
    · rw [cell_of_row W go 1 _ _ (0, 0) hc]; rfl
    · rw [cell_of_row W go 2 _ _ (0, 0) hc]; rfl
    · rw [cell_of_row W go 3 _ _ (0, 0) hc]; rfl
    · rw [cell_of_row W go 4 _ _ (0, 0) hc]; rfl
  have z0 : w0.cell? ⟨go, 0, none⟩ = some (.int .i64 5) := by
    rw [← hop] at h0'
    have hc := block_at (q := 7) h0' rfl
    rw [cell_of_row w0 go 0 _ _ (0, 0) hc]; rfl
  have z1 := (HC.out _ _ _ h0').2.2.1
  have H := hide h0'
  have HB := hide hb0
  have HX0 := hide hx0
  have HX1 := hide hx1
  have HG := hide hg
  clear h h0 h0' hb0 hx0 hx1 hg hop
  go_enter Tryz.func30, Tryz.ntmps30
  go_wp2
  clear z0 z1
  obtain ⟨V1, hV⟩ : ∃ x, w0.drew = x := ⟨_, rfl⟩
  have hv0 := H.out.same (w' := w0.drew) (Nat.le_refl _) (fun _ _ _ => rfl)
  rw [hV] at hv0
  have HVB : Hid (Below B w V1) := by rw [← hV]; exact HB.out.drew
  have HVL := hide hv0
  have HS0 := hide (HC.out _ _ _ hv0)
  have HV := hide hV
  clear hv0 hV H HB
  try go_wp2
  refine wp_region_noPanic ?_
  refine wp_region_held_drew (S := fun wx => wx.cell? ⟨gb, 0, none⟩ = some (.pointer (some ⟨p, 0, none⟩)) ∧ wx.cell? ⟨gb, 1, none⟩ = some (.pointer (some ⟨r, 0, none⟩)) ∧ wx.cell? ⟨go, 1, none⟩ = some (.bool false) ∧ wx.cell? ⟨go, 2, none⟩ = some (.int .i64 n) ∧ wx.cell? ⟨go, 3, none⟩ = some (.string T) ∧ wx.cell? ⟨go, 4, none⟩ = some (.slice ad fates.length cap)) (by kernel_rfl) (by rw [HV.out]; exact HS0.out) (fun hHeld => ?_)
  rw [HV.out] at hHeld ⊢
  clear HV HS0
  refine tK 0 (some 132) (.pointer (some ⟨gb, 0, none⟩)) rfl hHeld ?_
  simp only [Act.put, pA, pB, pC]
  refine tK 1 (some 133) (.pointer (some ⟨gb, 0, none⟩)) rfl hHeld ?_
  simp only [Act.put, pA, pB, pC]
  refine tK 2 (some 134) (.pointer (some ⟨gb, 0, none⟩)) rfl hHeld ?_
  simp only [Act.put, pA, pB, pC]
  refine tH 3 (some 135) (.pointer (some ⟨p, 0, none⟩)) rfl (fun w hw => by obtain ⟨hw0, hw1, hw2, hw3, hw4, hw5⟩ := hw; first | rfl | (go_simp; done) | (go_simp; rfl)) hHeld ?_
  simp only [Act.put, pA, pB, pC]
  refine tK 4 (some 136) (.pointer (some ⟨go, 4, none⟩)) rfl hHeld ?_
  simp only [Act.put, pA, pB, pC]
  refine tH 5 (some 137) (.slice ad fates.length cap) rfl (fun w hw => by obtain ⟨hw0, hw1, hw2, hw3, hw4, hw5⟩ := hw; first | rfl | (go_simp; done) | (go_simp; rfl)) hHeld ?_
  simp only [Act.put, pA, pB, pC]
  have hgk := (KGood.below HG.out HVB.out).fates
  refine rdH 6 rfl (fun K hK => ?_)
  go_simp
  refine (s_crash (i := 0) HVL.out rfl ad fates cap hgk.at_ hgk.ok (by have := hgk.sz; omega) hgk.lt).mono ?_
  rintro e wc1 ⟨rfl, h2, hb2⟩
  try go_wp2_with fail
  refine hK.out _ _ (HC.out _ _ _ h2) (fun hH => ?_)
  clear hK K hHeld
  have hHeld := hH
  clear hH
  have HB := hide (HVB.out.trans hb2)
  have H := hide h2
  clear h2 hb2 HVL HVB hgk
  refine ⟨by kernel_rfl, ?_⟩
  refine NoPanic.normal ?_
  clear hHeld
  obtain ⟨V2, hV⟩ : ∃ x, wc1.drew = x := ⟨_, rfl⟩
  have hv0 := H.out.same (w' := wc1.drew) (Nat.le_refl _) (fun _ _ _ => rfl)
  rw [hV] at hv0
  have HVB : Hid (Below B w V2) := by rw [← hV]; exact HB.out.drew
  have HVL := hide hv0
  have HS0 := hide (HC.out _ _ _ hv0)
  have HV := hide hV
  clear hv0 hV H HB
  try go_wp2
  refine wp_region_noPanic ?_
  refine wp_region_held_drew (S := fun wx => wx.cell? ⟨gb, 0, none⟩ = some (.pointer (some ⟨p, 0, none⟩)) ∧ wx.cell? ⟨gb, 1, none⟩ = some (.pointer (some ⟨r, 0, none⟩)) ∧ wx.cell? ⟨go, 1, none⟩ = some (.bool false) ∧ wx.cell? ⟨go, 2, none⟩ = some (.int .i64 n) ∧ wx.cell? ⟨go, 3, none⟩ = some (.string T) ∧ wx.cell? ⟨go, 4, none⟩ = some (.slice ad fates.length cap)) (by kernel_rfl) (by rw [HV.out]; exact HS0.out) (fun hHeld => ?_)
  rw [HV.out] at hHeld ⊢
  clear HV HS0
  refine tK 0 (some 139) (.pointer (some ⟨gb, 0, none⟩)) rfl hHeld ?_
  simp only [Act.put, pA, pB, pC]
  refine tK 1 (some 140) (.pointer (some ⟨gb, 0, none⟩)) rfl hHeld ?_
  simp only [Act.put, pA, pB, pC]
  refine tK 2 (some 141) (.pointer (some ⟨gb, 1, none⟩)) rfl hHeld ?_
  simp only [Act.put, pA, pB, pC]
  refine tH 3 (some 142) (.pointer (some ⟨r, 0, none⟩)) rfl (fun w hw => by obtain ⟨hw0, hw1, hw2, hw3, hw4, hw5⟩ := hw; first | rfl | (go_simp; done) | (go_simp; rfl)) hHeld ?_
  simp only [Act.put, pA, pB, pC]
  refine tK 4 (some 143) (.pointer (some ⟨go, 4, none⟩)) rfl hHeld ?_
  simp only [Act.put, pA, pB, pC]
  refine tH 5 (some 144) (.slice ad fates.length cap) rfl (fun w hw => by obtain ⟨hw0, hw1, hw2, hw3, hw4, hw5⟩ := hw; first | rfl | (go_simp; done) | (go_simp; rfl)) hHeld ?_
  simp only [Act.put, pA, pB, pC]
  have hgk := (KGood.below HG.out HVB.out).fates
  refine rdH 6 rfl (fun K hK => ?_)
  go_simp
  refine (r_crash (i := 1) HVL.out rfl HOK.out ad cap fates hgk.at_ (by have := hgk.sz; omega)).mono ?_
  rintro e wc2 ⟨rfl, h2, hb2⟩
  try go_wp2_with fail
  refine hK.out _ _ (HC.out _ _ _ h2) (fun hH => ?_)
  clear hK K hHeld
  have hHeld := hH
  clear hH
  have HB := hide (HVB.out.trans hb2)
  have H := hide h2
  clear h2 hb2 HVL HVB hgk
  refine ⟨by kernel_rfl, ?_⟩
  refine NoPanic.normal ?_
  clear hHeld
  have hc0 := PQ.ptrs H.out
  obtain ⟨y0, y1⟩ := hc0
  have hon := s_on (i := 0) H.out rfl
  have HOK2 : Hid (AD.Ok (A.crash (fates.map FT.abs))) := H.out.ok (i := 0) rfl
  clear H
  go_wp2_with fail
  refine hon.mono ?_
  rintro e wd1 ⟨rfl, h2, hb2⟩
  obtain ⟨y2, y3⟩ := PQ.ptrs h2
  have hon2 := r_on (i := 1) h2 rfl HOK2.out
  have HB1 := hide (HB.out.trans hb2)
  clear h2 hb2 hon HB
  go_wp2_with fail
  refine hon2.mono ?_
  rintro e wd2 ⟨rfl, h2, hb2⟩
  have HB := hide (HB1.out.trans hb2)
  have H := hide h2
  clear h2 hb2 hon2 HB1
  clear HC
  go_wp2
  go_ret
  exact ⟨rfl, ⟨((A.crash (fates.map FT.abs)).on), s0, s1, Lies.drop1 H.out, HX0.out, HX1.out⟩, HB.out⟩
set_option maxRecDepth 100000 in
set_option maxHeartbeats 40000000 in
theorem play5_1 {B : Nat} {w : World} {p r : Nat} {A : AD} {gb : Nat} {s0 s1 : PS} (h : Lies B w (PQ p r A A gb s0 s1 [])) (hx0 : xok s0) (hx1 : xok s1) (n : Int) (T : ByteArray) (ad : Option Addr) (fates : List FT) (cap : Nat) (hg : KGood B w [5, n] [T] ad fates) :
    Calls Tryz.prog 30 #[.pointer (some ⟨gb, 0, none⟩), .agg #[.int .i64 5, .bool true, .int .i64 n, .string T, .slice ad fates.length cap]] w fun e w' => e = .returned (.bool true) ∧ (∃ A' s0' s1', Lies B w' (PQ p r A' A' gb s0' s1' []) ∧ xok s0' ∧ xok s1') ∧ Below B w w' := by
  obtain ⟨go, hgo⟩ : ∃ g, w.heap.size = g := ⟨_, rfl⟩
  obtain ⟨w0, hw0⟩ : ∃ x, w.alloc (.cells #[.int .i64 5, .bool true, .int .i64 n, .string T, .slice ad fates.length cap] 59) = x := ⟨_, rfl⟩
  obtain ⟨h0, hb0⟩ := h.box _ _ w0 hw0 go hgo
  obtain ⟨opC, hop⟩ : ∃ x : Item, Item.block go (.cells #[.int .i64 5, .bool true, .int .i64 n, .string T, .slice ad fates.length cap] 59 (0, 0)) = x := ⟨_, rfl⟩
  have h0' : Lies B w0 (PQ p r A A gb s0 s1 [opC]) := by rw [← hop]; exact h0
  have HOK : Hid A.Ok := h.ok (i := 0) rfl
  have HC : Hid (∀ (W : World) (A1 A2 : AD), Lies B W (PQ p r A1 A2 gb s0 s1 [opC]) → W.cell? ⟨gb, 0, none⟩ = some (.pointer (some ⟨p, 0, none⟩)) ∧ W.cell? ⟨gb, 1, none⟩ = some (.pointer (some ⟨r, 0, none⟩)) ∧ W.cell? ⟨go, 1, none⟩ = some (.bool true) ∧ W.cell? ⟨go, 2, none⟩ = some (.int .i64 n) ∧ W.cell? ⟨go, 3, none⟩ = some (.string T) ∧ W.cell? ⟨go, 4, none⟩ = some (.slice ad fates.length cap)) := fun W A1 A2 h => by
    rw [← hop] at h
    have hc := block_at (q := 7) h rfl
    obtain ⟨y0, y1⟩ := PQ.ptrs h
    refine ⟨y0, y1, ?_, ?_, ?_, ?_⟩
    · rw [cell_of_row W go 1 _ _ (0, 0) hc]; rfl
    · rw [cell_of_row W go 2 _ _ (0, 0) hc]; rfl
    · rw [cell_of_row W go 3 _ _ (0, 0) hc]; rfl
    · rw [cell_of_row W go 4 _ _ (0, 0) hc]; rfl
  have z0 : w0.cell? ⟨go, 0, none⟩ = some (.int .i64 5) := by
    rw [← hop] at h0'
    have hc := block_at (q := 7) h0' rfl
    rw [cell_of_row w0 go 0 _ _ (0, 0) hc]; rfl
  have z1 := (HC.out _ _ _ h0').2.2.1
  have H := hide h0'
  have HB := hide hb0
  have HX0 := hide hx0
  have HX1 := hide hx1
  have HG := hide hg
  clear h h0 h0' hb0 hx0 hx1 hg hop
  go_enter Tryz.func30, Tryz.ntmps30
  go_wp2
  clear z0 z1
  obtain ⟨V1, hV⟩ : ∃ x, w0.drew = x := ⟨_, rfl⟩
  have hv0 := H.out.same (w' := w0.drew) (Nat.le_refl _) (fun _ _ _ => rfl)
  rw [hV] at hv0
  have HVB : Hid (Below B w V1) := by rw [← hV]; exact HB.out.drew
  have HVL := hide hv0
  have HS0 := hide (HC.out _ _ _ hv0)
  have HV := hide hV
  clear hv0 hV H HB
  try go_wp2
  refine wp_region_noPanic ?_
  refine wp_region_held_drew (S := fun wx => wx.cell? ⟨gb, 0, none⟩ = some (.pointer (some ⟨p, 0, none⟩)) ∧ wx.cell? ⟨gb, 1, none⟩ = some (.pointer (some ⟨r, 0, none⟩)) ∧ wx.cell? ⟨go, 1, none⟩ = some (.bool true) ∧ wx.cell? ⟨go, 2, none⟩ = some (.int .i64 n) ∧ wx.cell? ⟨go, 3, none⟩ = some (.string T) ∧ wx.cell? ⟨go, 4, none⟩ = some (.slice ad fates.length cap)) (by kernel_rfl) (by rw [HV.out]; exact HS0.out) (fun hHeld => ?_)
  rw [HV.out] at hHeld ⊢
  clear HV HS0
  refine tK 0 (some 132) (.pointer (some ⟨gb, 0, none⟩)) rfl hHeld ?_
  simp only [Act.put, pA, pB, pC]
  refine tK 1 (some 133) (.pointer (some ⟨gb, 0, none⟩)) rfl hHeld ?_
  simp only [Act.put, pA, pB, pC]
  refine tK 2 (some 134) (.pointer (some ⟨gb, 0, none⟩)) rfl hHeld ?_
  simp only [Act.put, pA, pB, pC]
  refine tH 3 (some 135) (.pointer (some ⟨p, 0, none⟩)) rfl (fun w hw => by obtain ⟨hw0, hw1, hw2, hw3, hw4, hw5⟩ := hw; first | rfl | (go_simp; done) | (go_simp; rfl)) hHeld ?_
  simp only [Act.put, pA, pB, pC]
  refine tK 4 (some 136) (.pointer (some ⟨go, 4, none⟩)) rfl hHeld ?_
  simp only [Act.put, pA, pB, pC]
  refine tH 5 (some 137) (.slice ad fates.length cap) rfl (fun w hw => by obtain ⟨hw0, hw1, hw2, hw3, hw4, hw5⟩ := hw; first | rfl | (go_simp; done) | (go_simp; rfl)) hHeld ?_
  simp only [Act.put, pA, pB, pC]
  have hgk := (KGood.below HG.out HVB.out).fates
  refine rdH 6 rfl (fun K hK => ?_)
  go_simp
  refine (s_crash (i := 0) HVL.out rfl ad fates cap hgk.at_ hgk.ok (by have := hgk.sz; omega) hgk.lt).mono ?_
  rintro e wc1 ⟨rfl, h2, hb2⟩
  try go_wp2_with fail
  refine hK.out _ _ (HC.out _ _ _ h2) (fun hH => ?_)
  clear hK K hHeld
  have hHeld := hH
  clear hH
  have HB := hide (HVB.out.trans hb2)
  have H := hide h2
  clear h2 hb2 HVL HVB hgk
  refine ⟨by kernel_rfl, ?_⟩
  refine NoPanic.normal ?_
  clear hHeld
  obtain ⟨V2, hV⟩ : ∃ x, wc1.drew = x := ⟨_, rfl⟩
  have hv0 := H.out.same (w' := wc1.drew) (Nat.le_refl _) (fun _ _ _ => rfl)
  rw [hV] at hv0
  have HVB : Hid (Below B w V2) := by rw [← hV]; exact HB.out.drew
  have HVL := hide hv0
  have HS0 := hide (HC.out _ _ _ hv0)
  have HV := hide hV
  clear hv0 hV H HB
  try go_wp2
  refine wp_region_noPanic ?_
  refine wp_region_held_drew (S := fun wx => wx.cell? ⟨gb, 0, none⟩ = some (.pointer (some ⟨p, 0, none⟩)) ∧ wx.cell? ⟨gb, 1, none⟩ = some (.pointer (some ⟨r, 0, none⟩)) ∧ wx.cell? ⟨go, 1, none⟩ = some (.bool true) ∧ wx.cell? ⟨go, 2, none⟩ = some (.int .i64 n) ∧ wx.cell? ⟨go, 3, none⟩ = some (.string T) ∧ wx.cell? ⟨go, 4, none⟩ = some (.slice ad fates.length cap)) (by kernel_rfl) (by rw [HV.out]; exact HS0.out) (fun hHeld => ?_)
  rw [HV.out] at hHeld ⊢
  clear HV HS0
  refine tK 0 (some 139) (.pointer (some ⟨gb, 0, none⟩)) rfl hHeld ?_
  simp only [Act.put, pA, pB, pC]
  refine tK 1 (some 140) (.pointer (some ⟨gb, 0, none⟩)) rfl hHeld ?_
  simp only [Act.put, pA, pB, pC]
  refine tK 2 (some 141) (.pointer (some ⟨gb, 1, none⟩)) rfl hHeld ?_
  simp only [Act.put, pA, pB, pC]
  refine tH 3 (some 142) (.pointer (some ⟨r, 0, none⟩)) rfl (fun w hw => by obtain ⟨hw0, hw1, hw2, hw3, hw4, hw5⟩ := hw; first | rfl | (go_simp; done) | (go_simp; rfl)) hHeld ?_
  simp only [Act.put, pA, pB, pC]
  refine tK 4 (some 143) (.pointer (some ⟨go, 4, none⟩)) rfl hHeld ?_
  simp only [Act.put, pA, pB, pC]
  refine tH 5 (some 144) (.slice ad fates.length cap) rfl (fun w hw => by obtain ⟨hw0, hw1, hw2, hw3, hw4, hw5⟩ := hw; first | rfl | (go_simp; done) | (go_simp; rfl)) hHeld ?_
  simp only [Act.put, pA, pB, pC]
  have hgk := (KGood.below HG.out HVB.out).fates
  refine rdH 6 rfl (fun K hK => ?_)
  go_simp
  refine (r_crash (i := 1) HVL.out rfl HOK.out ad cap fates hgk.at_ (by have := hgk.sz; omega)).mono ?_
  rintro e wc2 ⟨rfl, h2, hb2⟩
  try go_wp2_with fail
  refine hK.out _ _ (HC.out _ _ _ h2) (fun hH => ?_)
  clear hK K hHeld
  have hHeld := hH
  clear hH
  have HB := hide (HVB.out.trans hb2)
  have H := hide h2
  clear h2 hb2 HVL HVB hgk
  refine ⟨by kernel_rfl, ?_⟩
  refine NoPanic.normal ?_
  clear hHeld
  have hc0 := PQ.ptrs H.out
  obtain ⟨y0, y1⟩ := hc0
  have hon := s_on (i := 0) H.out rfl
  have HOK2 : Hid (AD.Ok (A.crash (fates.map FT.abs))) := H.out.ok (i := 0) rfl
  clear H
  go_wp2_with fail
  refine hon.mono ?_
  rintro e wd1 ⟨rfl, h2, hb2⟩
  obtain ⟨y2, y3⟩ := PQ.ptrs h2
  have hon2 := r_on (i := 1) h2 rfl HOK2.out
  have HB1 := hide (HB.out.trans hb2)
  clear h2 hb2 hon HB
  go_wp2_with fail
  refine hon2.mono ?_
  rintro e wd2 ⟨rfl, h2, hb2⟩
  have HB := hide (HB1.out.trans hb2)
  have H := hide h2
  clear h2 hb2 hon2 HB1
  clear HC
  go_wp2
  go_ret
  exact ⟨rfl, ⟨((A.crash (fates.map FT.abs)).on), s0, s1, Lies.drop1 H.out, HX0.out, HX1.out⟩, HB.out⟩
end Go.Proofs.YtlkimfmilccanaaGreat
