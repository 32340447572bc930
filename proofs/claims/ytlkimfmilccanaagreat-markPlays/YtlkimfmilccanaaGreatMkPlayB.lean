/-
  (*Both).plays, kind by kind (printed by gen_play.py).
-/
import Derived.Test.YtlkimfmilccanaaGreatMkPlayD
namespace Go.Proofs.YtlkimfmilccanaaGreat
open Go.RowKit Go.Maps Go.WideMaps
set_option linter.unusedVariables false
set_option linter.unusedSimpArgs false
set_option maxRecDepth 100000 in
set_option maxHeartbeats 40000000 in
theorem play6_0 {B : Nat} {w : World} {p r : Nat} {A : AD} {gb : Nat} {s0 s1 : PS} (h : Lies B w (PQ p r A A gb s0 s1 [])) (hx0 : xok s0) (hx1 : xok s1) (n : Int) (T : ByteArray) (ad : Option Addr) (fates : List FT) (cap : Nat) (hg : KGood B w [6, n] [T] ad fates) :
    Calls Tryz.prog 30 #[.pointer (some ⟨gb, 0, none⟩), .agg #[.int .i64 6, .bool false, .int .i64 n, .string T, .slice ad fates.length cap]] w fun e w' => e = .returned (.bool true) ∧ (∃ A' s0' s1', Lies B w' (PQ p r A' A' gb s0' s1' []) ∧ xok s0' ∧ xok s1') ∧ Below B w w' := by
  obtain ⟨go, hgo⟩ : ∃ g, w.heap.size = g := ⟨_, rfl⟩
  obtain ⟨w0, hw0⟩ : ∃ x, w.alloc (.cells #[.int .i64 6, .bool false, .int .i64 n, .string T, .slice ad fates.length cap] 59) = x := ⟨_, rfl⟩
  obtain ⟨h0, hb0⟩ := h.box _ _ w0 hw0 go hgo
  obtain ⟨opC, hop⟩ : ∃ x : Item, Item.block go (.cells #[.int .i64 6, .bool false, .int .i64 n, .string T, .slice ad fates.length cap] 59 (0, 0)) = x := ⟨_, rfl⟩
  have h0' : Lies B w0 (PQ p r A A gb s0 s1 [opC]) := by rw [← hop]; exact h0
  have HOK : Hid A.Ok := h.ok (i := 0) rfl
  have HC : Hid (∀ (W : World) (A1 A2 : AD), Lies B W (PQ p r A1 A2 gb s0 s1 [opC]) → W.cell? ⟨gb, 0, none⟩ = some (.pointer (some ⟨p, 0, none⟩)) ∧ W.cell? ⟨gb, 1, none⟩ = some (.pointer (some ⟨r, 0, none⟩)) ∧ W.cell? ⟨go, 1, none⟩ = some (.bool false) ∧ W.cell? ⟨go, 2, none⟩ = some (.int .i64 n) ∧ W.cell? ⟨go, 3, none⟩ = some (.string T) ∧ W.cell? ⟨go, 4, none⟩ = some (.slice ad fates.length cap)) := fun W A1 A2 h => by
    rw [← hop] at h
    have hc := block_at (q := 7) h rfl
    obtain ⟨y0, y1⟩ := PQ.ptrs h
    refine ⟨y0, y1, ?_, ?_, ?_, ?_⟩
    · rw [cell_of_row W go 1 _ _ (0, 0) hc]; rfl
    · rw [cell_of_row W go 2 _ _ (0, 0) hc]; rfl
    · rw [cell_of_row W go 3 _ _ (0, 0) hc]; rfl
    · rw [cell_of_row W go 4 _ _ (0, 0) hc]; rfl
  have z0 : w0.cell? ⟨go, 0, none⟩ = some (.int .i64 6) := by
    rw [← hop] at h0'
    have hc := block_at (q := 7) h0' rfl
    rw [cell_of_row w0 go 0 _ _ (0, 0) hc]; rfl
  have z1 := (HC.out _ _ _ h0').2.2.1
  have H := hide h0'
  have HB := hide hb0
  have HX0 := hide hx0
  have HX1 := hide hx1
  have HG := hide hg
  have hr1 := least_rng (n := n) (m := 160) (by decide)
  obtain ⟨q1, hq1⟩ : ∃ q, leastI n 160 = q := ⟨_, rfl⟩
  rw [hq1] at hr1
  have HL1 : Hid (∀ w : World, Calls Tryz.prog 15 #[.int .i64 n, .int .i64 160] w fun e w' => e = .returned (.int .i64 q1) ∧ w' = w) := fun w => by rw [← hq1]; exact least_any n 160 (by decide) w
  have HQR : Hid (-9223372036854775808 ≤ q1 ∧ q1 < 9223372036854775808) := ⟨by omega, by omega⟩
  clear hq1 hr1
  obtain ⟨nm, hnm⟩ : ∃ s, nameT false = s := ⟨_, rfl⟩
  have HNM : Hid (∀ w : World, Calls Tryz.prog 21 #[.bool false] w fun e w' => e = .returned (.string nm) ∧ w' = w) := fun w => by rw [← hnm]; exact name_any false w
  have znm : nm.size = 3 := by rw [← hnm]; rfl
  obtain ⟨nt, hnt⟩ : ∃ s, nm ++ (⟨#[46, 116, 109, 112]⟩ : ByteArray) = s := ⟨_, rfl⟩
  have HNT : Hid (∀ w : World, (Op.stringOp .add nm ⟨#[46, 116, 109, 112]⟩).run Tryz.prog w = .ok (.string nt) w) := fun w => k_add w _ _ nt hnt (by rw [znm]; decide)
  have znt : nt.size = 7 := by rw [← hnt, ByteArray.size_append, znm]; rfl
  have hzT : T.size ≤ 140737488355328 := by have := hg.strs T (by simp); omega
  obtain ⟨E, A', hE⟩ : ∃ E X, A.write nm.data.toList q1 T.data.toList = (E, X) := ⟨_, _, rfl⟩
  have HW : Hid (∀ W, Lies B W (PQ p r A A gb s0 s1 [opC]) → Calls Tryz.prog 18 #[.pointer (some ⟨p, 0, none⟩), .string nm, .int .i64 q1, .string T] W fun e w' => e = .returned (.int .i64 E) ∧ Lies B w' (PQ p r A' A gb s0 s1 [opC]) ∧ Below B W w') := fun W h => by
    have := s_write (i := 0) h rfl nm (by rw [znm]; decide) q1 HQR.out T hzT
    rw [hE] at this
    exact this
  have HQ : Hid (∀ W, Lies B W (PQ p r A' A gb s0 s1 [opC]) → Calls Tryz.prog 58 #[.pointer (some ⟨r, 0, none⟩), .string nm, .int .i64 q1, .string T] W fun e w' => e = .returned (.int .i64 E) ∧ Lies B w' (PQ p r A' A' gb s0 s1 [opC]) ∧ Below B W w') := fun W h => by
    have := r_write (i := 1) h rfl HOK.out nm (by rw [znm]; decide) q1 HQR.out T hzT
    rw [hE] at this
    exact this
  have HEE : Hid ((E == E) = true) := by show _ = _; simp
  clear hE znm znt hnm hnt
  clear h h0 h0' hb0 hx0 hx1 hg hop
  go_enter Tryz.func30, Tryz.ntmps30
  go_wp2
  clear z0 z1
  obtain ⟨V1, hV⟩ : ∃ x, w0.drew = x := ⟨_, rfl⟩
  have hv0 := H.out.same (w' := w0.drew) (Nat.le_refl _) (fun _ _ _ => rfl)
  rw [hV] at hv0
  have HVB : Hid (Below B w V1) := by rw [← hV]; exact HB.out.drew
  have HVL := hide hv0
  have HS0 := hide (HC.out _ _ _ hv0)
  have HV := hide hV
  clear hv0 hV H HB
  try go_wp2
  refine wp_region_noPanic ?_
  refine wp_region_held_drew (S := fun wx => wx.cell? ⟨gb, 0, none⟩ = some (.pointer (some ⟨p, 0, none⟩)) ∧ wx.cell? ⟨gb, 1, none⟩ = some (.pointer (some ⟨r, 0, none⟩)) ∧ wx.cell? ⟨go, 1, none⟩ = some (.bool false) ∧ wx.cell? ⟨go, 2, none⟩ = some (.int .i64 n) ∧ wx.cell? ⟨go, 3, none⟩ = some (.string T) ∧ wx.cell? ⟨go, 4, none⟩ = some (.slice ad fates.length cap)) (by kernel_rfl) (by rw [HV.out]; exact HS0.out) (fun hHeld => ?_)
  rw [HV.out] at hHeld ⊢
  clear HV HS0
  refine tK 0 (some 158) (.pointer (some ⟨gb, 0, none⟩)) rfl hHeld ?_
  simp only [Act.put, pA, pB, pC]
  refine tK 1 (some 159) (.pointer (some ⟨gb, 0, none⟩)) rfl hHeld ?_
  simp only [Act.put, pA, pB, pC]
  refine tK 2 (some 160) (.pointer (some ⟨gb, 0, none⟩)) rfl hHeld ?_
  simp only [Act.put, pA, pB, pC]
  refine tH 3 (some 161) (.pointer (some ⟨p, 0, none⟩)) rfl (fun w hw => by obtain ⟨hw0, hw1, hw2, hw3, hw4, hw5⟩ := hw; first | rfl | (go_simp; done) | (go_simp; rfl)) hHeld ?_
  simp only [Act.put, pA, pB, pC]
  refine tK 4 (some 162) (.pointer (some ⟨go, 1, none⟩)) rfl hHeld ?_
  simp only [Act.put, pA, pB, pC]
  refine tH 5 (some 163) (.bool false) rfl (fun w hw => by obtain ⟨hw0, hw1, hw2, hw3, hw4, hw5⟩ := hw; first | rfl | (go_simp; done) | (go_simp; rfl)) hHeld ?_
  simp only [Act.put, pA, pB, pC]
  refine tK 7 (some 165) (.pointer (some ⟨go, 2, none⟩)) rfl hHeld ?_
  simp only [Act.put, pA, pB, pC]
  refine tH 8 (some 166) (.int .i64 n) rfl (fun w hw => by obtain ⟨hw0, hw1, hw2, hw3, hw4, hw5⟩ := hw; first | rfl | (go_simp; done) | (go_simp; rfl)) hHeld ?_
  simp only [Act.put, pA, pB, pC]
  refine tK 10 (some 168) (.pointer (some ⟨go, 3, none⟩)) rfl hHeld ?_
  simp only [Act.put, pA, pB, pC]
  refine tH 11 (some 169) (.string T) rfl (fun w hw => by obtain ⟨hw0, hw1, hw2, hw3, hw4, hw5⟩ := hw; first | rfl | (go_simp; done) | (go_simp; rfl)) hHeld ?_
  simp only [Act.put, pA, pB, pC]
  refine rdH 6 rfl (fun K hK => ?_)
  go_simp
  refine (HNM.out _).mono ?_
  rintro e wn ⟨rfl, hw⟩
  obtain rfl := hw.symm
  clear hw
  try go_wp2_with fail
  refine hK.out _ _ (HC.out _ _ _ HVL.out) (fun hH => ?_)
  clear hK K hHeld
  have hHeld := hH
  clear hH
  refine rdH 9 rfl (fun K hK => ?_)
  go_simp
  refine (HL1.out _).mono ?_
  rintro e wn ⟨rfl, hw⟩
  obtain rfl := hw.symm
  clear hw
  try go_wp2_with fail
  refine hK.out _ _ (HC.out _ _ _ HVL.out) (fun hH => ?_)
  clear hK K hHeld
  have hHeld := hH
  clear hH
  refine rdH 12 rfl (fun K hK => ?_)
  go_simp
  refine (HW.out _ HVL.out).mono ?_
  rintro e wc1 ⟨rfl, h2, hb2⟩
  try go_wp2_with fail
  refine hK.out _ _ (HC.out _ _ _ h2) (fun hH => ?_)
  clear hK K hHeld
  have hHeld := hH
  clear hH
  have HB := hide (HVB.out.trans hb2)
  have H := hide h2
  clear h2 hb2 HVL HVB
  refine tK 13 (some 11) (.int .i64 E) rfl hHeld ?_
  simp only [Act.put, pA, pB, pC]
  refine ⟨by kernel_rfl, ?_⟩
  refine NoPanic.normal ?_
  clear hHeld
  obtain ⟨V2, hV⟩ : ∃ x, wc1.drew = x := ⟨_, rfl⟩
  have hv0 := H.out.same (w' := wc1.drew) (Nat.le_refl _) (fun _ _ _ => rfl)
  rw [hV] at hv0
  have HVB : Hid (Below B w V2) := by rw [← hV]; exact HB.out.drew
  have HVL := hide hv0
  have HS0 := hide (HC.out _ _ _ hv0)
  have HV := hide hV
  clear hv0 hV H HB
  try go_wp2
  refine wp_region_noPanic ?_
  refine wp_region_held_drew (S := fun wx => wx.cell? ⟨gb, 0, none⟩ = some (.pointer (some ⟨p, 0, none⟩)) ∧ wx.cell? ⟨gb, 1, none⟩ = some (.pointer (some ⟨r, 0, none⟩)) ∧ wx.cell? ⟨go, 1, none⟩ = some (.bool false) ∧ wx.cell? ⟨go, 2, none⟩ = some (.int .i64 n) ∧ wx.cell? ⟨go, 3, none⟩ = some (.string T) ∧ wx.cell? ⟨go, 4, none⟩ = some (.slice ad fates.length cap)) (by kernel_rfl) (by rw [HV.out]; exact HS0.out) (fun hHeld => ?_)
  rw [HV.out] at hHeld ⊢
  clear HV HS0
  refine tK 0 (some 171) (.int .i64 E) rfl hHeld ?_
  simp only [Act.put, pA, pB, pC]
  refine tK 1 (some 172) (.pointer (some ⟨gb, 0, none⟩)) rfl hHeld ?_
  simp only [Act.put, pA, pB, pC]
  refine tK 2 (some 173) (.pointer (some ⟨gb, 0, none⟩)) rfl hHeld ?_
  simp only [Act.put, pA, pB, pC]
  refine tK 3 (some 174) (.pointer (some ⟨gb, 1, none⟩)) rfl hHeld ?_
  simp only [Act.put, pA, pB, pC]
  refine tH 4 (some 175) (.pointer (some ⟨r, 0, none⟩)) rfl (fun w hw => by obtain ⟨hw0, hw1, hw2, hw3, hw4, hw5⟩ := hw; first | rfl | (go_simp; done) | (go_simp; rfl)) hHeld ?_
  simp only [Act.put, pA, pB, pC]
  refine tK 5 (some 176) (.pointer (some ⟨go, 1, none⟩)) rfl hHeld ?_
  simp only [Act.put, pA, pB, pC]
  refine tH 6 (some 177) (.bool false) rfl (fun w hw => by obtain ⟨hw0, hw1, hw2, hw3, hw4, hw5⟩ := hw; first | rfl | (go_simp; done) | (go_simp; rfl)) hHeld ?_
  simp only [Act.put, pA, pB, pC]
  refine tK 8 (some 179) (.pointer (some ⟨go, 2, none⟩)) rfl hHeld ?_
  simp only [Act.put, pA, pB, pC]
  refine tH 9 (some 180) (.int .i64 n) rfl (fun w hw => by obtain ⟨hw0, hw1, hw2, hw3, hw4, hw5⟩ := hw; first | rfl | (go_simp; done) | (go_simp; rfl)) hHeld ?_
  simp only [Act.put, pA, pB, pC]
  refine tK 11 (some 182) (.pointer (some ⟨go, 3, none⟩)) rfl hHeld ?_
  simp only [Act.put, pA, pB, pC]
  refine tH 12 (some 183) (.string T) rfl (fun w hw => by obtain ⟨hw0, hw1, hw2, hw3, hw4, hw5⟩ := hw; first | rfl | (go_simp; done) | (go_simp; rfl)) hHeld ?_
  simp only [Act.put, pA, pB, pC]
  refine rdH 7 rfl (fun K hK => ?_)
  go_simp
  refine (HNM.out _).mono ?_
  rintro e wn ⟨rfl, hw⟩
  obtain rfl := hw.symm
  clear hw
  try go_wp2_with fail
  refine hK.out _ _ (HC.out _ _ _ HVL.out) (fun hH => ?_)
  clear hK K hHeld
  have hHeld := hH
  clear hH
  refine rdH 10 rfl (fun K hK => ?_)
  go_simp
  refine (HL1.out _).mono ?_
  rintro e wn ⟨rfl, hw⟩
  obtain rfl := hw.symm
  clear hw
  try go_wp2_with fail
  refine hK.out _ _ (HC.out _ _ _ HVL.out) (fun hH => ?_)
  clear hK K hHeld
  have hHeld := hH
  clear hH
  refine rdH 13 rfl (fun K hK => ?_)
  go_simp
  refine (HQ.out _ HVL.out).mono ?_
  rintro e wc2 ⟨rfl, h2, hb2⟩
  try go_wp2_with fail
  refine hK.out _ _ (HC.out _ _ _ h2) (fun hH => ?_)
  clear hK K hHeld
  have hHeld := hH
  clear hH
  have HB := hide (HVB.out.trans hb2)
  have H := hide h2
  clear h2 hb2 HVL HVB
  refine tH 14 (some 185) (.bool true) rfl (fun w hw => by have := HEE.out; first | rfl | (go_simp; done) | (go_simp; rfl)) hHeld ?_
  simp only [Act.put, pA, pB, pC]
  refine tK 15 (some 4) (.bool true) rfl hHeld ?_
  simp only [Act.put, pA, pB, pC]
  refine ⟨by kernel_rfl, ?_⟩
  refine NoPanic.normal ?_
  clear hHeld
  clear HC
  go_wp2
  go_ret
  exact ⟨rfl, ⟨A', s0, s1, Lies.drop1 H.out, HX0.out, HX1.out⟩, HB.out⟩
set_option maxRecDepth 100000 in
set_option maxHeartbeats 40000000 in
theorem play6_1 {B : Nat} {w : World} {p r : Nat} {A : AD} {gb : Nat} {s0 s1 : PS} (h : Lies B w (PQ p r A A gb s0 s1 [])) (hx0 : xok s0) (hx1 : xok s1) (n : Int) (T : ByteArray) (ad : Option Addr) (fates : List FT) (cap : Nat) (hg : KGood B w [6, n] [T] ad fates) :
    Calls Tryz.prog 30 #[.pointer (some ⟨gb, 0, none⟩), .agg #[.int .i64 6, .bool true, .int .i64 n, .string T, .slice ad fates.length cap]] w fun e w' => e = .returned (.bool true) ∧ (∃ A' s0' s1', Lies B w' (PQ p r A' A' gb s0' s1' []) ∧ xok s0' ∧ xok s1') ∧ Below B w w' := by
  obtain ⟨go, hgo⟩ : ∃ g, w.heap.size = g := ⟨_, rfl⟩
  obtain ⟨w0, hw0⟩ : ∃ x, w.alloc (.cells #[.int .i64 6, .bool true, .int .i64 n, .string T, .slice ad fates.length cap] 59) = x := ⟨_, rfl⟩
  obtain ⟨h0, hb0⟩ := h.box _ _ w0 hw0 go hgo
  obtain ⟨opC, hop⟩ : ∃ x : Item, Item.block go (.cells #[.int .i64 6, .bool true, .int .i64 n, .string T, .slice ad fates.length cap] 59 (0, 0)) = x := ⟨_, rfl⟩
  have h0' : Lies B w0 (PQ p r A A gb s0 s1 [opC]) := by rw [← hop]; exact h0
  have HOK : Hid A.Ok := h.ok (i := 0) rfl
  have HC : Hid (∀ (W : World) (A1 A2 : AD), Lies B W (PQ p r A1 A2 gb s0 s1 [opC]) → W.cell? ⟨gb, 0, none⟩ = some (.pointer (some ⟨p, 0, none⟩)) ∧ W.cell? ⟨gb, 1, none⟩ = some (.pointer (some ⟨r, 0, none⟩)) ∧ W.cell? ⟨go, 1, none⟩ = some (.bool true) ∧ W.cell? ⟨go, 2, none⟩ = some (.int .i64 n) ∧ W.cell? ⟨go, 3, none⟩ = some (.string T) ∧ W.cell? ⟨go, 4, none⟩ = some (.slice ad fates.length cap)) := fun W A1 A2 h => by
    rw [← hop] at h
    have hc := block_at (q := 7) h rfl
    obtain ⟨y0, y1⟩ := PQ.ptrs h
    refine ⟨y0, y1, ?_, ?_, ?_, ?_⟩
    · rw [cell_of_row W go 1 _ _ (0, 0) hc]; rfl
    · rw [cell_of_row W go 2 _ _ (0, 0) hc]; rfl
    · rw [cell_of_row W go 3 _ _ (0, 0) hc]; rfl
    · rw [cell_of_row W go 4 _ _ (0, 0) hc]; rfl
  have z0 : w0.cell? ⟨go, 0, none⟩ = some (.int .i64 6) := by
    rw [← hop] at h0'
    have hc := block_at (q := 7) h0' rfl
    rw [cell_of_row w0 go 0 _ _ (0, 0) hc]; rfl
  have z1 := (HC.out _ _ _ h0').2.2.1
  have H := hide h0'
  have HB := hide hb0
  have HX0 := hide hx0
  have HX1 := hide hx1
  have HG := hide hg
  have hr1 := least_rng (n := n) (m := 160) (by decide)
  obtain ⟨q1, hq1⟩ : ∃ q, leastI n 160 = q := ⟨_, rfl⟩
  rw [hq1] at hr1
  have HL1 : Hid (∀ w : World, Calls Tryz.prog 15 #[.int .i64 n, .int .i64 160] w fun e w' => e = .returned (.int .i64 q1) ∧ w' = w) := fun w => by rw [← hq1]; exact least_any n 160 (by decide) w
  have HQR : Hid (-9223372036854775808 ≤ q1 ∧ q1 < 9223372036854775808) := ⟨by omega, by omega⟩
  clear hq1 hr1
  obtain ⟨nm, hnm⟩ : ∃ s, nameT true = s := ⟨_, rfl⟩
  have HNM : Hid (∀ w : World, Calls Tryz.prog 21 #[.bool true] w fun e w' => e = .returned (.string nm) ∧ w' = w) := fun w => by rw [← hnm]; exact name_any true w
  have znm : nm.size = 3 := by rw [← hnm]; rfl
  obtain ⟨nt, hnt⟩ : ∃ s, nm ++ (⟨#[46, 116, 109, 112]⟩ : ByteArray) = s := ⟨_, rfl⟩
  have HNT : Hid (∀ w : World, (Op.stringOp .add nm ⟨#[46, 116, 109, 112]⟩).run Tryz.prog w = .ok (.string nt) w) := fun w => k_add w _ _ nt hnt (by rw [znm]; decide)
  have znt : nt.size = 7 := by rw [← hnt, ByteArray.size_append, znm]; rfl
  have hzT : T.size ≤ 140737488355328 := by have := hg.strs T (by simp); omega
  obtain ⟨E, A', hE⟩ : ∃ E X, A.write nm.data.toList q1 T.data.toList = (E, X) := ⟨_, _, rfl⟩
  have HW : Hid (∀ W, Lies B W (PQ p r A A gb s0 s1 [opC]) → Calls Tryz.prog 18 #[.pointer (some ⟨p, 0, none⟩), .string nm, .int .i64 q1, .string T] W fun e w' => e = .returned (.int .i64 E) ∧ Lies B w' (PQ p r A' A gb s0 s1 [opC]) ∧ Below B W w') := fun W h => by
    have := s_write (i := 0) h rfl nm (by rw [znm]; decide) q1 HQR.out T hzT
    rw [hE] at this
    exact this
  have HQ : Hid (∀ W, Lies B W (PQ p r A' A gb s0 s1 [opC]) → Calls Tryz.prog 58 #[.pointer (some ⟨r, 0, none⟩), .string nm, .int .i64 q1, .string T] W fun e w' => e = .returned (.int .i64 E) ∧ Lies B w' (PQ p r A' A' gb s0 s1 [opC]) ∧ Below B W w') := fun W h => by
    have := r_write (i := 1) h rfl HOK.out nm (by rw [znm]; decide) q1 HQR.out T hzT
    rw [hE] at this
    exact this
  have HEE : Hid ((E == E) = true) := by show _ = _; simp
  clear hE znm znt hnm hnt
  clear h h0 h0' hb0 hx0 hx1 hg hop
  go_enter Tryz.func30, Tryz.ntmps30
  go_wp2
  clear z0 z1
  obtain ⟨V1, hV⟩ : ∃ x, w0.drew = x := ⟨_, rfl⟩
  have hv0 := H.out.same (w' := w0.drew) (Nat.le_refl _) (fun _ _ _ => rfl)
  rw [hV] at hv0
  have HVB : Hid (Below B w V1) := by rw [← hV]; exact HB.out.drew
  have HVL := hide hv0
  have HS0 := hide (HC.out _ _ _ hv0)
  have HV := hide hV
  clear hv0 hV H HB
  try go_wp2
  refine wp_region_noPanic ?_
  refine wp_region_held_drew (S := fun wx => wx.cell? ⟨gb, 0, none⟩ = some (.pointer (some ⟨p, 0, none⟩)) ∧ wx.cell? ⟨gb, 1, none⟩ = some (.pointer (some ⟨r, 0, none⟩)) ∧ wx.cell? ⟨go, 1, none⟩ = some (.bool true) ∧ wx.cell? ⟨go, 2, none⟩ = some (.int .i64 n) ∧ wx.cell? ⟨go, 3, none⟩ = some (.string T) ∧ wx.cell? ⟨go, 4, none⟩ = some (.slice ad fates.length cap)) (by kernel_rfl) (by rw [HV.out]; exact HS0.out) (fun hHeld => ?_)
  rw [HV.out] at hHeld ⊢
  clear HV HS0
  refine tK 0 (some 158) (.pointer (some ⟨gb, 0, none⟩)) rfl hHeld ?_
  simp only [Act.put, pA, pB, pC]
  refine tK 1 (some 159) (.pointer (some ⟨gb, 0, none⟩)) rfl hHeld ?_
  simp only [Act.put, pA, pB, pC]
  refine tK 2 (some 160) (.pointer (some ⟨gb, 0, none⟩)) rfl hHeld ?_
  simp only [Act.put, pA, pB, pC]
  refine tH 3 (some 161) (.pointer (some ⟨p, 0, none⟩)) rfl (fun w hw => by obtain ⟨hw0, hw1, hw2, hw3, hw4, hw5⟩ := hw; first | rfl | (go_simp; done) | (go_simp; rfl)) hHeld ?_
  simp only [Act.put, pA, pB, pC]
  refine tK 4 (some 162) (.pointer (some ⟨go, 1, none⟩)) rfl hHeld ?_
  simp only [Act.put, pA, pB, pC]
  refine tH 5 (some 163) (.bool true) rfl (fun w hw => by obtain ⟨hw0, hw1, hw2, hw3, hw4, hw5⟩ := hw; first | rfl | (go_simp; done) | (go_simp; rfl)) hHeld ?_
  simp only [Act.put, pA, pB, pC]
  refine tK 7 (some 165) (.pointer (some ⟨go, 2, none⟩)) rfl hHeld ?_
  simp only [Act.put, pA, pB, pC]
  refine tH 8 (some 166) (.int .i64 n) rfl (fun w hw => by obtain ⟨hw0, hw1, hw2, hw3, hw4, hw5⟩ := hw; first | rfl | (go_simp; done) | (go_simp; rfl)) hHeld ?_
  simp only [Act.put, pA, pB, pC]
  refine tK 10 (some 168) (.pointer (some ⟨go, 3, none⟩)) rfl hHeld ?_
  simp only [Act.put, pA, pB, pC]
  refine tH 11 (some 169) (.string T) rfl (fun w hw => by obtain ⟨hw0, hw1, hw2, hw3, hw4, hw5⟩ := hw; first | rfl | (go_simp; done) | (go_simp; rfl)) hHeld ?_
  simp only [Act.put, pA, pB, pC]
  refine rdH 6 rfl (fun K hK => ?_)
  go_simp
  refine (HNM.out _).mono ?_
  rintro e wn ⟨rfl, hw⟩
  obtain rfl := hw.symm
  clear hw
  try go_wp2_with fail
  refine hK.out _ _ (HC.out _ _ _ HVL.out) (fun hH => ?_)
  clear hK K hHeld
  have hHeld := hH
  clear hH
  refine rdH 9 rfl (fun K hK => ?_)
  go_simp
  refine (HL1.out _).mono ?_
  rintro e wn ⟨rfl, hw⟩
  obtain rfl := hw.symm
  clear hw
  try go_wp2_with fail
  refine hK.out _ _ (HC.out _ _ _ HVL.out) (fun hH => ?_)
  clear hK K hHeld
  have hHeld := hH
  clear hH
  refine rdH 12 rfl (fun K hK => ?_)
  go_simp
  refine (HW.out _ HVL.out).mono ?_
  rintro e wc1 ⟨rfl, h2, hb2⟩
  try go_wp2_with fail
  refine hK.out _ _ (HC.out _ _ _ h2) (fun hH => ?_)
  clear hK K hHeld
  have hHeld := hH
  clear hH
  have HB := hide (HVB.out.trans hb2)
  have H := hide h2
  clear h2 hb2 HVL HVB
  refine tK 13 (some 11) (.int .i64 E) rfl hHeld ?_
  simp only [Act.put, pA, pB, pC]
  refine ⟨by kernel_rfl, ?_⟩
  refine NoPanic.normal ?_
  clear hHeld
  obtain ⟨V2, hV⟩ : ∃ x, wc1.drew = x := ⟨_, rfl⟩
  have hv0 := H.out.same (w' := wc1.drew) (Nat.le_refl _) (fun _ _ _ => rfl)
  rw [hV] at hv0
  have HVB : Hid (Below B w V2) := by rw [← hV]; exact HB.out.drew
  have HVL := hide hv0
  have HS0 := hide (HC.out _ _ _ hv0)
  have HV := hide hV
  clear hv0 hV H HB
  try go_wp2
  refine wp_region_noPanic ?_
  refine wp_region_held_drew (S := fun wx => wx.cell? ⟨gb, 0, none⟩ = some (.pointer (some ⟨p, 0, none⟩)) ∧ wx.cell? ⟨gb, 1, none⟩ = some (.pointer (some ⟨r, 0, none⟩)) ∧ wx.cell? ⟨go, 1, none⟩ = some (.bool true) ∧ wx.cell? ⟨go, 2, none⟩ = some (.int .i64 n) ∧ wx.cell? ⟨go, 3, none⟩ = some (.string T) ∧ wx.cell? ⟨go, 4, none⟩ = some (.slice ad fates.length cap)) (by kernel_rfl) (by rw [HV.out]; exact HS0.out) (fun hHeld => ?_)
  rw [HV.out] at hHeld ⊢
  clear HV HS0
  refine tK 0 (some 171) (.int .i64 E) rfl hHeld ?_
  simp only [Act.put, pA, pB, pC]
  refine tK 1 (some 172) (.pointer (some ⟨gb, 0, none⟩)) rfl hHeld ?_
  simp only [Act.put, pA, pB, pC]
  refine tK 2 (some 173) (.pointer (some ⟨gb, 0, none⟩)) rfl hHeld ?_
  simp only [Act.put, pA, pB, pC]
  refine tK 3 (some 174) (.pointer (some ⟨gb, 1, none⟩)) rfl hHeld ?_
  simp only [Act.put, pA, pB, pC]
  refine tH 4 (some 175) (.pointer (some ⟨r, 0, none⟩)) rfl (fun w hw => by obtain ⟨hw0, hw1, hw2, hw3, hw4, hw5⟩ := hw; first | rfl | (go_simp; done) | (go_simp; rfl)) hHeld ?_
  simp only [Act.put, pA, pB, pC]
  refine tK 5 (some 176) (.pointer (some ⟨go, 1, none⟩)) rfl hHeld ?_
  simp only [Act.put, pA, pB, pC]
  refine tH 6 (some 177) (.bool true) rfl (fun w hw => by obtain ⟨hw0, hw1, hw2, hw3, hw4, hw5⟩ := hw; first | rfl | (go_simp; done) | (go_simp; rfl)) hHeld ?_
  simp only [Act.put, pA, pB, pC]
  refine tK 8 (some 179) (.pointer (some ⟨go, 2, none⟩)) rfl hHeld ?_
  simp only [Act.put, pA, pB, pC]
  refine tH 9 (some 180) (.int .i64 n) rfl (fun w hw => by obtain ⟨hw0, hw1, hw2, hw3, hw4, hw5⟩ := hw; first | rfl | (go_simp; done) | (go_simp; rfl)) hHeld ?_
  simp only [Act.put, pA, pB, pC]
  refine tK 11 (some 182) (.pointer (some ⟨go, 3, none⟩)) rfl hHeld ?_
  simp only [Act.put, pA, pB, pC]
  refine tH 12 (some 183) (.string T) rfl (fun w hw => by obtain ⟨hw0, hw1, hw2, hw3, hw4, hw5⟩ := hw; first | rfl | (go_simp; done) | (go_simp; rfl)) hHeld ?_
  simp only [Act.put, pA, pB, pC]
  refine rdH 7 rfl (fun K hK => ?_)
  go_simp
  refine (HNM.out _).mono ?_
  rintro e wn ⟨rfl, hw⟩
  obtain rfl := hw.symm
  clear hw
  try go_wp2_with fail
  refine hK.out _ _ (HC.out _ _ _ HVL.out) (fun hH => ?_)
  clear hK K hHeld
  have hHeld := hH
  clear hH
  refine rdH 10 rfl (fun K hK => ?_)
  go_simp
  refine (HL1.out _).mono ?_
  rintro e wn ⟨rfl, hw⟩
  obtain rfl := hw.symm
  clear hw
  try go_wp2_with fail
  refine hK.out _ _ (HC.out _ _ _ HVL.out) (fun hH => ?_)
  clear hK K hHeld
  have hHeld := hH
  clear hH
  refine rdH 13 rfl (fun K hK => ?_)
  go_simp
  refine (HQ.out _ HVL.out).mono ?_
  rintro e wc2 ⟨rfl, h2, hb2⟩
  try go_wp2_with fail
  refine hK.out _ _ (HC.out _ _ _ h2) (fun hH => ?_)
  clear hK K hHeld
  have hHeld := hH
  clear hH
  have HB := hide (HVB.out.trans hb2)
  have H := hide h2
  clear h2 hb2 HVL HVB
  refine tH 14 (some 185) (.bool true) rfl (fun w hw => by have := HEE.out; first | rfl | (go_simp; done) | (go_simp; rfl)) hHeld ?_
  simp only [Act.put, pA, pB, pC]
  refine tK 15 (some 4) (.bool true) rfl hHeld ?_
  simp only [Act.put, pA, pB, pC]
  refine ⟨by kernel_rfl, ?_⟩
  refine NoPanic.normal ?_
  clear hHeld
  clear HC
  go_wp2
  go_ret
  exact ⟨rfl, ⟨A', s0, s1, Lies.drop1 H.out, HX0.out, HX1.out⟩, HB.out⟩
set_option maxRecDepth 100000 in
set_option maxHeartbeats 40000000 in
theorem play7_0 {B : Nat} {w : World} {p r : Nat} {A : AD} {gb : Nat} {s0 s1 : PS} (h : Lies B w (PQ p r A A gb s0 s1 [])) (hx0 : xok s0) (hx1 : xok s1) (n : Int) (T : ByteArray) (ad : Option Addr) (fates : List FT) (cap : Nat) (hg : KGood B w [7, n] [T] ad fates) :
    Calls Tryz.prog 30 #[.pointer (some ⟨gb, 0, none⟩), .agg #[.int .i64 7, .bool false, .int .i64 n, .string T, .slice ad fates.length cap]] w fun e w' => e = .returned (.bool true) ∧ (∃ A' s0' s1', Lies B w' (PQ p r A' A' gb s0' s1' []) ∧ xok s0' ∧ xok s1') ∧ Below B w w' := by
  obtain ⟨go, hgo⟩ : ∃ g, w.heap.size = g := ⟨_, rfl⟩
  obtain ⟨w0, hw0⟩ : ∃ x, w.alloc (.cells #[.int .i64 7, .bool false, .int .i64 n, .string T, .slice ad fates.length cap] 59) = x := ⟨_, rfl⟩
  obtain ⟨h0, hb0⟩ := h.box _ _ w0 hw0 go hgo
  obtain ⟨opC, hop⟩ : ∃ x : Item, Item.block go (.cells #[.int .i64 7, .bool false, .int .i64 n, .string T, .slice ad fates.length cap] 59 (0, 0)) = x := ⟨_, rfl⟩
  have h0' : Lies B w0 (PQ p r A A gb s0 s1 [opC]) := by rw [← hop]; exact h0
  have HOK : Hid A.Ok := h.ok (i := 0) rfl
  have HC : Hid (∀ (W : World) (A1 A2 : AD), Lies B W (PQ p r A1 A2 gb s0 s1 [opC]) → W.cell? ⟨gb, 0, none⟩ = some (.pointer (some ⟨p, 0, none⟩)) ∧ W.cell? ⟨gb, 1, none⟩ = some (.pointer (some ⟨r, 0, none⟩)) ∧ W.cell? ⟨go, 1, none⟩ = some (.bool false) ∧ W.cell? ⟨go, 2, none⟩ = some (.int .i64 n) ∧ W.cell? ⟨go, 3, none⟩ = some (.string T) ∧ W.cell? ⟨go, 4, none⟩ = some (.slice ad fates.length cap)) := fun W A1 A2 h => by
    rw [← hop] at h
    have hc := block_at (q := 7) h rfl
    obtain ⟨y0, y1⟩ := PQ.ptrs h
    refine ⟨y0, y1, ?_, ?_, ?_, ?_⟩
    · rw [cell_of_row W go 1 _ _ (0, 0) hc]; rfl
    · rw [cell_of_row W go 2 _ _ (0, 0) hc]; rfl
    · rw [cell_of_row W go 3 _ _ (0, 0) hc]; rfl
    · rw [cell_of_row W go 4 _ _ (0, 0) hc]; rfl
  have z0 : w0.cell? ⟨go, 0, none⟩ = some (.int .i64 7) := by
    rw [← hop] at h0'
    have hc := block_at (q := 7) h0' rfl
    rw [cell_of_row w0 go 0 _ _ (0, 0) hc]; rfl
  have z1 := (HC.out _ _ _ h0').2.2.1
  have H := hide h0'
  have HB := hide hb0
  have HX0 := hide hx0
  have HX1 := hide hx1
  have HG := hide hg
  have hr1 := least_rng (n := n) (m := 160) (by decide)
  obtain ⟨q1, hq1⟩ : ∃ q, leastI n 160 = q := ⟨_, rfl⟩
  rw [hq1] at hr1
  have HL1 : Hid (∀ w : World, Calls Tryz.prog 15 #[.int .i64 n, .int .i64 160] w fun e w' => e = .returned (.int .i64 q1) ∧ w' = w) := fun w => by rw [← hq1]; exact least_any n 160 (by decide) w
  have HQR : Hid (-9223372036854775808 ≤ q1 ∧ q1 < 9223372036854775808) := ⟨by omega, by omega⟩
  clear hq1 hr1
  obtain ⟨nm, hnm⟩ : ∃ s, nameT false = s := ⟨_, rfl⟩
  have HNM : Hid (∀ w : World, Calls Tryz.prog 21 #[.bool false] w fun e w' => e = .returned (.string nm) ∧ w' = w) := fun w => by rw [← hnm]; exact name_any false w
  have znm : nm.size = 3 := by rw [← hnm]; rfl
  obtain ⟨nt, hnt⟩ : ∃ s, nm ++ (⟨#[46, 116, 109, 112]⟩ : ByteArray) = s := ⟨_, rfl⟩
  have HNT : Hid (∀ w : World, (Op.stringOp .add nm ⟨#[46, 116, 109, 112]⟩).run Tryz.prog w = .ok (.string nt) w) := fun w => k_add w _ _ nt hnt (by rw [znm]; decide)
  have znt : nt.size = 7 := by rw [← hnt, ByteArray.size_append, znm]; rfl
  have hzT : T.size ≤ 140737488355328 := by have := hg.strs T (by simp); omega
  obtain ⟨E, A', hE⟩ : ∃ E X, A.write nt.data.toList q1 T.data.toList = (E, X) := ⟨_, _, rfl⟩
  have HW : Hid (∀ W, Lies B W (PQ p r A A gb s0 s1 [opC]) → Calls Tryz.prog 18 #[.pointer (some ⟨p, 0, none⟩), .string nt, .int .i64 q1, .string T] W fun e w' => e = .returned (.int .i64 E) ∧ Lies B w' (PQ p r A' A gb s0 s1 [opC]) ∧ Below B W w') := fun W h => by
    have := s_write (i := 0) h rfl nt (by rw [znt]; decide) q1 HQR.out T hzT
    rw [hE] at this
    exact this
  have HQ : Hid (∀ W, Lies B W (PQ p r A' A gb s0 s1 [opC]) → Calls Tryz.prog 58 #[.pointer (some ⟨r, 0, none⟩), .string nt, .int .i64 q1, .string T] W fun e w' => e = .returned (.int .i64 E) ∧ Lies B w' (PQ p r A' A' gb s0 s1 [opC]) ∧ Below B W w') := fun W h => by
    have := r_write (i := 1) h rfl HOK.out nt (by rw [znt]; decide) q1 HQR.out T hzT
    rw [hE] at this
    exact this
  have HEE : Hid ((E == E) = true) := by show _ = _; simp
  clear hE znm znt hnm hnt
  clear h h0 h0' hb0 hx0 hx1 hg hop
  go_enter Tryz.func30, Tryz.ntmps30
  go_wp2
  clear z0 z1
  obtain ⟨V1, hV⟩ : ∃ x, w0.drew = x := ⟨_, rfl⟩
  have hv0 := H.out.same (w' := w0.drew) (Nat.le_refl _) (fun _ _ _ => rfl)
  rw [hV] at hv0
  have HVB : Hid (Below B w V1) := by rw [← hV]; exact HB.out.drew
  have HVL := hide hv0
  have HS0 := hide (HC.out _ _ _ hv0)
  have HV := hide hV
  clear hv0 hV H HB
  try go_wp2
  refine wp_region_noPanic ?_
  refine wp_region_held_drew (S := fun wx => wx.cell? ⟨gb, 0, none⟩ = some (.pointer (some ⟨p, 0, none⟩)) ∧ wx.cell? ⟨gb, 1, none⟩ = some (.pointer (some ⟨r, 0, none⟩)) ∧ wx.cell? ⟨go, 1, none⟩ = some (.bool false) ∧ wx.cell? ⟨go, 2, none⟩ = some (.int .i64 n) ∧ wx.cell? ⟨go, 3, none⟩ = some (.string T) ∧ wx.cell? ⟨go, 4, none⟩ = some (.slice ad fates.length cap)) (by kernel_rfl) (by rw [HV.out]; exact HS0.out) (fun hHeld => ?_)
  rw [HV.out] at hHeld ⊢
  clear HV HS0
  refine tK 0 (some 188) (.pointer (some ⟨gb, 0, none⟩)) rfl hHeld ?_
  simp only [Act.put, pA, pB, pC]
  refine tK 1 (some 189) (.pointer (some ⟨gb, 0, none⟩)) rfl hHeld ?_
  simp only [Act.put, pA, pB, pC]
  refine tK 2 (some 190) (.pointer (some ⟨gb, 0, none⟩)) rfl hHeld ?_
  simp only [Act.put, pA, pB, pC]
  refine tH 3 (some 191) (.pointer (some ⟨p, 0, none⟩)) rfl (fun w hw => by obtain ⟨hw0, hw1, hw2, hw3, hw4, hw5⟩ := hw; first | rfl | (go_simp; done) | (go_simp; rfl)) hHeld ?_
  simp only [Act.put, pA, pB, pC]
  refine tK 4 (some 192) (.pointer (some ⟨go, 1, none⟩)) rfl hHeld ?_
  simp only [Act.put, pA, pB, pC]
  refine tH 5 (some 193) (.bool false) rfl (fun w hw => by obtain ⟨hw0, hw1, hw2, hw3, hw4, hw5⟩ := hw; first | rfl | (go_simp; done) | (go_simp; rfl)) hHeld ?_
  simp only [Act.put, pA, pB, pC]
  refine tK 8 (some 196) (.pointer (some ⟨go, 2, none⟩)) rfl hHeld ?_
  simp only [Act.put, pA, pB, pC]
  refine tH 9 (some 197) (.int .i64 n) rfl (fun w hw => by obtain ⟨hw0, hw1, hw2, hw3, hw4, hw5⟩ := hw; first | rfl | (go_simp; done) | (go_simp; rfl)) hHeld ?_
  simp only [Act.put, pA, pB, pC]
  refine tK 11 (some 199) (.pointer (some ⟨go, 3, none⟩)) rfl hHeld ?_
  simp only [Act.put, pA, pB, pC]
  refine tH 12 (some 200) (.string T) rfl (fun w hw => by obtain ⟨hw0, hw1, hw2, hw3, hw4, hw5⟩ := hw; first | rfl | (go_simp; done) | (go_simp; rfl)) hHeld ?_
  simp only [Act.put, pA, pB, pC]
  refine rdH 6 rfl (fun K hK => ?_)
  go_simp
  refine (HNM.out _).mono ?_
  rintro e wn ⟨rfl, hw⟩
  obtain rfl := hw.symm
  clear hw
  try go_wp2_with fail
  refine hK.out _ _ (HC.out _ _ _ HVL.out) (fun hH => ?_)
  clear hK K hHeld
  have hHeld := hH
  clear hH
  refine tH 7 (some 195) (.string nt) rfl (fun w hw => by have := HNT.out w; first | rfl | (go_simp; done) | (go_simp; rfl)) hHeld ?_
  simp only [Act.put, pA, pB, pC]
  refine rdH 10 rfl (fun K hK => ?_)
  go_simp
  refine (HL1.out _).mono ?_
  rintro e wn ⟨rfl, hw⟩
  obtain rfl := hw.symm
  clear hw
  try go_wp2_with fail
  refine hK.out _ _ (HC.out _ _ _ HVL.out) (fun hH => ?_)
  clear hK K hHeld
  have hHeld := hH
  clear hH
  refine rdH 13 rfl (fun K hK => ?_)
  go_simp
  refine (HW.out _ HVL.out).mono ?_
  rintro e wc1 ⟨rfl, h2, hb2⟩
  try go_wp2_with fail
  refine hK.out _ _ (HC.out _ _ _ h2) (fun hH => ?_)
  clear hK K hHeld
  have hHeld := hH
  clear hH
  have HB := hide (HVB.out.trans hb2)
  have H := hide h2
  clear h2 hb2 HVL HVB
  refine tK 14 (some 12) (.int .i64 E) rfl hHeld ?_
  simp only [Act.put, pA, pB, pC]
  refine ⟨by kernel_rfl, ?_⟩
  refine NoPanic.normal ?_
  clear hHeld
  obtain ⟨V2, hV⟩ : ∃ x, wc1.drew = x := ⟨_, rfl⟩
  have hv0 := H.out.same (w' := wc1.drew) (Nat.le_refl _) (fun _ _ _ => rfl)
  rw [hV] at hv0
  have HVB : Hid (Below B w V2) := by rw [← hV]; exact HB.out.drew
  have HVL := hide hv0
  have HS0 := hide (HC.out _ _ _ hv0)
  have HV := hide hV
  clear hv0 hV H HB
  try go_wp2
  refine wp_region_noPanic ?_
  refine wp_region_held_drew (S := fun wx => wx.cell? ⟨gb, 0, none⟩ = some (.pointer (some ⟨p, 0, none⟩)) ∧ wx.cell? ⟨gb, 1, none⟩ = some (.pointer (some ⟨r, 0, none⟩)) ∧ wx.cell? ⟨go, 1, none⟩ = some (.bool false) ∧ wx.cell? ⟨go, 2, none⟩ = some (.int .i64 n) ∧ wx.cell? ⟨go, 3, none⟩ = some (.string T) ∧ wx.cell? ⟨go, 4, none⟩ = some (.slice ad fates.length cap)) (by kernel_rfl) (by rw [HV.out]; exact HS0.out) (fun hHeld => ?_)
  rw [HV.out] at hHeld ⊢
  clear HV HS0
  refine tK 0 (some 202) (.int .i64 E) rfl hHeld ?_
  simp only [Act.put, pA, pB, pC]
  refine tK 1 (some 203) (.pointer (some ⟨gb, 0, none⟩)) rfl hHeld ?_
  simp only [Act.put, pA, pB, pC]
  refine tK 2 (some 204) (.pointer (some ⟨gb, 0, none⟩)) rfl hHeld ?_
  simp only [Act.put, pA, pB, pC]
  refine tK 3 (some 205) (.pointer (some ⟨gb, 1, none⟩)) rfl hHeld ?_
  simp only [Act.put, pA, pB, pC]
  refine tH 4 (some 206) (.pointer (some ⟨r, 0, none⟩)) rfl (fun w hw => by obtain ⟨hw0, hw1, hw2, hw3, hw4, hw5⟩ := hw; first | rfl | (go_simp; done) | (go_simp; rfl)) hHeld ?_
  simp only [Act.put, pA, pB, pC]
  refine tK 5 (some 207) (.pointer (some ⟨go, 1, none⟩)) rfl hHeld ?_
  simp only [Act.put, pA, pB, pC]
  refine tH 6 (some 208) (.bool false) rfl (fun w hw => by obtain ⟨hw0, hw1, hw2, hw3, hw4, hw5⟩ := hw; first | rfl | (go_simp; done) | (go_simp; rfl)) hHeld ?_
  simp only [Act.put, pA, pB, pC]
  refine tK 9 (some 211) (.pointer (some ⟨go, 2, none⟩)) rfl hHeld ?_
  simp only [Act.put, pA, pB, pC]
  refine tH 10 (some 212) (.int .i64 n) rfl (fun w hw => by obtain ⟨hw0, hw1, hw2, hw3, hw4, hw5⟩ := hw; first | rfl | (go_simp; done) | (go_simp; rfl)) hHeld ?_
  simp only [Act.put, pA, pB, pC]
  refine tK 12 (some 214) (.pointer (some ⟨go, 3, none⟩)) rfl hHeld ?_
  simp only [Act.put, pA, pB, pC]
  refine tH 13 (some 215) (.string T) rfl (fun w hw => by obtain ⟨hw0, hw1, hw2, hw3, hw4, hw5⟩ := hw; first | rfl | (go_simp; done) | (go_simp; rfl)) hHeld ?_
  simp only [Act.put, pA, pB, pC]
  refine rdH 7 rfl (fun K hK => ?_)
  go_simp
  refine (HNM.out _).mono ?_
  rintro e wn ⟨rfl, hw⟩
  obtain rfl := hw.symm
  clear hw
  try go_wp2_with fail
  refine hK.out _ _ (HC.out _ _ _ HVL.out) (fun hH => ?_)
  clear hK K hHeld
  have hHeld := hH
  clear hH
  refine tH 8 (some 210) (.string nt) rfl (fun w hw => by have := HNT.out w; first | rfl | (go_simp; done) | (go_simp; rfl)) hHeld ?_
  simp only [Act.put, pA, pB, pC]
  refine rdH 11 rfl (fun K hK => ?_)
  go_simp
  refine (HL1.out _).mono ?_
  rintro e wn ⟨rfl, hw⟩
  obtain rfl := hw.symm
  clear hw
  try go_wp2_with fail
  refine hK.out _ _ (HC.out _ _ _ HVL.out) (fun hH => ?_)
  clear hK K hHeld
  have hHeld := hH
  clear hH
  refine rdH 14 rfl (fun K hK => ?_)
  go_simp
  refine (HQ.out _ HVL.out).mono ?_
  rintro e wc2 ⟨rfl, h2, hb2⟩
  try go_wp2_with fail
  refine hK.out _ _ (HC.out _ _ _ h2) (fun hH => ?_)
  clear hK K hHeld
  have hHeld := hH
  clear hH
  have HB := hide (HVB.out.trans hb2)
  have H := hide h2
  clear h2 hb2 HVL HVB
  refine tH 15 (some 217) (.bool true) rfl (fun w hw => by have := HEE.out; first | rfl | (go_simp; done) | (go_simp; rfl)) hHeld ?_
  simp only [Act.put, pA, pB, pC]
  refine tK 16 (some 4) (.bool true) rfl hHeld ?_
  simp only [Act.put, pA, pB, pC]
  refine ⟨by kernel_rfl, ?_⟩
  refine NoPanic.normal ?_
  clear hHeld
  clear HC
  go_wp2
  go_ret
  exact ⟨rfl, ⟨A', s0, s1, Lies.drop1 H.out, HX0.out, HX1.out⟩, HB.out⟩
set_option maxRecDepth 100000 in
set_option maxHeartbeats 40000000 in
theorem play7_1 {B : Nat} {w : World} {p r : Nat} {A : AD} {gb : Nat} {s0 s1 : PS} (h : Lies B w (PQ p r A A gb s0 s1 [])) (hx0 : xok s0) (hx1 : xok s1) (n : Int) (T : ByteArray) (ad : Option Addr) (fates : List FT) (cap : Nat) (hg : KGood B w [7, n] [T] ad fates) :
    Calls Tryz.prog 30 #[.pointer (some ⟨gb, 0, none⟩), .agg #[.int .i64 7, .bool true, .int .i64 n, .string T, .slice ad fates.length cap]] w fun e w' => e = .returned (.bool true) ∧ (∃ A' s0' s1', Lies B w' (PQ p r A' A' gb s0' s1' []) ∧ xok s0' ∧ xok s1') ∧ Below B w w' := by
  obtain ⟨go, hgo⟩ : ∃ g, w.heap.size = g := ⟨_, rfl⟩
  obtain ⟨w0, hw0⟩ : ∃ x, w.alloc (.cells #[.int .i64 7, .bool true, .int .i64 n, .string T, .slice ad fates.length cap] 59) = x := ⟨_, rfl⟩
  obtain ⟨h0, hb0⟩ := h.box _ _ w0 hw0 go hgo
  obtain ⟨opC, hop⟩ : ∃ x : Item, Item.block go (.cells #[.int .i64 7, .bool true, .int .i64 n, .string T, .slice ad fates.length cap] 59 (0, 0)) = x := ⟨_, rfl⟩
  have h0' : Lies B w0 (PQ p r A A gb s0 s1 [opC]) := by rw [← hop]; exact h0
  have HOK : Hid A.Ok := h.ok (i := 0) rfl
  have HC : Hid (∀ (W : World) (A1 A2 : AD), Lies B W (PQ p r A1 A2 gb s0 s1 [opC]) → W.cell? ⟨gb, 0, none⟩ = some (.pointer (some ⟨p, 0, none⟩)) ∧ W.cell? ⟨gb, 1, none⟩ = some (.pointer (some ⟨r, 0, none⟩)) ∧ W.cell? ⟨go, 1, none⟩ = some (.bool true) ∧ W.cell? ⟨go, 2, none⟩ = some (.int .i64 n) ∧ W.cell? ⟨go, 3, none⟩ = some (.string T) ∧ W.cell? ⟨go, 4, none⟩ = some (.slice ad fates.length cap)) := fun W A1 A2 h => by
    rw [← hop] at h
    have hc := block_at (q := 7) h rfl
    obtain ⟨y0, y1⟩ := PQ.ptrs h
    refine ⟨y0, y1, ?_, ?_, ?_, ?_⟩
    · rw [cell_of_row W go 1 _ _ (0, 0) hc]; rfl
    · rw [cell_of_row W go 2 _ _ (0, 0) hc]; rfl
    · rw [cell_of_row W go 3 _ _ (0, 0) hc]; rfl
    · rw [cell_of_row W go 4 _ _ (0, 0) hc]; rfl
  have z0 : w0.cell? ⟨go, 0, none⟩ = some (.int .i64 7) := by
    rw [← hop] at h0'
    have hc := block_at (q := 7) h0' rfl
    rw [cell_of_row w0 go 0 _ _ (0, 0) hc]; rfl
  have z1 := (HC.out _ _ _ h0').2.2.1
  have H := hide h0'
  have HB := hide hb0
  have HX0 := hide hx0
  have HX1 := hide hx1
  have HG := hide hg
  have hr1 := least_rng (n := n) (m := 160) (by decide)
  obtain ⟨q1, hq1⟩ : ∃ q, leastI n 160 = q := ⟨_, rfl⟩
  rw [hq1] at hr1
  have HL1 : Hid (∀ w : World, Calls Tryz.prog 15 #[.int .i64 n, .int .i64 160] w fun e w' => e = .returned (.int .i64 q1) ∧ w' = w) := fun w => by rw [← hq1]; exact least_any n 160 (by decide) w
  have HQR : Hid (-9223372036854775808 ≤ q1 ∧ q1 < 9223372036854775808) := ⟨by omega, by omega⟩
  clear hq1 hr1
  obtain ⟨nm, hnm⟩ : ∃ s, nameT true = s := ⟨_, rfl⟩
  have HNM : Hid (∀ w : World, Calls Tryz.prog 21 #[.bool true] w fun e w' => e = .returned (.string nm) ∧ w' = w) := fun w => by rw [← hnm]; exact name_any true w
  have znm : nm.size = 3 := by rw [← hnm]; rfl
  obtain ⟨nt, hnt⟩ : ∃ s, nm ++ (⟨#[46, 116, 109, 112]⟩ : ByteArray) = s := ⟨_, rfl⟩
  have HNT : Hid (∀ w : World, (Op.stringOp .add nm ⟨#[46, 116, 109, 112]⟩).run Tryz.prog w = .ok (.string nt) w) := fun w => k_add w _ _ nt hnt (by rw [znm]; decide)
  have znt : nt.size = 7 := by rw [← hnt, ByteArray.size_append, znm]; rfl
  have hzT : T.size ≤ 140737488355328 := by have := hg.strs T (by simp); omega
  obtain ⟨E, A', hE⟩ : ∃ E X, A.write nt.data.toList q1 T.data.toList = (E, X) := ⟨_, _, rfl⟩
  have HW : Hid (∀ W, Lies B W (PQ p r A A gb s0 s1 [opC]) → Calls Tryz.prog 18 #[.pointer (some ⟨p, 0, none⟩), .string nt, .int .i64 q1, .string T] W fun e w' => e = .returned (.int .i64 E) ∧ Lies B w' (PQ p r A' A gb s0 s1 [opC]) ∧ Below B W w') := fun W h => by
    have := s_write (i := 0) h rfl nt (by rw [znt]; decide) q1 HQR.out T hzT
    rw [hE] at this
    exact this
  have HQ : Hid (∀ W, Lies B W (PQ p r A' A gb s0 s1 [opC]) → Calls Tryz.prog 58 #[.pointer (some ⟨r, 0, none⟩), .string nt, .int .i64 q1, .string T] W fun e w' => e = .returned (.int .i64 E) ∧ Lies B w' (PQ p r A' A' gb s0 s1 [opC]) ∧ Below B W w') := fun W h => by
    have := r_write (i := 1) h rfl HOK.out nt (by rw [znt]; decide) q1 HQR.out T hzT
    rw [hE] at this
    exact this
  have HEE : Hid ((E == E) = true) := by show _ = _; simp
  clear hE znm znt hnm hnt
  clear h h0 h0' hb0 hx0 hx1 hg hop
  go_enter Tryz.func30, Tryz.ntmps30
  go_wp2
  clear z0 z1
  obtain ⟨V1, hV⟩ : ∃ x, w0.drew = x := ⟨_, rfl⟩
  have hv0 := H.out.same (w' := w0.drew) (Nat.le_refl _) (fun _ _ _ => rfl)
  rw [hV] at hv0
  have HVB : Hid (Below B w V1) := by rw [← hV]; exact HB.out.drew
  have HVL := hide hv0
  have HS0 := hide (HC.out _ _ _ hv0)
  have HV := hide hV
  clear hv0 hV H HB
  try go_wp2
  refine wp_region_noPanic ?_
  refine wp_region_held_drew (S := fun wx => wx.cell? ⟨gb, 0, none⟩ = some (.pointer (some ⟨p, 0, none⟩)) ∧ wx.cell? ⟨gb, 1, none⟩ = some (.pointer (some ⟨r, 0, none⟩)) ∧ wx.cell? ⟨go, 1, none⟩ = some (.bool true) ∧ wx.cell? ⟨go, 2, none⟩ = some (.int .i64 n) ∧ wx.cell? ⟨go, 3, none⟩ = some (.string T) ∧ wx.cell? ⟨go, 4, none⟩ = some (.slice ad fates.length cap)) (by kernel_rfl) (by rw [HV.out]; exact HS0.out) (fun hHeld => ?_)
  rw [HV.out] at hHeld ⊢
  clear HV HS0
  refine tK 0 (some 188) (.pointer (some ⟨gb, 0, none⟩)) rfl hHeld ?_
  simp only [Act.put, pA, pB, pC]
  refine tK 1 (some 189) (.pointer (some ⟨gb, 0, none⟩)) rfl hHeld ?_
  simp only [Act.put, pA, pB, pC]
  refine tK 2 (some 190) (.pointer (some ⟨gb, 0, none⟩)) rfl hHeld ?_
  simp only [Act.put, pA, pB, pC]
  refine tH 3 (some 191) (.pointer (some ⟨p, 0, none⟩)) rfl (fun w hw => by obtain ⟨hw0, hw1, hw2, hw3, hw4, hw5⟩ := hw; first | rfl | (go_simp; done) | (go_simp; rfl)) hHeld ?_
  simp only [Act.put, pA, pB, pC]
  refine tK 4 (some 192) (.pointer (some ⟨go, 1, none⟩)) rfl hHeld ?_
  simp only [Act.put, pA, pB, pC]
  refine tH 5 (some 193) (.bool true) rfl (fun w hw => by obtain ⟨hw0, hw1, hw2, hw3, hw4, hw5⟩ := hw; first | rfl | (go_simp; done) | (go_simp; rfl)) hHeld ?_
  simp only [Act.put, pA, pB, pC]
  refine tK 8 (some 196) (.pointer (some ⟨go, 2, none⟩)) rfl hHeld ?_
  simp only [Act.put, pA, pB, pC]
  refine tH 9 (some 197) (.int .i64 n) rfl (fun w hw => by obtain ⟨hw0, hw1, hw2, hw3, hw4, hw5⟩ := hw; first | rfl | (go_simp; done) | (go_simp; rfl)) hHeld ?_
  simp only [Act.put, pA, pB, pC]
  refine tK 11 (some 199) (.pointer (some ⟨go, 3, none⟩)) rfl hHeld ?_
  simp only [Act.put, pA, pB, pC]
  refine tH 12 (some 200) (.string T) rfl (fun w hw => by obtain ⟨hw0, hw1, hw2, hw3, hw4, hw5⟩ := hw; first | rfl | (go_simp; done) | (go_simp; rfl)) hHeld ?_
  simp only [Act.put, pA, pB, pC]
  refine rdH 6 rfl (fun K hK => ?_)
  go_simp
  refine (HNM.out _).mono ?_
  rintro e wn ⟨rfl, hw⟩
  obtain rfl := hw.symm
  clear hw
  try go_wp2_with fail
  refine hK.out _ _ (HC.out _ _ _ HVL.out) (fun hH => ?_)
  clear hK K hHeld
  have hHeld := hH
  clear hH
  refine tH 7 (some 195) (.string nt) rfl (fun w hw => by have := HNT.out w; first | rfl | (go_simp; done) | (go_simp; rfl)) hHeld ?_
  simp only [Act.put, pA, pB, pC]
  refine rdH 10 rfl (fun K hK => ?_)
  go_simp
  refine (HL1.out _).mono ?_
  rintro e wn ⟨rfl, hw⟩
  obtain rfl := hw.symm
  clear hw
  try go_wp2_with fail
  refine hK.out _ _ (HC.out _ _ _ HVL.out) (fun hH => ?_)
  clear hK K hHeld
  have hHeld := hH
  clear hH
  refine rdH 13 rfl (fun K hK => ?_)
  go_simp
  refine (HW.out _ HVL.out).mono ?_
  rintro e wc1 ⟨rfl, h2, hb2⟩
  try go_wp2_with fail
  refine hK.out _ _ (HC.out _ _ _ h2) (fun hH => ?_)
  clear hK K hHeld
  have hHeld := hH
  clear hH
  have HB := hide (HVB.out.trans hb2)
  have H := hide h2
  clear h2 hb2 HVL HVB
  refine tK 14 (some 12) (.int .i64 E) rfl hHeld ?_
  simp only [Act.put, pA, pB, pC]
  refine ⟨by kernel_rfl, ?_⟩
  refine NoPanic.normal ?_
  clear hHeld
  obtain ⟨V2, hV⟩ : ∃ x, wc1.drew = x := ⟨_, rfl⟩
  have hv0 := H.out.same (w' := wc1.drew) (Nat.le_refl _) (fun _ _ _ => rfl)
  rw [hV] at hv0
  have HVB : Hid (Below B w V2) := by rw [← hV]; exact HB.out.drew
  have HVL := hide hv0
  have HS0 := hide (HC.out _ _ _ hv0)
  have HV := hide hV
  clear hv0 hV H HB
  try go_wp2
  refine wp_region_noPanic ?_
  refine wp_region_held_drew (S := fun wx => wx.cell? ⟨gb, 0, none⟩ = some (.pointer (some ⟨p, 0, none⟩)) ∧ wx.cell? ⟨gb, 1, none⟩ = some (.pointer (some ⟨r, 0, none⟩)) ∧ wx.cell? ⟨go, 1, none⟩ = some (.bool true) ∧ wx.cell? ⟨go, 2, none⟩ = some (.int .i64 n) ∧ wx.cell? ⟨go, 3, none⟩ = some (.string T) ∧ wx.cell? ⟨go, 4, none⟩ = some (.slice ad fates.length cap)) (by kernel_rfl) (by rw [HV.out]; exact HS0.out) (fun hHeld => ?_)
  rw [HV.out] at hHeld ⊢
  clear HV HS0
  refine tK 0 (some 202) (.int .i64 E) rfl hHeld ?_
  simp only [Act.put, pA, pB, pC]
  refine tK 1 (some 203) (.pointer (some ⟨gb, 0, none⟩)) rfl hHeld ?_
  simp only [Act.put, pA, pB, pC]
  refine tK 2 (some 204) (.pointer (some ⟨gb, 0, none⟩)) rfl hHeld ?_
  simp only [Act.put, pA, pB, pC]
  refine tK 3 (some 205) (.pointer (some ⟨gb, 1, none⟩)) rfl hHeld ?_
  simp only [Act.put, pA, pB, pC]
  refine tH 4 (some 206) (.pointer (some ⟨r, 0, none⟩)) rfl (fun w hw => by obtain ⟨hw0, hw1, hw2, hw3, hw4, hw5⟩ := hw; first | rfl | (go_simp; done) | (go_simp; rfl)) hHeld ?_
  simp only [Act.put, pA, pB, pC]
  refine tK 5 (some 207) (.pointer (some ⟨go, 1, none⟩)) rfl hHeld ?_
  simp only [Act.put, pA, pB, pC]
  refine tH 6 (some 208) (.bool true) rfl (fun w hw => by obtain ⟨hw0, hw1, hw2, hw3, hw4, hw5⟩ := hw; first | rfl | (go_simp; done) | (go_simp; rfl)) hHeld ?_
  simp only [Act.put, pA, pB, pC]
  refine tK 9 (some 211) (.pointer (some ⟨go, 2, none⟩)) rfl hHeld ?_
  simp only [Act.put, pA, pB, pC]
  refine tH 10 (some 212) (.int .i64 n) rfl (fun w hw => by obtain ⟨hw0, hw1, hw2, hw3, hw4, hw5⟩ := hw; first | rfl | (go_simp; done) | (go_simp; rfl)) hHeld ?_
  simp only [Act.put, pA, pB, pC]
  refine tK 12 (some 214) (.pointer (some ⟨go, 3, none⟩)) rfl hHeld ?_
  simp only [Act.put, pA, pB, pC]
  refine tH 13 (some 215) (.string T) rfl (fun w hw => by obtain ⟨hw0, hw1, hw2, hw3, hw4, hw5⟩ := hw; first | rfl | (go_simp; done) | (go_simp; rfl)) hHeld ?_
  simp only [Act.put, pA, pB, pC]
  refine rdH 7 rfl (fun K hK => ?_)
  go_simp
  refine (HNM.out _).mono ?_
  rintro e wn ⟨rfl, hw⟩
  obtain rfl := hw.symm
  clear hw
  try go_wp2_with fail
  refine hK.out _ _ (HC.out _ _ _ HVL.out) (fun hH => ?_)
  clear hK K hHeld
  have hHeld := hH
  clear hH
  refine tH 8 (some 210) (.string nt) rfl (fun w hw => by have := HNT.out w; first | rfl | (go_simp; done) | (go_simp; rfl)) hHeld ?_
  simp only [Act.put, pA, pB, pC]
  refine rdH 11 rfl (fun K hK => ?_)
  go_simp
  refine (HL1.out _).mono ?_
  rintro e wn ⟨rfl, hw⟩
  obtain rfl := hw.symm
  clear hw
  try go_wp2_with fail
  refine hK.out _ _ (HC.out _ _ _ HVL.out) (fun hH => ?_)
  clear hK K hHeld
  have hHeld := hH
  clear hH
  refine rdH 14 rfl (fun K hK => ?_)
  go_simp
  refine (HQ.out _ HVL.out).mono ?_
  rintro e wc2 ⟨rfl, h2, hb2⟩
  try go_wp2_with fail
  refine hK.out _ _ (HC.out _ _ _ h2) (fun hH => ?_)
  clear hK K hHeld
  have hHeld := hH
  clear hH
  have HB := hide (HVB.out.trans hb2)
  have H := hide h2
  clear h2 hb2 HVL HVB
  refine tH 15 (some 217) (.bool true) rfl (fun w hw => by have := HEE.out; first | rfl | (go_simp; done) | (go_simp; rfl)) hHeld ?_
  simp only [Act.put, pA, pB, pC]
  refine tK 16 (some 4) (.bool true) rfl hHeld ?_
  simp only [Act.put, pA, pB, pC]
  refine ⟨by kernel_rfl, ?_⟩
  refine NoPanic.normal ?_
  clear hHeld
  clear HC
  go_wp2
  go_ret
  exact ⟨rfl, ⟨A', s0, s1, Lies.drop1 H.out, HX0.out, HX1.out⟩, HB.out⟩
set_option maxRecDepth 100000 in
set_option maxHeartbeats 40000000 in
theorem play8_0 {B : Nat} {w : World} {p r : Nat} {A : AD} {gb : Nat} {s0 s1 : PS} (h : Lies B w (PQ p r A A gb s0 s1 [])) (hx0 : xok s0) (hx1 : xok s1) (n : Int) (T : ByteArray) (ad : Option Addr) (fates : List FT) (cap : Nat) (hg : KGood B w [8, n] [T] ad fates) :
    Calls Tryz.prog 30 #[.pointer (some ⟨gb, 0, none⟩), .agg #[.int .i64 8, .bool false, .int .i64 n, .string T, .slice ad fates.length cap]] w fun e w' => e = .returned (.bool true) ∧ (∃ A' s0' s1', Lies B w' (PQ p r A' A' gb s0' s1' []) ∧ xok s0' ∧ xok s1') ∧ Below B w w' := by
  obtain ⟨go, hgo⟩ : ∃ g, w.heap.size = g := ⟨_, rfl⟩
  obtain ⟨w0, hw0⟩ : ∃ x, w.alloc (.cells #[.int .i64 8, .bool false, .int .i64 n, .string T, .slice ad fates.length cap] 59) = x := ⟨_, rfl⟩
  obtain ⟨h0, hb0⟩ := h.box _ _ w0 hw0 go hgo
  obtain ⟨opC, hop⟩ : ∃ x : Item, Item.block go (.cells #[.int .i64 8, .bool false, .int .i64 n, .string T, .slice ad fates.length cap] 59 (0, 0)) = x := ⟨_, rfl⟩
  have h0' : Lies B w0 (PQ p r A A gb s0 s1 [opC]) := by rw [← hop]; exact h0
  have HOK : Hid A.Ok := h.ok (i := 0) rfl
  have HC : Hid (∀ (W : World) (A1 A2 : AD), Lies B W (PQ p r A1 A2 gb s0 s1 [opC]) → W.cell? ⟨gb, 0, none⟩ = some (.pointer (some ⟨p, 0, none⟩)) ∧ W.cell? ⟨gb, 1, none⟩ = some (.pointer (some ⟨r, 0, none⟩)) ∧ W.cell? ⟨go, 1, none⟩ = some (.bool false) ∧ W.cell? ⟨go, 2, none⟩ = some (.int .i64 n) ∧ W.cell? ⟨go, 3, none⟩ = some (.string T) ∧ W.cell? ⟨go, 4, none⟩ = some (.slice ad fates.length cap)) := fun W A1 A2 h => by
    rw [← hop] at h
    have hc := block_at (q := 7) h rfl
    obtain ⟨y0, y1⟩ := PQ.ptrs h
    refine ⟨y0, y1, ?_, ?_, ?_, ?_⟩
    · rw [cell_of_row W go 1 _ _ (0, 0) hc]; rfl
    · rw [cell_of_row W go 2 _ _ (0, 0) hc]; rfl
    · rw [cell_of_row W go 3 _ _ (0, 0) hc]; rfl
    · rw [cell_of_row W go 4 _ _ (0, 0) hc]; rfl
  have z0 : w0.cell? ⟨go, 0, none⟩ = some (.int .i64 8) := by
    rw [← hop] at h0'
    have hc := block_at (q := 7) h0' rfl
    rw [cell_of_row w0 go 0 _ _ (0, 0) hc]; rfl
  have z1 := (HC.out _ _ _ h0').2.2.1
  have H := hide h0'
  have HB := hide hb0
  have HX0 := hide hx0
  have HX1 := hide hx1
  have HG := hide hg
  have hr1 := least_rng (n := n) (m := 160) (by decide)
  obtain ⟨q1, hq1⟩ : ∃ q, leastI n 160 = q := ⟨_, rfl⟩
  rw [hq1] at hr1
  have HL1 : Hid (∀ w : World, Calls Tryz.prog 15 #[.int .i64 n, .int .i64 160] w fun e w' => e = .returned (.int .i64 q1) ∧ w' = w) := fun w => by rw [← hq1]; exact least_any n 160 (by decide) w
  have HQR : Hid (-9223372036854775808 ≤ q1 ∧ q1 < 9223372036854775808) := ⟨by omega, by omega⟩
  clear hq1 hr1
  obtain ⟨nm, hnm⟩ : ∃ s, nameT false = s := ⟨_, rfl⟩
  have HNM : Hid (∀ w : World, Calls Tryz.prog 21 #[.bool false] w fun e w' => e = .returned (.string nm) ∧ w' = w) := fun w => by rw [← hnm]; exact name_any false w
  have znm : nm.size = 3 := by rw [← hnm]; rfl
  obtain ⟨nt, hnt⟩ : ∃ s, nm ++ (⟨#[46, 116, 109, 112]⟩ : ByteArray) = s := ⟨_, rfl⟩
  have HNT : Hid (∀ w : World, (Op.stringOp .add nm ⟨#[46, 116, 109, 112]⟩).run Tryz.prog w = .ok (.string nt) w) := fun w => k_add w _ _ nt hnt (by rw [znm]; decide)
  have znt : nt.size = 7 := by rw [← hnt, ByteArray.size_append, znm]; rfl
  obtain ⟨E, A', hE⟩ : ∃ E X, A.trunc nm.data.toList q1 = (E, X) := ⟨_, _, rfl⟩
  have HW : Hid (∀ W, Lies B W (PQ p r A A gb s0 s1 [opC]) → Calls Tryz.prog 59 #[.pointer (some ⟨p, 0, none⟩), .string nm, .int .i64 q1] W fun e w' => e = .returned (.int .i64 E) ∧ Lies B w' (PQ p r A' A gb s0 s1 [opC]) ∧ Below B W w') := fun W h => by
    have := s_trunc (i := 0) h rfl nm (by rw [znm]; decide) q1
    rw [hE] at this
    exact this
  have HQ : Hid (∀ W, Lies B W (PQ p r A' A gb s0 s1 [opC]) → Calls Tryz.prog 60 #[.pointer (some ⟨r, 0, none⟩), .string nm, .int .i64 q1] W fun e w' => e = .returned (.int .i64 E) ∧ Lies B w' (PQ p r A' A' gb s0 s1 [opC]) ∧ Below B W w') := fun W h => by
    have := r_trunc (i := 1) h rfl HOK.out nm q1
    rw [hE] at this
    exact this
  have HEE : Hid ((E == E) = true) := by show _ = _; simp
  clear hE znm znt hnm hnt
  clear h h0 h0' hb0 hx0 hx1 hg hop
  go_enter Tryz.func30, Tryz.ntmps30
  go_wp2
  clear z0 z1
  obtain ⟨V1, hV⟩ : ∃ x, w0.drew = x := ⟨_, rfl⟩
  have hv0 := H.out.same (w' := w0.drew) (Nat.le_refl _) (fun _ _ _ => rfl)
  rw [hV] at hv0
  have HVB : Hid (Below B w V1) := by rw [← hV]; exact HB.out.drew
  have HVL := hide hv0
  have HS0 := hide (HC.out _ _ _ hv0)
  have HV := hide hV
  clear hv0 hV H HB
  try go_wp2
  refine wp_region_noPanic ?_
  refine wp_region_held_drew (S := fun wx => wx.cell? ⟨gb, 0, none⟩ = some (.pointer (some ⟨p, 0, none⟩)) ∧ wx.cell? ⟨gb, 1, none⟩ = some (.pointer (some ⟨r, 0, none⟩)) ∧ wx.cell? ⟨go, 1, none⟩ = some (.bool false) ∧ wx.cell? ⟨go, 2, none⟩ = some (.int .i64 n) ∧ wx.cell? ⟨go, 3, none⟩ = some (.string T) ∧ wx.cell? ⟨go, 4, none⟩ = some (.slice ad fates.length cap)) (by kernel_rfl) (by rw [HV.out]; exact HS0.out) (fun hHeld => ?_)
  rw [HV.out] at hHeld ⊢
  clear HV HS0
  refine tK 0 (some 220) (.pointer (some ⟨gb, 0, none⟩)) rfl hHeld ?_
  simp only [Act.put, pA, pB, pC]
  refine tK 1 (some 221) (.pointer (some ⟨gb, 0, none⟩)) rfl hHeld ?_
  simp only [Act.put, pA, pB, pC]
  refine tK 2 (some 222) (.pointer (some ⟨gb, 0, none⟩)) rfl hHeld ?_
  simp only [Act.put, pA, pB, pC]
  refine tH 3 (some 223) (.pointer (some ⟨p, 0, none⟩)) rfl (fun w hw => by obtain ⟨hw0, hw1, hw2, hw3, hw4, hw5⟩ := hw; first | rfl | (go_simp; done) | (go_simp; rfl)) hHeld ?_
  simp only [Act.put, pA, pB, pC]
  refine tK 4 (some 224) (.pointer (some ⟨go, 1, none⟩)) rfl hHeld ?_
  simp only [Act.put, pA, pB, pC]
  refine tH 5 (some 225) (.bool false) rfl (fun w hw => by obtain ⟨hw0, hw1, hw2, hw3, hw4, hw5⟩ := hw; first | rfl | (go_simp; done) | (go_simp; rfl)) hHeld ?_
  simp only [Act.put, pA, pB, pC]
  refine tK 7 (some 227) (.pointer (some ⟨go, 2, none⟩)) rfl hHeld ?_
  simp only [Act.put, pA, pB, pC]
  refine tH 8 (some 228) (.int .i64 n) rfl (fun w hw => by obtain ⟨hw0, hw1, hw2, hw3, hw4, hw5⟩ := hw; first | rfl | (go_simp; done) | (go_simp; rfl)) hHeld ?_
  simp only [Act.put, pA, pB, pC]
  refine rdH 6 rfl (fun K hK => ?_)
  go_simp
  refine (HNM.out _).mono ?_
  rintro e wn ⟨rfl, hw⟩
  obtain rfl := hw.symm
  clear hw
  try go_wp2_with fail
  refine hK.out _ _ (HC.out _ _ _ HVL.out) (fun hH => ?_)
  clear hK K hHeld
  have hHeld := hH
  clear hH
  refine rdH 9 rfl (fun K hK => ?_)
  go_simp
  refine (HL1.out _).mono ?_
  rintro e wn ⟨rfl, hw⟩
  obtain rfl := hw.symm
  clear hw
  try go_wp2_with fail
  refine hK.out _ _ (HC.out _ _ _ HVL.out) (fun hH => ?_)
  clear hK K hHeld
  have hHeld := hH
  clear hH
  refine rdH 10 rfl (fun K hK => ?_)
  go_simp
  refine (HW.out _ HVL.out).mono ?_
  rintro e wc1 ⟨rfl, h2, hb2⟩
  try go_wp2_with fail
  refine hK.out _ _ (HC.out _ _ _ h2) (fun hH => ?_)
  clear hK K hHeld
  have hHeld := hH
  clear hH
  have HB := hide (HVB.out.trans hb2)
  have H := hide h2
  clear h2 hb2 HVL HVB
  refine tK 11 (some 13) (.int .i64 E) rfl hHeld ?_
  simp only [Act.put, pA, pB, pC]
  refine ⟨by kernel_rfl, ?_⟩
  refine NoPanic.normal ?_
  clear hHeld
  obtain ⟨V2, hV⟩ : ∃ x, wc1.drew = x := ⟨_, rfl⟩
  have hv0 := H.out.same (w' := wc1.drew) (Nat.le_refl _) (fun _ _ _ => rfl)
  rw [hV] at hv0
  have HVB : Hid (Below B w V2) := by rw [← hV]; exact HB.out.drew
  have HVL := hide hv0
  have HS0 := hide (HC.out _ _ _ hv0)
  have HV := hide hV
  clear hv0 hV H HB
  try go_wp2
  refine wp_region_noPanic ?_
  refine wp_region_held_drew (S := fun wx => wx.cell? ⟨gb, 0, none⟩ = some (.pointer (some ⟨p, 0, none⟩)) ∧ wx.cell? ⟨gb, 1, none⟩ = some (.pointer (some ⟨r, 0, none⟩)) ∧ wx.cell? ⟨go, 1, none⟩ = some (.bool false) ∧ wx.cell? ⟨go, 2, none⟩ = some (.int .i64 n) ∧ wx.cell? ⟨go, 3, none⟩ = some (.string T) ∧ wx.cell? ⟨go, 4, none⟩ = some (.slice ad fates.length cap)) (by kernel_rfl) (by rw [HV.out]; exact HS0.out) (fun hHeld => ?_)
  rw [HV.out] at hHeld ⊢
  clear HV HS0
  refine tK 0 (some 231) (.int .i64 E) rfl hHeld ?_
  simp only [Act.put, pA, pB, pC]
  refine tK 1 (some 232) (.pointer (some ⟨gb, 0, none⟩)) rfl hHeld ?_
  simp only [Act.put, pA, pB, pC]
  refine tK 2 (some 233) (.pointer (some ⟨gb, 0, none⟩)) rfl hHeld ?_
  simp only [Act.put, pA, pB, pC]
  refine tK 3 (some 234) (.pointer (some ⟨gb, 1, none⟩)) rfl hHeld ?_
  simp only [Act.put, pA, pB, pC]
  refine tH 4 (some 235) (.pointer (some ⟨r, 0, none⟩)) rfl (fun w hw => by obtain ⟨hw0, hw1, hw2, hw3, hw4, hw5⟩ := hw; first | rfl | (go_simp; done) | (go_simp; rfl)) hHeld ?_
  simp only [Act.put, pA, pB, pC]
  refine tK 5 (some 236) (.pointer (some ⟨go, 1, none⟩)) rfl hHeld ?_
  simp only [Act.put, pA, pB, pC]
  refine tH 6 (some 237) (.bool false) rfl (fun w hw => by obtain ⟨hw0, hw1, hw2, hw3, hw4, hw5⟩ := hw; first | rfl | (go_simp; done) | (go_simp; rfl)) hHeld ?_
  simp only [Act.put, pA, pB, pC]
  refine tK 8 (some 239) (.pointer (some ⟨go, 2, none⟩)) rfl hHeld ?_
  simp only [Act.put, pA, pB, pC]
  refine tH 9 (some 240) (.int .i64 n) rfl (fun w hw => by obtain ⟨hw0, hw1, hw2, hw3, hw4, hw5⟩ := hw; first | rfl | (go_simp; done) | (go_simp; rfl)) hHeld ?_
  simp only [Act.put, pA, pB, pC]
  refine rdH 7 rfl (fun K hK => ?_)
  go_simp
  refine (HNM.out _).mono ?_
  rintro e wn ⟨rfl, hw⟩
  obtain rfl := hw.symm
  clear hw
  try go_wp2_with fail
  refine hK.out _ _ (HC.out _ _ _ HVL.out) (fun hH => ?_)
  clear hK K hHeld
  have hHeld := hH
  clear hH
  refine rdH 10 rfl (fun K hK => ?_)
  go_simp
  refine (HL1.out _).mono ?_
  rintro e wn ⟨rfl, hw⟩
  obtain rfl := hw.symm
  clear hw
  try go_wp2_with fail
  refine hK.out _ _ (HC.out _ _ _ HVL.out) (fun hH => ?_)
  clear hK K hHeld
  have hHeld := hH
  clear hH
  refine rdH 11 rfl (fun K hK => ?_)
  go_simp
  refine (HQ.out _ HVL.out).mono ?_
  rintro e wc2 ⟨rfl, h2, hb2⟩
  try go_wp2_with fail
  refine hK.out _ _ (HC.out _ _ _ h2) (fun hH => ?_)
  clear hK K hHeld
  have hHeld := hH
  clear hH
  have HB := hide (HVB.out.trans hb2)
  have H := hide h2
  clear h2 hb2 HVL HVB
  refine tH 12 (some 243) (.bool true) rfl (fun w hw => by have := HEE.out; first | rfl | (go_simp; done) | (go_simp; rfl)) hHeld ?_
  simp only [Act.put, pA, pB, pC]
  refine tK 13 (some 4) (.bool true) rfl hHeld ?_
  simp only [Act.put, pA, pB, pC]
  refine ⟨by kernel_rfl, ?_⟩
  refine NoPanic.normal ?_
  clear hHeld
  clear HC
  go_wp2
  go_ret
  exact ⟨rfl, ⟨A', s0, s1, Lies.drop1 H.out, HX0.out, HX1.out⟩, HB.out⟩
set_option maxRecDepth 100000 in
set_option maxHeartbeats 40000000 in
theorem play8_1 {B : Nat} {w : World} {p r : Nat} {A : AD} {gb : Nat} {s0 s1 : PS} (h : Lies B w (PQ p r A A gb s0 s1 [])) (hx0 : xok s0) (hx1 : xok s1) (n : Int) (T : ByteArray) (ad : Option Addr) (fates : List FT) (cap : Nat) (hg : KGood B w [8, n] [T] ad fates) :
    Calls Tryz.prog 30 #[.pointer (some ⟨gb, 0, none⟩), .agg #[.int .i64 8, .bool true, .int .i64 n, .string T, .slice ad fates.length cap]] w fun e w' => e = .returned (.bool true) ∧ (∃ A' s0' s1', Lies B w' (PQ p r A' A' gb s0' s1' []) ∧ xok s0' ∧ xok s1') ∧ Below B w w' := by
  obtain ⟨go, hgo⟩ : ∃ g, w.heap.size = g := ⟨_, rfl⟩
  obtain ⟨w0, hw0⟩ : ∃ x, w.alloc (.cells #[.int .i64 8, .bool true, .int .i64 n, .string T, .slice ad fates.length cap] 59) = x := ⟨_, rfl⟩
  obtain ⟨h0, hb0⟩ := h.box _ _ w0 hw0 go hgo
  obtain ⟨opC, hop⟩ : ∃ x : Item, Item.block go (.cells #[.int .i64 8, .bool true, .int .i64 n, .string T, .slice ad fates.length cap] 59 (0, 0)) = x := ⟨_, rfl⟩
  have h0' : Lies B w0 (PQ p r A A gb s0 s1 [opC]) := by rw [← hop]; exact h0
  have HOK : Hid A.Ok := h.ok (i := 0) rfl
  have HC : Hid (∀ (W : World) (A1 A2 : AD), Lies B W (PQ p r A1 A2 gb s0 s1 [opC]) → W.cell? ⟨gb, 0, none⟩ = some (.pointer (some ⟨p, 0, none⟩)) ∧ W.cell? ⟨gb, 1, none⟩ = some (.pointer (some ⟨r, 0, none⟩)) ∧ W.cell? ⟨go, 1, none⟩ = some (.bool true) ∧ W.cell? ⟨go, 2, none⟩ = some (.int .i64 n) ∧ W.cell? ⟨go, 3, none⟩ = some (.string T) ∧ W.cell? ⟨go, 4, none⟩ = some (.slice ad fates.length cap)) := fun W A1 A2 h => by
    rw [← hop] at h
    have hc := block_at (q := 7) h rfl
    obtain ⟨y0, y1⟩ := PQ.ptrs h
    refine ⟨y0, y1, ?_, ?_, ?_, ?_⟩
    · rw [cell_of_row W go 1 _ _ (0, 0) hc]; rfl
    · rw [cell_of_row W go 2 _ _ (0, 0) hc]; rfl
    · rw [cell_of_row W go 3 _ _ (0, 0) hc]; rfl
    · rw [cell_of_row W go 4 _ _ (0, 0) hc]; rfl
  have z0 : w0.cell? ⟨go, 0, none⟩ = some (.int .i64 8) := by
    rw [← hop] at h0'
    have hc := block_at (q := 7) h0' rfl
    rw [cell_of_row w0 go 0 _ _ (0, 0) hc]; rfl
  have z1 := (HC.out _ _ _ h0').2.2.1
  have H := hide h0'
  have HB := hide hb0
  have HX0 := hide hx0
  have HX1 := hide hx1
  have HG := hide hg
  have hr1 := least_rng (n := n) (m := 160) (by decide)
  obtain ⟨q1, hq1⟩ : ∃ q, leastI n 160 = q := ⟨_, rfl⟩
  rw [hq1] at hr1
  have HL1 : Hid (∀ w : World, Calls Tryz.prog 15 #[.int .i64 n, .int .i64 160] w fun e w' => e = .returned (.int .i64 q1) ∧ w' = w) := fun w => by rw [← hq1]; exact least_any n 160 (by decide) w
  have HQR : Hid (-9223372036854775808 ≤ q1 ∧ q1 < 9223372036854775808) := ⟨by omega, by omega⟩
  clear hq1 hr1
  obtain ⟨nm, hnm⟩ : ∃ s, nameT true = s := ⟨_, rfl⟩
  have HNM : Hid (∀ w : World, Calls Tryz.prog 21 #[.bool true] w fun e w' => e = .returned (.string nm) ∧ w' = w) := fun w => by rw [← hnm]; exact name_any true w
  have znm : nm.size = 3 := by rw [← hnm]; rfl
  obtain ⟨nt, hnt⟩ : ∃ s, nm ++ (⟨#[46, 116, 109, 112]⟩ : ByteArray) = s := ⟨_, rfl⟩
  have HNT : Hid (∀ w : World, (Op.stringOp .add nm ⟨#[46, 116, 109, 112]⟩).run Tryz.prog w = .ok (.string nt) w) := fun w => k_add w _ _ nt hnt (by rw [znm]; decide)
  have znt : nt.size = 7 := by rw [← hnt, ByteArray.size_append, znm]; rfl
  obtain ⟨E, A', hE⟩ : ∃ E X, A.trunc nm.data.toList q1 = (E, X) := ⟨_, _, rfl⟩
  have HW : Hid (∀ W, Lies B W (PQ p r A A gb s0 s1 [opC]) → Calls Tryz.prog 59 #[.pointer (some ⟨p, 0, none⟩), .string nm, .int .i64 q1] W fun e w' => e = .returned (.int .i64 E) ∧ Lies B w' (PQ p r A' A gb s0 s1 [opC]) ∧ Below B W w') := fun W h => by
    have := s_trunc (i := 0) h rfl nm (by rw [znm]; decide) q1
    rw [hE] at this
    exact this
  have HQ : Hid (∀ W, Lies B W (PQ p r A' A gb s0 s1 [opC]) → Calls Tryz.prog 60 #[.pointer (some ⟨r, 0, none⟩), .string nm, .int .i64 q1] W fun e w' => e = .returned (.int .i64 E) ∧ Lies B w' (PQ p r A' A' gb s0 s1 [opC]) ∧ Below B W w') := fun W h => by
    have := r_trunc (i := 1) h rfl HOK.out nm q1
    rw [hE] at this
    exact this
  have HEE : Hid ((E == E) = true) := by show _ = _; simp
  clear hE znm znt hnm hnt
  clear h h0 h0' hb0 hx0 hx1 hg hop
  go_enter Tryz.func30, Tryz.ntmps30
  go_wp2
  clear z0 z1
  obtain ⟨V1, hV⟩ : ∃ x, w0.drew = x := ⟨_, rfl⟩
  have hv0 := H.out.same (w' := w0.drew) (Nat.le_refl _) (fun _ _ _ => rfl)
  rw [hV] at hv0
  have HVB : Hid (Below B w V1) := by rw [← hV]; exact HB.out.drew
  have HVL := hide hv0
  have HS0 := hide (HC.out _ _ _ hv0)
  have HV := hide hV
  clear hv0 hV H HB
  try go_wp2
  refine wp_region_noPanic ?_
  refine wp_region_held_drew (S := fun wx => wx.cell? ⟨gb, 0, none⟩ = some (.pointer (some ⟨p, 0, none⟩)) ∧ wx.cell? ⟨gb, 1, none⟩ = some (.pointer (some ⟨r, 0, none⟩)) ∧ wx.cell? ⟨go, 1, none⟩ = some (.bool true) ∧ wx.cell? ⟨go, 2, none⟩ = some (.int .i64 n) ∧ wx.cell? ⟨go, 3, none⟩ = some (.string T) ∧ wx.cell? ⟨go, 4, none⟩ = some (.slice ad fates.length cap)) (by kernel_rfl) (by rw [HV.out]; exact HS0.out) (fun hHeld => ?_)
  rw [HV.out] at hHeld ⊢
  clear HV HS0
  refine tK 0 (some 220) (.pointer (some ⟨gb, 0, none⟩)) rfl hHeld ?_
  simp only [Act.put, pA, pB, pC]
  refine tK 1 (some 221) (.pointer (some ⟨gb, 0, none⟩)) rfl hHeld ?_
  simp only [Act.put, pA, pB, pC]
  refine tK 2 (some 222) (.pointer (some ⟨gb, 0, none⟩)) rfl hHeld ?_
  simp only [Act.put, pA, pB, pC]
  refine tH 3 (some 223) (.pointer (some ⟨p, 0, none⟩)) rfl (fun w hw => by obtain ⟨hw0, hw1, hw2, hw3, hw4, hw5⟩ := hw; first | rfl | (go_simp; done) | (go_simp; rfl)) hHeld ?_
  simp only [Act.put, pA, pB, pC]
  refine tK 4 (some 224) (.pointer (some ⟨go, 1, none⟩)) rfl hHeld ?_
  simp only [Act.put, pA, pB, pC]
  refine tH 5 (some 225) (.bool true) rfl (fun w hw => by obtain ⟨hw0, hw1, hw2, hw3, hw4, hw5⟩ := hw; first | rfl | (go_simp; done) | (go_simp; rfl)) hHeld ?_
  simp only [Act.put, pA, pB, pC]
  refine tK 7 (some 227) (.pointer (some ⟨go, 2, none⟩)) rfl hHeld ?_
  simp only [Act.put, pA, pB, pC]
  refine tH 8 (some 228) (.int .i64 n) rfl (fun w hw => by obtain ⟨hw0, hw1, hw2, hw3, hw4, hw5⟩ := hw; first | rfl | (go_simp; done) | (go_simp; rfl)) hHeld ?_
  simp only [Act.put, pA, pB, pC]
  refine rdH 6 rfl (fun K hK => ?_)
  go_simp
  refine (HNM.out _).mono ?_
  rintro e wn ⟨rfl, hw⟩
  obtain rfl := hw.symm
  clear hw
  try go_wp2_with fail
  refine hK.out _ _ (HC.out _ _ _ HVL.out) (fun hH => ?_)
  clear hK K hHeld
  have hHeld := hH
  clear hH
  refine rdH 9 rfl (fun K hK => ?_)
  go_simp
  refine (HL1.out _).mono ?_
  rintro e wn ⟨rfl, hw⟩
  obtain rfl := hw.symm
  clear hw
  try go_wp2_with fail
  refine hK.out _ _ (HC.out _ _ _ HVL.out) (fun hH => ?_)
  clear hK K hHeld
  have hHeld := hH
  clear hH
  refine rdH 10 rfl (fun K hK => ?_)
  go_simp
  refine (HW.out _ HVL.out).mono ?_
  rintro e wc1 ⟨rfl, h2, hb2⟩
  try go_wp2_with fail
  refine hK.out _ _ (HC.out _ _ _ h2) (fun hH => ?_)
  clear hK K hHeld
  have hHeld := hH
  clear hH
  have HB := hide (HVB.out.trans hb2)
  have H := hide h2
  clear h2 hb2 HVL HVB
  refine tK 11 (some 13) (.int .i64 E) rfl hHeld ?_
  simp only [Act.put, pA, pB, pC]
  refine ⟨by kernel_rfl, ?_⟩
  refine NoPanic.normal ?_
  clear hHeld
  obtain ⟨V2, hV⟩ : ∃ x, wc1.drew = x := ⟨_, rfl⟩
  have hv0 := H.out.same (w' := wc1.drew) (Nat.le_refl _) (fun _ _ _ => rfl)
  rw [hV] at hv0
  have HVB : Hid (Below B w V2) := by rw [← hV]; exact HB.out.drew
  have HVL := hide hv0
  have HS0 := hide (HC.out _ _ _ hv0)
  have HV := hide hV
  clear hv0 hV H HB
  try go_wp2
  refine wp_region_noPanic ?_
  refine wp_region_held_drew (S := fun wx => wx.cell? ⟨gb, 0, none⟩ = some (.pointer (some ⟨p, 0, none⟩)) ∧ wx.cell? ⟨gb, 1, none⟩ = some (.pointer (some ⟨r, 0, none⟩)) ∧ wx.cell? ⟨go, 1, none⟩ = some (.bool true) ∧ wx.cell? ⟨go, 2, none⟩ = some (.int .i64 n) ∧ wx.cell? ⟨go, 3, none⟩ = some (.string T) ∧ wx.cell? ⟨go, 4, none⟩ = some (.slice ad fates.length cap)) (by kernel_rfl) (by rw [HV.out]; exact HS0.out) (fun hHeld => ?_)
  rw [HV.out] at hHeld ⊢
  clear HV HS0
  refine tK 0 (some 231) (.int .i64 E) rfl hHeld ?_
  simp only [Act.put, pA, pB, pC]
  refine tK 1 (some 232) (.pointer (some ⟨gb, 0, none⟩)) rfl hHeld ?_
  simp only [Act.put, pA, pB, pC]
  refine tK 2 (some 233) (.pointer (some ⟨gb, 0, none⟩)) rfl hHeld ?_
  simp only [Act.put, pA, pB, pC]
  refine tK 3 (some 234) (.pointer (some ⟨gb, 1, none⟩)) rfl hHeld ?_
  simp only [Act.put, pA, pB, pC]
  refine tH 4 (some 235) (.pointer (some ⟨r, 0, none⟩)) rfl (fun w hw => by obtain ⟨hw0, hw1, hw2, hw3, hw4, hw5⟩ := hw; first | rfl | (go_simp; done) | (go_simp; rfl)) hHeld ?_
  simp only [Act.put, pA, pB, pC]
  refine tK 5 (some 236) (.pointer (some ⟨go, 1, none⟩)) rfl hHeld ?_
  simp only [Act.put, pA, pB, pC]
  refine tH 6 (some 237) (.bool true) rfl (fun w hw => by obtain ⟨hw0, hw1, hw2, hw3, hw4, hw5⟩ := hw; first | rfl | (go_simp; done) | (go_simp; rfl)) hHeld ?_
  simp only [Act.put, pA, pB, pC]
  refine tK 8 (some 239) (.pointer (some ⟨go, 2, none⟩)) rfl hHeld ?_
  simp only [Act.put, pA, pB, pC]
  refine tH 9 (some 240) (.int .i64 n) rfl (fun w hw => by obtain ⟨hw0, hw1, hw2, hw3, hw4, hw5⟩ := hw; first | rfl | (go_simp; done) | (go_simp; rfl)) hHeld ?_
  simp only [Act.put, pA, pB, pC]
  refine rdH 7 rfl (fun K hK => ?_)
  go_simp
  refine (HNM.out _).mono ?_
  rintro e wn ⟨rfl, hw⟩
  obtain rfl := hw.symm
  clear hw
  try go_wp2_with fail
  refine hK.out _ _ (HC.out _ _ _ HVL.out) (fun hH => ?_)
  clear hK K hHeld
  have hHeld := hH
  clear hH
  refine rdH 10 rfl (fun K hK => ?_)
  go_simp
  refine (HL1.out _).mono ?_
  rintro e wn ⟨rfl, hw⟩
  obtain rfl := hw.symm
  clear hw
  try go_wp2_with fail
  refine hK.out _ _ (HC.out _ _ _ HVL.out) (fun hH => ?_)
  clear hK K hHeld
  have hHeld := hH
  clear hH
  refine rdH 11 rfl (fun K hK => ?_)
  go_simp
  refine (HQ.out _ HVL.out).mono ?_
  rintro e wc2 ⟨rfl, h2, hb2⟩
  try go_wp2_with fail
  refine hK.out _ _ (HC.out _ _ _ h2) (fun hH => ?_)
  clear hK K hHeld
  have hHeld := hH
  clear hH
  have HB := hide (HVB.out.trans hb2)
  have H := hide h2
  clear h2 hb2 HVL HVB
  refine tH 12 (some 243) (.bool true) rfl (fun w hw => by have := HEE.out; first | rfl | (go_simp; done) | (go_simp; rfl)) hHeld ?_
  simp only [Act.put, pA, pB, pC]
  refine tK 13 (some 4) (.bool true) rfl hHeld ?_
  simp only [Act.put, pA, pB, pC]
  refine ⟨by kernel_rfl, ?_⟩
  refine NoPanic.normal ?_
  clear hHeld
  clear HC
  go_wp2
  go_ret
  exact ⟨rfl, ⟨A', s0, s1, Lies.drop1 H.out, HX0.out, HX1.out⟩, HB.out⟩
end Go.Proofs.YtlkimfmilccanaaGreat
