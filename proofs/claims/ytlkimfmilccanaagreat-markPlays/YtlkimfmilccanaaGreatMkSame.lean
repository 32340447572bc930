/-
  Both disks, and a mark in each file of each; (*Both).same (printed by gen_same19.py).
-/
import Derived.Test.YtlkimfmilccanaaGreatMkRefC
import Derived.Test.YtlkimfmilccanaaGreatMkTale
namespace Go.Proofs.YtlkimfmilccanaaGreat
open Go.RowKit Go.Maps Go.WideMaps
set_option linter.unusedVariables false
set_option linter.unusedSimpArgs false
/-- A file's two marks: the code's block, the document's, the value, the slot that is next. -/
abbrev PS := Option (Nat × Nat × Int × Nat)
def mvP : PS → Value
  | none => .pointer none
  | some x => .pointer (some ⟨x.1, 0, none⟩)
def qvP : PS → Value
  | none => .pointer none
  | some x => .pointer (some ⟨x.2.1, 0, none⟩)
def miP (p : Nat) (k : ByteArray) : PS → Item
  | none => .void
  | some x => .mkI 91 x.1 p k x.2.2.1 x.2.2.2
def qiP (r : Nat) (k : ByteArray) : PS → Item
  | none => .void
  | some x => .mkI 145 x.2.1 r k x.2.2.1 x.2.2.2
def bcells (p r : Nat) (s0 s1 : PS) : Array Value := #[.pointer (some ⟨p, 0, none⟩), .pointer (some ⟨r, 0, none⟩), mvP s0, mvP s1, qvP s0, qvP s1]
def PL (p r : Nat) (A : AD) (gb : Nat) (s0 s1 : PS) (L : List Item) : List Item := .disk p A :: .ref r A :: .block gb (.cells (bcells p r s0 s1) 75 (0, 0)) :: miP p (nameT false) s0 :: qiP r (nameT false) s0 :: miP p (nameT true) s1 :: qiP r (nameT true) s1 :: L
theorem PL.cells {B : Nat} {w : World} {p r : Nat} {A : AD} {gb : Nat} {s0 s1 : PS} {L : List Item} (h : Lies B w (PL p r A gb s0 s1 L)) : w.cell? ⟨gb, 0, none⟩ = some (.pointer (some ⟨p, 0, none⟩)) ∧ w.cell? ⟨gb, 1, none⟩ = some (.pointer (some ⟨r, 0, none⟩)) ∧ w.cell? ⟨gb, 2, none⟩ = some (mvP s0) ∧ w.cell? ⟨gb, 3, none⟩ = some (mvP s1) ∧ w.cell? ⟨gb, 4, none⟩ = some (qvP s0) ∧ w.cell? ⟨gb, 5, none⟩ = some (qvP s1) := by
  have hc := block_at (q := 2) h rfl
  refine ⟨?_, ?_, ?_, ?_, ?_, ?_⟩
  all_goals (first | (rw [cell_of_row w gb 0 _ _ (0, 0) hc]; rfl) | (rw [cell_of_row w gb 1 _ _ (0, 0) hc]; rfl) | (rw [cell_of_row w gb 2 _ _ (0, 0) hc]; rfl) | (rw [cell_of_row w gb 3 _ _ (0, 0) hc]; rfl) | (rw [cell_of_row w gb 4 _ _ (0, 0) hc]; rfl) | (rw [cell_of_row w gb 5 _ _ (0, 0) hc]; rfl))
set_option maxRecDepth 100000 in
set_option maxHeartbeats 40000000 in
theorem same_any {B : Nat} {w : World} {p r : Nat} {A : AD} {gb : Nat} {s0 s1 : PS} {L : List Item} (h : Lies B w (PL p r A gb s0 s1 L)) :
    Calls Tryz.prog 31 #[.pointer (some ⟨gb, 0, none⟩)] w fun e w' => e = .returned (.bool true) ∧ Lies B w' (PL p r A gb s0 s1 L) ∧ Below B w w' := by
  have HOK : Hid A.Ok := h.ok (i := 0) rfl
  have H0 := hide h
  obtain ⟨of, hof⟩ : ∃ b, A.pow.off = b := ⟨_, rfl⟩
  have HO1 : Hid (∀ W, Lies B W (PL p r A gb s0 s1 L) → Calls Tryz.prog 28 #[.pointer (some ⟨p, 0, none⟩)] W fun e w' => e = .returned (.bool of) ∧ w' = W) := fun W h => by rw [← hof]; exact s_off (i := 0) h rfl
  have HO2 : Hid (∀ W, Lies B W (PL p r A gb s0 s1 L) → Calls Tryz.prog 63 #[.pointer (some ⟨r, 0, none⟩)] W fun e w' => e = .returned (.bool of) ∧ w' = W) := fun W h => by rw [← hof]; exact r_off (i := 1) h rfl
  have HOO : Hid ((of == of) = true) := by show _ = _; simp
  clear h hof
  go_enter Tryz.func31, Tryz.ntmps31
  go_wp2
  go_loopw [3] (fun i wr => ∃ k : Nat, k ≤ 2 ∧ i = .int .i64 (k : Int) ∧ Lies B wr (PL p r A gb s0 s1 L) ∧ Below B w wr) (fun i _ => 3 - (intOf i).toNat)
  case atStart => exact ⟨0, by omega, rfl, H0.out, Below.refl _ _⟩
  case round =>
    clear H0
    obtain ⟨k, hk, rfl, hlr, hbr⟩ := hrel
    have H := hide hlr
    have HB := hide hbr
    clear hlr hbr
    rcases (by omega : k = 0 ∨ k = 1 ∨ k = 2) with hk' | hk' | hk'
    · subst hk'
      clear HO1 HO2 HOO
      obtain ⟨nm, hnm⟩ : ∃ s, nameT false = s := ⟨_, rfl⟩
      have HNM : Hid (∀ w : World, Calls Tryz.prog 21 #[.bool false] w fun e w' => e = .returned (.string nm) ∧ w' = w) := fun w => by rw [← hnm]; exact name_any false w
      have znm : nm.size = 3 := by rw [← hnm]; rfl
      obtain ⟨nt, hnt⟩ : ∃ s, nm ++ (⟨#[46, 116, 109, 112]⟩ : ByteArray) = s := ⟨_, rfl⟩
      have HNT : Hid (∀ w : World, (Op.stringOp .add nm ⟨#[46, 116, 109, 112]⟩).run Tryz.prog w = .ok (.string nt) w) := fun w => k_add w _ _ nt hnt (by rw [znm]; decide)
      have znt : nt.size = 7 := by rw [← hnt, ByteArray.size_append, znm]; rfl
      obtain ⟨X, hX⟩ : ∃ X : ByteArray, (⟨(A.read nm.data.toList 0 1000).1.toArray⟩ : ByteArray) = X := ⟨_, rfl⟩
      obtain ⟨E, hE⟩ : ∃ E, (A.read nm.data.toList 0 1000).2 = E := ⟨_, rfl⟩
      obtain ⟨Z, hZ⟩ : ∃ X : ByteArray, (⟨(A.read nt.data.toList 0 1000).1.toArray⟩ : ByteArray) = X := ⟨_, rfl⟩
      obtain ⟨G, hG⟩ : ∃ E, (A.read nt.data.toList 0 1000).2 = E := ⟨_, rfl⟩
      have HRD : Hid (∀ W, Lies B W (PL p r A gb s0 s1 L) → Calls Tryz.prog 12 #[.pointer (some ⟨p, 0, none⟩), .string nm, .int .i64 0, .int .i64 1000] W fun e w' => e = .returned (.tuple #[.string X, .int .i64 E]) ∧ Lies B w' (PL p r A gb s0 s1 L) ∧ Below B W w') := fun W h => by rw [← hX, ← hE]; exact s_read (i := 0) h rfl nm (by rw [znm]; decide) 0 1000
      have HRT : Hid (∀ W, Lies B W (PL p r A gb s0 s1 L) → Calls Tryz.prog 12 #[.pointer (some ⟨p, 0, none⟩), .string nt, .int .i64 0, .int .i64 1000] W fun e w' => e = .returned (.tuple #[.string Z, .int .i64 G]) ∧ Lies B w' (PL p r A gb s0 s1 L) ∧ Below B W w') := fun W h => by rw [← hZ, ← hG]; exact s_read (i := 0) h rfl nt (by rw [znt]; decide) 0 1000
      have HQD : Hid (∀ W, Lies B W (PL p r A gb s0 s1 L) → Calls Tryz.prog 61 #[.pointer (some ⟨r, 0, none⟩), .string nm, .int .i64 0, .int .i64 1000] W fun e w' => e = .returned (.tuple #[.string X, .int .i64 E]) ∧ w' = W) := fun W h => by rw [← hX, ← hE]; exact r_read (i := 1) h rfl HOK.out nm 0 1000
      have HQT : Hid (∀ W, Lies B W (PL p r A gb s0 s1 L) → Calls Tryz.prog 61 #[.pointer (some ⟨r, 0, none⟩), .string nt, .int .i64 0, .int .i64 1000] W fun e w' => e = .returned (.tuple #[.string Z, .int .i64 G]) ∧ w' = W) := fun W h => by rw [← hZ, ← hG]; exact r_read (i := 1) h rfl HOK.out nt 0 1000
      have HXX : Hid ((X.toList == X.toList) = true) := by show _ = _; simp
      have HZZ : Hid ((Z.toList == Z.toList) = true) := by show _ = _; simp
      have HEE : Hid ((E == E) = true) := by show _ = _; simp
      have HGG : Hid ((G == G) = true) := by show _ = _; simp
      clear hnm hnt hX hE hZ hG znm znt
      cases hs : s0 with
      | none =>
        have HC : Hid (∀ W, Lies B W (PL p r A gb s0 s1 L) → W.cell? ⟨gb, 0, none⟩ = some (.pointer (some ⟨p, 0, none⟩)) ∧ W.cell? ⟨gb, 1, none⟩ = some (.pointer (some ⟨r, 0, none⟩)) ∧ W.cell? ⟨gb, 2, none⟩ = some (.pointer none) ∧ W.cell? ⟨gb, 4, none⟩ = some (.pointer none)) := fun W h => by
          obtain ⟨c0, c1, c2, c3, c4, c5⟩ := PL.cells h
          rw [hs] at c2 c4
          exact ⟨c0, c1, c2, c4⟩
        rw [← hs]
        clear hs
        obtain ⟨V1, hV⟩ : ∃ x, wr.drew = x := ⟨_, rfl⟩
        have hv0 := H.out.same (w' := wr.drew) (Nat.le_refl _) (fun _ _ _ => rfl)
        rw [hV] at hv0
        have HVB : Hid (Below B w V1) := by rw [← hV]; exact HB.out.drew
        have HVL := hide hv0
        have HS0 := hide (HC.out _ hv0)
        have HV := hide hV
        clear hv0 hV H HB
        try go_wp2
        refine wp_region_noPanic ?_
        refine wp_region_held_drew (S := fun wx => wx.cell? ⟨gb, 0, none⟩ = some (.pointer (some ⟨p, 0, none⟩)) ∧ wx.cell? ⟨gb, 1, none⟩ = some (.pointer (some ⟨r, 0, none⟩)) ∧ wx.cell? ⟨gb, 2, none⟩ = some (.pointer none) ∧ wx.cell? ⟨gb, 4, none⟩ = some (.pointer none)) (by kernel_rfl) (by rw [HV.out]; exact HS0.out) (fun hHeld => ?_)
        rw [HV.out] at hHeld ⊢
        clear HV HS0
        refine tK 0 (some 17) (.pointer (some ⟨gb, 0, none⟩)) rfl hHeld ?_
        simp only [Act.put, pA, pB, pC]
        refine tK 1 (some 18) (.pointer (some ⟨gb, 0, none⟩)) rfl hHeld ?_
        simp only [Act.put, pA, pB, pC]
        refine tK 2 (some 19) (.pointer (some ⟨gb, 0, none⟩)) rfl hHeld ?_
        simp only [Act.put, pA, pB, pC]
        refine tH 3 (some 20) (.pointer (some ⟨p, 0, none⟩)) rfl (fun w hw => by obtain ⟨hw0, hw1, hw2, hw3⟩ := hw; first | rfl | (go_simp; done) | (go_simp; rfl)) hHeld ?_
        simp only [Act.put, pA, pB, pC]
        refine tK 4 (some 21) (.int .i64 0) rfl hHeld ?_
        simp only [Act.put, pA, pB, pC]
        refine tK 5 (some 22) (.bool false) rfl hHeld ?_
        simp only [Act.put, pA, pB, pC]
        refine rdH 6 rfl (fun K hK => ?_)
        go_simp
        refine (HNM.out _).mono ?_
        rintro e wn ⟨rfl, hw⟩
        obtain rfl := hw.symm
        clear hw
        try go_wp2_with fail
        refine hK.out _ _ (HC.out _ HVL.out) (fun hH => ?_)
        clear hK K hHeld
        have hHeld := hH
        clear hH
        refine rdH 7 rfl (fun K hK => ?_)
        go_simp
        refine (HRD.out _ HVL.out).mono ?_
        rintro e w2 ⟨rfl, h2, hb2⟩
        try go_wp2_with fail
        refine hK.out _ _ (HC.out _ h2) (fun hH => ?_)
        clear hK K hHeld
        have hHeld := hH
        clear hH
        have HB := hide (HVB.out.trans hb2)
        have H := hide h2
        clear h2 hb2 HVL HVB
        refine tK 8 (some 16) (.tuple #[.string X, .int .i64 E]) rfl hHeld ?_
        simp only [Act.put, pA, pB, pC]
        refine tK 9 (some 25) (.string X) rfl hHeld ?_
        simp only [Act.put, pA, pB, pC]
        refine tK 10 (some 26) (.int .i64 E) rfl hHeld ?_
        simp only [Act.put, pA, pB, pC]
        refine tK 11 (some 4) (.string X) rfl hHeld ?_
        simp only [Act.put, pA, pB, pC]
        refine tK 12 (some 5) (.int .i64 E) rfl hHeld ?_
        simp only [Act.put, pA, pB, pC]
        refine ⟨by kernel_rfl, ?_⟩
        refine NoPanic.normal ?_
        clear hHeld
        obtain ⟨V3, hV⟩ : ∃ x, w2.drew = x := ⟨_, rfl⟩
        have hv0 := H.out.same (w' := w2.drew) (Nat.le_refl _) (fun _ _ _ => rfl)
        rw [hV] at hv0
        have HVB : Hid (Below B w V3) := by rw [← hV]; exact HB.out.drew
        have HVL := hide hv0
        have HS0 := hide (HC.out _ hv0)
        have HV := hide hV
        clear hv0 hV H HB
        try go_wp2
        refine wp_region_noPanic ?_
        refine wp_region_held_drew (S := fun wx => wx.cell? ⟨gb, 0, none⟩ = some (.pointer (some ⟨p, 0, none⟩)) ∧ wx.cell? ⟨gb, 1, none⟩ = some (.pointer (some ⟨r, 0, none⟩)) ∧ wx.cell? ⟨gb, 2, none⟩ = some (.pointer none) ∧ wx.cell? ⟨gb, 4, none⟩ = some (.pointer none)) (by kernel_rfl) (by rw [HV.out]; exact HS0.out) (fun hHeld => ?_)
        rw [HV.out] at hHeld ⊢
        clear HV HS0
        refine tK 0 (some 28) (.pointer (some ⟨gb, 0, none⟩)) rfl hHeld ?_
        simp only [Act.put, pA, pB, pC]
        refine tK 1 (some 29) (.pointer (some ⟨gb, 0, none⟩)) rfl hHeld ?_
        simp only [Act.put, pA, pB, pC]
        refine tK 2 (some 30) (.pointer (some ⟨gb, 1, none⟩)) rfl hHeld ?_
        simp only [Act.put, pA, pB, pC]
        refine tH 3 (some 31) (.pointer (some ⟨r, 0, none⟩)) rfl (fun w hw => by obtain ⟨hw0, hw1, hw2, hw3⟩ := hw; first | rfl | (go_simp; done) | (go_simp; rfl)) hHeld ?_
        simp only [Act.put, pA, pB, pC]
        refine tK 4 (some 32) (.int .i64 0) rfl hHeld ?_
        simp only [Act.put, pA, pB, pC]
        refine tK 5 (some 33) (.bool false) rfl hHeld ?_
        simp only [Act.put, pA, pB, pC]
        refine rdH 6 rfl (fun K hK => ?_)
        go_simp
        refine (HNM.out _).mono ?_
        rintro e wn ⟨rfl, hw⟩
        obtain rfl := hw.symm
        clear hw
        try go_wp2_with fail
        refine hK.out _ _ (HC.out _ HVL.out) (fun hH => ?_)
        clear hK K hHeld
        have hHeld := hH
        clear hH
        refine rdH 7 rfl (fun K hK => ?_)
        go_simp
        refine (HQD.out _ HVL.out).mono ?_
        rintro e wn ⟨rfl, hw⟩
        obtain rfl := hw.symm
        clear hw
        try go_wp2_with fail
        refine hK.out _ _ (HC.out _ HVL.out) (fun hH => ?_)
        clear hK K hHeld
        have hHeld := hH
        clear hH
        have HB := HVB
        have H := HVL
        clear HVL HVB
        refine tK 8 (some 27) (.tuple #[.string X, .int .i64 E]) rfl hHeld ?_
        simp only [Act.put, pA, pB, pC]
        refine tK 9 (some 36) (.string X) rfl hHeld ?_
        simp only [Act.put, pA, pB, pC]
        refine tK 10 (some 37) (.int .i64 E) rfl hHeld ?_
        simp only [Act.put, pA, pB, pC]
        refine tK 11 (some 6) (.string X) rfl hHeld ?_
        simp only [Act.put, pA, pB, pC]
        refine tK 12 (some 7) (.int .i64 E) rfl hHeld ?_
        simp only [Act.put, pA, pB, pC]
        refine ⟨by kernel_rfl, ?_⟩
        refine NoPanic.normal ?_
        clear hHeld
        obtain ⟨V5, hV⟩ : ∃ x, V3.drew = x := ⟨_, rfl⟩
        have hv0 := H.out.same (w' := V3.drew) (Nat.le_refl _) (fun _ _ _ => rfl)
        rw [hV] at hv0
        have HVB : Hid (Below B w V5) := by rw [← hV]; exact HB.out.drew
        have HVL := hide hv0
        have HS0 := hide (HC.out _ hv0)
        have HV := hide hV
        clear hv0 hV H HB
        try go_wp2
        refine wp_region_noPanic ?_
        refine wp_region_held_drew (S := fun wx => wx.cell? ⟨gb, 0, none⟩ = some (.pointer (some ⟨p, 0, none⟩)) ∧ wx.cell? ⟨gb, 1, none⟩ = some (.pointer (some ⟨r, 0, none⟩)) ∧ wx.cell? ⟨gb, 2, none⟩ = some (.pointer none) ∧ wx.cell? ⟨gb, 4, none⟩ = some (.pointer none)) (by kernel_rfl) (by rw [HV.out]; exact HS0.out) (fun hHeld => ?_)
        rw [HV.out] at hHeld ⊢
        clear HV HS0
        refine tK 0 (some 39) (.pointer (some ⟨gb, 0, none⟩)) rfl hHeld ?_
        simp only [Act.put, pA, pB, pC]
        refine tK 1 (some 40) (.pointer (some ⟨gb, 0, none⟩)) rfl hHeld ?_
        simp only [Act.put, pA, pB, pC]
        refine tK 2 (some 41) (.pointer (some ⟨gb, 0, none⟩)) rfl hHeld ?_
        simp only [Act.put, pA, pB, pC]
        refine tH 3 (some 42) (.pointer (some ⟨p, 0, none⟩)) rfl (fun w hw => by obtain ⟨hw0, hw1, hw2, hw3⟩ := hw; first | rfl | (go_simp; done) | (go_simp; rfl)) hHeld ?_
        simp only [Act.put, pA, pB, pC]
        refine tK 4 (some 43) (.int .i64 0) rfl hHeld ?_
        simp only [Act.put, pA, pB, pC]
        refine tK 5 (some 44) (.bool false) rfl hHeld ?_
        simp only [Act.put, pA, pB, pC]
        refine rdH 6 rfl (fun K hK => ?_)
        go_simp
        refine (HNM.out _).mono ?_
        rintro e wn ⟨rfl, hw⟩
        obtain rfl := hw.symm
        clear hw
        try go_wp2_with fail
        refine hK.out _ _ (HC.out _ HVL.out) (fun hH => ?_)
        clear hK K hHeld
        have hHeld := hH
        clear hH
        refine tH 7 (some 46) (.string nt) rfl (fun w hw => by have := HNT.out w; first | rfl | (go_simp; done) | (go_simp; rfl)) hHeld ?_
        simp only [Act.put, pA, pB, pC]
        refine rdH 8 rfl (fun K hK => ?_)
        go_simp
        refine (HRT.out _ HVL.out).mono ?_
        rintro e w6 ⟨rfl, h2, hb2⟩
        try go_wp2_with fail
        refine hK.out _ _ (HC.out _ h2) (fun hH => ?_)
        clear hK K hHeld
        have hHeld := hH
        clear hH
        have HB := hide (HVB.out.trans hb2)
        have H := hide h2
        clear h2 hb2 HVL HVB
        refine tK 9 (some 38) (.tuple #[.string Z, .int .i64 G]) rfl hHeld ?_
        simp only [Act.put, pA, pB, pC]
        refine tK 10 (some 48) (.string Z) rfl hHeld ?_
        simp only [Act.put, pA, pB, pC]
        refine tK 11 (some 49) (.int .i64 G) rfl hHeld ?_
        simp only [Act.put, pA, pB, pC]
        refine tK 12 (some 8) (.string Z) rfl hHeld ?_
        simp only [Act.put, pA, pB, pC]
        refine tK 13 (some 9) (.int .i64 G) rfl hHeld ?_
        simp only [Act.put, pA, pB, pC]
        refine ⟨by kernel_rfl, ?_⟩
        refine NoPanic.normal ?_
        clear hHeld
        obtain ⟨V7, hV⟩ : ∃ x, w6.drew = x := ⟨_, rfl⟩
        have hv0 := H.out.same (w' := w6.drew) (Nat.le_refl _) (fun _ _ _ => rfl)
        rw [hV] at hv0
        have HVB : Hid (Below B w V7) := by rw [← hV]; exact HB.out.drew
        have HVL := hide hv0
        have HS0 := hide (HC.out _ hv0)
        have HV := hide hV
        clear hv0 hV H HB
        try go_wp2
        refine wp_region_noPanic ?_
        refine wp_region_held_drew (S := fun wx => wx.cell? ⟨gb, 0, none⟩ = some (.pointer (some ⟨p, 0, none⟩)) ∧ wx.cell? ⟨gb, 1, none⟩ = some (.pointer (some ⟨r, 0, none⟩)) ∧ wx.cell? ⟨gb, 2, none⟩ = some (.pointer none) ∧ wx.cell? ⟨gb, 4, none⟩ = some (.pointer none)) (by kernel_rfl) (by rw [HV.out]; exact HS0.out) (fun hHeld => ?_)
        rw [HV.out] at hHeld ⊢
        clear HV HS0
        refine tK 0 (some 51) (.pointer (some ⟨gb, 0, none⟩)) rfl hHeld ?_
        simp only [Act.put, pA, pB, pC]
        refine tK 1 (some 52) (.pointer (some ⟨gb, 0, none⟩)) rfl hHeld ?_
        simp only [Act.put, pA, pB, pC]
        refine tK 2 (some 53) (.pointer (some ⟨gb, 1, none⟩)) rfl hHeld ?_
        simp only [Act.put, pA, pB, pC]
        refine tH 3 (some 54) (.pointer (some ⟨r, 0, none⟩)) rfl (fun w hw => by obtain ⟨hw0, hw1, hw2, hw3⟩ := hw; first | rfl | (go_simp; done) | (go_simp; rfl)) hHeld ?_
        simp only [Act.put, pA, pB, pC]
        refine tK 4 (some 55) (.int .i64 0) rfl hHeld ?_
        simp only [Act.put, pA, pB, pC]
        refine tK 5 (some 56) (.bool false) rfl hHeld ?_
        simp only [Act.put, pA, pB, pC]
        refine rdH 6 rfl (fun K hK => ?_)
        go_simp
        refine (HNM.out _).mono ?_
        rintro e wn ⟨rfl, hw⟩
        obtain rfl := hw.symm
        clear hw
        try go_wp2_with fail
        refine hK.out _ _ (HC.out _ HVL.out) (fun hH => ?_)
        clear hK K hHeld
        have hHeld := hH
        clear hH
        refine tH 7 (some 58) (.string nt) rfl (fun w hw => by have := HNT.out w; first | rfl | (go_simp; done) | (go_simp; rfl)) hHeld ?_
        simp only [Act.put, pA, pB, pC]
        refine rdH 8 rfl (fun K hK => ?_)
        go_simp
        refine (HQT.out _ HVL.out).mono ?_
        rintro e wn ⟨rfl, hw⟩
        obtain rfl := hw.symm
        clear hw
        try go_wp2_with fail
        refine hK.out _ _ (HC.out _ HVL.out) (fun hH => ?_)
        clear hK K hHeld
        have hHeld := hH
        clear hH
        have HB := HVB
        have H := HVL
        clear HVL HVB
        refine tK 9 (some 50) (.tuple #[.string Z, .int .i64 G]) rfl hHeld ?_
        simp only [Act.put, pA, pB, pC]
        refine tK 10 (some 60) (.string Z) rfl hHeld ?_
        simp only [Act.put, pA, pB, pC]
        refine tK 11 (some 61) (.int .i64 G) rfl hHeld ?_
        simp only [Act.put, pA, pB, pC]
        refine tK 12 (some 10) (.string Z) rfl hHeld ?_
        simp only [Act.put, pA, pB, pC]
        refine tK 13 (some 11) (.int .i64 G) rfl hHeld ?_
        simp only [Act.put, pA, pB, pC]
        refine ⟨by kernel_rfl, ?_⟩
        refine NoPanic.normal ?_
        clear hHeld
        obtain ⟨V9, hV⟩ : ∃ x, V7.drew = x := ⟨_, rfl⟩
        have hv0 := H.out.same (w' := V7.drew) (Nat.le_refl _) (fun _ _ _ => rfl)
        rw [hV] at hv0
        have HVB : Hid (Below B w V9) := by rw [← hV]; exact HB.out.drew
        have HVL := hide hv0
        have HS0 := hide (HC.out _ hv0)
        have HV := hide hV
        clear hv0 hV H HB
        try go_wp2
        refine wp_region_noPanic ?_
        refine wp_region_held_drew (S := fun wx => wx.cell? ⟨gb, 0, none⟩ = some (.pointer (some ⟨p, 0, none⟩)) ∧ wx.cell? ⟨gb, 1, none⟩ = some (.pointer (some ⟨r, 0, none⟩)) ∧ wx.cell? ⟨gb, 2, none⟩ = some (.pointer none) ∧ wx.cell? ⟨gb, 4, none⟩ = some (.pointer none)) (by kernel_rfl) (by rw [HV.out]; exact HS0.out) (fun hHeld => ?_)
        rw [HV.out] at hHeld ⊢
        clear HV HS0
        refine tK 0 (some 62) (.string X) rfl hHeld ?_
        simp only [Act.put, pA, pB, pC]
        refine tK 1 (some 63) (.string X) rfl hHeld ?_
        simp only [Act.put, pA, pB, pC]
        refine tH 2 (some 64) (.bool false) rfl (fun w hw => by have := HXX.out; first | rfl | (go_simp; done) | (go_simp; rfl)) hHeld ?_
        simp only [Act.put, pA, pB, pC]
        refine tK 3 (some 65) (.bool false) rfl hHeld ?_
        simp only [Act.put, pA, pB, pC]
        refine tK 4 (some 66) (.int .i64 E) rfl hHeld ?_
        simp only [Act.put, pA, pB, pC]
        refine tK 5 (some 67) (.int .i64 E) rfl hHeld ?_
        simp only [Act.put, pA, pB, pC]
        refine tH 6 (some 68) (.bool false) rfl (fun w hw => by have := HEE.out; first | rfl | (go_simp; done) | (go_simp; rfl)) hHeld ?_
        simp only [Act.put, pA, pB, pC]
        refine tK 7 (some 69) (.bool false) rfl hHeld ?_
        simp only [Act.put, pA, pB, pC]
        refine tK 8 (some 70) (.bool false) rfl hHeld ?_
        simp only [Act.put, pA, pB, pC]
        refine tK 9 (some 71) (.string Z) rfl hHeld ?_
        simp only [Act.put, pA, pB, pC]
        refine tK 10 (some 72) (.string Z) rfl hHeld ?_
        simp only [Act.put, pA, pB, pC]
        refine tH 11 (some 73) (.bool false) rfl (fun w hw => by have := HZZ.out; first | rfl | (go_simp; done) | (go_simp; rfl)) hHeld ?_
        simp only [Act.put, pA, pB, pC]
        refine tK 12 (some 74) (.bool false) rfl hHeld ?_
        simp only [Act.put, pA, pB, pC]
        refine tK 13 (some 75) (.bool false) rfl hHeld ?_
        simp only [Act.put, pA, pB, pC]
        refine tK 14 (some 76) (.int .i64 G) rfl hHeld ?_
        simp only [Act.put, pA, pB, pC]
        refine tK 15 (some 77) (.int .i64 G) rfl hHeld ?_
        simp only [Act.put, pA, pB, pC]
        refine tH 16 (some 78) (.bool false) rfl (fun w hw => by have := HGG.out; first | rfl | (go_simp; done) | (go_simp; rfl)) hHeld ?_
        simp only [Act.put, pA, pB, pC]
        refine tK 17 (some 79) (.bool false) rfl hHeld ?_
        simp only [Act.put, pA, pB, pC]
        refine tK 18 (some 80) (.bool false) rfl hHeld ?_
        simp only [Act.put, pA, pB, pC]
        refine tK 19 (some 81) (.pointer (some ⟨gb, 0, none⟩)) rfl hHeld ?_
        simp only [Act.put, pA, pB, pC]
        refine tK 20 (some 82) (.int .i64 0) rfl hHeld ?_
        simp only [Act.put, pA, pB, pC]
        refine tK 21 (some 83) (.pointer (some ⟨gb, 0, none⟩)) rfl hHeld ?_
        simp only [Act.put, pA, pB, pC]
        refine tK 22 (some 84) (.pointer (some ⟨gb, 2, none⟩)) rfl hHeld ?_
        simp only [Act.put, pA, pB, pC]
        refine tK 23 (some 85) (.pointer (some ⟨gb, 2, none⟩)) rfl hHeld ?_
        simp only [Act.put, pA, pB, pC]
        refine tH 24 (some 86) (.pointer none) rfl (fun w hw => by obtain ⟨hw0, hw1, hw2, hw3⟩ := hw; first | rfl | (go_simp; done) | (go_simp; rfl)) hHeld ?_
        simp only [Act.put, pA, pB, pC]
        refine tK 25 (some 87) (.bool true) rfl hHeld ?_
        simp only [Act.put, pA, pB, pC]
        refine tK 26 (some 88) (.pointer (some ⟨gb, 0, none⟩)) rfl hHeld ?_
        simp only [Act.put, pA, pB, pC]
        refine tK 27 (some 89) (.int .i64 0) rfl hHeld ?_
        simp only [Act.put, pA, pB, pC]
        refine tK 28 (some 90) (.pointer (some ⟨gb, 0, none⟩)) rfl hHeld ?_
        simp only [Act.put, pA, pB, pC]
        refine tK 29 (some 91) (.pointer (some ⟨gb, 4, none⟩)) rfl hHeld ?_
        simp only [Act.put, pA, pB, pC]
        refine tK 30 (some 92) (.pointer (some ⟨gb, 4, none⟩)) rfl hHeld ?_
        simp only [Act.put, pA, pB, pC]
        refine tH 31 (some 93) (.pointer none) rfl (fun w hw => by obtain ⟨hw0, hw1, hw2, hw3⟩ := hw; first | rfl | (go_simp; done) | (go_simp; rfl)) hHeld ?_
        simp only [Act.put, pA, pB, pC]
        refine tK 32 (some 94) (.bool true) rfl hHeld ?_
        simp only [Act.put, pA, pB, pC]
        refine tK 33 (some 95) (.bool false) rfl hHeld ?_
        simp only [Act.put, pA, pB, pC]
        refine tK 34 (some 96) (.bool false) rfl hHeld ?_
        simp only [Act.put, pA, pB, pC]
        have HB := HVB
        have H := HVL
        clear HVL HVB
        refine ⟨by kernel_rfl, ?_⟩
        refine NoPanic.normal ?_
        clear hHeld
        obtain ⟨V10, hV⟩ : ∃ x, V9.drew = x := ⟨_, rfl⟩
        have hv0 := H.out.same (w' := V9.drew) (Nat.le_refl _) (fun _ _ _ => rfl)
        rw [hV] at hv0
        have HVB : Hid (Below B w V10) := by rw [← hV]; exact HB.out.drew
        have HVL := hide hv0
        have HS0 := hide (HC.out _ hv0)
        have HV := hide hV
        clear hv0 hV H HB
        try go_wp2
        refine wp_region_noPanic ?_
        refine wp_region_held_drew (S := fun wx => wx.cell? ⟨gb, 0, none⟩ = some (.pointer (some ⟨p, 0, none⟩)) ∧ wx.cell? ⟨gb, 1, none⟩ = some (.pointer (some ⟨r, 0, none⟩)) ∧ wx.cell? ⟨gb, 2, none⟩ = some (.pointer none) ∧ wx.cell? ⟨gb, 4, none⟩ = some (.pointer none)) (by kernel_rfl) (by rw [HV.out]; exact HS0.out) (fun hHeld => ?_)
        rw [HV.out] at hHeld ⊢
        clear HV HS0
        refine tK 0 (some 97) (.pointer (some ⟨gb, 0, none⟩)) rfl hHeld ?_
        simp only [Act.put, pA, pB, pC]
        refine tK 1 (some 98) (.int .i64 0) rfl hHeld ?_
        simp only [Act.put, pA, pB, pC]
        refine tK 2 (some 99) (.pointer (some ⟨gb, 0, none⟩)) rfl hHeld ?_
        simp only [Act.put, pA, pB, pC]
        refine tK 3 (some 100) (.pointer (some ⟨gb, 2, none⟩)) rfl hHeld ?_
        simp only [Act.put, pA, pB, pC]
        refine tK 4 (some 101) (.pointer (some ⟨gb, 2, none⟩)) rfl hHeld ?_
        simp only [Act.put, pA, pB, pC]
        refine tH 5 (some 102) (.pointer none) rfl (fun w hw => by obtain ⟨hw0, hw1, hw2, hw3⟩ := hw; first | rfl | (go_simp; done) | (go_simp; rfl)) hHeld ?_
        simp only [Act.put, pA, pB, pC]
        refine tK 6 (some 103) (.bool false) rfl hHeld ?_
        simp only [Act.put, pA, pB, pC]
        refine tK 7 (some 104) (.bool false) rfl hHeld ?_
        simp only [Act.put, pA, pB, pC]
        refine skH 8 (some 105) rfl hHeld ?_
        simp only [Act.put, pA, pB, pC]
        refine skH 9 (some 106) rfl hHeld ?_
        simp only [Act.put, pA, pB, pC]
        refine skH 10 (some 107) rfl hHeld ?_
        simp only [Act.put, pA, pB, pC]
        refine skH 11 (some 108) rfl hHeld ?_
        simp only [Act.put, pA, pB, pC]
        refine skH 12 (some 109) rfl hHeld ?_
        simp only [Act.put, pA, pB, pC]
        refine skH 13 (some 110) rfl hHeld ?_
        simp only [Act.put, pA, pB, pC]
        refine skH 14 (some 111) rfl hHeld ?_
        simp only [Act.put, pA, pB, pC]
        refine skH 15 (some 112) rfl hHeld ?_
        simp only [Act.put, pA, pB, pC]
        refine skH 16 (some 113) rfl hHeld ?_
        simp only [Act.put, pA, pB, pC]
        refine skH 17 (some 114) rfl hHeld ?_
        simp only [Act.put, pA, pB, pC]
        refine skH 18 (some 115) rfl hHeld ?_
        simp only [Act.put, pA, pB, pC]
        refine skH 19 (some 116) rfl hHeld ?_
        simp only [Act.put, pA, pB, pC]
        refine skH 20 (some 117) rfl hHeld ?_
        simp only [Act.put, pA, pB, pC]
        refine skH 21 (some 118) rfl hHeld ?_
        simp only [Act.put, pA, pB, pC]
        refine skH 22 (some 119) rfl hHeld ?_
        simp only [Act.put, pA, pB, pC]
        refine tK 23 (some 120) (.bool false) rfl hHeld ?_
        simp only [Act.put, pA, pB, pC]
        have HB := HVB
        have H := HVL
        clear HVL HVB
        refine ⟨by kernel_rfl, ?_⟩
        refine NoPanic.normal ?_
        clear hHeld
        clear HC HNM HNT HRD HRT HQD HQT HXX HEE HZZ HGG
        go_wp2
        go_roundw
        case rel => exact ⟨1, by omega, by go_num, H.out, HB.out⟩
        case measure => simp [intOf]
      | some x =>
        obtain ⟨g0, q0, v, x⟩ := x
        have HC : Hid (∀ W, Lies B W (PL p r A gb s0 s1 L) → W.cell? ⟨gb, 0, none⟩ = some (.pointer (some ⟨p, 0, none⟩)) ∧ W.cell? ⟨gb, 1, none⟩ = some (.pointer (some ⟨r, 0, none⟩)) ∧ W.cell? ⟨gb, 2, none⟩ = some (.pointer (some ⟨g0, 0, none⟩)) ∧ W.cell? ⟨gb, 4, none⟩ = some (.pointer (some ⟨q0, 0, none⟩))) := fun W h => by
          obtain ⟨c0, c1, c2, c3, c4, c5⟩ := PL.cells h
          rw [hs] at c2 c4
          exact ⟨c0, c1, c2, c4⟩
        have HMV : Hid (∀ W, Lies B W (PL p r A gb s0 s1 L) → Calls Tryz.prog 13 #[.pointer (some ⟨g0, 0, none⟩)] W fun e w' => e = .returned (.int .i64 v) ∧ w' = W) := fun W h => mvalue_any (j := 3) (x := x) h (by unfold PL; rw [hs]; rfl)
        have HQV : Hid (∀ W, Lies B W (PL p r A gb s0 s1 L) → Calls Tryz.prog 62 #[.pointer (some ⟨q0, 0, none⟩)] W fun e w' => e = .returned (.int .i64 v) ∧ w' = W) := fun W h => dvalue_any (j := 4) (x := x) h (by unfold PL; rw [hs]; rfl)
        have HVV : Hid ((v == v) = true) := by show _ = _; simp
        rw [← hs]
        clear hs
        obtain ⟨V1, hV⟩ : ∃ x, wr.drew = x := ⟨_, rfl⟩
        have hv0 := H.out.same (w' := wr.drew) (Nat.le_refl _) (fun _ _ _ => rfl)
        rw [hV] at hv0
        have HVB : Hid (Below B w V1) := by rw [← hV]; exact HB.out.drew
        have HVL := hide hv0
        have HS0 := hide (HC.out _ hv0)
        have HV := hide hV
        clear hv0 hV H HB
        try go_wp2
        refine wp_region_noPanic ?_
        refine wp_region_held_drew (S := fun wx => wx.cell? ⟨gb, 0, none⟩ = some (.pointer (some ⟨p, 0, none⟩)) ∧ wx.cell? ⟨gb, 1, none⟩ = some (.pointer (some ⟨r, 0, none⟩)) ∧ wx.cell? ⟨gb, 2, none⟩ = some (.pointer (some ⟨g0, 0, none⟩)) ∧ wx.cell? ⟨gb, 4, none⟩ = some (.pointer (some ⟨q0, 0, none⟩))) (by kernel_rfl) (by rw [HV.out]; exact HS0.out) (fun hHeld => ?_)
        rw [HV.out] at hHeld ⊢
        clear HV HS0
        refine tK 0 (some 17) (.pointer (some ⟨gb, 0, none⟩)) rfl hHeld ?_
        simp only [Act.put, pA, pB, pC]
        refine tK 1 (some 18) (.pointer (some ⟨gb, 0, none⟩)) rfl hHeld ?_
        simp only [Act.put, pA, pB, pC]
        refine tK 2 (some 19) (.pointer (some ⟨gb, 0, none⟩)) rfl hHeld ?_
        simp only [Act.put, pA, pB, pC]
        refine tH 3 (some 20) (.pointer (some ⟨p, 0, none⟩)) rfl (fun w hw => by obtain ⟨hw0, hw1, hw2, hw3⟩ := hw; first | rfl | (go_simp; done) | (go_simp; rfl)) hHeld ?_
        simp only [Act.put, pA, pB, pC]
        refine tK 4 (some 21) (.int .i64 0) rfl hHeld ?_
        simp only [Act.put, pA, pB, pC]
        refine tK 5 (some 22) (.bool false) rfl hHeld ?_
        simp only [Act.put, pA, pB, pC]
        refine rdH 6 rfl (fun K hK => ?_)
        go_simp
        refine (HNM.out _).mono ?_
        rintro e wn ⟨rfl, hw⟩
        obtain rfl := hw.symm
        clear hw
        try go_wp2_with fail
        refine hK.out _ _ (HC.out _ HVL.out) (fun hH => ?_)
        clear hK K hHeld
        have hHeld := hH
        clear hH
        refine rdH 7 rfl (fun K hK => ?_)
        go_simp
        refine (HRD.out _ HVL.out).mono ?_
        rintro e w2 ⟨rfl, h2, hb2⟩
        try go_wp2_with fail
        refine hK.out _ _ (HC.out _ h2) (fun hH => ?_)
        clear hK K hHeld
        have hHeld := hH
        clear hH
        have HB := hide (HVB.out.trans hb2)
        have H := hide h2
        clear h2 hb2 HVL HVB
        refine tK 8 (some 16) (.tuple #[.string X, .int .i64 E]) rfl hHeld ?_
        simp only [Act.put, pA, pB, pC]
        refine tK 9 (some 25) (.string X) rfl hHeld ?_
        simp only [Act.put, pA, pB, pC]
        refine tK 10 (some 26) (.int .i64 E) rfl hHeld ?_
        simp only [Act.put, pA, pB, pC]
        refine tK 11 (some 4) (.string X) rfl hHeld ?_
        simp only [Act.put, pA, pB, pC]
        refine tK 12 (some 5) (.int .i64 E) rfl hHeld ?_
        simp only [Act.put, pA, pB, pC]
        refine ⟨by kernel_rfl, ?_⟩
        refine NoPanic.normal ?_
        clear hHeld
        obtain ⟨V3, hV⟩ : ∃ x, w2.drew = x := ⟨_, rfl⟩
        have hv0 := H.out.same (w' := w2.drew) (Nat.le_refl _) (fun _ _ _ => rfl)
        rw [hV] at hv0
        have HVB : Hid (Below B w V3) := by rw [← hV]; exact HB.out.drew
        have HVL := hide hv0
        have HS0 := hide (HC.out _ hv0)
        have HV := hide hV
        clear hv0 hV H HB
        try go_wp2
        refine wp_region_noPanic ?_
        refine wp_region_held_drew (S := fun wx => wx.cell? ⟨gb, 0, none⟩ = some (.pointer (some ⟨p, 0, none⟩)) ∧ wx.cell? ⟨gb, 1, none⟩ = some (.pointer (some ⟨r, 0, none⟩)) ∧ wx.cell? ⟨gb, 2, none⟩ = some (.pointer (some ⟨g0, 0, none⟩)) ∧ wx.cell? ⟨gb, 4, none⟩ = some (.pointer (some ⟨q0, 0, none⟩))) (by kernel_rfl) (by rw [HV.out]; exact HS0.out) (fun hHeld => ?_)
        rw [HV.out] at hHeld ⊢
        clear HV HS0
        refine tK 0 (some 28) (.pointer (some ⟨gb, 0, none⟩)) rfl hHeld ?_
        simp only [Act.put, pA, pB, pC]
        refine tK 1 (some 29) (.pointer (some ⟨gb, 0, none⟩)) rfl hHeld ?_
        simp only [Act.put, pA, pB, pC]
        refine tK 2 (some 30) (.pointer (some ⟨gb, 1, none⟩)) rfl hHeld ?_
        simp only [Act.put, pA, pB, pC]
        refine tH 3 (some 31) (.pointer (some ⟨r, 0, none⟩)) rfl (fun w hw => by obtain ⟨hw0, hw1, hw2, hw3⟩ := hw; first | rfl | (go_simp; done) | (go_simp; rfl)) hHeld ?_
        simp only [Act.put, pA, pB, pC]
        refine tK 4 (some 32) (.int .i64 0) rfl hHeld ?_
        simp only [Act.put, pA, pB, pC]
        refine tK 5 (some 33) (.bool false) rfl hHeld ?_
        simp only [Act.put, pA, pB, pC]
        refine rdH 6 rfl (fun K hK => ?_)
        go_simp
        refine (HNM.out _).mono ?_
        rintro e wn ⟨rfl, hw⟩
        obtain rfl := hw.symm
        clear hw
        try go_wp2_with fail
        refine hK.out _ _ (HC.out _ HVL.out) (fun hH => ?_)
        clear hK K hHeld
        have hHeld := hH
        clear hH
        refine rdH 7 rfl (fun K hK => ?_)
        go_simp
        refine (HQD.out _ HVL.out).mono ?_
        rintro e wn ⟨rfl, hw⟩
        obtain rfl := hw.symm
        clear hw
        try go_wp2_with fail
        refine hK.out _ _ (HC.out _ HVL.out) (fun hH => ?_)
        clear hK K hHeld
        have hHeld := hH
        clear hH
        have HB := HVB
        have H := HVL
        clear HVL HVB
        refine tK 8 (some 27) (.tuple #[.string X, .int .i64 E]) rfl hHeld ?_
        simp only [Act.put, pA, pB, pC]
        refine tK 9 (some 36) (.string X) rfl hHeld ?_
        simp only [Act.put, pA, pB, pC]
        refine tK 10 (some 37) (.int .i64 E) rfl hHeld ?_
        simp only [Act.put, pA, pB, pC]
        refine tK 11 (some 6) (.string X) rfl hHeld ?_
        simp only [Act.put, pA, pB, pC]
        refine tK 12 (some 7) (.int .i64 E) rfl hHeld ?_
        simp only [Act.put, pA, pB, pC]
        refine ⟨by kernel_rfl, ?_⟩
        refine NoPanic.normal ?_
        clear hHeld
        obtain ⟨V5, hV⟩ : ∃ x, V3.drew = x := ⟨_, rfl⟩
        have hv0 := H.out.same (w' := V3.drew) (Nat.le_refl _) (fun _ _ _ => rfl)
        rw [hV] at hv0
        have HVB : Hid (Below B w V5) := by rw [← hV]; exact HB.out.drew
        have HVL := hide hv0
        have HS0 := hide (HC.out _ hv0)
        have HV := hide hV
        clear hv0 hV H HB
        try go_wp2
        refine wp_region_noPanic ?_
        refine wp_region_held_drew (S := fun wx => wx.cell? ⟨gb, 0, none⟩ = some (.pointer (some ⟨p, 0, none⟩)) ∧ wx.cell? ⟨gb, 1, none⟩ = some (.pointer (some ⟨r, 0, none⟩)) ∧ wx.cell? ⟨gb, 2, none⟩ = some (.pointer (some ⟨g0, 0, none⟩)) ∧ wx.cell? ⟨gb, 4, none⟩ = some (.pointer (some ⟨q0, 0, none⟩))) (by kernel_rfl) (by rw [HV.out]; exact HS0.out) (fun hHeld => ?_)
        rw [HV.out] at hHeld ⊢
        clear HV HS0
        refine tK 0 (some 39) (.pointer (some ⟨gb, 0, none⟩)) rfl hHeld ?_
        simp only [Act.put, pA, pB, pC]
        refine tK 1 (some 40) (.pointer (some ⟨gb, 0, none⟩)) rfl hHeld ?_
        simp only [Act.put, pA, pB, pC]
        refine tK 2 (some 41) (.pointer (some ⟨gb, 0, none⟩)) rfl hHeld ?_
        simp only [Act.put, pA, pB, pC]
        refine tH 3 (some 42) (.pointer (some ⟨p, 0, none⟩)) rfl (fun w hw => by obtain ⟨hw0, hw1, hw2, hw3⟩ := hw; first | rfl | (go_simp; done) | (go_simp; rfl)) hHeld ?_
        simp only [Act.put, pA, pB, pC]
        refine tK 4 (some 43) (.int .i64 0) rfl hHeld ?_
        simp only [Act.put, pA, pB, pC]
        refine tK 5 (some 44) (.bool false) rfl hHeld ?_
        simp only [Act.put, pA, pB, pC]
        refine rdH 6 rfl (fun K hK => ?_)
        go_simp
        refine (HNM.out _).mono ?_
        rintro e wn ⟨rfl, hw⟩
        obtain rfl := hw.symm
        clear hw
        try go_wp2_with fail
        refine hK.out _ _ (HC.out _ HVL.out) (fun hH => ?_)
        clear hK K hHeld
        have hHeld := hH
        clear hH
        refine tH 7 (some 46) (.string nt) rfl (fun w hw => by have := HNT.out w; first | rfl | (go_simp; done) | (go_simp; rfl)) hHeld ?_
        simp only [Act.put, pA, pB, pC]
        refine rdH 8 rfl (fun K hK => ?_)
        go_simp
        refine (HRT.out _ HVL.out).mono ?_
        rintro e w6 ⟨rfl, h2, hb2⟩
        try go_wp2_with fail
        refine hK.out _ _ (HC.out _ h2) (fun hH => ?_)
        clear hK K hHeld
        have hHeld := hH
        clear hH
        have HB := hide (HVB.out.trans hb2)
        have H := hide h2
        clear h2 hb2 HVL HVB
        refine tK 9 (some 38) (.tuple #[.string Z, .int .i64 G]) rfl hHeld ?_
        simp only [Act.put, pA, pB, pC]
        refine tK 10 (some 48) (.string Z) rfl hHeld ?_
        simp only [Act.put, pA, pB, pC]
        refine tK 11 (some 49) (.int .i64 G) rfl hHeld ?_
        simp only [Act.put, pA, pB, pC]
        refine tK 12 (some 8) (.string Z) rfl hHeld ?_
        simp only [Act.put, pA, pB, pC]
        refine tK 13 (some 9) (.int .i64 G) rfl hHeld ?_
        simp only [Act.put, pA, pB, pC]
        refine ⟨by kernel_rfl, ?_⟩
        refine NoPanic.normal ?_
        clear hHeld
        obtain ⟨V7, hV⟩ : ∃ x, w6.drew = x := ⟨_, rfl⟩
        have hv0 := H.out.same (w' := w6.drew) (Nat.le_refl _) (fun _ _ _ => rfl)
        rw [hV] at hv0
        have HVB : Hid (Below B w V7) := by rw [← hV]; exact HB.out.drew
        have HVL := hide hv0
        have HS0 := hide (HC.out _ hv0)
        have HV := hide hV
        clear hv0 hV H HB
        try go_wp2
        refine wp_region_noPanic ?_
        refine wp_region_held_drew (S := fun wx => wx.cell? ⟨gb, 0, none⟩ = some (.pointer (some ⟨p, 0, none⟩)) ∧ wx.cell? ⟨gb, 1, none⟩ = some (.pointer (some ⟨r, 0, none⟩)) ∧ wx.cell? ⟨gb, 2, none⟩ = some (.pointer (some ⟨g0, 0, none⟩)) ∧ wx.cell? ⟨gb, 4, none⟩ = some (.pointer (some ⟨q0, 0, none⟩))) (by kernel_rfl) (by rw [HV.out]; exact HS0.out) (fun hHeld => ?_)
        rw [HV.out] at hHeld ⊢
        clear HV HS0
        refine tK 0 (some 51) (.pointer (some ⟨gb, 0, none⟩)) rfl hHeld ?_
        simp only [Act.put, pA, pB, pC]
        refine tK 1 (some 52) (.pointer (some ⟨gb, 0, none⟩)) rfl hHeld ?_
        simp only [Act.put, pA, pB, pC]
        refine tK 2 (some 53) (.pointer (some ⟨gb, 1, none⟩)) rfl hHeld ?_
        simp only [Act.put, pA, pB, pC]
        refine tH 3 (some 54) (.pointer (some ⟨r, 0, none⟩)) rfl (fun w hw => by obtain ⟨hw0, hw1, hw2, hw3⟩ := hw; first | rfl | (go_simp; done) | (go_simp; rfl)) hHeld ?_
        simp only [Act.put, pA, pB, pC]
        refine tK 4 (some 55) (.int .i64 0) rfl hHeld ?_
        simp only [Act.put, pA, pB, pC]
        refine tK 5 (some 56) (.bool false) rfl hHeld ?_
        simp only [Act.put, pA, pB, pC]
        refine rdH 6 rfl (fun K hK => ?_)
        go_simp
        refine (HNM.out _).mono ?_
        rintro e wn ⟨rfl, hw⟩
        obtain rfl := hw.symm
        clear hw
        try go_wp2_with fail
        refine hK.out _ _ (HC.out _ HVL.out) (fun hH => ?_)
        clear hK K hHeld
        have hHeld := hH
        clear hH
        refine tH 7 (some 58) (.string nt) rfl (fun w hw => by have := HNT.out w; first | rfl | (go_simp; done) | (go_simp; rfl)) hHeld ?_
        simp only [Act.put, pA, pB, pC]
        refine rdH 8 rfl (fun K hK => ?_)
        go_simp
        refine (HQT.out _ HVL.out).mono ?_
        rintro e wn ⟨rfl, hw⟩
        obtain rfl := hw.symm
        clear hw
        try go_wp2_with fail
        refine hK.out _ _ (HC.out _ HVL.out) (fun hH => ?_)
        clear hK K hHeld
        have hHeld := hH
        clear hH
        have HB := HVB
        have H := HVL
        clear HVL HVB
        refine tK 9 (some 50) (.tuple #[.string Z, .int .i64 G]) rfl hHeld ?_
        simp only [Act.put, pA, pB, pC]
        refine tK 10 (some 60) (.string Z) rfl hHeld ?_
        simp only [Act.put, pA, pB, pC]
        refine tK 11 (some 61) (.int .i64 G) rfl hHeld ?_
        simp only [Act.put, pA, pB, pC]
        refine tK 12 (some 10) (.string Z) rfl hHeld ?_
        simp only [Act.put, pA, pB, pC]
        refine tK 13 (some 11) (.int .i64 G) rfl hHeld ?_
        simp only [Act.put, pA, pB, pC]
        refine ⟨by kernel_rfl, ?_⟩
        refine NoPanic.normal ?_
        clear hHeld
        obtain ⟨V9, hV⟩ : ∃ x, V7.drew = x := ⟨_, rfl⟩
        have hv0 := H.out.same (w' := V7.drew) (Nat.le_refl _) (fun _ _ _ => rfl)
        rw [hV] at hv0
        have HVB : Hid (Below B w V9) := by rw [← hV]; exact HB.out.drew
        have HVL := hide hv0
        have HS0 := hide (HC.out _ hv0)
        have HV := hide hV
        clear hv0 hV H HB
        try go_wp2
        refine wp_region_noPanic ?_
        refine wp_region_held_drew (S := fun wx => wx.cell? ⟨gb, 0, none⟩ = some (.pointer (some ⟨p, 0, none⟩)) ∧ wx.cell? ⟨gb, 1, none⟩ = some (.pointer (some ⟨r, 0, none⟩)) ∧ wx.cell? ⟨gb, 2, none⟩ = some (.pointer (some ⟨g0, 0, none⟩)) ∧ wx.cell? ⟨gb, 4, none⟩ = some (.pointer (some ⟨q0, 0, none⟩))) (by kernel_rfl) (by rw [HV.out]; exact HS0.out) (fun hHeld => ?_)
        rw [HV.out] at hHeld ⊢
        clear HV HS0
        refine tK 0 (some 62) (.string X) rfl hHeld ?_
        simp only [Act.put, pA, pB, pC]
        refine tK 1 (some 63) (.string X) rfl hHeld ?_
        simp only [Act.put, pA, pB, pC]
        refine tH 2 (some 64) (.bool false) rfl (fun w hw => by have := HXX.out; first | rfl | (go_simp; done) | (go_simp; rfl)) hHeld ?_
        simp only [Act.put, pA, pB, pC]
        refine tK 3 (some 65) (.bool false) rfl hHeld ?_
        simp only [Act.put, pA, pB, pC]
        refine tK 4 (some 66) (.int .i64 E) rfl hHeld ?_
        simp only [Act.put, pA, pB, pC]
        refine tK 5 (some 67) (.int .i64 E) rfl hHeld ?_
        simp only [Act.put, pA, pB, pC]
        refine tH 6 (some 68) (.bool false) rfl (fun w hw => by have := HEE.out; first | rfl | (go_simp; done) | (go_simp; rfl)) hHeld ?_
        simp only [Act.put, pA, pB, pC]
        refine tK 7 (some 69) (.bool false) rfl hHeld ?_
        simp only [Act.put, pA, pB, pC]
        refine tK 8 (some 70) (.bool false) rfl hHeld ?_
        simp only [Act.put, pA, pB, pC]
        refine tK 9 (some 71) (.string Z) rfl hHeld ?_
        simp only [Act.put, pA, pB, pC]
        refine tK 10 (some 72) (.string Z) rfl hHeld ?_
        simp only [Act.put, pA, pB, pC]
        refine tH 11 (some 73) (.bool false) rfl (fun w hw => by have := HZZ.out; first | rfl | (go_simp; done) | (go_simp; rfl)) hHeld ?_
        simp only [Act.put, pA, pB, pC]
        refine tK 12 (some 74) (.bool false) rfl hHeld ?_
        simp only [Act.put, pA, pB, pC]
        refine tK 13 (some 75) (.bool false) rfl hHeld ?_
        simp only [Act.put, pA, pB, pC]
        refine tK 14 (some 76) (.int .i64 G) rfl hHeld ?_
        simp only [Act.put, pA, pB, pC]
        refine tK 15 (some 77) (.int .i64 G) rfl hHeld ?_
        simp only [Act.put, pA, pB, pC]
        refine tH 16 (some 78) (.bool false) rfl (fun w hw => by have := HGG.out; first | rfl | (go_simp; done) | (go_simp; rfl)) hHeld ?_
        simp only [Act.put, pA, pB, pC]
        refine tK 17 (some 79) (.bool false) rfl hHeld ?_
        simp only [Act.put, pA, pB, pC]
        refine tK 18 (some 80) (.bool false) rfl hHeld ?_
        simp only [Act.put, pA, pB, pC]
        refine tK 19 (some 81) (.pointer (some ⟨gb, 0, none⟩)) rfl hHeld ?_
        simp only [Act.put, pA, pB, pC]
        refine tK 20 (some 82) (.int .i64 0) rfl hHeld ?_
        simp only [Act.put, pA, pB, pC]
        refine tK 21 (some 83) (.pointer (some ⟨gb, 0, none⟩)) rfl hHeld ?_
        simp only [Act.put, pA, pB, pC]
        refine tK 22 (some 84) (.pointer (some ⟨gb, 2, none⟩)) rfl hHeld ?_
        simp only [Act.put, pA, pB, pC]
        refine tK 23 (some 85) (.pointer (some ⟨gb, 2, none⟩)) rfl hHeld ?_
        simp only [Act.put, pA, pB, pC]
        refine tH 24 (some 86) (.pointer (some ⟨g0, 0, none⟩)) rfl (fun w hw => by obtain ⟨hw0, hw1, hw2, hw3⟩ := hw; first | rfl | (go_simp; done) | (go_simp; rfl)) hHeld ?_
        simp only [Act.put, pA, pB, pC]
        refine tK 25 (some 87) (.bool false) rfl hHeld ?_
        simp only [Act.put, pA, pB, pC]
        refine tK 26 (some 88) (.pointer (some ⟨gb, 0, none⟩)) rfl hHeld ?_
        simp only [Act.put, pA, pB, pC]
        refine tK 27 (some 89) (.int .i64 0) rfl hHeld ?_
        simp only [Act.put, pA, pB, pC]
        refine tK 28 (some 90) (.pointer (some ⟨gb, 0, none⟩)) rfl hHeld ?_
        simp only [Act.put, pA, pB, pC]
        refine tK 29 (some 91) (.pointer (some ⟨gb, 4, none⟩)) rfl hHeld ?_
        simp only [Act.put, pA, pB, pC]
        refine tK 30 (some 92) (.pointer (some ⟨gb, 4, none⟩)) rfl hHeld ?_
        simp only [Act.put, pA, pB, pC]
        refine tH 31 (some 93) (.pointer (some ⟨q0, 0, none⟩)) rfl (fun w hw => by obtain ⟨hw0, hw1, hw2, hw3⟩ := hw; first | rfl | (go_simp; done) | (go_simp; rfl)) hHeld ?_
        simp only [Act.put, pA, pB, pC]
        refine tK 32 (some 94) (.bool false) rfl hHeld ?_
        simp only [Act.put, pA, pB, pC]
        refine tK 33 (some 95) (.bool false) rfl hHeld ?_
        simp only [Act.put, pA, pB, pC]
        refine tK 34 (some 96) (.bool false) rfl hHeld ?_
        simp only [Act.put, pA, pB, pC]
        have HB := HVB
        have H := HVL
        clear HVL HVB
        refine ⟨by kernel_rfl, ?_⟩
        refine NoPanic.normal ?_
        clear hHeld
        obtain ⟨V10, hV⟩ : ∃ x, V9.drew = x := ⟨_, rfl⟩
        have hv0 := H.out.same (w' := V9.drew) (Nat.le_refl _) (fun _ _ _ => rfl)
        rw [hV] at hv0
        have HVB : Hid (Below B w V10) := by rw [← hV]; exact HB.out.drew
        have HVL := hide hv0
        have HS0 := hide (HC.out _ hv0)
        have HV := hide hV
        clear hv0 hV H HB
        try go_wp2
        refine wp_region_noPanic ?_
        refine wp_region_held_drew (S := fun wx => wx.cell? ⟨gb, 0, none⟩ = some (.pointer (some ⟨p, 0, none⟩)) ∧ wx.cell? ⟨gb, 1, none⟩ = some (.pointer (some ⟨r, 0, none⟩)) ∧ wx.cell? ⟨gb, 2, none⟩ = some (.pointer (some ⟨g0, 0, none⟩)) ∧ wx.cell? ⟨gb, 4, none⟩ = some (.pointer (some ⟨q0, 0, none⟩))) (by kernel_rfl) (by rw [HV.out]; exact HS0.out) (fun hHeld => ?_)
        rw [HV.out] at hHeld ⊢
        clear HV HS0
        refine tK 0 (some 97) (.pointer (some ⟨gb, 0, none⟩)) rfl hHeld ?_
        simp only [Act.put, pA, pB, pC]
        refine tK 1 (some 98) (.int .i64 0) rfl hHeld ?_
        simp only [Act.put, pA, pB, pC]
        refine tK 2 (some 99) (.pointer (some ⟨gb, 0, none⟩)) rfl hHeld ?_
        simp only [Act.put, pA, pB, pC]
        refine tK 3 (some 100) (.pointer (some ⟨gb, 2, none⟩)) rfl hHeld ?_
        simp only [Act.put, pA, pB, pC]
        refine tK 4 (some 101) (.pointer (some ⟨gb, 2, none⟩)) rfl hHeld ?_
        simp only [Act.put, pA, pB, pC]
        refine tH 5 (some 102) (.pointer (some ⟨g0, 0, none⟩)) rfl (fun w hw => by obtain ⟨hw0, hw1, hw2, hw3⟩ := hw; first | rfl | (go_simp; done) | (go_simp; rfl)) hHeld ?_
        simp only [Act.put, pA, pB, pC]
        refine tK 6 (some 103) (.bool true) rfl hHeld ?_
        simp only [Act.put, pA, pB, pC]
        refine tK 7 (some 104) (.bool true) rfl hHeld ?_
        simp only [Act.put, pA, pB, pC]
        refine tK 8 (some 105) (.pointer (some ⟨gb, 0, none⟩)) rfl hHeld ?_
        simp only [Act.put, pA, pB, pC]
        refine tK 9 (some 106) (.int .i64 0) rfl hHeld ?_
        simp only [Act.put, pA, pB, pC]
        refine tK 10 (some 107) (.pointer (some ⟨gb, 0, none⟩)) rfl hHeld ?_
        simp only [Act.put, pA, pB, pC]
        refine tK 11 (some 108) (.pointer (some ⟨gb, 2, none⟩)) rfl hHeld ?_
        simp only [Act.put, pA, pB, pC]
        refine tK 12 (some 109) (.pointer (some ⟨gb, 2, none⟩)) rfl hHeld ?_
        simp only [Act.put, pA, pB, pC]
        refine tH 13 (some 110) (.pointer (some ⟨g0, 0, none⟩)) rfl (fun w hw => by obtain ⟨hw0, hw1, hw2, hw3⟩ := hw; first | rfl | (go_simp; done) | (go_simp; rfl)) hHeld ?_
        simp only [Act.put, pA, pB, pC]
        refine tK 15 (some 112) (.pointer (some ⟨gb, 0, none⟩)) rfl hHeld ?_
        simp only [Act.put, pA, pB, pC]
        refine tK 16 (some 113) (.int .i64 0) rfl hHeld ?_
        simp only [Act.put, pA, pB, pC]
        refine tK 17 (some 114) (.pointer (some ⟨gb, 0, none⟩)) rfl hHeld ?_
        simp only [Act.put, pA, pB, pC]
        refine tK 18 (some 115) (.pointer (some ⟨gb, 4, none⟩)) rfl hHeld ?_
        simp only [Act.put, pA, pB, pC]
        refine tK 19 (some 116) (.pointer (some ⟨gb, 4, none⟩)) rfl hHeld ?_
        simp only [Act.put, pA, pB, pC]
        refine tH 20 (some 117) (.pointer (some ⟨q0, 0, none⟩)) rfl (fun w hw => by obtain ⟨hw0, hw1, hw2, hw3⟩ := hw; first | rfl | (go_simp; done) | (go_simp; rfl)) hHeld ?_
        simp only [Act.put, pA, pB, pC]
        refine rdH 14 rfl (fun K hK => ?_)
        go_simp
        refine (HMV.out _ HVL.out).mono ?_
        rintro e wn ⟨rfl, hw⟩
        obtain rfl := hw.symm
        clear hw
        try go_wp2_with fail
        refine hK.out _ _ (HC.out _ HVL.out) (fun hH => ?_)
        clear hK K hHeld
        have hHeld := hH
        clear hH
        refine rdH 21 rfl (fun K hK => ?_)
        go_simp
        refine (HQV.out _ HVL.out).mono ?_
        rintro e wn ⟨rfl, hw⟩
        obtain rfl := hw.symm
        clear hw
        try go_wp2_with fail
        refine hK.out _ _ (HC.out _ HVL.out) (fun hH => ?_)
        clear hK K hHeld
        have hHeld := hH
        clear hH
        refine tH 22 (some 119) (.bool false) rfl (fun w hw => by have := HVV.out; first | rfl | (go_simp; done) | (go_simp; rfl)) hHeld ?_
        simp only [Act.put, pA, pB, pC]
        refine tK 23 (some 120) (.bool false) rfl hHeld ?_
        simp only [Act.put, pA, pB, pC]
        have HB := HVB
        have H := HVL
        clear HVL HVB
        refine ⟨by kernel_rfl, ?_⟩
        refine NoPanic.normal ?_
        clear hHeld
        clear HC HNM HNT HRD HRT HQD HQT HXX HEE HZZ HGG
        go_wp2
        go_roundw
        case rel => exact ⟨1, by omega, by go_num, H.out, HB.out⟩
        case measure => simp [intOf]
    · subst hk'
      clear HO1 HO2 HOO
      obtain ⟨nm, hnm⟩ : ∃ s, nameT true = s := ⟨_, rfl⟩
      have HNM : Hid (∀ w : World, Calls Tryz.prog 21 #[.bool true] w fun e w' => e = .returned (.string nm) ∧ w' = w) := fun w => by rw [← hnm]; exact name_any true w
      have znm : nm.size = 3 := by rw [← hnm]; rfl
      obtain ⟨nt, hnt⟩ : ∃ s, nm ++ (⟨#[46, 116, 109, 112]⟩ : ByteArray) = s := ⟨_, rfl⟩
      have HNT : Hid (∀ w : World, (Op.stringOp .add nm ⟨#[46, 116, 109, 112]⟩).run Tryz.prog w = .ok (.string nt) w) := fun w => k_add w _ _ nt hnt (by rw [znm]; decide)
      have znt : nt.size = 7 := by rw [← hnt, ByteArray.size_append, znm]; rfl
      obtain ⟨X, hX⟩ : ∃ X : ByteArray, (⟨(A.read nm.data.toList 0 1000).1.toArray⟩ : ByteArray) = X := ⟨_, rfl⟩
      obtain ⟨E, hE⟩ : ∃ E, (A.read nm.data.toList 0 1000).2 = E := ⟨_, rfl⟩
      obtain ⟨Z, hZ⟩ : ∃ X : ByteArray, (⟨(A.read nt.data.toList 0 1000).1.toArray⟩ : ByteArray) = X := ⟨_, rfl⟩
      obtain ⟨G, hG⟩ : ∃ E, (A.read nt.data.toList 0 1000).2 = E := ⟨_, rfl⟩
      have HRD : Hid (∀ W, Lies B W (PL p r A gb s0 s1 L) → Calls Tryz.prog 12 #[.pointer (some ⟨p, 0, none⟩), .string nm, .int .i64 0, .int .i64 1000] W fun e w' => e = .returned (.tuple #[.string X, .int .i64 E]) ∧ Lies B w' (PL p r A gb s0 s1 L) ∧ Below B W w') := fun W h => by rw [← hX, ← hE]; exact s_read (i := 0) h rfl nm (by rw [znm]; decide) 0 1000
      have HRT : Hid (∀ W, Lies B W (PL p r A gb s0 s1 L) → Calls Tryz.prog 12 #[.pointer (some ⟨p, 0, none⟩), .string nt, .int .i64 0, .int .i64 1000] W fun e w' => e = .returned (.tuple #[.string Z, .int .i64 G]) ∧ Lies B w' (PL p r A gb s0 s1 L) ∧ Below B W w') := fun W h => by rw [← hZ, ← hG]; exact s_read (i := 0) h rfl nt (by rw [znt]; decide) 0 1000
      have HQD : Hid (∀ W, Lies B W (PL p r A gb s0 s1 L) → Calls Tryz.prog 61 #[.pointer (some ⟨r, 0, none⟩), .string nm, .int .i64 0, .int .i64 1000] W fun e w' => e = .returned (.tuple #[.string X, .int .i64 E]) ∧ w' = W) := fun W h => by rw [← hX, ← hE]; exact r_read (i := 1) h rfl HOK.out nm 0 1000
      have HQT : Hid (∀ W, Lies B W (PL p r A gb s0 s1 L) → Calls Tryz.prog 61 #[.pointer (some ⟨r, 0, none⟩), .string nt, .int .i64 0, .int .i64 1000] W fun e w' => e = .returned (.tuple #[.string Z, .int .i64 G]) ∧ w' = W) := fun W h => by rw [← hZ, ← hG]; exact r_read (i := 1) h rfl HOK.out nt 0 1000
      have HXX : Hid ((X.toList == X.toList) = true) := by show _ = _; simp
      have HZZ : Hid ((Z.toList == Z.toList) = true) := by show _ = _; simp
      have HEE : Hid ((E == E) = true) := by show _ = _; simp
      have HGG : Hid ((G == G) = true) := by show _ = _; simp
      clear hnm hnt hX hE hZ hG znm znt
      cases hs : s1 with
      | none =>
        have HC : Hid (∀ W, Lies B W (PL p r A gb s0 s1 L) → W.cell? ⟨gb, 0, none⟩ = some (.pointer (some ⟨p, 0, none⟩)) ∧ W.cell? ⟨gb, 1, none⟩ = some (.pointer (some ⟨r, 0, none⟩)) ∧ W.cell? ⟨gb, 3, none⟩ = some (.pointer none) ∧ W.cell? ⟨gb, 5, none⟩ = some (.pointer none)) := fun W h => by
          obtain ⟨c0, c1, c2, c3, c4, c5⟩ := PL.cells h
          rw [hs] at c3 c5
          exact ⟨c0, c1, c3, c5⟩
        rw [← hs]
        clear hs
        obtain ⟨V1, hV⟩ : ∃ x, wr.drew = x := ⟨_, rfl⟩
        have hv0 := H.out.same (w' := wr.drew) (Nat.le_refl _) (fun _ _ _ => rfl)
        rw [hV] at hv0
        have HVB : Hid (Below B w V1) := by rw [← hV]; exact HB.out.drew
        have HVL := hide hv0
        have HS0 := hide (HC.out _ hv0)
        have HV := hide hV
        clear hv0 hV H HB
        try go_wp2
        refine wp_region_noPanic ?_
        refine wp_region_held_drew (S := fun wx => wx.cell? ⟨gb, 0, none⟩ = some (.pointer (some ⟨p, 0, none⟩)) ∧ wx.cell? ⟨gb, 1, none⟩ = some (.pointer (some ⟨r, 0, none⟩)) ∧ wx.cell? ⟨gb, 3, none⟩ = some (.pointer none) ∧ wx.cell? ⟨gb, 5, none⟩ = some (.pointer none)) (by kernel_rfl) (by rw [HV.out]; exact HS0.out) (fun hHeld => ?_)
        rw [HV.out] at hHeld ⊢
        clear HV HS0
        refine tK 0 (some 17) (.pointer (some ⟨gb, 0, none⟩)) rfl hHeld ?_
        simp only [Act.put, pA, pB, pC]
        refine tK 1 (some 18) (.pointer (some ⟨gb, 0, none⟩)) rfl hHeld ?_
        simp only [Act.put, pA, pB, pC]
        refine tK 2 (some 19) (.pointer (some ⟨gb, 0, none⟩)) rfl hHeld ?_
        simp only [Act.put, pA, pB, pC]
        refine tH 3 (some 20) (.pointer (some ⟨p, 0, none⟩)) rfl (fun w hw => by obtain ⟨hw0, hw1, hw2, hw3⟩ := hw; first | rfl | (go_simp; done) | (go_simp; rfl)) hHeld ?_
        simp only [Act.put, pA, pB, pC]
        refine tK 4 (some 21) (.int .i64 1) rfl hHeld ?_
        simp only [Act.put, pA, pB, pC]
        refine tK 5 (some 22) (.bool true) rfl hHeld ?_
        simp only [Act.put, pA, pB, pC]
        refine rdH 6 rfl (fun K hK => ?_)
        go_simp
        refine (HNM.out _).mono ?_
        rintro e wn ⟨rfl, hw⟩
        obtain rfl := hw.symm
        clear hw
        try go_wp2_with fail
        refine hK.out _ _ (HC.out _ HVL.out) (fun hH => ?_)
        clear hK K hHeld
        have hHeld := hH
        clear hH
        refine rdH 7 rfl (fun K hK => ?_)
        go_simp
        refine (HRD.out _ HVL.out).mono ?_
        rintro e w2 ⟨rfl, h2, hb2⟩
        try go_wp2_with fail
        refine hK.out _ _ (HC.out _ h2) (fun hH => ?_)
        clear hK K hHeld
        have hHeld := hH
        clear hH
        have HB := hide (HVB.out.trans hb2)
        have H := hide h2
        clear h2 hb2 HVL HVB
        refine tK 8 (some 16) (.tuple #[.string X, .int .i64 E]) rfl hHeld ?_
        simp only [Act.put, pA, pB, pC]
        refine tK 9 (some 25) (.string X) rfl hHeld ?_
        simp only [Act.put, pA, pB, pC]
        refine tK 10 (some 26) (.int .i64 E) rfl hHeld ?_
        simp only [Act.put, pA, pB, pC]
        refine tK 11 (some 4) (.string X) rfl hHeld ?_
        simp only [Act.put, pA, pB, pC]
        refine tK 12 (some 5) (.int .i64 E) rfl hHeld ?_
        simp only [Act.put, pA, pB, pC]
        refine ⟨by kernel_rfl, ?_⟩
        refine NoPanic.normal ?_
        clear hHeld
        obtain ⟨V3, hV⟩ : ∃ x, w2.drew = x := ⟨_, rfl⟩
        have hv0 := H.out.same (w' := w2.drew) (Nat.le_refl _) (fun _ _ _ => rfl)
        rw [hV] at hv0
        have HVB : Hid (Below B w V3) := by rw [← hV]; exact HB.out.drew
        have HVL := hide hv0
        have HS0 := hide (HC.out _ hv0)
        have HV := hide hV
        clear hv0 hV H HB
        try go_wp2
        refine wp_region_noPanic ?_
        refine wp_region_held_drew (S := fun wx => wx.cell? ⟨gb, 0, none⟩ = some (.pointer (some ⟨p, 0, none⟩)) ∧ wx.cell? ⟨gb, 1, none⟩ = some (.pointer (some ⟨r, 0, none⟩)) ∧ wx.cell? ⟨gb, 3, none⟩ = some (.pointer none) ∧ wx.cell? ⟨gb, 5, none⟩ = some (.pointer none)) (by kernel_rfl) (by rw [HV.out]; exact HS0.out) (fun hHeld => ?_)
        rw [HV.out] at hHeld ⊢
        clear HV HS0
        refine tK 0 (some 28) (.pointer (some ⟨gb, 0, none⟩)) rfl hHeld ?_
        simp only [Act.put, pA, pB, pC]
        refine tK 1 (some 29) (.pointer (some ⟨gb, 0, none⟩)) rfl hHeld ?_
        simp only [Act.put, pA, pB, pC]
        refine tK 2 (some 30) (.pointer (some ⟨gb, 1, none⟩)) rfl hHeld ?_
        simp only [Act.put, pA, pB, pC]
        refine tH 3 (some 31) (.pointer (some ⟨r, 0, none⟩)) rfl (fun w hw => by obtain ⟨hw0, hw1, hw2, hw3⟩ := hw; first | rfl | (go_simp; done) | (go_simp; rfl)) hHeld ?_
        simp only [Act.put, pA, pB, pC]
        refine tK 4 (some 32) (.int .i64 1) rfl hHeld ?_
        simp only [Act.put, pA, pB, pC]
        refine tK 5 (some 33) (.bool true) rfl hHeld ?_
        simp only [Act.put, pA, pB, pC]
        refine rdH 6 rfl (fun K hK => ?_)
        go_simp
        refine (HNM.out _).mono ?_
        rintro e wn ⟨rfl, hw⟩
        obtain rfl := hw.symm
        clear hw
        try go_wp2_with fail
        refine hK.out _ _ (HC.out _ HVL.out) (fun hH => ?_)
        clear hK K hHeld
        have hHeld := hH
        clear hH
        refine rdH 7 rfl (fun K hK => ?_)
        go_simp
        refine (HQD.out _ HVL.out).mono ?_
        rintro e wn ⟨rfl, hw⟩
        obtain rfl := hw.symm
        clear hw
        try go_wp2_with fail
        refine hK.out _ _ (HC.out _ HVL.out) (fun hH => ?_)
        clear hK K hHeld
        have hHeld := hH
        clear hH
        have HB := HVB
        have H := HVL
        clear HVL HVB
        refine tK 8 (some 27) (.tuple #[.string X, .int .i64 E]) rfl hHeld ?_
        simp only [Act.put, pA, pB, pC]
        refine tK 9 (some 36) (.string X) rfl hHeld ?_
        simp only [Act.put, pA, pB, pC]
        refine tK 10 (some 37) (.int .i64 E) rfl hHeld ?_
        simp only [Act.put, pA, pB, pC]
        refine tK 11 (some 6) (.string X) rfl hHeld ?_
        simp only [Act.put, pA, pB, pC]
        refine tK 12 (some 7) (.int .i64 E) rfl hHeld ?_
        simp only [Act.put, pA, pB, pC]
        refine ⟨by kernel_rfl, ?_⟩
        refine NoPanic.normal ?_
        clear hHeld
        obtain ⟨V5, hV⟩ : ∃ x, V3.drew = x := ⟨_, rfl⟩
        have hv0 := H.out.same (w' := V3.drew) (Nat.le_refl _) (fun _ _ _ => rfl)
        rw [hV] at hv0
        have HVB : Hid (Below B w V5) := by rw [← hV]; exact HB.out.drew
        have HVL := hide hv0
        have HS0 := hide (HC.out _ hv0)
        have HV := hide hV
        clear hv0 hV H HB
        try go_wp2
        refine wp_region_noPanic ?_
        refine wp_region_held_drew (S := fun wx => wx.cell? ⟨gb, 0, none⟩ = some (.pointer (some ⟨p, 0, none⟩)) ∧ wx.cell? ⟨gb, 1, none⟩ = some (.pointer (some ⟨r, 0, none⟩)) ∧ wx.cell? ⟨gb, 3, none⟩ = some (.pointer none) ∧ wx.cell? ⟨gb, 5, none⟩ = some (.pointer none)) (by kernel_rfl) (by rw [HV.out]; exact HS0.out) (fun hHeld => ?_)
        rw [HV.out] at hHeld ⊢
        clear HV HS0
        refine tK 0 (some 39) (.pointer (some ⟨gb, 0, none⟩)) rfl hHeld ?_
        simp only [Act.put, pA, pB, pC]
        refine tK 1 (some 40) (.pointer (some ⟨gb, 0, none⟩)) rfl hHeld ?_
        simp only [Act.put, pA, pB, pC]
        refine tK 2 (some 41) (.pointer (some ⟨gb, 0, none⟩)) rfl hHeld ?_
        simp only [Act.put, pA, pB, pC]
        refine tH 3 (some 42) (.pointer (some ⟨p, 0, none⟩)) rfl (fun w hw => by obtain ⟨hw0, hw1, hw2, hw3⟩ := hw; first | rfl | (go_simp; done) | (go_simp; rfl)) hHeld ?_
        simp only [Act.put, pA, pB, pC]
        refine tK 4 (some 43) (.int .i64 1) rfl hHeld ?_
        simp only [Act.put, pA, pB, pC]
        refine tK 5 (some 44) (.bool true) rfl hHeld ?_
        simp only [Act.put, pA, pB, pC]
        refine rdH 6 rfl (fun K hK => ?_)
        go_simp
        refine (HNM.out _).mono ?_
        rintro e wn ⟨rfl, hw⟩
        obtain rfl := hw.symm
        clear hw
        try go_wp2_with fail
        refine hK.out _ _ (HC.out _ HVL.out) (fun hH => ?_)
        clear hK K hHeld
        have hHeld := hH
        clear hH
        refine tH 7 (some 46) (.string nt) rfl (fun w hw => by have := HNT.out w; first | rfl | (go_simp; done) | (go_simp; rfl)) hHeld ?_
        simp only [Act.put, pA, pB, pC]
        refine rdH 8 rfl (fun K hK => ?_)
        go_simp
        refine (HRT.out _ HVL.out).mono ?_
        rintro e w6 ⟨rfl, h2, hb2⟩
        try go_wp2_with fail
        refine hK.out _ _ (HC.out _ h2) (fun hH => ?_)
        clear hK K hHeld
        have hHeld := hH
        clear hH
        have HB := hide (HVB.out.trans hb2)
        have H := hide h2
        clear h2 hb2 HVL HVB
        refine tK 9 (some 38) (.tuple #[.string Z, .int .i64 G]) rfl hHeld ?_
        simp only [Act.put, pA, pB, pC]
        refine tK 10 (some 48) (.string Z) rfl hHeld ?_
        simp only [Act.put, pA, pB, pC]
        refine tK 11 (some 49) (.int .i64 G) rfl hHeld ?_
        simp only [Act.put, pA, pB, pC]
        refine tK 12 (some 8) (.string Z) rfl hHeld ?_
        simp only [Act.put, pA, pB, pC]
        refine tK 13 (some 9) (.int .i64 G) rfl hHeld ?_
        simp only [Act.put, pA, pB, pC]
        refine ⟨by kernel_rfl, ?_⟩
        refine NoPanic.normal ?_
        clear hHeld
        obtain ⟨V7, hV⟩ : ∃ x, w6.drew = x := ⟨_, rfl⟩
        have hv0 := H.out.same (w' := w6.drew) (Nat.le_refl _) (fun _ _ _ => rfl)
        rw [hV] at hv0
        have HVB : Hid (Below B w V7) := by rw [← hV]; exact HB.out.drew
        have HVL := hide hv0
        have HS0 := hide (HC.out _ hv0)
        have HV := hide hV
        clear hv0 hV H HB
        try go_wp2
        refine wp_region_noPanic ?_
        refine wp_region_held_drew (S := fun wx => wx.cell? ⟨gb, 0, none⟩ = some (.pointer (some ⟨p, 0, none⟩)) ∧ wx.cell? ⟨gb, 1, none⟩ = some (.pointer (some ⟨r, 0, none⟩)) ∧ wx.cell? ⟨gb, 3, none⟩ = some (.pointer none) ∧ wx.cell? ⟨gb, 5, none⟩ = some (.pointer none)) (by kernel_rfl) (by rw [HV.out]; exact HS0.out) (fun hHeld => ?_)
        rw [HV.out] at hHeld ⊢
        clear HV HS0
        refine tK 0 (some 51) (.pointer (some ⟨gb, 0, none⟩)) rfl hHeld ?_
        simp only [Act.put, pA, pB, pC]
        refine tK 1 (some 52) (.pointer (some ⟨gb, 0, none⟩)) rfl hHeld ?_
        simp only [Act.put, pA, pB, pC]
        refine tK 2 (some 53) (.pointer (some ⟨gb, 1, none⟩)) rfl hHeld ?_
        simp only [Act.put, pA, pB, pC]
        refine tH 3 (some 54) (.pointer (some ⟨r, 0, none⟩)) rfl (fun w hw => by obtain ⟨hw0, hw1, hw2, hw3⟩ := hw; first | rfl | (go_simp; done) | (go_simp; rfl)) hHeld ?_
        simp only [Act.put, pA, pB, pC]
        refine tK 4 (some 55) (.int .i64 1) rfl hHeld ?_
        simp only [Act.put, pA, pB, pC]
        refine tK 5 (some 56) (.bool true) rfl hHeld ?_
        simp only [Act.put, pA, pB, pC]
        refine rdH 6 rfl (fun K hK => ?_)
        go_simp
        refine (HNM.out _).mono ?_
        rintro e wn ⟨rfl, hw⟩
        obtain rfl := hw.symm
        clear hw
        try go_wp2_with fail
        refine hK.out _ _ (HC.out _ HVL.out) (fun hH => ?_)
        clear hK K hHeld
        have hHeld := hH
        clear hH
        refine tH 7 (some 58) (.string nt) rfl (fun w hw => by have := HNT.out w; first | rfl | (go_simp; done) | (go_simp; rfl)) hHeld ?_
        simp only [Act.put, pA, pB, pC]
        refine rdH 8 rfl (fun K hK => ?_)
        go_simp
        refine (HQT.out _ HVL.out).mono ?_
        rintro e wn ⟨rfl, hw⟩
        obtain rfl := hw.symm
        clear hw
        try go_wp2_with fail
        refine hK.out _ _ (HC.out _ HVL.out) (fun hH => ?_)
        clear hK K hHeld
        have hHeld := hH
        clear hH
        have HB := HVB
        have H := HVL
        clear HVL HVB
        refine tK 9 (some 50) (.tuple #[.string Z, .int .i64 G]) rfl hHeld ?_
        simp only [Act.put, pA, pB, pC]
        refine tK 10 (some 60) (.string Z) rfl hHeld ?_
        simp only [Act.put, pA, pB, pC]
        refine tK 11 (some 61) (.int .i64 G) rfl hHeld ?_
        simp only [Act.put, pA, pB, pC]
        refine tK 12 (some 10) (.string Z) rfl hHeld ?_
        simp only [Act.put, pA, pB, pC]
        refine tK 13 (some 11) (.int .i64 G) rfl hHeld ?_
        simp only [Act.put, pA, pB, pC]
        refine ⟨by kernel_rfl, ?_⟩
        refine NoPanic.normal ?_
        clear hHeld
        obtain ⟨V9, hV⟩ : ∃ x, V7.drew = x := ⟨_, rfl⟩
        have hv0 := H.out.same (w' := V7.drew) (Nat.le_refl _) (fun _ _ _ => rfl)
        rw [hV] at hv0
        have HVB : Hid (Below B w V9) := by rw [← hV]; exact HB.out.drew
        have HVL := hide hv0
        have HS0 := hide (HC.out _ hv0)
        have HV := hide hV
        clear hv0 hV H HB
        try go_wp2
        refine wp_region_noPanic ?_
        refine wp_region_held_drew (S := fun wx => wx.cell? ⟨gb, 0, none⟩ = some (.pointer (some ⟨p, 0, none⟩)) ∧ wx.cell? ⟨gb, 1, none⟩ = some (.pointer (some ⟨r, 0, none⟩)) ∧ wx.cell? ⟨gb, 3, none⟩ = some (.pointer none) ∧ wx.cell? ⟨gb, 5, none⟩ = some (.pointer none)) (by kernel_rfl) (by rw [HV.out]; exact HS0.out) (fun hHeld => ?_)
        rw [HV.out] at hHeld ⊢
        clear HV HS0
        refine tK 0 (some 62) (.string X) rfl hHeld ?_
        simp only [Act.put, pA, pB, pC]
        refine tK 1 (some 63) (.string X) rfl hHeld ?_
        simp only [Act.put, pA, pB, pC]
        refine tH 2 (some 64) (.bool false) rfl (fun w hw => by have := HXX.out; first | rfl | (go_simp; done) | (go_simp; rfl)) hHeld ?_
        simp only [Act.put, pA, pB, pC]
        refine tK 3 (some 65) (.bool false) rfl hHeld ?_
        simp only [Act.put, pA, pB, pC]
        refine tK 4 (some 66) (.int .i64 E) rfl hHeld ?_
        simp only [Act.put, pA, pB, pC]
        refine tK 5 (some 67) (.int .i64 E) rfl hHeld ?_
        simp only [Act.put, pA, pB, pC]
        refine tH 6 (some 68) (.bool false) rfl (fun w hw => by have := HEE.out; first | rfl | (go_simp; done) | (go_simp; rfl)) hHeld ?_
        simp only [Act.put, pA, pB, pC]
        refine tK 7 (some 69) (.bool false) rfl hHeld ?_
        simp only [Act.put, pA, pB, pC]
        refine tK 8 (some 70) (.bool false) rfl hHeld ?_
        simp only [Act.put, pA, pB, pC]
        refine tK 9 (some 71) (.string Z) rfl hHeld ?_
        simp only [Act.put, pA, pB, pC]
        refine tK 10 (some 72) (.string Z) rfl hHeld ?_
        simp only [Act.put, pA, pB, pC]
        refine tH 11 (some 73) (.bool false) rfl (fun w hw => by have := HZZ.out; first | rfl | (go_simp; done) | (go_simp; rfl)) hHeld ?_
        simp only [Act.put, pA, pB, pC]
        refine tK 12 (some 74) (.bool false) rfl hHeld ?_
        simp only [Act.put, pA, pB, pC]
        refine tK 13 (some 75) (.bool false) rfl hHeld ?_
        simp only [Act.put, pA, pB, pC]
        refine tK 14 (some 76) (.int .i64 G) rfl hHeld ?_
        simp only [Act.put, pA, pB, pC]
        refine tK 15 (some 77) (.int .i64 G) rfl hHeld ?_
        simp only [Act.put, pA, pB, pC]
        refine tH 16 (some 78) (.bool false) rfl (fun w hw => by have := HGG.out; first | rfl | (go_simp; done) | (go_simp; rfl)) hHeld ?_
        simp only [Act.put, pA, pB, pC]
        refine tK 17 (some 79) (.bool false) rfl hHeld ?_
        simp only [Act.put, pA, pB, pC]
        refine tK 18 (some 80) (.bool false) rfl hHeld ?_
        simp only [Act.put, pA, pB, pC]
        refine tK 19 (some 81) (.pointer (some ⟨gb, 0, none⟩)) rfl hHeld ?_
        simp only [Act.put, pA, pB, pC]
        refine tK 20 (some 82) (.int .i64 1) rfl hHeld ?_
        simp only [Act.put, pA, pB, pC]
        refine tK 21 (some 83) (.pointer (some ⟨gb, 0, none⟩)) rfl hHeld ?_
        simp only [Act.put, pA, pB, pC]
        refine tK 22 (some 84) (.pointer (some ⟨gb, 2, none⟩)) rfl hHeld ?_
        simp only [Act.put, pA, pB, pC]
        refine tK 23 (some 85) (.pointer (some ⟨gb, 3, none⟩)) rfl hHeld ?_
        simp only [Act.put, pA, pB, pC]
        refine tH 24 (some 86) (.pointer none) rfl (fun w hw => by obtain ⟨hw0, hw1, hw2, hw3⟩ := hw; first | rfl | (go_simp; done) | (go_simp; rfl)) hHeld ?_
        simp only [Act.put, pA, pB, pC]
        refine tK 25 (some 87) (.bool true) rfl hHeld ?_
        simp only [Act.put, pA, pB, pC]
        refine tK 26 (some 88) (.pointer (some ⟨gb, 0, none⟩)) rfl hHeld ?_
        simp only [Act.put, pA, pB, pC]
        refine tK 27 (some 89) (.int .i64 1) rfl hHeld ?_
        simp only [Act.put, pA, pB, pC]
        refine tK 28 (some 90) (.pointer (some ⟨gb, 0, none⟩)) rfl hHeld ?_
        simp only [Act.put, pA, pB, pC]
        refine tK 29 (some 91) (.pointer (some ⟨gb, 4, none⟩)) rfl hHeld ?_
        simp only [Act.put, pA, pB, pC]
        refine tK 30 (some 92) (.pointer (some ⟨gb, 5, none⟩)) rfl hHeld ?_
        simp only [Act.put, pA, pB, pC]
        refine tH 31 (some 93) (.pointer none) rfl (fun w hw => by obtain ⟨hw0, hw1, hw2, hw3⟩ := hw; first | rfl | (go_simp; done) | (go_simp; rfl)) hHeld ?_
        simp only [Act.put, pA, pB, pC]
        refine tK 32 (some 94) (.bool true) rfl hHeld ?_
        simp only [Act.put, pA, pB, pC]
        refine tK 33 (some 95) (.bool false) rfl hHeld ?_
        simp only [Act.put, pA, pB, pC]
        refine tK 34 (some 96) (.bool false) rfl hHeld ?_
        simp only [Act.put, pA, pB, pC]
        have HB := HVB
        have H := HVL
        clear HVL HVB
        refine ⟨by kernel_rfl, ?_⟩
        refine NoPanic.normal ?_
        clear hHeld
        obtain ⟨V10, hV⟩ : ∃ x, V9.drew = x := ⟨_, rfl⟩
        have hv0 := H.out.same (w' := V9.drew) (Nat.le_refl _) (fun _ _ _ => rfl)
        rw [hV] at hv0
        have HVB : Hid (Below B w V10) := by rw [← hV]; exact HB.out.drew
        have HVL := hide hv0
        have HS0 := hide (HC.out _ hv0)
        have HV := hide hV
        clear hv0 hV H HB
        try go_wp2
        refine wp_region_noPanic ?_
        refine wp_region_held_drew (S := fun wx => wx.cell? ⟨gb, 0, none⟩ = some (.pointer (some ⟨p, 0, none⟩)) ∧ wx.cell? ⟨gb, 1, none⟩ = some (.pointer (some ⟨r, 0, none⟩)) ∧ wx.cell? ⟨gb, 3, none⟩ = some (.pointer none) ∧ wx.cell? ⟨gb, 5, none⟩ = some (.pointer none)) (by kernel_rfl) (by rw [HV.out]; exact HS0.out) (fun hHeld => ?_)
        rw [HV.out] at hHeld ⊢
        clear HV HS0
        refine tK 0 (some 97) (.pointer (some ⟨gb, 0, none⟩)) rfl hHeld ?_
        simp only [Act.put, pA, pB, pC]
        refine tK 1 (some 98) (.int .i64 1) rfl hHeld ?_
        simp only [Act.put, pA, pB, pC]
        refine tK 2 (some 99) (.pointer (some ⟨gb, 0, none⟩)) rfl hHeld ?_
        simp only [Act.put, pA, pB, pC]
        refine tK 3 (some 100) (.pointer (some ⟨gb, 2, none⟩)) rfl hHeld ?_
        simp only [Act.put, pA, pB, pC]
        refine tK 4 (some 101) (.pointer (some ⟨gb, 3, none⟩)) rfl hHeld ?_
        simp only [Act.put, pA, pB, pC]
        refine tH 5 (some 102) (.pointer none) rfl (fun w hw => by obtain ⟨hw0, hw1, hw2, hw3⟩ := hw; first | rfl | (go_simp; done) | (go_simp; rfl)) hHeld ?_
        simp only [Act.put, pA, pB, pC]
        refine tK 6 (some 103) (.bool false) rfl hHeld ?_
        simp only [Act.put, pA, pB, pC]
        refine tK 7 (some 104) (.bool false) rfl hHeld ?_
        simp only [Act.put, pA, pB, pC]
        refine skH 8 (some 105) rfl hHeld ?_
        simp only [Act.put, pA, pB, pC]
        refine skH 9 (some 106) rfl hHeld ?_
        simp only [Act.put, pA, pB, pC]
        refine skH 10 (some 107) rfl hHeld ?_
        simp only [Act.put, pA, pB, pC]
        refine skH 11 (some 108) rfl hHeld ?_
        simp only [Act.put, pA, pB, pC]
        refine skH 12 (some 109) rfl hHeld ?_
        simp only [Act.put, pA, pB, pC]
        refine skH 13 (some 110) rfl hHeld ?_
        simp only [Act.put, pA, pB, pC]
        refine skH 14 (some 111) rfl hHeld ?_
        simp only [Act.put, pA, pB, pC]
        refine skH 15 (some 112) rfl hHeld ?_
        simp only [Act.put, pA, pB, pC]
        refine skH 16 (some 113) rfl hHeld ?_
        simp only [Act.put, pA, pB, pC]
        refine skH 17 (some 114) rfl hHeld ?_
        simp only [Act.put, pA, pB, pC]
        refine skH 18 (some 115) rfl hHeld ?_
        simp only [Act.put, pA, pB, pC]
        refine skH 19 (some 116) rfl hHeld ?_
        simp only [Act.put, pA, pB, pC]
        refine skH 20 (some 117) rfl hHeld ?_
        simp only [Act.put, pA, pB, pC]
        refine skH 21 (some 118) rfl hHeld ?_
        simp only [Act.put, pA, pB, pC]
        refine skH 22 (some 119) rfl hHeld ?_
        simp only [Act.put, pA, pB, pC]
        refine tK 23 (some 120) (.bool false) rfl hHeld ?_
        simp only [Act.put, pA, pB, pC]
        have HB := HVB
        have H := HVL
        clear HVL HVB
        refine ⟨by kernel_rfl, ?_⟩
        refine NoPanic.normal ?_
        clear hHeld
        clear HC HNM HNT HRD HRT HQD HQT HXX HEE HZZ HGG
        go_wp2
        go_roundw
        case rel => exact ⟨2, by omega, by go_num, H.out, HB.out⟩
        case measure => simp [intOf]
      | some x =>
        obtain ⟨g1, q1, v, x⟩ := x
        have HC : Hid (∀ W, Lies B W (PL p r A gb s0 s1 L) → W.cell? ⟨gb, 0, none⟩ = some (.pointer (some ⟨p, 0, none⟩)) ∧ W.cell? ⟨gb, 1, none⟩ = some (.pointer (some ⟨r, 0, none⟩)) ∧ W.cell? ⟨gb, 3, none⟩ = some (.pointer (some ⟨g1, 0, none⟩)) ∧ W.cell? ⟨gb, 5, none⟩ = some (.pointer (some ⟨q1, 0, none⟩))) := fun W h => by
          obtain ⟨c0, c1, c2, c3, c4, c5⟩ := PL.cells h
          rw [hs] at c3 c5
          exact ⟨c0, c1, c3, c5⟩
        have HMV : Hid (∀ W, Lies B W (PL p r A gb s0 s1 L) → Calls Tryz.prog 13 #[.pointer (some ⟨g1, 0, none⟩)] W fun e w' => e = .returned (.int .i64 v) ∧ w' = W) := fun W h => mvalue_any (j := 5) (x := x) h (by unfold PL; rw [hs]; rfl)
        have HQV : Hid (∀ W, Lies B W (PL p r A gb s0 s1 L) → Calls Tryz.prog 62 #[.pointer (some ⟨q1, 0, none⟩)] W fun e w' => e = .returned (.int .i64 v) ∧ w' = W) := fun W h => dvalue_any (j := 6) (x := x) h (by unfold PL; rw [hs]; rfl)
        have HVV : Hid ((v == v) = true) := by show _ = _; simp
        rw [← hs]
        clear hs
        obtain ⟨V1, hV⟩ : ∃ x, wr.drew = x := ⟨_, rfl⟩
        have hv0 := H.out.same (w' := wr.drew) (Nat.le_refl _) (fun _ _ _ => rfl)
        rw [hV] at hv0
        have HVB : Hid (Below B w V1) := by rw [← hV]; exact HB.out.drew
        have HVL := hide hv0
        have HS0 := hide (HC.out _ hv0)
        have HV := hide hV
        clear hv0 hV H HB
        try go_wp2
        refine wp_region_noPanic ?_
        refine wp_region_held_drew (S := fun wx => wx.cell? ⟨gb, 0, none⟩ = some (.pointer (some ⟨p, 0, none⟩)) ∧ wx.cell? ⟨gb, 1, none⟩ = some (.pointer (some ⟨r, 0, none⟩)) ∧ wx.cell? ⟨gb, 3, none⟩ = some (.pointer (some ⟨g1, 0, none⟩)) ∧ wx.cell? ⟨gb, 5, none⟩ = some (.pointer (some ⟨q1, 0, none⟩))) (by kernel_rfl) (by rw [HV.out]; exact HS0.out) (fun hHeld => ?_)
        rw [HV.out] at hHeld ⊢
        clear HV HS0
        refine tK 0 (some 17) (.pointer (some ⟨gb, 0, none⟩)) rfl hHeld ?_
        simp only [Act.put, pA, pB, pC]
        refine tK 1 (some 18) (.pointer (some ⟨gb, 0, none⟩)) rfl hHeld ?_
        simp only [Act.put, pA, pB, pC]
        refine tK 2 (some 19) (.pointer (some ⟨gb, 0, none⟩)) rfl hHeld ?_
        simp only [Act.put, pA, pB, pC]
        refine tH 3 (some 20) (.pointer (some ⟨p, 0, none⟩)) rfl (fun w hw => by obtain ⟨hw0, hw1, hw2, hw3⟩ := hw; first | rfl | (go_simp; done) | (go_simp; rfl)) hHeld ?_
        simp only [Act.put, pA, pB, pC]
        refine tK 4 (some 21) (.int .i64 1) rfl hHeld ?_
        simp only [Act.put, pA, pB, pC]
        refine tK 5 (some 22) (.bool true) rfl hHeld ?_
        simp only [Act.put, pA, pB, pC]
        refine rdH 6 rfl (fun K hK => ?_)
        go_simp
        refine (HNM.out _).mono ?_
        rintro e wn ⟨rfl, hw⟩
        obtain rfl := hw.symm
        clear hw
        try go_wp2_with fail
        refine hK.out _ _ (HC.out _ HVL.out) (fun hH => ?_)
        clear hK K hHeld
        have hHeld := hH
        clear hH
        refine rdH 7 rfl (fun K hK => ?_)
        go_simp
        refine (HRD.out _ HVL.out).mono ?_
        rintro e w2 ⟨rfl, h2, hb2⟩
        try go_wp2_with fail
        refine hK.out _ _ (HC.out _ h2) (fun hH => ?_)
        clear hK K hHeld
        have hHeld := hH
        clear hH
        have HB := hide (HVB.out.trans hb2)
        have H := hide h2
        clear h2 hb2 HVL HVB
        refine tK 8 (some 16) (.tuple #[.string X, .int .i64 E]) rfl hHeld ?_
        simp only [Act.put, pA, pB, pC]
        refine tK 9 (some 25) (.string X) rfl hHeld ?_
        simp only [Act.put, pA, pB, pC]
        refine tK 10 (some 26) (.int .i64 E) rfl hHeld ?_
        simp only [Act.put, pA, pB, pC]
        refine tK 11 (some 4) (.string X) rfl hHeld ?_
        simp only [Act.put, pA, pB, pC]
        refine tK 12 (some 5) (.int .i64 E) rfl hHeld ?_
        simp only [Act.put, pA, pB, pC]
        refine ⟨by kernel_rfl, ?_⟩
        refine NoPanic.normal ?_
        clear hHeld
        obtain ⟨V3, hV⟩ : ∃ x, w2.drew = x := ⟨_, rfl⟩
        have hv0 := H.out.same (w' := w2.drew) (Nat.le_refl _) (fun _ _ _ => rfl)
        rw [hV] at hv0
        have HVB : Hid (Below B w V3) := by rw [← hV]; exact HB.out.drew
        have HVL := hide hv0
        have HS0 := hide (HC.out _ hv0)
        have HV := hide hV
        clear hv0 hV H HB
        try go_wp2
        refine wp_region_noPanic ?_
        refine wp_region_held_drew (S := fun wx => wx.cell? ⟨gb, 0, none⟩ = some (.pointer (some ⟨p, 0, none⟩)) ∧ wx.cell? ⟨gb, 1, none⟩ = some (.pointer (some ⟨r, 0, none⟩)) ∧ wx.cell? ⟨gb, 3, none⟩ = some (.pointer (some ⟨g1, 0, none⟩)) ∧ wx.cell? ⟨gb, 5, none⟩ = some (.pointer (some ⟨q1, 0, none⟩))) (by kernel_rfl) (by rw [HV.out]; exact HS0.out) (fun hHeld => ?_)
        rw [HV.out] at hHeld ⊢
        clear HV HS0
        refine tK 0 (some 28) (.pointer (some ⟨gb, 0, none⟩)) rfl hHeld ?_
        simp only [Act.put, pA, pB, pC]
        refine tK 1 (some 29) (.pointer (some ⟨gb, 0, none⟩)) rfl hHeld ?_
        simp only [Act.put, pA, pB, pC]
        refine tK 2 (some 30) (.pointer (some ⟨gb, 1, none⟩)) rfl hHeld ?_
        simp only [Act.put, pA, pB, pC]
        refine tH 3 (some 31) (.pointer (some ⟨r, 0, none⟩)) rfl (fun w hw => by obtain ⟨hw0, hw1, hw2, hw3⟩ := hw; first | rfl | (go_simp; done) | (go_simp; rfl)) hHeld ?_
        simp only [Act.put, pA, pB, pC]
        refine tK 4 (some 32) (.int .i64 1) rfl hHeld ?_
        simp only [Act.put, pA, pB, pC]
        refine tK 5 (some 33) (.bool true) rfl hHeld ?_
        simp only [Act.put, pA, pB, pC]
        refine rdH 6 rfl (fun K hK => ?_)
        go_simp
        refine (HNM.out _).mono ?_
        rintro e wn ⟨rfl, hw⟩
        obtain rfl := hw.symm
        clear hw
        try go_wp2_with fail
        refine hK.out _ _ (HC.out _ HVL.out) (fun hH => ?_)
        clear hK K hHeld
        have hHeld := hH
        clear hH
        refine rdH 7 rfl (fun K hK => ?_)
        go_simp
        refine (HQD.out _ HVL.out).mono ?_
        rintro e wn ⟨rfl, hw⟩
        obtain rfl := hw.symm
        clear hw
        try go_wp2_with fail
        refine hK.out _ _ (HC.out _ HVL.out) (fun hH => ?_)
        clear hK K hHeld
        have hHeld := hH
        clear hH
        have HB := HVB
        have H := HVL
        clear HVL HVB
        refine tK 8 (some 27) (.tuple #[.string X, .int .i64 E]) rfl hHeld ?_
        simp only [Act.put, pA, pB, pC]
        refine tK 9 (some 36) (.string X) rfl hHeld ?_
        simp only [Act.put, pA, pB, pC]
        refine tK 10 (some 37) (.int .i64 E) rfl hHeld ?_
        simp only [Act.put, pA, pB, pC]
        refine tK 11 (some 6) (.string X) rfl hHeld ?_
        simp only [Act.put, pA, pB, pC]
        refine tK 12 (some 7) (.int .i64 E) rfl hHeld ?_
        simp only [Act.put, pA, pB, pC]
        refine ⟨by kernel_rfl, ?_⟩
        refine NoPanic.normal ?_
        clear hHeld
        obtain ⟨V5, hV⟩ : ∃ x, V3.drew = x := ⟨_, rfl⟩
        have hv0 := H.out.same (w' := V3.drew) (Nat.le_refl _) (fun _ _ _ => rfl)
        rw [hV] at hv0
        have HVB : Hid (Below B w V5) := by rw [← hV]; exact HB.out.drew
        have HVL := hide hv0
        have HS0 := hide (HC.out _ hv0)
        have HV := hide hV
        clear hv0 hV H HB
        try go_wp2
        refine wp_region_noPanic ?_
        refine wp_region_held_drew (S := fun wx => wx.cell? ⟨gb, 0, none⟩ = some (.pointer (some ⟨p, 0, none⟩)) ∧ wx.cell? ⟨gb, 1, none⟩ = some (.pointer (some ⟨r, 0, none⟩)) ∧ wx.cell? ⟨gb, 3, none⟩ = some (.pointer (some ⟨g1, 0, none⟩)) ∧ wx.cell? ⟨gb, 5, none⟩ = some (.pointer (some ⟨q1, 0, none⟩))) (by kernel_rfl) (by rw [HV.out]; exact HS0.out) (fun hHeld => ?_)
        rw [HV.out] at hHeld ⊢
        clear HV HS0
        refine tK 0 (some 39) (.pointer (some ⟨gb, 0, none⟩)) rfl hHeld ?_
        simp only [Act.put, pA, pB, pC]
        refine tK 1 (some 40) (.pointer (some ⟨gb, 0, none⟩)) rfl hHeld ?_
        simp only [Act.put, pA, pB, pC]
        refine tK 2 (some 41) (.pointer (some ⟨gb, 0, none⟩)) rfl hHeld ?_
        simp only [Act.put, pA, pB, pC]
        refine tH 3 (some 42) (.pointer (some ⟨p, 0, none⟩)) rfl (fun w hw => by obtain ⟨hw0, hw1, hw2, hw3⟩ := hw; first | rfl | (go_simp; done) | (go_simp; rfl)) hHeld ?_
        simp only [Act.put, pA, pB, pC]
        refine tK 4 (some 43) (.int .i64 1) rfl hHeld ?_
        simp only [Act.put, pA, pB, pC]
        refine tK 5 (some 44) (.bool true) rfl hHeld ?_
        simp only [Act.put, pA, pB, pC]
        refine rdH 6 rfl (fun K hK => ?_)
        go_simp
        refine (HNM.out _).mono ?_
        rintro e wn ⟨rfl, hw⟩
        obtain rfl := hw.symm
        clear hw
        try go_wp2_with fail
        refine hK.out _ _ (HC.out _ HVL.out) (fun hH => ?_)
        clear hK K hHeld
        have hHeld := hH
        clear hH
        refine tH 7 (some 46) (.string nt) rfl (fun w hw => by have := HNT.out w; first | rfl | (go_simp; done) | (go_simp; rfl)) hHeld ?_
        simp only [Act.put, pA, pB, pC]
        refine rdH 8 rfl (fun K hK => ?_)
        go_simp
        refine (HRT.out _ HVL.out).mono ?_
        rintro e w6 ⟨rfl, h2, hb2⟩
        try go_wp2_with fail
        refine hK.out _ _ (HC.out _ h2) (fun hH => ?_)
        clear hK K hHeld
        have hHeld := hH
        clear hH
        have HB := hide (HVB.out.trans hb2)
        have H := hide h2
        clear h2 hb2 HVL HVB
        refine tK 9 (some 38) (.tuple #[.string Z, .int .i64 G]) rfl hHeld ?_
        simp only [Act.put, pA, pB, pC]
        refine tK 10 (some 48) (.string Z) rfl hHeld ?_
        simp only [Act.put, pA, pB, pC]
        refine tK 11 (some 49) (.int .i64 G) rfl hHeld ?_
        simp only [Act.put, pA, pB, pC]
        refine tK 12 (some 8) (.string Z) rfl hHeld ?_
        simp only [Act.put, pA, pB, pC]
        refine tK 13 (some 9) (.int .i64 G) rfl hHeld ?_
        simp only [Act.put, pA, pB, pC]
        refine ⟨by kernel_rfl, ?_⟩
        refine NoPanic.normal ?_
        clear hHeld
        obtain ⟨V7, hV⟩ : ∃ x, w6.drew = x := ⟨_, rfl⟩
        have hv0 := H.out.same (w' := w6.drew) (Nat.le_refl _) (fun _ _ _ => rfl)
        rw [hV] at hv0
        have HVB : Hid (Below B w V7) := by rw [← hV]; exact HB.out.drew
        have HVL := hide hv0
        have HS0 := hide (HC.out _ hv0)
        have HV := hide hV
        clear hv0 hV H HB
        try go_wp2
        refine wp_region_noPanic ?_
        refine wp_region_held_drew (S := fun wx => wx.cell? ⟨gb, 0, none⟩ = some (.pointer (some ⟨p, 0, none⟩)) ∧ wx.cell? ⟨gb, 1, none⟩ = some (.pointer (some ⟨r, 0, none⟩)) ∧ wx.cell? ⟨gb, 3, none⟩ = some (.pointer (some ⟨g1, 0, none⟩)) ∧ wx.cell? ⟨gb, 5, none⟩ = some (.pointer (some ⟨q1, 0, none⟩))) (by kernel_rfl) (by rw [HV.out]; exact HS0.out) (fun hHeld => ?_)
        rw [HV.out] at hHeld ⊢
        clear HV HS0
        refine tK 0 (some 51) (.pointer (some ⟨gb, 0, none⟩)) rfl hHeld ?_
        simp only [Act.put, pA, pB, pC]
        refine tK 1 (some 52) (.pointer (some ⟨gb, 0, none⟩)) rfl hHeld ?_
        simp only [Act.put, pA, pB, pC]
        refine tK 2 (some 53) (.pointer (some ⟨gb, 1, none⟩)) rfl hHeld ?_
        simp only [Act.put, pA, pB, pC]
        refine tH 3 (some 54) (.pointer (some ⟨r, 0, none⟩)) rfl (fun w hw => by obtain ⟨hw0, hw1, hw2, hw3⟩ := hw; first | rfl | (go_simp; done) | (go_simp; rfl)) hHeld ?_
        simp only [Act.put, pA, pB, pC]
        refine tK 4 (some 55) (.int .i64 1) rfl hHeld ?_
        simp only [Act.put, pA, pB, pC]
        refine tK 5 (some 56) (.bool true) rfl hHeld ?_
        simp only [Act.put, pA, pB, pC]
        refine rdH 6 rfl (fun K hK => ?_)
        go_simp
        refine (HNM.out _).mono ?_
        rintro e wn ⟨rfl, hw⟩
        obtain rfl := hw.symm
        clear hw
        try go_wp2_with fail
        refine hK.out _ _ (HC.out _ HVL.out) (fun hH => ?_)
        clear hK K hHeld
        have hHeld := hH
        clear hH
        refine tH 7 (some 58) (.string nt) rfl (fun w hw => by have := HNT.out w; first | rfl | (go_simp; done) | (go_simp; rfl)) hHeld ?_
        simp only [Act.put, pA, pB, pC]
        refine rdH 8 rfl (fun K hK => ?_)
        go_simp
        refine (HQT.out _ HVL.out).mono ?_
        rintro e wn ⟨rfl, hw⟩
        obtain rfl := hw.symm
        clear hw
        try go_wp2_with fail
        refine hK.out _ _ (HC.out _ HVL.out) (fun hH => ?_)
        clear hK K hHeld
        have hHeld := hH
        clear hH
        have HB := HVB
        have H := HVL
        clear HVL HVB
        refine tK 9 (some 50) (.tuple #[.string Z, .int .i64 G]) rfl hHeld ?_
        simp only [Act.put, pA, pB, pC]
        refine tK 10 (some 60) (.string Z) rfl hHeld ?_
        simp only [Act.put, pA, pB, pC]
        refine tK 11 (some 61) (.int .i64 G) rfl hHeld ?_
        simp only [Act.put, pA, pB, pC]
        refine tK 12 (some 10) (.string Z) rfl hHeld ?_
        simp only [Act.put, pA, pB, pC]
        refine tK 13 (some 11) (.int .i64 G) rfl hHeld ?_
        simp only [Act.put, pA, pB, pC]
        refine ⟨by kernel_rfl, ?_⟩
        refine NoPanic.normal ?_
        clear hHeld
        obtain ⟨V9, hV⟩ : ∃ x, V7.drew = x := ⟨_, rfl⟩
        have hv0 := H.out.same (w' := V7.drew) (Nat.le_refl _) (fun _ _ _ => rfl)
        rw [hV] at hv0
        have HVB : Hid (Below B w V9) := by rw [← hV]; exact HB.out.drew
        have HVL := hide hv0
        have HS0 := hide (HC.out _ hv0)
        have HV := hide hV
        clear hv0 hV H HB
        try go_wp2
        refine wp_region_noPanic ?_
        refine wp_region_held_drew (S := fun wx => wx.cell? ⟨gb, 0, none⟩ = some (.pointer (some ⟨p, 0, none⟩)) ∧ wx.cell? ⟨gb, 1, none⟩ = some (.pointer (some ⟨r, 0, none⟩)) ∧ wx.cell? ⟨gb, 3, none⟩ = some (.pointer (some ⟨g1, 0, none⟩)) ∧ wx.cell? ⟨gb, 5, none⟩ = some (.pointer (some ⟨q1, 0, none⟩))) (by kernel_rfl) (by rw [HV.out]; exact HS0.out) (fun hHeld => ?_)
        rw [HV.out] at hHeld ⊢
        clear HV HS0
        refine tK 0 (some 62) (.string X) rfl hHeld ?_
        simp only [Act.put, pA, pB, pC]
        refine tK 1 (some 63) (.string X) rfl hHeld ?_
        simp only [Act.put, pA, pB, pC]
        refine tH 2 (some 64) (.bool false) rfl (fun w hw => by have := HXX.out; first | rfl | (go_simp; done) | (go_simp; rfl)) hHeld ?_
        simp only [Act.put, pA, pB, pC]
        refine tK 3 (some 65) (.bool false) rfl hHeld ?_
        simp only [Act.put, pA, pB, pC]
        refine tK 4 (some 66) (.int .i64 E) rfl hHeld ?_
        simp only [Act.put, pA, pB, pC]
        refine tK 5 (some 67) (.int .i64 E) rfl hHeld ?_
        simp only [Act.put, pA, pB, pC]
        refine tH 6 (some 68) (.bool false) rfl (fun w hw => by have := HEE.out; first | rfl | (go_simp; done) | (go_simp; rfl)) hHeld ?_
        simp only [Act.put, pA, pB, pC]
        refine tK 7 (some 69) (.bool false) rfl hHeld ?_
        simp only [Act.put, pA, pB, pC]
        refine tK 8 (some 70) (.bool false) rfl hHeld ?_
        simp only [Act.put, pA, pB, pC]
        refine tK 9 (some 71) (.string Z) rfl hHeld ?_
        simp only [Act.put, pA, pB, pC]
        refine tK 10 (some 72) (.string Z) rfl hHeld ?_
        simp only [Act.put, pA, pB, pC]
        refine tH 11 (some 73) (.bool false) rfl (fun w hw => by have := HZZ.out; first | rfl | (go_simp; done) | (go_simp; rfl)) hHeld ?_
        simp only [Act.put, pA, pB, pC]
        refine tK 12 (some 74) (.bool false) rfl hHeld ?_
        simp only [Act.put, pA, pB, pC]
        refine tK 13 (some 75) (.bool false) rfl hHeld ?_
        simp only [Act.put, pA, pB, pC]
        refine tK 14 (some 76) (.int .i64 G) rfl hHeld ?_
        simp only [Act.put, pA, pB, pC]
        refine tK 15 (some 77) (.int .i64 G) rfl hHeld ?_
        simp only [Act.put, pA, pB, pC]
        refine tH 16 (some 78) (.bool false) rfl (fun w hw => by have := HGG.out; first | rfl | (go_simp; done) | (go_simp; rfl)) hHeld ?_
        simp only [Act.put, pA, pB, pC]
        refine tK 17 (some 79) (.bool false) rfl hHeld ?_
        simp only [Act.put, pA, pB, pC]
        refine tK 18 (some 80) (.bool false) rfl hHeld ?_
        simp only [Act.put, pA, pB, pC]
        refine tK 19 (some 81) (.pointer (some ⟨gb, 0, none⟩)) rfl hHeld ?_
        simp only [Act.put, pA, pB, pC]
        refine tK 20 (some 82) (.int .i64 1) rfl hHeld ?_
        simp only [Act.put, pA, pB, pC]
        refine tK 21 (some 83) (.pointer (some ⟨gb, 0, none⟩)) rfl hHeld ?_
        simp only [Act.put, pA, pB, pC]
        refine tK 22 (some 84) (.pointer (some ⟨gb, 2, none⟩)) rfl hHeld ?_
        simp only [Act.put, pA, pB, pC]
        refine tK 23 (some 85) (.pointer (some ⟨gb, 3, none⟩)) rfl hHeld ?_
        simp only [Act.put, pA, pB, pC]
        refine tH 24 (some 86) (.pointer (some ⟨g1, 0, none⟩)) rfl (fun w hw => by obtain ⟨hw0, hw1, hw2, hw3⟩ := hw; first | rfl | (go_simp; done) | (go_simp; rfl)) hHeld ?_
        simp only [Act.put, pA, pB, pC]
        refine tK 25 (some 87) (.bool false) rfl hHeld ?_
        simp only [Act.put, pA, pB, pC]
        refine tK 26 (some 88) (.pointer (some ⟨gb, 0, none⟩)) rfl hHeld ?_
        simp only [Act.put, pA, pB, pC]
        refine tK 27 (some 89) (.int .i64 1) rfl hHeld ?_
        simp only [Act.put, pA, pB, pC]
        refine tK 28 (some 90) (.pointer (some ⟨gb, 0, none⟩)) rfl hHeld ?_
        simp only [Act.put, pA, pB, pC]
        refine tK 29 (some 91) (.pointer (some ⟨gb, 4, none⟩)) rfl hHeld ?_
        simp only [Act.put, pA, pB, pC]
        refine tK 30 (some 92) (.pointer (some ⟨gb, 5, none⟩)) rfl hHeld ?_
        simp only [Act.put, pA, pB, pC]
        refine tH 31 (some 93) (.pointer (some ⟨q1, 0, none⟩)) rfl (fun w hw => by obtain ⟨hw0, hw1, hw2, hw3⟩ := hw; first | rfl | (go_simp; done) | (go_simp; rfl)) hHeld ?_
        simp only [Act.put, pA, pB, pC]
        refine tK 32 (some 94) (.bool false) rfl hHeld ?_
        simp only [Act.put, pA, pB, pC]
        refine tK 33 (some 95) (.bool false) rfl hHeld ?_
        simp only [Act.put, pA, pB, pC]
        refine tK 34 (some 96) (.bool false) rfl hHeld ?_
        simp only [Act.put, pA, pB, pC]
        have HB := HVB
        have H := HVL
        clear HVL HVB
        refine ⟨by kernel_rfl, ?_⟩
        refine NoPanic.normal ?_
        clear hHeld
        obtain ⟨V10, hV⟩ : ∃ x, V9.drew = x := ⟨_, rfl⟩
        have hv0 := H.out.same (w' := V9.drew) (Nat.le_refl _) (fun _ _ _ => rfl)
        rw [hV] at hv0
        have HVB : Hid (Below B w V10) := by rw [← hV]; exact HB.out.drew
        have HVL := hide hv0
        have HS0 := hide (HC.out _ hv0)
        have HV := hide hV
        clear hv0 hV H HB
        try go_wp2
        refine wp_region_noPanic ?_
        refine wp_region_held_drew (S := fun wx => wx.cell? ⟨gb, 0, none⟩ = some (.pointer (some ⟨p, 0, none⟩)) ∧ wx.cell? ⟨gb, 1, none⟩ = some (.pointer (some ⟨r, 0, none⟩)) ∧ wx.cell? ⟨gb, 3, none⟩ = some (.pointer (some ⟨g1, 0, none⟩)) ∧ wx.cell? ⟨gb, 5, none⟩ = some (.pointer (some ⟨q1, 0, none⟩))) (by kernel_rfl) (by rw [HV.out]; exact HS0.out) (fun hHeld => ?_)
        rw [HV.out] at hHeld ⊢
        clear HV HS0
        refine tK 0 (some 97) (.pointer (some ⟨gb, 0, none⟩)) rfl hHeld ?_
        simp only [Act.put, pA, pB, pC]
        refine tK 1 (some 98) (.int .i64 1) rfl hHeld ?_
        simp only [Act.put, pA, pB, pC]
        refine tK 2 (some 99) (.pointer (some ⟨gb, 0, none⟩)) rfl hHeld ?_
        simp only [Act.put, pA, pB, pC]
        refine tK 3 (some 100) (.pointer (some ⟨gb, 2, none⟩)) rfl hHeld ?_
        simp only [Act.put, pA, pB, pC]
        refine tK 4 (some 101) (.pointer (some ⟨gb, 3, none⟩)) rfl hHeld ?_
        simp only [Act.put, pA, pB, pC]
        refine tH 5 (some 102) (.pointer (some ⟨g1, 0, none⟩)) rfl (fun w hw => by obtain ⟨hw0, hw1, hw2, hw3⟩ := hw; first | rfl | (go_simp; done) | (go_simp; rfl)) hHeld ?_
        simp only [Act.put, pA, pB, pC]
        refine tK 6 (some 103) (.bool true) rfl hHeld ?_
        simp only [Act.put, pA, pB, pC]
        refine tK 7 (some 104) (.bool true) rfl hHeld ?_
        simp only [Act.put, pA, pB, pC]
        refine tK 8 (some 105) (.pointer (some ⟨gb, 0, none⟩)) rfl hHeld ?_
        simp only [Act.put, pA, pB, pC]
        refine tK 9 (some 106) (.int .i64 1) rfl hHeld ?_
        simp only [Act.put, pA, pB, pC]
        refine tK 10 (some 107) (.pointer (some ⟨gb, 0, none⟩)) rfl hHeld ?_
        simp only [Act.put, pA, pB, pC]
        refine tK 11 (some 108) (.pointer (some ⟨gb, 2, none⟩)) rfl hHeld ?_
        simp only [Act.put, pA, pB, pC]
        refine tK 12 (some 109) (.pointer (some ⟨gb, 3, none⟩)) rfl hHeld ?_
        simp only [Act.put, pA, pB, pC]
        refine tH 13 (some 110) (.pointer (some ⟨g1, 0, none⟩)) rfl (fun w hw => by obtain ⟨hw0, hw1, hw2, hw3⟩ := hw; first | rfl | (go_simp; done) | (go_simp; rfl)) hHeld ?_
        simp only [Act.put, pA, pB, pC]
        refine tK 15 (some 112) (.pointer (some ⟨gb, 0, none⟩)) rfl hHeld ?_
        simp only [Act.put, pA, pB, pC]
        refine tK 16 (some 113) (.int .i64 1) rfl hHeld ?_
        simp only [Act.put, pA, pB, pC]
        refine tK 17 (some 114) (.pointer (some ⟨gb, 0, none⟩)) rfl hHeld ?_
        simp only [Act.put, pA, pB, pC]
        refine tK 18 (some 115) (.pointer (some ⟨gb, 4, none⟩)) rfl hHeld ?_
        simp only [Act.put, pA, pB, pC]
        refine tK 19 (some 116) (.pointer (some ⟨gb, 5, none⟩)) rfl hHeld ?_
        simp only [Act.put, pA, pB, pC]
        refine tH 20 (some 117) (.pointer (some ⟨q1, 0, none⟩)) rfl (fun w hw => by obtain ⟨hw0, hw1, hw2, hw3⟩ := hw; first | rfl | (go_simp; done) | (go_simp; rfl)) hHeld ?_
        simp only [Act.put, pA, pB, pC]
        refine rdH 14 rfl (fun K hK => ?_)
        go_simp
        refine (HMV.out _ HVL.out).mono ?_
        rintro e wn ⟨rfl, hw⟩
        obtain rfl := hw.symm
        clear hw
        try go_wp2_with fail
        refine hK.out _ _ (HC.out _ HVL.out) (fun hH => ?_)
        clear hK K hHeld
        have hHeld := hH
        clear hH
        refine rdH 21 rfl (fun K hK => ?_)
        go_simp
        refine (HQV.out _ HVL.out).mono ?_
        rintro e wn ⟨rfl, hw⟩
        obtain rfl := hw.symm
        clear hw
        try go_wp2_with fail
        refine hK.out _ _ (HC.out _ HVL.out) (fun hH => ?_)
        clear hK K hHeld
        have hHeld := hH
        clear hH
        refine tH 22 (some 119) (.bool false) rfl (fun w hw => by have := HVV.out; first | rfl | (go_simp; done) | (go_simp; rfl)) hHeld ?_
        simp only [Act.put, pA, pB, pC]
        refine tK 23 (some 120) (.bool false) rfl hHeld ?_
        simp only [Act.put, pA, pB, pC]
        have HB := HVB
        have H := HVL
        clear HVL HVB
        refine ⟨by kernel_rfl, ?_⟩
        refine NoPanic.normal ?_
        clear hHeld
        clear HC HNM HNT HRD HRT HQD HQT HXX HEE HZZ HGG
        go_wp2
        go_roundw
        case rel => exact ⟨2, by omega, by go_num, H.out, HB.out⟩
        case measure => simp [intOf]
    · subst hk'
      have HC : Hid (∀ W, Lies B W (PL p r A gb s0 s1 L) → W.cell? ⟨gb, 0, none⟩ = some (.pointer (some ⟨p, 0, none⟩)) ∧ W.cell? ⟨gb, 1, none⟩ = some (.pointer (some ⟨r, 0, none⟩)) ∧ W.cell? ⟨gb, 2, none⟩ = some (mvP s0) ∧ W.cell? ⟨gb, 4, none⟩ = some (qvP s0)) := fun W h => by
        obtain ⟨c0, c1, c2, c3, c4, c5⟩ := PL.cells h
        exact ⟨c0, c1, c2, c4⟩
      obtain ⟨V1, hV⟩ : ∃ x, wr.drew = x := ⟨_, rfl⟩
      have hv0 := H.out.same (w' := wr.drew) (Nat.le_refl _) (fun _ _ _ => rfl)
      rw [hV] at hv0
      have HVB : Hid (Below B w V1) := by rw [← hV]; exact HB.out.drew
      have HVL := hide hv0
      have HS0 := hide (HC.out _ hv0)
      have HV := hide hV
      clear hv0 hV H HB
      try go_wp2
      refine wp_region_noPanic ?_
      refine wp_region_held_drew (S := fun wx => wx.cell? ⟨gb, 0, none⟩ = some (.pointer (some ⟨p, 0, none⟩)) ∧ wx.cell? ⟨gb, 1, none⟩ = some (.pointer (some ⟨r, 0, none⟩)) ∧ wx.cell? ⟨gb, 2, none⟩ = some (mvP s0) ∧ wx.cell? ⟨gb, 4, none⟩ = some (qvP s0)) (by kernel_rfl) (by rw [HV.out]; exact HS0.out) (fun hHeld => ?_)
      rw [HV.out] at hHeld ⊢
      clear HV HS0
      refine tK 0 (some 121) (.pointer (some ⟨gb, 0, none⟩)) rfl hHeld ?_
      simp only [Act.put, pA, pB, pC]
      refine tK 1 (some 122) (.pointer (some ⟨gb, 0, none⟩)) rfl hHeld ?_
      simp only [Act.put, pA, pB, pC]
      refine tK 2 (some 123) (.pointer (some ⟨gb, 0, none⟩)) rfl hHeld ?_
      simp only [Act.put, pA, pB, pC]
      refine tH 3 (some 124) (.pointer (some ⟨p, 0, none⟩)) rfl (fun w hw => by obtain ⟨hw0, hw1, hw2, hw3⟩ := hw; first | rfl | (go_simp; done) | (go_simp; rfl)) hHeld ?_
      simp only [Act.put, pA, pB, pC]
      refine tK 5 (some 126) (.pointer (some ⟨gb, 0, none⟩)) rfl hHeld ?_
      simp only [Act.put, pA, pB, pC]
      refine tK 6 (some 127) (.pointer (some ⟨gb, 0, none⟩)) rfl hHeld ?_
      simp only [Act.put, pA, pB, pC]
      refine tK 7 (some 128) (.pointer (some ⟨gb, 1, none⟩)) rfl hHeld ?_
      simp only [Act.put, pA, pB, pC]
      refine tH 8 (some 129) (.pointer (some ⟨r, 0, none⟩)) rfl (fun w hw => by obtain ⟨hw0, hw1, hw2, hw3⟩ := hw; first | rfl | (go_simp; done) | (go_simp; rfl)) hHeld ?_
      simp only [Act.put, pA, pB, pC]
      refine rdH 4 rfl (fun K hK => ?_)
      go_simp
      refine (HO1.out _ HVL.out).mono ?_
      rintro e wn ⟨rfl, hw⟩
      obtain rfl := hw.symm
      clear hw
      try go_wp2_with fail
      refine hK.out _ _ (HC.out _ HVL.out) (fun hH => ?_)
      clear hK K hHeld
      have hHeld := hH
      clear hH
      refine rdH 9 rfl (fun K hK => ?_)
      go_simp
      refine (HO2.out _ HVL.out).mono ?_
      rintro e wn ⟨rfl, hw⟩
      obtain rfl := hw.symm
      clear hw
      try go_wp2_with fail
      refine hK.out _ _ (HC.out _ HVL.out) (fun hH => ?_)
      clear hK K hHeld
      have hHeld := hH
      clear hH
      refine tH 10 (some 131) (.bool true) rfl (fun w hw => by have := HOO.out; first | rfl | (go_simp; done) | (go_simp; rfl)) hHeld ?_
      simp only [Act.put, pA, pB, pC]
      refine tK 11 (some 2) (.bool true) rfl hHeld ?_
      simp only [Act.put, pA, pB, pC]
      refine ⟨by kernel_rfl, ?_⟩
      refine NoPanic.normal ?_
      clear hHeld
      go_wp2
      go_ret
      exact ⟨rfl, HVL.out, HVB.out⟩
end Go.Proofs.YtlkimfmilccanaaGreat
