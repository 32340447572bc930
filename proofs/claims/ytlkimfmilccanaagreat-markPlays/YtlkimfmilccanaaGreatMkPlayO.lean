/-
  (*Both).plays, kind by kind (printed by gen_play.py).
-/
import Derived.Test.YtlkimfmilccanaaGreatMkPlayD
namespace Go.Proofs.YtlkimfmilccanaaGreat
open Go.RowKit Go.Maps Go.WideMaps
set_option linter.unusedVariables false
set_option linter.unusedSimpArgs false
def OKM (T : TypeId) (p : Nat) (k : ByteArray) : Option (Int × Nat) → Option Addr → Item → Prop
  | none, mv, it => mv = none ∧ it = .void
  | some m, mv, it => ∃ g, mv = some ⟨g, 0, none⟩ ∧ it = .mkI T g p k m.1 m.2
theorem mkp_uni {B : Nat} {w w' : World} {L : List Item} {i : Nat} {D : AD → Item} {T : TypeId} {p : Nat} {k : ByteArray} {E : Int} {o : Option (Int × Nat)} {A' : AD} {e : Ending} (j : Nat) (hp : MkPost B w L i D T p k (E, o, A') e w') (hj : j < L.length) :
    ∃ mv it, e = .returned (.tuple #[.pointer mv, .int .i64 E]) ∧ Lies B w' ((L.set i (D A')).set j it) ∧ Below B w w' ∧ OKM T p k o mv it := by
  obtain ⟨hb, hp2⟩ := hp
  cases o with
  | none =>
    obtain ⟨he, hl⟩ := hp2
    exact ⟨_, _, he, hl.voided j, hb, rfl, rfl⟩
  | some m =>
    obtain ⟨g, he, hl⟩ := hp2
    exact ⟨_, _, he, hl.swapLast (by rw [List.length_set]; exact hj), hb, g, rfl, rfl⟩
theorem pick_le {a b : Option Int} {m : Int × Nat} (h : pickM a b = some m) : m.2 ≤ 1 := by
  cases a with
  | none =>
    cases b with
    | none => cases h
    | some y => cases h; exact Nat.zero_le _
  | some x =>
    cases b with
    | none => cases h; exact Nat.le_refl _
    | some y =>
      have h' : (if x < y then some (y, 0) else some (x, 1)) = some m := h
      split at h'
      · cases h'; exact Nat.zero_le _
      · cases h'; exact Nat.le_refl _
theorem open_next {A : AD} {k : Key} {m : Int × Nat} (h : (A.openM k).2.1 = some m) : m.2 ≤ 1 := by
  unfold AD.openM at h
  split at h
  · unfold begA at h
    simp only at h
    split at h
    · cases h; exact Nat.le_refl _
    · cases h
  split at h
  · cases h
  split at h
  · cases h
  unfold AD.loadM at h
  split at h
  · cases h
  split at h
  · cases h
  · rename_i m' hm
    split at h
    · cases h
    · cases h
      exact pick_le hm
/-- A file's marks behind Open. -/
theorem okm_ps {p r : Nat} {k : ByteArray} {o : Option (Int × Nat)} {mv qv : Option Addr} {it iq : Item} (hm : OKM 91 p k o mv it) (hq : OKM 145 r k o qv iq) (hx : ∀ m, o = some m → m.2 ≤ 1) : ∃ s : PS, .pointer mv = mvP s ∧ .pointer qv = qvP s ∧ it = miP p k s ∧ iq = qiP r k s ∧ xok s := by
  cases o with
  | none =>
    obtain ⟨rfl, rfl⟩ := hm
    obtain ⟨rfl, rfl⟩ := hq
    exact ⟨none, rfl, rfl, rfl, rfl, fun z hz => by cases hz⟩
  | some m =>
    obtain ⟨g, rfl, rfl⟩ := hm
    obtain ⟨q, rfl, rfl⟩ := hq
    exact ⟨some (g, q, m.1, m.2), rfl, rfl, rfl, rfl, fun z hz => by cases hz; exact hx m rfl⟩
set_option maxRecDepth 100000 in
set_option maxHeartbeats 40000000 in
theorem play1_0 {B : Nat} {w : World} {p r : Nat} {A : AD} {gb : Nat} {s0 s1 : PS} (h : Lies B w (PQ p r A A gb s0 s1 [])) (hx0 : xok s0) (hx1 : xok s1) (n : Int) (T : ByteArray) (ad : Option Addr) (fates : List FT) (cap : Nat) :
    Calls Tryz.prog 30 #[.pointer (some ⟨gb, 0, none⟩), .agg #[.int .i64 1, .bool false, .int .i64 n, .string T, .slice ad fates.length cap]] w fun e w' => e = .returned (.bool true) ∧ (∃ A' s0' s1', Lies B w' (PQ p r A' A' gb s0' s1' []) ∧ xok s0' ∧ xok s1') ∧ Below B w w' := by
  obtain ⟨go, hgo⟩ : ∃ g, w.heap.size = g := ⟨_, rfl⟩
  obtain ⟨w0, hw0⟩ : ∃ x, w.alloc (.cells #[.int .i64 1, .bool false, .int .i64 n, .string T, .slice ad fates.length cap] 59) = x := ⟨_, rfl⟩
  obtain ⟨h0, hb0⟩ := h.box _ _ w0 hw0 go hgo
  obtain ⟨opC, hop⟩ : ∃ x : Item, Item.block go (.cells #[.int .i64 1, .bool false, .int .i64 n, .string T, .slice ad fates.length cap] 59 (0, 0)) = x := ⟨_, rfl⟩
  have h0' : Lies B w0 (PQ p r A A gb s0 s1 [opC]) := by rw [← hop]; exact h0
  have HOK : Hid A.Ok := h.ok (i := 0) rfl
  obtain ⟨bC, hbC⟩ : ∃ x : Item, Item.block gb (.cells (bcells p r s0 s1) 75 (0, 0)) = x := ⟨_, rfl⟩
  have HC : Hid (∀ (W : World) (L' : List Item), L'[2]? = some bC → L'[7]? = some opC → Lies B W L' → W.cell? ⟨gb, 0, none⟩ = some (.pointer (some ⟨p, 0, none⟩)) ∧ W.cell? ⟨gb, 1, none⟩ = some (.pointer (some ⟨r, 0, none⟩)) ∧ W.cell? ⟨gb, 2, none⟩ = some (mvP s0) ∧ W.cell? ⟨gb, 4, none⟩ = some (qvP s0) ∧ W.cell? ⟨go, 1, none⟩ = some (.bool false) ∧ W.cell? ⟨go, 2, none⟩ = some (.int .i64 n)) := fun W L' h2 h7 h => by
    rw [← hop] at h7
    rw [← hbC] at h2
    have hc := block_at h h7
    have hd := block_at h h2
    refine ⟨?_, ?_, ?_, ?_, ?_, ?_⟩
    · rw [cell_of_row W gb 0 _ _ (0, 0) hd]; rfl
    · rw [cell_of_row W gb 1 _ _ (0, 0) hd]; rfl
    · rw [cell_of_row W gb 2 _ _ (0, 0) hd]; rfl
    · rw [cell_of_row W gb 4 _ _ (0, 0) hd]; rfl
    · rw [cell_of_row W go 1 _ _ (0, 0) hc]; rfl
    · rw [cell_of_row W go 2 _ _ (0, 0) hc]; rfl
  have z0 : w0.cell? ⟨go, 0, none⟩ = some (.int .i64 1) := by
    rw [← hop] at h0'
    have hc := block_at (q := 7) h0' rfl
    rw [cell_of_row w0 go 0 _ _ (0, 0) hc]; rfl
  obtain ⟨y0, y1, y2, y3, z1, y5⟩ := HC.out _ _ (by rw [← hbC]; rfl) rfl h0'
  have H := hide h0'
  have HB := hide hb0
  have HX0 := hide hx0
  have HX1 := hide hx1
  obtain ⟨nm, hnm⟩ : ∃ s, nameT false = s := ⟨_, rfl⟩
  have HNM : Hid (∀ w : World, Calls Tryz.prog 21 #[.bool false] w fun e w' => e = .returned (.string nm) ∧ w' = w) := fun w => by rw [← hnm]; exact name_any false w
  have znm : nm.size ≤ 1000 := by rw [← hnm]; decide
  obtain ⟨L0, hL0⟩ : ∃ L, PQ p r A A gb s0 s1 [opC] = L := ⟨_, rfl⟩
  obtain ⟨E, o, A', hE⟩ : ∃ E y X, A.openM nm.data.toList = (E, y, X) := ⟨_, _, _, rfl⟩
  have hnx : ∀ m, o = some m → m.2 ≤ 1 := fun m hm => open_next (A := A) (k := nm.data.toList) (by rw [hE]; exact hm)
  obtain ⟨L1, hL1⟩ : ∃ L : Item → List Item, ∀ it, L it = (L0.set 0 (.disk p A')).set 3 it := ⟨_, fun _ => rfl⟩
  obtain ⟨L2, hL2⟩ : ∃ L : Item → Item → List Item, ∀ it iq, L it iq = ((L1 it).set 1 (.ref r A')).set 4 iq := ⟨_, fun _ _ => rfl⟩
  have i0 : L0[0]? = some (.disk p A) := by rw [← hL0]; rfl
  have i1 : ∀ it, (L1 it)[1]? = some (.ref r A) := fun it => by rw [hL1, ← hL0]; rfl
  have A2 : Hid (L0[2]? = some bC) := by show _ = _; rw [← hL0, ← hbC]; rfl
  have A7 : Hid (L0[7]? = some opC) := by show _ = _; rw [← hL0]; rfl
  have B2 : Hid (∀ it, (L1 it)[2]? = some bC) := fun it => by rw [hL1, ← hL0, ← hbC]; rfl
  have B7 : Hid (∀ it, (L1 it)[7]? = some opC) := fun it => by rw [hL1, ← hL0]; rfl
  have C2 : Hid (∀ it iq, (L2 it iq)[2]? = some bC) := fun it iq => by rw [hL2, hL1, ← hL0, ← hbC]; rfl
  have C7 : Hid (∀ it iq, (L2 it iq)[7]? = some opC) := fun it iq => by rw [hL2, hL1, ← hL0]; rfl
  have HOC : Hid (∀ W, Lies B W L0 → Calls Tryz.prog 9 #[.pointer (some ⟨p, 0, none⟩), .string nm] W fun e w' => ∃ mv it, e = .returned (.tuple #[.pointer mv, .int .i64 E]) ∧ Lies B w' (L1 it) ∧ Below B W w' ∧ OKM 91 p nm o mv it) := fun W h => by
    have := mopen_any h i0 nm znm
    rw [hE] at this
    refine this.mono (fun e w' hp => ?_)
    obtain ⟨mv, it, h1, h2, h3, h4⟩ := mkp_uni 3 hp (by rw [← hL0]; show _ < 8; omega)
    exact ⟨mv, it, h1, by rw [hL1]; exact h2, h3, h4⟩
  have HOD : Hid (∀ W it, Lies B W (L1 it) → Calls Tryz.prog 52 #[.pointer (some ⟨r, 0, none⟩), .string nm] W fun e w' => ∃ qv iq, e = .returned (.tuple #[.pointer qv, .int .i64 E]) ∧ Lies B w' (L2 it iq) ∧ Below B W w' ∧ OKM 145 r nm o qv iq) := fun W it h => by
    have := dopen_any h (i1 it) HOK.out nm znm
    rw [hE] at this
    refine this.mono (fun e w' hp => ?_)
    obtain ⟨mv, iq, h1, h2, h3, h4⟩ := mkp_uni 4 hp (by rw [hL1, ← hL0]; show _ < 8; omega)
    exact ⟨mv, iq, h1, by rw [hL2]; exact h2, h3, h4⟩
  have HEE : Hid ((E == E) = true) := by show _ = _; simp
  have HEND : Hid (∀ W mv qv it iq, OKM 91 p nm o mv it → OKM 145 r nm o qv iq → Lies B W ((L2 it iq).set 2 (.block gb (.cells #[.pointer (some ⟨p, 0, none⟩), .pointer (some ⟨r, 0, none⟩), .pointer mv, mvP s1, .pointer qv, qvP s1] 75 (0, 0)))) → ∃ A' s0' s1', Lies B W (PQ p r A' A' gb s0' s1' []) ∧ xok s0' ∧ xok s1') := fun W mv qv it iq h1 h2 h => by
    obtain ⟨s, e1, e2, rfl, rfl, hs⟩ := okm_ps h1 h2 hnx
    rw [e1, e2] at h
    refine ⟨A', s, s1, Lies.drop1 (x := opC) ?_, hs, HX1.out⟩
    rw [hL2, hL1, ← hL0, ← hnm] at h
    exact h
  have HSET : Hid (∀ (W w8 : World) (mv : Option Addr) (it iq : Item), Lies B W (L2 it iq) → W.setCell ⟨gb, 2, none⟩ (.pointer mv) = w8 → Lies B w8 ((L2 it iq).set 2 (.block gb (.cells #[.pointer (some ⟨p, 0, none⟩), .pointer (some ⟨r, 0, none⟩), .pointer mv, mvP s1, qvP s0, qvP s1] 75 (0, 0)))) ∧ Below B W w8 ∧ w8.cell? ⟨gb, 4, none⟩ = some (qvP s0) ∧ w8.frozen? ⟨gb, 4, none⟩ = false ∧ W.cell? ⟨gb, 2, none⟩ = some (mvP s0) ∧ W.frozen? ⟨gb, 2, none⟩ = false) := fun W w8 mv it iq h h8 => by
    have h2 := C2.out it iq
    rw [← hbC] at h2
    have hd := block_at h h2
    obtain ⟨h9, hb9⟩ := Lies.setBlk (o := 2) (.pointer mv) #[.pointer (some ⟨p, 0, none⟩), .pointer (some ⟨r, 0, none⟩), .pointer mv, mvP s1, qvP s0, qvP s1] rfl h h2
    rw [h8] at h9 hb9
    have hl : 2 < (L2 it iq).length := (List.getElem?_eq_some_iff.1 h2).1
    have he := block_at (q := 2) h9 (by rw [List.getElem?_set_self hl])
    refine ⟨h9, hb9, ?_, frozen_of_row w8 gb 4 _ _ he, ?_, frozen_of_row W gb 2 _ _ hd⟩
    · rw [cell_of_row w8 gb 4 _ _ (0, 0) he]; rfl
    · rw [cell_of_row W gb 2 _ _ (0, 0) hd]; rfl
  have HSET2 : Hid (∀ (W w9 : World) (mv qv : Option Addr) (it iq : Item), Lies B W ((L2 it iq).set 2 (.block gb (.cells #[.pointer (some ⟨p, 0, none⟩), .pointer (some ⟨r, 0, none⟩), .pointer mv, mvP s1, qvP s0, qvP s1] 75 (0, 0)))) → W.setCell ⟨gb, 4, none⟩ (.pointer qv) = w9 → Lies B w9 ((L2 it iq).set 2 (.block gb (.cells #[.pointer (some ⟨p, 0, none⟩), .pointer (some ⟨r, 0, none⟩), .pointer mv, mvP s1, .pointer qv, qvP s1] 75 (0, 0)))) ∧ Below B W w9) := fun W w9 mv qv it iq h h8 => by
    have h2 := C2.out it iq
    have hl : 2 < (L2 it iq).length := (List.getElem?_eq_some_iff.1 h2).1
    obtain ⟨h9, hb9⟩ := Lies.setBlk (j := 2) (o := 4) (.pointer qv) #[.pointer (some ⟨p, 0, none⟩), .pointer (some ⟨r, 0, none⟩), .pointer mv, mvP s1, .pointer qv, qvP s1] rfl h (by rw [List.getElem?_set_self hl])
    rw [h8, List.set_set] at h9
    rw [h8] at hb9
    exact ⟨h9, hb9⟩
  rw [hL0] at H
  clear h h0 h0' hb0 hx0 hx1 hop hbC hL0 hE hL1 hL2 i0 i1 znm hnm hnx
  go_enter Tryz.func30, Tryz.ntmps30
  go_wp2
  clear z0 z1 y0 y1 y2 y3 y5
  obtain ⟨V1, hV⟩ : ∃ x, w0.drew = x := ⟨_, rfl⟩
  have hv0 := H.out.same (w' := w0.drew) (Nat.le_refl _) (fun _ _ _ => rfl)
  rw [hV] at hv0
  have HVB : Hid (Below B w V1) := by rw [← hV]; exact HB.out.drew
  have HVL := hide hv0
  have HS0 := hide (HC.out _ _ A2.out A7.out hv0)
  have HV := hide hV
  clear hv0 hV H HB
  try go_wp2
  refine wp_region_noPanic ?_
  refine wp_region_held_drew (S := fun wx => wx.cell? ⟨gb, 0, none⟩ = some (.pointer (some ⟨p, 0, none⟩)) ∧ wx.cell? ⟨gb, 1, none⟩ = some (.pointer (some ⟨r, 0, none⟩)) ∧ wx.cell? ⟨gb, 2, none⟩ = some (mvP s0) ∧ wx.cell? ⟨gb, 4, none⟩ = some (qvP s0) ∧ wx.cell? ⟨go, 1, none⟩ = some (.bool false) ∧ wx.cell? ⟨go, 2, none⟩ = some (.int .i64 n)) (by kernel_rfl) (by rw [HV.out]; exact HS0.out) (fun hHeld => ?_)
  rw [HV.out] at hHeld ⊢
  clear HV HS0
  refine tK 0 (some 21) (.pointer (some ⟨gb, 0, none⟩)) rfl hHeld ?_
  simp only [Act.put, pA, pB, pC]
  refine tK 1 (some 22) (.pointer (some ⟨gb, 0, none⟩)) rfl hHeld ?_
  simp only [Act.put, pA, pB, pC]
  refine tK 2 (some 23) (.pointer (some ⟨gb, 0, none⟩)) rfl hHeld ?_
  simp only [Act.put, pA, pB, pC]
  refine tH 3 (some 24) (.pointer (some ⟨p, 0, none⟩)) rfl (fun w hw => by obtain ⟨hw0, hw1, hw2, hw3, hw4, hw5⟩ := hw; first | rfl | (go_simp; done) | (go_simp; rfl)) hHeld ?_
  simp only [Act.put, pA, pB, pC]
  refine tK 4 (some 25) (.pointer (some ⟨go, 1, none⟩)) rfl hHeld ?_
  simp only [Act.put, pA, pB, pC]
  refine tH 5 (some 26) (.bool false) rfl (fun w hw => by obtain ⟨hw0, hw1, hw2, hw3, hw4, hw5⟩ := hw; first | rfl | (go_simp; done) | (go_simp; rfl)) hHeld ?_
  simp only [Act.put, pA, pB, pC]
  refine rdH 6 rfl (fun K hK => ?_)
  go_simp
  refine (HNM.out _).mono ?_
  rintro e wn ⟨rfl, hw⟩
  obtain rfl := hw.symm
  clear hw
  try go_wp2_with fail
  refine hK.out _ _ (HC.out _ _ A2.out A7.out HVL.out) (fun hH => ?_)
  clear hK K hHeld
  have hHeld := hH
  clear hH
  refine rdH 7 rfl (fun K hK => ?_)
  go_simp
  refine (HOC.out _ HVL.out).mono ?_
  rintro e wc1 ⟨mv, it, rfl, h2, hb2, hokm⟩
  have HOKm := hide hokm
  try go_wp2_with fail
  refine hK.out _ _ (HC.out _ _ (B2.out it) (B7.out it) h2) (fun hH => ?_)
  clear hK K hHeld
  have hHeld := hH
  clear hH
  have HB := hide (HVB.out.trans hb2)
  have H := hide h2
  clear h2 hb2 HVL HVB hokm
  refine tK 8 (some 20) (.tuple #[.pointer mv, .int .i64 E]) rfl hHeld ?_
  simp only [Act.put, pA, pB, pC]
  refine tK 9 (some 29) (.pointer mv) rfl hHeld ?_
  simp only [Act.put, pA, pB, pC]
  refine tK 10 (some 30) (.int .i64 E) rfl hHeld ?_
  simp only [Act.put, pA, pB, pC]
  refine tK 11 (some 6) (.pointer mv) rfl hHeld ?_
  simp only [Act.put, pA, pB, pC]
  refine tK 12 (some 7) (.int .i64 E) rfl hHeld ?_
  simp only [Act.put, pA, pB, pC]
  refine ⟨by kernel_rfl, ?_⟩
  refine NoPanic.normal ?_
  clear hHeld
  obtain ⟨V2, hV⟩ : ∃ x, wc1.drew = x := ⟨_, rfl⟩
  have hv0 := H.out.same (w' := wc1.drew) (Nat.le_refl _) (fun _ _ _ => rfl)
  rw [hV] at hv0
  have HVB : Hid (Below B w V2) := by rw [← hV]; exact HB.out.drew
  have HVL := hide hv0
  have HS0 := hide (HC.out _ _ (B2.out it) (B7.out it) hv0)
  have HV := hide hV
  clear hv0 hV H HB
  try go_wp2
  refine wp_region_noPanic ?_
  refine wp_region_held_drew (S := fun wx => wx.cell? ⟨gb, 0, none⟩ = some (.pointer (some ⟨p, 0, none⟩)) ∧ wx.cell? ⟨gb, 1, none⟩ = some (.pointer (some ⟨r, 0, none⟩)) ∧ wx.cell? ⟨gb, 2, none⟩ = some (mvP s0) ∧ wx.cell? ⟨gb, 4, none⟩ = some (qvP s0) ∧ wx.cell? ⟨go, 1, none⟩ = some (.bool false) ∧ wx.cell? ⟨go, 2, none⟩ = some (.int .i64 n)) (by kernel_rfl) (by rw [HV.out]; exact HS0.out) (fun hHeld => ?_)
  rw [HV.out] at hHeld ⊢
  clear HV HS0
  refine tK 0 (some 32) (.pointer (some ⟨gb, 0, none⟩)) rfl hHeld ?_
  simp only [Act.put, pA, pB, pC]
  refine tK 1 (some 33) (.pointer (some ⟨gb, 0, none⟩)) rfl hHeld ?_
  simp only [Act.put, pA, pB, pC]
  refine tK 2 (some 34) (.pointer (some ⟨gb, 1, none⟩)) rfl hHeld ?_
  simp only [Act.put, pA, pB, pC]
  refine tH 3 (some 35) (.pointer (some ⟨r, 0, none⟩)) rfl (fun w hw => by obtain ⟨hw0, hw1, hw2, hw3, hw4, hw5⟩ := hw; first | rfl | (go_simp; done) | (go_simp; rfl)) hHeld ?_
  simp only [Act.put, pA, pB, pC]
  refine tK 4 (some 36) (.pointer (some ⟨go, 1, none⟩)) rfl hHeld ?_
  simp only [Act.put, pA, pB, pC]
  refine tH 5 (some 37) (.bool false) rfl (fun w hw => by obtain ⟨hw0, hw1, hw2, hw3, hw4, hw5⟩ := hw; first | rfl | (go_simp; done) | (go_simp; rfl)) hHeld ?_
  simp only [Act.put, pA, pB, pC]
  refine rdH 6 rfl (fun K hK => ?_)
  go_simp
  refine (HNM.out _).mono ?_
  rintro e wn ⟨rfl, hw⟩
  obtain rfl := hw.symm
  clear hw
  try go_wp2_with fail
  refine hK.out _ _ (HC.out _ _ (B2.out it) (B7.out it) HVL.out) (fun hH => ?_)
  clear hK K hHeld
  have hHeld := hH
  clear hH
  refine rdH 7 rfl (fun K hK => ?_)
  go_simp
  refine (HOD.out _ _ HVL.out).mono ?_
  rintro e wc2 ⟨qv, iq, rfl, h2, hb2, hokq⟩
  have HOKq := hide hokq
  try go_wp2_with fail
  refine hK.out _ _ (HC.out _ _ (C2.out it iq) (C7.out it iq) h2) (fun hH => ?_)
  clear hK K hHeld
  have hHeld := hH
  clear hH
  have HB := hide (HVB.out.trans hb2)
  have H := hide h2
  clear h2 hb2 HVL HVB hokq
  refine tK 8 (some 31) (.tuple #[.pointer qv, .int .i64 E]) rfl hHeld ?_
  simp only [Act.put, pA, pB, pC]
  refine tK 9 (some 40) (.pointer qv) rfl hHeld ?_
  simp only [Act.put, pA, pB, pC]
  refine tK 10 (some 41) (.int .i64 E) rfl hHeld ?_
  simp only [Act.put, pA, pB, pC]
  refine tK 11 (some 8) (.pointer qv) rfl hHeld ?_
  simp only [Act.put, pA, pB, pC]
  refine tK 12 (some 9) (.int .i64 E) rfl hHeld ?_
  simp only [Act.put, pA, pB, pC]
  refine ⟨by kernel_rfl, ?_⟩
  refine NoPanic.normal ?_
  clear hHeld
  obtain ⟨w8, hw8⟩ : ∃ x, wc2.setCell ⟨gb, 2, none⟩ (.pointer mv) = x := ⟨_, rfl⟩
  obtain ⟨h8, hb8, c8, f8, c7, f7⟩ := HSET.out _ _ _ _ _ H.out hw8
  obtain ⟨w9, hw9⟩ : ∃ x, w8.setCell ⟨gb, 4, none⟩ (.pointer qv) = x := ⟨_, rfl⟩
  obtain ⟨h9, hb9⟩ := HSET2.out _ _ _ qv _ _ h8 hw9
  have H9 := hide h9
  have HB9 := hide ((HB.out.trans hb8).trans hb9)
  have heq := HEE.out
  clear h8 hb8 h9 hb9 H HB HC HSET HSET2 HEE
  go_wp2
  go_ret
  exact ⟨rfl, HEND.out _ _ _ _ _ HOKm.out HOKq.out H9.out, HB9.out⟩
set_option maxRecDepth 100000 in
set_option maxHeartbeats 40000000 in
theorem play1_1 {B : Nat} {w : World} {p r : Nat} {A : AD} {gb : Nat} {s0 s1 : PS} (h : Lies B w (PQ p r A A gb s0 s1 [])) (hx0 : xok s0) (hx1 : xok s1) (n : Int) (T : ByteArray) (ad : Option Addr) (fates : List FT) (cap : Nat) :
    Calls Tryz.prog 30 #[.pointer (some ⟨gb, 0, none⟩), .agg #[.int .i64 1, .bool true, .int .i64 n, .string T, .slice ad fates.length cap]] w fun e w' => e = .returned (.bool true) ∧ (∃ A' s0' s1', Lies B w' (PQ p r A' A' gb s0' s1' []) ∧ xok s0' ∧ xok s1') ∧ Below B w w' := by
  obtain ⟨go, hgo⟩ : ∃ g, w.heap.size = g := ⟨_, rfl⟩
  obtain ⟨w0, hw0⟩ : ∃ x, w.alloc (.cells #[.int .i64 1, .bool true, .int .i64 n, .string T, .slice ad fates.length cap] 59) = x := ⟨_, rfl⟩
  obtain ⟨h0, hb0⟩ := h.box _ _ w0 hw0 go hgo
  obtain ⟨opC, hop⟩ : ∃ x : Item, Item.block go (.cells #[.int .i64 1, .bool true, .int .i64 n, .string T, .slice ad fates.length cap] 59 (0, 0)) = x := ⟨_, rfl⟩
  have h0' : Lies B w0 (PQ p r A A gb s0 s1 [opC]) := by rw [← hop]; exact h0
  have HOK : Hid A.Ok := h.ok (i := 0) rfl
  obtain ⟨bC, hbC⟩ : ∃ x : Item, Item.block gb (.cells (bcells p r s0 s1) 75 (0, 0)) = x := ⟨_, rfl⟩
  have HC : Hid (∀ (W : World) (L' : List Item), L'[2]? = some bC → L'[7]? = some opC → Lies B W L' → W.cell? ⟨gb, 0, none⟩ = some (.pointer (some ⟨p, 0, none⟩)) ∧ W.cell? ⟨gb, 1, none⟩ = some (.pointer (some ⟨r, 0, none⟩)) ∧ W.cell? ⟨gb, 2, none⟩ = some (mvP s0) ∧ W.cell? ⟨gb, 4, none⟩ = some (qvP s0) ∧ W.cell? ⟨go, 1, none⟩ = some (.bool true) ∧ W.cell? ⟨go, 2, none⟩ = some (.int .i64 n)) := fun W L' h2 h7 h => by
    rw [← hop] at h7
    rw [← hbC] at h2
    have hc := block_at h h7
    have hd := block_at h h2
    refine ⟨?_, ?_, ?_, ?_, ?_, ?_⟩
    · rw [cell_of_row W gb 0 _ _ (0, 0) hd]; rfl
    · rw [cell_of_row W gb 1 _ _ (0, 0) hd]; rfl
    · rw [cell_of_row W gb 2 _ _ (0, 0) hd]; rfl
    · rw [cell_of_row W gb 4 _ _ (0, 0) hd]; rfl
    · rw [cell_of_row W go 1 _ _ (0, 0) hc]; rfl
    · rw [cell_of_row W go 2 _ _ (0, 0) hc]; rfl
  have z0 : w0.cell? ⟨go, 0, none⟩ = some (.int .i64 1) := by
    rw [← hop] at h0'
    have hc := block_at (q := 7) h0' rfl
    rw [cell_of_row w0 go 0 _ _ (0, 0) hc]; rfl
  obtain ⟨y0, y1, y2, y3, z1, y5⟩ := HC.out _ _ (by rw [← hbC]; rfl) rfl h0'
  have H := hide h0'
  have HB := hide hb0
  have HX0 := hide hx0
  have HX1 := hide hx1
  obtain ⟨nm, hnm⟩ : ∃ s, nameT true = s := ⟨_, rfl⟩
  have HNM : Hid (∀ w : World, Calls Tryz.prog 21 #[.bool true] w fun e w' => e = .returned (.string nm) ∧ w' = w) := fun w => by rw [← hnm]; exact name_any true w
  have znm : nm.size ≤ 1000 := by rw [← hnm]; decide
  obtain ⟨L0, hL0⟩ : ∃ L, PQ p r A A gb s0 s1 [opC] = L := ⟨_, rfl⟩
  obtain ⟨E, o, A', hE⟩ : ∃ E y X, A.openM nm.data.toList = (E, y, X) := ⟨_, _, _, rfl⟩
  have hnx : ∀ m, o = some m → m.2 ≤ 1 := fun m hm => open_next (A := A) (k := nm.data.toList) (by rw [hE]; exact hm)
  obtain ⟨L1, hL1⟩ : ∃ L : Item → List Item, ∀ it, L it = (L0.set 0 (.disk p A')).set 5 it := ⟨_, fun _ => rfl⟩
  obtain ⟨L2, hL2⟩ : ∃ L : Item → Item → List Item, ∀ it iq, L it iq = ((L1 it).set 1 (.ref r A')).set 6 iq := ⟨_, fun _ _ => rfl⟩
  have i0 : L0[0]? = some (.disk p A) := by rw [← hL0]; rfl
  have i1 : ∀ it, (L1 it)[1]? = some (.ref r A) := fun it => by rw [hL1, ← hL0]; rfl
  have A2 : Hid (L0[2]? = some bC) := by show _ = _; rw [← hL0, ← hbC]; rfl
  have A7 : Hid (L0[7]? = some opC) := by show _ = _; rw [← hL0]; rfl
  have B2 : Hid (∀ it, (L1 it)[2]? = some bC) := fun it => by rw [hL1, ← hL0, ← hbC]; rfl
  have B7 : Hid (∀ it, (L1 it)[7]? = some opC) := fun it => by rw [hL1, ← hL0]; rfl
  have C2 : Hid (∀ it iq, (L2 it iq)[2]? = some bC) := fun it iq => by rw [hL2, hL1, ← hL0, ← hbC]; rfl
  have C7 : Hid (∀ it iq, (L2 it iq)[7]? = some opC) := fun it iq => by rw [hL2, hL1, ← hL0]; rfl
  have HOC : Hid (∀ W, Lies B W L0 → Calls Tryz.prog 9 #[.pointer (some ⟨p, 0, none⟩), .string nm] W fun e w' => ∃ mv it, e = .returned (.tuple #[.pointer mv, .int .i64 E]) ∧ Lies B w' (L1 it) ∧ Below B W w' ∧ OKM 91 p nm o mv it) := fun W h => by
    have := mopen_any h i0 nm znm
    rw [hE] at this
    refine this.mono (fun e w' hp => ?_)
    obtain ⟨mv, it, h1, h2, h3, h4⟩ := mkp_uni 5 hp (by rw [← hL0]; show _ < 8; omega)
    exact ⟨mv, it, h1, by rw [hL1]; exact h2, h3, h4⟩
  have HOD : Hid (∀ W it, Lies B W (L1 it) → Calls Tryz.prog 52 #[.pointer (some ⟨r, 0, none⟩), .string nm] W fun e w' => ∃ qv iq, e = .returned (.tuple #[.pointer qv, .int .i64 E]) ∧ Lies B w' (L2 it iq) ∧ Below B W w' ∧ OKM 145 r nm o qv iq) := fun W it h => by
    have := dopen_any h (i1 it) HOK.out nm znm
    rw [hE] at this
    refine this.mono (fun e w' hp => ?_)
    obtain ⟨mv, iq, h1, h2, h3, h4⟩ := mkp_uni 6 hp (by rw [hL1, ← hL0]; show _ < 8; omega)
    exact ⟨mv, iq, h1, by rw [hL2]; exact h2, h3, h4⟩
  have HEE : Hid ((E == E) = true) := by show _ = _; simp
  have HEND : Hid (∀ W mv qv it iq, OKM 91 p nm o mv it → OKM 145 r nm o qv iq → Lies B W ((L2 it iq).set 2 (.block gb (.cells #[.pointer (some ⟨p, 0, none⟩), .pointer (some ⟨r, 0, none⟩), mvP s0, .pointer mv, qvP s0, .pointer qv] 75 (0, 0)))) → ∃ A' s0' s1', Lies B W (PQ p r A' A' gb s0' s1' []) ∧ xok s0' ∧ xok s1') := fun W mv qv it iq h1 h2 h => by
    obtain ⟨s, e1, e2, rfl, rfl, hs⟩ := okm_ps h1 h2 hnx
    rw [e1, e2] at h
    refine ⟨A', s0, s, Lies.drop1 (x := opC) ?_, HX0.out, hs⟩
    rw [hL2, hL1, ← hL0, ← hnm] at h
    exact h
  have HSET : Hid (∀ (W w8 : World) (mv : Option Addr) (it iq : Item), Lies B W (L2 it iq) → W.setCell ⟨gb, 3, none⟩ (.pointer mv) = w8 → Lies B w8 ((L2 it iq).set 2 (.block gb (.cells #[.pointer (some ⟨p, 0, none⟩), .pointer (some ⟨r, 0, none⟩), mvP s0, .pointer mv, qvP s0, qvP s1] 75 (0, 0)))) ∧ Below B W w8 ∧ w8.cell? ⟨gb, 5, none⟩ = some (qvP s1) ∧ w8.frozen? ⟨gb, 5, none⟩ = false ∧ W.cell? ⟨gb, 3, none⟩ = some (mvP s1) ∧ W.frozen? ⟨gb, 3, none⟩ = false) := fun W w8 mv it iq h h8 => by
    have h2 := C2.out it iq
    rw [← hbC] at h2
    have hd := block_at h h2
    obtain ⟨h9, hb9⟩ := Lies.setBlk (o := 3) (.pointer mv) #[.pointer (some ⟨p, 0, none⟩), .pointer (some ⟨r, 0, none⟩), mvP s0, .pointer mv, qvP s0, qvP s1] rfl h h2
    rw [h8] at h9 hb9
    have hl : 2 < (L2 it iq).length := (List.getElem?_eq_some_iff.1 h2).1
    have he := block_at (q := 2) h9 (by rw [List.getElem?_set_self hl])
    refine ⟨h9, hb9, ?_, frozen_of_row w8 gb 5 _ _ he, ?_, frozen_of_row W gb 3 _ _ hd⟩
    · rw [cell_of_row w8 gb 5 _ _ (0, 0) he]; rfl
    · rw [cell_of_row W gb 3 _ _ (0, 0) hd]; rfl
  have HSET2 : Hid (∀ (W w9 : World) (mv qv : Option Addr) (it iq : Item), Lies B W ((L2 it iq).set 2 (.block gb (.cells #[.pointer (some ⟨p, 0, none⟩), .pointer (some ⟨r, 0, none⟩), mvP s0, .pointer mv, qvP s0, qvP s1] 75 (0, 0)))) → W.setCell ⟨gb, 5, none⟩ (.pointer qv) = w9 → Lies B w9 ((L2 it iq).set 2 (.block gb (.cells #[.pointer (some ⟨p, 0, none⟩), .pointer (some ⟨r, 0, none⟩), mvP s0, .pointer mv, qvP s0, .pointer qv] 75 (0, 0)))) ∧ Below B W w9) := fun W w9 mv qv it iq h h8 => by
    have h2 := C2.out it iq
    have hl : 2 < (L2 it iq).length := (List.getElem?_eq_some_iff.1 h2).1
    obtain ⟨h9, hb9⟩ := Lies.setBlk (j := 2) (o := 5) (.pointer qv) #[.pointer (some ⟨p, 0, none⟩), .pointer (some ⟨r, 0, none⟩), mvP s0, .pointer mv, qvP s0, .pointer qv] rfl h (by rw [List.getElem?_set_self hl])
    rw [h8, List.set_set] at h9
    rw [h8] at hb9
    exact ⟨h9, hb9⟩
  rw [hL0] at H
  clear h h0 h0' hb0 hx0 hx1 hop hbC hL0 hE hL1 hL2 i0 i1 znm hnm hnx
  go_enter Tryz.func30, Tryz.ntmps30
  go_wp2
  clear z0 z1 y0 y1 y2 y3 y5
  obtain ⟨V1, hV⟩ : ∃ x, w0.drew = x := ⟨_, rfl⟩
  have hv0 := H.out.same (w' := w0.drew) (Nat.le_refl _) (fun _ _ _ => rfl)
  rw [hV] at hv0
  have HVB : Hid (Below B w V1) := by rw [← hV]; exact HB.out.drew
  have HVL := hide hv0
  have HS0 := hide (HC.out _ _ A2.out A7.out hv0)
  have HV := hide hV
  clear hv0 hV H HB
  try go_wp2
  refine wp_region_noPanic ?_
  refine wp_region_held_drew (S := fun wx => wx.cell? ⟨gb, 0, none⟩ = some (.pointer (some ⟨p, 0, none⟩)) ∧ wx.cell? ⟨gb, 1, none⟩ = some (.pointer (some ⟨r, 0, none⟩)) ∧ wx.cell? ⟨gb, 2, none⟩ = some (mvP s0) ∧ wx.cell? ⟨gb, 4, none⟩ = some (qvP s0) ∧ wx.cell? ⟨go, 1, none⟩ = some (.bool true) ∧ wx.cell? ⟨go, 2, none⟩ = some (.int .i64 n)) (by kernel_rfl) (by rw [HV.out]; exact HS0.out) (fun hHeld => ?_)
  rw [HV.out] at hHeld ⊢
  clear HV HS0
  refine tK 0 (some 21) (.pointer (some ⟨gb, 0, none⟩)) rfl hHeld ?_
  simp only [Act.put, pA, pB, pC]
  refine tK 1 (some 22) (.pointer (some ⟨gb, 0, none⟩)) rfl hHeld ?_
  simp only [Act.put, pA, pB, pC]
  refine tK 2 (some 23) (.pointer (some ⟨gb, 0, none⟩)) rfl hHeld ?_
  simp only [Act.put, pA, pB, pC]
  refine tH 3 (some 24) (.pointer (some ⟨p, 0, none⟩)) rfl (fun w hw => by obtain ⟨hw0, hw1, hw2, hw3, hw4, hw5⟩ := hw; first | rfl | (go_simp; done) | (go_simp; rfl)) hHeld ?_
  simp only [Act.put, pA, pB, pC]
  refine tK 4 (some 25) (.pointer (some ⟨go, 1, none⟩)) rfl hHeld ?_
  simp only [Act.put, pA, pB, pC]
  refine tH 5 (some 26) (.bool true) rfl (fun w hw => by obtain ⟨hw0, hw1, hw2, hw3, hw4, hw5⟩ := hw; first | rfl | (go_simp; done) | (go_simp; rfl)) hHeld ?_
  simp only [Act.put, pA, pB, pC]
  refine rdH 6 rfl (fun K hK => ?_)
  go_simp
  refine (HNM.out _).mono ?_
  rintro e wn ⟨rfl, hw⟩
  obtain rfl := hw.symm
  clear hw
  try go_wp2_with fail
  refine hK.out _ _ (HC.out _ _ A2.out A7.out HVL.out) (fun hH => ?_)
  clear hK K hHeld
  have hHeld := hH
  clear hH
  refine rdH 7 rfl (fun K hK => ?_)
  go_simp
  refine (HOC.out _ HVL.out).mono ?_
  rintro e wc1 ⟨mv, it, rfl, h2, hb2, hokm⟩
  have HOKm := hide hokm
  try go_wp2_with fail
  refine hK.out _ _ (HC.out _ _ (B2.out it) (B7.out it) h2) (fun hH => ?_)
  clear hK K hHeld
  have hHeld := hH
  clear hH
  have HB := hide (HVB.out.trans hb2)
  have H := hide h2
  clear h2 hb2 HVL HVB hokm
  refine tK 8 (some 20) (.tuple #[.pointer mv, .int .i64 E]) rfl hHeld ?_
  simp only [Act.put, pA, pB, pC]
  refine tK 9 (some 29) (.pointer mv) rfl hHeld ?_
  simp only [Act.put, pA, pB, pC]
  refine tK 10 (some 30) (.int .i64 E) rfl hHeld ?_
  simp only [Act.put, pA, pB, pC]
  refine tK 11 (some 6) (.pointer mv) rfl hHeld ?_
  simp only [Act.put, pA, pB, pC]
  refine tK 12 (some 7) (.int .i64 E) rfl hHeld ?_
  simp only [Act.put, pA, pB, pC]
  refine ⟨by kernel_rfl, ?_⟩
  refine NoPanic.normal ?_
  clear hHeld
  obtain ⟨V2, hV⟩ : ∃ x, wc1.drew = x := ⟨_, rfl⟩
  have hv0 := H.out.same (w' := wc1.drew) (Nat.le_refl _) (fun _ _ _ => rfl)
  rw [hV] at hv0
  have HVB : Hid (Below B w V2) := by rw [← hV]; exact HB.out.drew
  have HVL := hide hv0
  have HS0 := hide (HC.out _ _ (B2.out it) (B7.out it) hv0)
  have HV := hide hV
  clear hv0 hV H HB
  try go_wp2
  refine wp_region_noPanic ?_
  refine wp_region_held_drew (S := fun wx => wx.cell? ⟨gb, 0, none⟩ = some (.pointer (some ⟨p, 0, none⟩)) ∧ wx.cell? ⟨gb, 1, none⟩ = some (.pointer (some ⟨r, 0, none⟩)) ∧ wx.cell? ⟨gb, 2, none⟩ = some (mvP s0) ∧ wx.cell? ⟨gb, 4, none⟩ = some (qvP s0) ∧ wx.cell? ⟨go, 1, none⟩ = some (.bool true) ∧ wx.cell? ⟨go, 2, none⟩ = some (.int .i64 n)) (by kernel_rfl) (by rw [HV.out]; exact HS0.out) (fun hHeld => ?_)
  rw [HV.out] at hHeld ⊢
  clear HV HS0
  refine tK 0 (some 32) (.pointer (some ⟨gb, 0, none⟩)) rfl hHeld ?_
  simp only [Act.put, pA, pB, pC]
  refine tK 1 (some 33) (.pointer (some ⟨gb, 0, none⟩)) rfl hHeld ?_
  simp only [Act.put, pA, pB, pC]
  refine tK 2 (some 34) (.pointer (some ⟨gb, 1, none⟩)) rfl hHeld ?_
  simp only [Act.put, pA, pB, pC]
  refine tH 3 (some 35) (.pointer (some ⟨r, 0, none⟩)) rfl (fun w hw => by obtain ⟨hw0, hw1, hw2, hw3, hw4, hw5⟩ := hw; first | rfl | (go_simp; done) | (go_simp; rfl)) hHeld ?_
  simp only [Act.put, pA, pB, pC]
  refine tK 4 (some 36) (.pointer (some ⟨go, 1, none⟩)) rfl hHeld ?_
  simp only [Act.put, pA, pB, pC]
  refine tH 5 (some 37) (.bool true) rfl (fun w hw => by obtain ⟨hw0, hw1, hw2, hw3, hw4, hw5⟩ := hw; first | rfl | (go_simp; done) | (go_simp; rfl)) hHeld ?_
  simp only [Act.put, pA, pB, pC]
  refine rdH 6 rfl (fun K hK => ?_)
  go_simp
  refine (HNM.out _).mono ?_
  rintro e wn ⟨rfl, hw⟩
  obtain rfl := hw.symm
  clear hw
  try go_wp2_with fail
  refine hK.out _ _ (HC.out _ _ (B2.out it) (B7.out it) HVL.out) (fun hH => ?_)
  clear hK K hHeld
  have hHeld := hH
  clear hH
  refine rdH 7 rfl (fun K hK => ?_)
  go_simp
  refine (HOD.out _ _ HVL.out).mono ?_
  rintro e wc2 ⟨qv, iq, rfl, h2, hb2, hokq⟩
  have HOKq := hide hokq
  try go_wp2_with fail
  refine hK.out _ _ (HC.out _ _ (C2.out it iq) (C7.out it iq) h2) (fun hH => ?_)
  clear hK K hHeld
  have hHeld := hH
  clear hH
  have HB := hide (HVB.out.trans hb2)
  have H := hide h2
  clear h2 hb2 HVL HVB hokq
  refine tK 8 (some 31) (.tuple #[.pointer qv, .int .i64 E]) rfl hHeld ?_
  simp only [Act.put, pA, pB, pC]
  refine tK 9 (some 40) (.pointer qv) rfl hHeld ?_
  simp only [Act.put, pA, pB, pC]
  refine tK 10 (some 41) (.int .i64 E) rfl hHeld ?_
  simp only [Act.put, pA, pB, pC]
  refine tK 11 (some 8) (.pointer qv) rfl hHeld ?_
  simp only [Act.put, pA, pB, pC]
  refine tK 12 (some 9) (.int .i64 E) rfl hHeld ?_
  simp only [Act.put, pA, pB, pC]
  refine ⟨by kernel_rfl, ?_⟩
  refine NoPanic.normal ?_
  clear hHeld
  obtain ⟨w8, hw8⟩ : ∃ x, wc2.setCell ⟨gb, 3, none⟩ (.pointer mv) = x := ⟨_, rfl⟩
  obtain ⟨h8, hb8, c8, f8, c7, f7⟩ := HSET.out _ _ _ _ _ H.out hw8
  obtain ⟨w9, hw9⟩ : ∃ x, w8.setCell ⟨gb, 5, none⟩ (.pointer qv) = x := ⟨_, rfl⟩
  obtain ⟨h9, hb9⟩ := HSET2.out _ _ _ qv _ _ h8 hw9
  have H9 := hide h9
  have HB9 := hide ((HB.out.trans hb8).trans hb9)
  have heq := HEE.out
  clear h8 hb8 h9 hb9 H HB HC HSET HSET2 HEE
  go_wp2
  go_ret
  exact ⟨rfl, HEND.out _ _ _ _ _ HOKm.out HOKq.out H9.out, HB9.out⟩
end Go.Proofs.YtlkimfmilccanaaGreat
