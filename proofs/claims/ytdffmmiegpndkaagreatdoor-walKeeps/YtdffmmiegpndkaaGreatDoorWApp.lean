import Derived.Test.YtdffmmiegpndkaaGreatDoorWLay
import Derived.Test.YtdffmmiegpndkaaGreatDoorFFrame
/-
  keep: a segment is remembered (printed by gen_keep.py).
-/
namespace Go.Proofs.YtdffmmiegpndkaaGreatDoor
open Go.RowKit Go.Maps
set_option linter.unusedVariables false
set_option linter.unusedSimpArgs false
def keepA (g : AL) (s : ASeg) (fresh : Bool) : List ASeg := if fresh then g.segs ++ [s] else g.segs.set (g.segs.length - 1) s
section
variable {B : Nat} {w : World} {L : List Item} {i j l p : Nat} {A : AD} {g : AL}
theorem Lies.setSeg3 {b off n cap : Nat} (h : Lies B w L) (hj : L[j]? = some (.logv l p g (.slice (some ⟨b, off, none⟩) n cap))) (k : Nat) (hk : k < g.segs.length) (s : ASeg) {w' : World} (hw : ((w.setCell ⟨b, off + k * 3, none⟩ (.int .i64 s.num)).setCell ⟨b, off + k * 3 + 1, none⟩ (.int .i64 s.size)).setCell ⟨b, off + k * 3 + 2, none⟩ (.int .i64 s.fin) = w') :
    Lies B w' (L.set j (.logv l p { g with segs := g.segs.set k s } (.slice (some ⟨b, off, none⟩) n cap))) ∧ Below B w w' := by
  have hjl := (List.getElem?_eq_some_iff.1 hj).1
  obtain ⟨h1, b1⟩ := h.setSeg hj k hk 0 (by omega) s.num ⟨s.num, (g.segs[k]).size, (g.segs[k]).fin⟩ rfl
  obtain ⟨h2, b2⟩ := h1.setSeg (List.getElem?_set_self hjl) k (by show k < (g.segs.set k _).length; rw [List.length_set]; exact hk) 1 (by omega) s.size ⟨s.num, s.size, (g.segs[k]).fin⟩ (by simp only [List.getElem_set_self]; rfl)
  obtain ⟨h3, b3⟩ := h2.setSeg (by rw [List.set_set]; exact List.getElem?_set_self hjl) k (by show k < ((g.segs.set k _).set k _).length; rw [List.length_set, List.length_set]; exact hk) 2 (by omega) s.fin s (by simp only [List.getElem_set_self]; rfl)
  rw [List.set_set, List.set_set] at h3
  simp only [List.set_set] at h3
  rw [← hw]
  exact ⟨h3, (b1.trans b2).trans b3⟩
theorem SegRow.uniq {v : Value} {gs : List ASeg} {r r' : Option Nat} (h : SegRow w v gs r) (h' : SegRow w v gs r') : r = r' := by
  obtain ⟨ad, cap, hv, _, h1⟩ := h
  obtain ⟨ad', cap', hv', _, h1'⟩ := h'
  rw [hv] at hv'
  cases hv'
  rcases h1 with ⟨e1, e2, e3⟩ | ⟨b, off, e1, e2, _⟩ <;> rcases h1' with ⟨f1, f2, f3⟩ | ⟨b', off', f1, f2, _⟩
  · rw [e3, f3]
  · rw [e1] at f1; cases f1
  · rw [f1] at e1; cases e1
  · rw [e1] at f1; cases f1; rw [e2, f2]
theorem Lies.logApart {q b : Nat} {ob : Obj} {v : Value} {r : Option Nat} (h : Lies B w L) (hj : L[j]? = some (.log l p g)) (hq : L[q]? = some (.block b ob)) (hne : q ≠ j) (hat : LogAt w l p g v r) : r ≠ some b := by
  obtain ⟨_, S, h1, h2, h3⟩ := h
  obtain ⟨v', r', hat', hS⟩ := h1 j _ hj
  have hv : v = v' := by have a := hat.c3; rw [hat'.c3] at a; cases a; rfl
  subst hv
  have hr : r = r' := hat.row.uniq hat'.row
  subst hr
  intro e
  obtain ⟨_, hSb⟩ := h1 q _ hq
  exact h3 j q b (List.getElem?_eq_some_iff.1 hj).1 (List.getElem?_eq_some_iff.1 hq).1 (fun e => hne e.symm) ((hS b).2 (.inr e)) ((hSb b).2 rfl)
set_option maxRecDepth 100000 in
set_option maxHeartbeats 4000000 in
theorem keep_any (h : Lies B w L) (hj : L[j]? = some (.log l p g)) (s : ASeg) (fresh : Bool) (hlen : g.segs.length ≤ 10000000) (hne : fresh = false → 0 < g.segs.length) :
    Calls Tryz.prog 28 #[.pointer (some ⟨l, 0, none⟩), s.val, .bool fresh] w fun e w' => e = .returned (.tuple #[]) ∧ Lies B w' (L.set j (.log l p { g with segs := keepA g s fresh })) ∧ Below B w w' := by
  obtain ⟨g1, hg1⟩ : ∃ x, w.heap.size = x := ⟨_, rfl⟩
  obtain ⟨w1, hw1⟩ : ∃ x, w.alloc (.cells #[.int .i64 s.num, .int .i64 s.size, .int .i64 s.fin] 66) = x := ⟨_, rfl⟩
  obtain ⟨hl1, hb1⟩ := h.newCells #[.int .i64 s.num, .int .i64 s.size, .int .i64 s.fin] 66
  rw [hw1, hg1] at hl1
  rw [hw1] at hb1
  obtain ⟨X, hX⟩ : ∃ X : List Item, [.block g1 (.cells #[.int .i64 s.num, .int .i64 s.size, .int .i64 s.fin] 66 (0, 0))] = X := ⟨_, rfl⟩
  rw [hX] at hl1
  have hX0 : (L ++ X)[L.length + 0]? = some (.block g1 (.cells #[.int .i64 s.num, .int .i64 s.size, .int .i64 s.fin] 66 (0, 0))) := by rw [get_tail, ← hX]; rfl
  have hjl := (List.getElem?_eq_some_iff.1 hj).1
  obtain ⟨V0, hV0⟩ : ∃ x, w1.drew = x := ⟨_, rfl⟩
  have hv0 := hl1.same (w' := w1.drew) (Nat.le_refl _) (fun _ _ _ => rfl)
  rw [hV0] at hv0
  have hvb0 : Below B w V0 := by rw [← hV0]; exact hb1.drew
  obtain ⟨⟨z0, z1, z2⟩, _⟩ := hv0.get3 hX0
  have HV0 := hide hV0
  have HG1 : Hid (g1 < V0.heap.size) := lt_of_some (hv0.atBlock hX0)
  unfold ASeg.val
  cases fresh with
  | true =>
    obtain ⟨v, r, hat, _, hnew, _⟩ := hv0.newSegs (get_head hj)
    have hgne : r ≠ some g1 := hv0.logApart (get_head hj) hX0 (by omega) hat
    have c3 := hat.c3
    obtain ⟨g2, hg2⟩ : ∃ g1, V0.heap.size = g1 := ⟨_, rfl⟩
    obtain ⟨V1, hV1⟩ : ∃ x, V0.alloc (.cells s.cs.toArray 66) = x := ⟨_, rfl⟩
    obtain ⟨v', r', V2, hap, hrow3, ht3, hown3⟩ := app_seg hat.row hlen s 55 hV1 hg2
    obtain ⟨hc3, hf3, hL3, hb3⟩ := hnew V2 v' r' _ hrow3 ht3 hown3
    obtain ⟨ad4, cap4, hv4, _⟩ := hrow3
    obtain ⟨ad5, cap5, hv5, _⟩ := hat.row
    obtain ⟨n4, hn4⟩ : ∃ n, (g.segs ++ [s]).length = n := ⟨_, rfl⟩
    obtain ⟨n5, hn5⟩ : ∃ n, g.segs.length = n := ⟨_, rfl⟩
    rw [hn4] at hv4
    rw [hn5] at hv5
    subst hv4 hv5
    rw [hset_app _ hjl] at hL3
    have hV1' : V0.alloc (.cells #[.int .i64 s.num, .int .i64 s.size, .int .i64 s.fin] 66) = V1 := hV1
    have hbV1 : Below V0.heap.size V0 V1 := by rw [← hV1]; exact (Below.refl _ _).alloc (Nat.le_refl _) _
    have hl_lt : l < V0.heap.size := lt_of_some hat.cells
    have x3 := (World.cell?_of_block (a := ⟨l, 3, none⟩) (hbV1.block l hl_lt)).trans c3
    have x0 := (World.cell?_of_block (a := ⟨g1, 0, none⟩) (hbV1.block g1 HG1.out)).trans z0
    have x1 := (World.cell?_of_block (a := ⟨g1, 1, none⟩) (hbV1.block g1 HG1.out)).trans z1
    have x2 := (World.cell?_of_block (a := ⟨g1, 2, none⟩) (hbV1.block g1 HG1.out)).trans z2
    have HY : Hid (V2.cell? ⟨g1, 0, none⟩ = some (.int .i64 s.num) ∧ V2.cell? ⟨g1, 1, none⟩ = some (.int .i64 s.size) ∧ V2.cell? ⟨g1, 2, none⟩ = some (.int .i64 s.fin)) := by
      have hb : V2.heap[g1]? = V0.heap[g1]? := ht3.block g1 (by rw [hg2]; have := HG1.out; omega) (fun hc => hgne hc)
      exact ⟨(World.cell?_of_block (a := ⟨g1, 0, none⟩) hb).trans z0, (World.cell?_of_block (a := ⟨g1, 1, none⟩) hb).trans z1, (World.cell?_of_block (a := ⟨g1, 2, none⟩) hb).trans z2⟩
    obtain ⟨V3, hV3⟩ : ∃ x, V2.setCell ⟨l, 3, none⟩ (.slice ad4 n4 cap4) = x := ⟨_, rfl⟩
    rw [hV3] at hL3 hb3
    have HL3 := hide hL3.drop
    have HB3 := hide (hvb0.trans hb3)
    have HAP := hide hap
    have HV1 := hide hV1'
    clear h hl1 hb1 hV0 hv0 hvb0 hX hX0 hat hnew hV1 hL3 hb3 hn4 hn5 hlen ht3 hown3 hap hbV1 hV1' hj hne
    go_enter Tryz.func28, Tryz.ntmps28
    go_wp2
    refine wp_region_noPanic ?_
    refine wp_region_T (S := fun wx => wx.cell? ⟨l, 3, none⟩ = some (.slice ad5 n5 cap5) ∧ wx.cell? ⟨g1, 0, none⟩ = some (.int .i64 s.num) ∧ wx.cell? ⟨g1, 1, none⟩ = some (.int .i64 s.size) ∧ wx.cell? ⟨g1, 2, none⟩ = some (.int .i64 s.fin)) 10 (by kernel_rfl) (by rw [HV0.out]; exact ⟨c3, z0, z1, z2⟩) (fun hHeld => ?_)
    rw [HV0.out] at hHeld ⊢
    refine tT 0 (some 7) (.pointer (some ⟨l, 0, none⟩)) rfl hHeld ?_
    simp only [Act.put, pA, pB, pC]
    refine tT 1 (some 8) (.pointer (some ⟨l, 0, none⟩)) rfl hHeld ?_
    simp only [Act.put, pA, pB, pC]
    refine tT 2 (some 9) (.pointer (some ⟨l, 0, none⟩)) rfl hHeld ?_
    simp only [Act.put, pA, pB, pC]
    refine tT 3 (some 10) (.pointer (some ⟨l, 3, none⟩)) rfl hHeld ?_
    simp only [Act.put, pA, pB, pC]
    refine tU 4 (some 11) (.slice ad5 n5 cap5) rfl (fun w hw => by obtain ⟨hw1, hw2, hw3, hw4⟩ := hw; first | rfl | (go_simp; done) | (go_simp; rfl)) hHeld ?_
    simp only [Act.put, pA, pB, pC]
    refine tU 5 (some 12) (.agg #[.int .i64 s.num, .int .i64 s.size, .int .i64 s.fin]) rfl (fun w hw => by obtain ⟨hw1, hw2, hw3, hw4⟩ := hw; first | rfl | (go_simp; done) | (go_simp; rfl)) hHeld ?_
    simp only [Act.put, pA, pB, pC]
    refine readyT 6 (by kernel_rfl) rfl (by rfl) (fun K hK => ?_)
    go_simp
    rw [HV1.out]
    refine hK.out _ _ (fun _ => ⟨x3, x0, x1, x2⟩) (fun hH => ?_)
    clear hHeld
    have hHeld := hH (by decide)
    clear hK K hH
    refine readyT 7 (by kernel_rfl) rfl (by rfl) (fun K hK => ?_)
    refine wpRun (run_append_op _ _ _ rfl HAP.out) ?_
    simp only [Act.put, pA, pB, pC]
    refine hK.out _ _ (fun _ => ⟨hc3, HY.out⟩) (fun hH => ?_)
    clear hHeld
    have hHeld := hH (by decide)
    clear hK K hH
    refine readyT 8 (by kernel_rfl) rfl (by rfl) (fun K hK => ?_)
    go_simp
    refine hK.out _ _ (fun _ => hHeld) (fun hH => ?_)
    clear hHeld
    have hHeld := hH (by decide)
    clear hK K hH
    refine readyT 9 (by kernel_rfl) rfl (by rfl) (fun K hK => ?_)
    go_simp
    refine hK.out _ _ (fun _ => hHeld) (fun hH => ?_)
    clear hHeld
    have hHeld := hH (by decide)
    clear hK K hH
    refine readyT 10 (by kernel_rfl) rfl (by rfl) (fun K hK => ?_)
    go_simp
    try rw [hV3]
    refine hK.out _ _ (fun x => absurd rfl x) (fun _ => ?_)
    clear hK K hHeld
    refine ⟨by kernel_rfl, ?_⟩
    refine NoPanic.normal ?_
    go_wp2
    refine bodyPost_ret (results_none rfl _ _ _) rfl ?_
    exact ⟨rfl, HL3.out, HB3.out⟩
  | false =>
    have hn0 := hne rfl
    obtain ⟨v, hp⟩ := hv0.pin (get_head hj)
    obtain ⟨r, hat, hBl⟩ := hp.logv (List.getElem?_set_self (by rw [List.length_append]; omega))
    obtain ⟨ad, cap, b, off, hv, had⟩ := form_of hat
    subst hv
    obtain rfl := had hn0
    obtain ⟨m, hm⟩ : ∃ m, g.segs.length = m + 1 := ⟨g.segs.length - 1, by omega⟩
    obtain ⟨sl, hsl⟩ : ∃ sl, g.segs[m]? = some sl := ⟨_, List.getElem?_eq_getElem (by omega)⟩
    obtain ⟨hbl, _, ⟨d0, d1, d2⟩, df⟩ := seg3 hat m hsl
    have df0 := df (off + m * 3)
    have df1 := df (off + m * 3 + 1)
    have df2 := df (off + m * 3 + 2)
    have c3 := hat.c3
    obtain ⟨V1, hV1⟩ : ∃ x, ((V0.setCell ⟨b, off + m * 3, none⟩ (.int .i64 s.num)).setCell ⟨b, off + m * 3 + 1, none⟩ (.int .i64 s.size)).setCell ⟨b, off + m * 3 + 2, none⟩ (.int .i64 s.fin) = x := ⟨_, rfl⟩
    obtain ⟨hl2, hb2⟩ := hp.setSeg3 (List.getElem?_set_self (by rw [List.length_append]; omega)) m (by omega) s hV1
    rw [List.set_set] at hl2
    have hl3 := hl2.unpin (List.getElem?_set_self (by rw [List.length_append]; omega))
    rw [List.set_set, hset_app _ hjl] at hl3
    have HL3 : Hid (Lies B V1 (L.set j (.log l p { g with segs := keepA g s false }))) := by
      show Lies _ _ _
      have : keepA g s false = g.segs.set m s := by unfold keepA; rw [hm, Nat.add_sub_cancel]; rfl
      rw [this]
      exact hl3.drop
    have HB3 := hide (hvb0.trans hb2)
    have hxs := hl2.get3 (q := L.length + 0) (by rw [List.getElem?_set_ne (by omega)]; exact hX0)
    obtain ⟨⟨x0, x1, x2⟩, _⟩ := hxs
    obtain ⟨r2, hat2, _⟩ := hl2.logv (List.getElem?_set_self (by rw [List.length_append]; omega))
    have x3 := hat2.c3
    rw [hm] at c3 x3
    have q3 : ((m + 1 : Nat) : Int) - 1 = (m : Int) := by omega
    have q2 : IntKind.i64.wrap (m : Int) = (m : Int) := by rw [IntKind.wrap_i64]; omega
    have HV1 := hide hV1
    clear h hl1 hb1 hV0 hv0 hvb0 hX hX0 hat hat2 hl2 hl3 hb2 hj hne hp df had hm hn0 hsl hV1
    go_enter Tryz.func28, Tryz.ntmps28
    go_wp2
    refine wp_region_noPanic ?_
    refine wp_region_held_drew (S := fun wx => wx.cell? ⟨l, 3, none⟩ = some (.slice (some ⟨b, off, none⟩) (m + 1) cap) ∧ wx.cell? ⟨g1, 0, none⟩ = some (.int .i64 s.num) ∧ wx.cell? ⟨g1, 1, none⟩ = some (.int .i64 s.size) ∧ wx.cell? ⟨g1, 2, none⟩ = some (.int .i64 s.fin)) (by kernel_rfl) (by rw [HV0.out]; exact ⟨c3, z0, z1, z2⟩) (fun hHeld => ?_)
    rw [HV0.out] at hHeld ⊢
    refine tK 0 (some 17) (.pointer (some ⟨l, 0, none⟩)) rfl hHeld ?_
    simp only [Act.put, pA, pB, pC]
    refine tK 1 (some 18) (.pointer (some ⟨l, 0, none⟩)) rfl hHeld ?_
    simp only [Act.put, pA, pB, pC]
    refine tK 2 (some 19) (.pointer (some ⟨l, 3, none⟩)) rfl hHeld ?_
    simp only [Act.put, pA, pB, pC]
    refine tH 3 (some 20) (.slice (some ⟨b, off, none⟩) (m + 1) cap) rfl (fun w hw => by obtain ⟨hw1, hw2, hw3, hw4⟩ := hw; first | rfl | (go_simp; done) | (go_simp; rfl)) hHeld ?_
    simp only [Act.put, pA, pB, pC]
    refine tK 4 (some 21) (.pointer (some ⟨l, 0, none⟩)) rfl hHeld ?_
    simp only [Act.put, pA, pB, pC]
    refine tK 5 (some 22) (.pointer (some ⟨l, 0, none⟩)) rfl hHeld ?_
    simp only [Act.put, pA, pB, pC]
    refine tK 6 (some 23) (.pointer (some ⟨l, 3, none⟩)) rfl hHeld ?_
    simp only [Act.put, pA, pB, pC]
    refine tH 7 (some 24) (.slice (some ⟨b, off, none⟩) (m + 1) cap) rfl (fun w hw => by obtain ⟨hw1, hw2, hw3, hw4⟩ := hw; first | rfl | (go_simp; done) | (go_simp; rfl)) hHeld ?_
    simp only [Act.put, pA, pB, pC]
    refine tK 8 (some 25) (.int .i64 ((m + 1 : Nat) : Int)) rfl hHeld ?_
    simp only [Act.put, pA, pB, pC]
    refine tH 9 (some 26) (.int .i64 (m : Int)) rfl (fun w hw => by first | rfl | (go_simp; done) | (go_simp; rfl) | (go_simp; exact q2)) hHeld ?_
    simp only [Act.put, pA, pB, pC]
    refine tH 10 (some 27) (.agg #[.int .i64 s.num, .int .i64 s.size, .int .i64 s.fin]) rfl (fun w hw => by obtain ⟨hw1, hw2, hw3, hw4⟩ := hw; first | rfl | (go_simp; done) | (go_simp; rfl)) hHeld ?_
    simp only [Act.put, pA, pB, pC]
    refine tH 11 (some 28) (.pointer (some ⟨b, off + m * 3, none⟩)) rfl (fun w hw => by first | rfl | (go_simp; done) | (go_simp; rfl) | (go_simp; intro hbad; exfalso; omega)) hHeld ?_
    simp only [Act.put, pA, pB, pC]
    refine rdH 12 rfl (fun K hK => ?_)
    go_simp
    try rw [HV1.out]
    refine hK.out _ _ ⟨x3, x0, x1, x2⟩ (fun hH => ?_)
    clear hK K hHeld
    have hHeld := hH
    clear hH
    refine ⟨by kernel_rfl, ?_⟩
    refine NoPanic.normal ?_
    go_wp2
    go_end0
    exact ⟨rfl, HL3.out, HB3.out⟩
end
end Go.Proofs.YtdffmmiegpndkaaGreatDoor
/-
  Append (printed by gen_app.py).
-/
namespace Go.Proofs.YtdffmmiegpndkaaGreatDoor
open Go.RowKit Go.Maps
set_option linter.unusedVariables false
set_option linter.unusedSimpArgs false
/-- The bounds in which a log's numbers stay. -/
structure AL.Fit (g : AL) : Prop where
  name : g.name.size ≤ 24
  segs : ∀ s ∈ g.segs, (0 ≤ s.size ∧ s.size ≤ 1048576) ∧ (0 ≤ s.num ∧ s.num ≤ 9999999)
  len : g.segs.length ≤ 10000000
  next : -1 ≤ g.next ∧ g.next ≤ 1152921504606846976 + 1000000
def appA (A : AD) (g : AL) (t : ByteArray) : Int × AD × AL :=
  if g.dead = true then (60, A, g)
  else if Fr.frameE g.next t ≠ 0 then (Fr.frameE g.next t, A, g)
  else
    let x := Fr.frameS g.next t
    let s := placeA g x.size
    if 1152921504606846976 ≤ g.next ∨ 9999999 < s.1.num then (6, A, g)
    else
      let r := layA A g s.1 s.2 x.data.toList
      if r.1 ≠ 0 then (r.1, r.2.1, { g with dead := r.2.2 })
      else (0, r.2.1, { g with dead := r.2.2, next := g.next + 1, segs := keepA g ⟨s.1.num, s.1.size + x.size, g.next + 1⟩ s.2 })
theorem frameS_size {X : Int} {t : ByteArray} (h : Fr.frameE X t = 0) : (Fr.frameS X t).size ≤ 65664 := by
  unfold Fr.frameE at h
  unfold Fr.frameS
  by_cases h0 : X < 0
  · rw [if_pos h0] at h; cases h
  · rw [if_neg h0] at h ⊢
    by_cases h1 : 65536 < t.size
    · rw [if_pos h1] at h; cases h
    · rw [if_neg h1] at h ⊢
      show (Fr.frameL X.toNat t.data.toList).toArray.size ≤ _
      rw [List.size_toArray, Fr.frameL_length, str_len]
      unfold Fr.room
      omega
theorem place_bound {g : AL} {n : Int} (h : g.Fit) : (0 ≤ (placeA g n).1.num) ∧ (0 ≤ (placeA g n).1.size ∧ (placeA g n).1.size ≤ 1048576) ∧ ((placeA g n).2 = false → 0 < g.segs.length) := by
  unfold placeA
  cases hl : g.segs.getLast? with
  | none => exact ⟨Int.le_refl 0, ⟨Int.le_refl 0, by show (0 : Int) ≤ 1048576; omega⟩, fun h => by cases h⟩
  | some s =>
    have hm := List.mem_of_getLast? hl
    have hs := h.segs s hm
    simp only
    split
    · exact ⟨by show 0 ≤ s.num + 1; omega, ⟨Int.le_refl 0, by show (0 : Int) ≤ 1048576; omega⟩, fun h => by cases h⟩
    · exact ⟨hs.2.1, hs.1, fun _ => List.length_pos_of_mem hm⟩
section
variable {B : Nat} {w : World} {L : List Item} {i j l p : Nat} {A : AD} {g : AL}
set_option maxRecDepth 100000 in
set_option maxHeartbeats 4000000 in
theorem append_any (h : Lies B w L) (hi : L[i]? = some (.disk p A)) (hj : L[j]? = some (.log l p g)) (hij : i ≠ j) (he : Env B w) (hg : g.Fit) (t : ByteArray) (R : Int × AD × AL) (hR : appA A g t = R) :
    Calls Tryz.prog 13 #[.pointer (some ⟨l, 0, none⟩), .string t] w fun e w' => e = .returned (.int .i64 R.1) ∧ Lies B w' ((L.set i (.disk p R.2.1)).set j (.log l p R.2.2)) ∧ Below B w w' := by
  obtain ⟨v0, r0, hat0, hBl⟩ := h.logAt hj
  have c5 := hat0.c5
  have c4 := hat0.c4
  have HKEEP : Hid (∀ W : World, Lies B W L → Lies B W ((L.set i (.disk p A)).set j (.log l p g))) := fun W hl => by
    rw [hset_keep hi, hset_keep hj]; exact hl
  cases hd : g.dead with
  | true =>
    have hRR : R = (60, A, g) := by rw [← hR]; unfold appA; rw [if_pos hd]
    rw [hd] at c5
    have HL := hide (HKEEP.out _ h)
    clear h hat0 hR hd HKEEP
    go_enter Tryz.func13, Tryz.ntmps13
    go_wp2
    go_ret
    rw [hRR]
    exact ⟨rfl, HL.out, Below.refl _ _⟩
  | false =>
    rw [hd] at c5
    have hfr := Fr.frame_any g.next t w (by have := hg.next; omega)
    obtain ⟨E, hE⟩ : ∃ e, Fr.frameE g.next t = e := ⟨_, rfl⟩
    obtain ⟨x, hx⟩ : ∃ e, Fr.frameS g.next t = e := ⟨_, rfl⟩
    rw [hE, hx] at hfr
    have HFR := hide hfr
    have HL := hide h
    have HE := hide hE
    have HD := hide hd
    have HHX := hide hx
    have HI := hide hi
    have HJ := hide hj
    have HIJ := hide hij
    have HENV := hide he
    have HG := hide hg
    have HR := hide hR
    clear h hat0 hR hd hfr hE hx hi hj hij he hg
    go_enter Tryz.func13, Tryz.ntmps13
    go_wp2_with fail
    refine (HFR.out).mono ?_
    rintro e W1 ⟨rfl, hb1⟩
    have hl1 := HL.out.below hb1
    have hbb1 := hb1.mono HL.out.base
    by_cases hE0 : E = 0
    · subst hE0
      have hxs : x.size ≤ 65664 := by rw [← HHX.out]; exact frameS_size HE.out
      have hpl := place_any hl1 HJ.out (x.size : Int) (by omega) (fun s hs => by have := HG.out.segs s hs; omega) (by have := HG.out.len; omega)
      have hpb := place_bound (n := (x.size : Int)) HG.out
      obtain ⟨s, fresh, hP⟩ : ∃ s f, placeA g (x.size : Int) = (s, f) := ⟨_, _, rfl⟩
      rw [hP] at hpl hpb
      unfold ASeg.val at hpl
      simp only at hpl
      have HPL := hide hpl
      have HPB := hide hpb
      have HP := hide hP
      have HL1 := hide hl1
      have HBB1 := hide hbb1
      have HXS := hide hxs
      clear hl1 hb1 hbb1 hpl hpb hP hxs c5 c4
      go_wp2_with fail
      refine (HPL.out).mono ?_
      rintro e W2 ⟨rfl, hb2⟩
      have hl2 := HL1.out.below hb2
      have hbb2 := HBB1.out.trans (hb2.mono HL1.out.base)
      obtain ⟨g1, hg1⟩ : ∃ x, W2.heap.size = x := ⟨_, rfl⟩
      obtain ⟨W3, hW3⟩ : ∃ x, W2.alloc (.cells #[.int .i64 0, .int .i64 0, .int .i64 0] 66) = x := ⟨_, rfl⟩
      obtain ⟨hl3, hb3⟩ := hl2.newCells #[.int .i64 0, .int .i64 0, .int .i64 0] 66
      rw [hW3, hg1] at hl3
      rw [hW3] at hb3
      obtain ⟨⟨z0, z1, z2⟩, zf⟩ := hl3.get3 (q := L.length + 0) (by rw [get_tail]; rfl)
      have zf0 := zf 0
      have zf1 := zf 1
      have zf2 := zf 2
      obtain ⟨W4, hW4⟩ : ∃ x, ((W3.setCell ⟨g1, 0, none⟩ (.int .i64 s.num)).setCell ⟨g1, 1, none⟩ (.int .i64 s.size)).setCell ⟨g1, 2, none⟩ (.int .i64 s.fin) = x := ⟨_, rfl⟩
      obtain ⟨hl4, hb4⟩ := hl3.set3 (q := L.length + 0) (by rw [get_tail]; rfl) _ _ _ hW4
      rw [List.set_append_right _ _ (by omega), Nat.add_sub_cancel_left] at hl4
      change Lies B W4 (L ++ [.block g1 (.cells #[.int .i64 s.num, .int .i64 s.size, .int .i64 s.fin] 66 (0, 0))]) at hl4
      obtain ⟨X, hX⟩ : ∃ X : List Item, [.block g1 (.cells #[.int .i64 s.num, .int .i64 s.size, .int .i64 s.fin] 66 (0, 0))] = X := ⟨_, rfl⟩
      rw [hX] at hl4
      have HX0 : Hid ((L ++ X)[L.length + 0]? = some (.block g1 (.cells #[.int .i64 s.num, .int .i64 s.size, .int .i64 s.fin] 66 (0, 0)))) := by show _ = _; rw [get_tail, ← hX]; rfl
      obtain ⟨⟨y0, y1, y2⟩, _⟩ := hl4.get3 HX0.out
      obtain ⟨v4, r4, hat4, _⟩ := hl4.logAt (get_head HJ.out)
      have y4 := hat4.c4
      have hbb4 := (hbb2.trans hb3).trans hb4
      have HL4 := hide hl4
      have HBB4 := hide hbb4
      clear hl2 hb2 hbb2 hl3 hb3 hl4 hb4 hbb4 hat4 zf hX
      by_cases hfull : 1152921504606846976 ≤ g.next ∨ 9999999 < s.num
      · have hRR : R = (6, A, g) := by
          rw [← HR.out]; unfold appA
          rw [if_neg (by rw [HD.out]; decide), HE.out, if_neg (by simp), HHX.out]; simp only
          rw [HP.out]; simp only
          rw [if_pos hfull]
        have HL5 := hide (HKEEP.out _ HL4.out.drop)
        by_cases hf1 : 1152921504606846976 ≤ g.next
        · have k1 : decide (1152921504606846976 ≤ g.next) = true := decide_eq_true hf1
          clear hfull
          go_wp2
          go_ret
          rw [hRR]
          exact ⟨rfl, HL5.out, HBB4.out⟩
        · have k1 : decide (1152921504606846976 ≤ g.next) = false := decide_eq_false hf1
          have k2 : decide (9999999 < s.num) = true := decide_eq_true (hfull.resolve_left hf1)
          clear hfull
          go_wp2
          go_ret
          rw [hRR]
          exact ⟨rfl, HL5.out, HBB4.out⟩
      · have k1 : decide (1152921504606846976 ≤ g.next) = false := decide_eq_false (fun hc => hfull (.inl hc))
        have k2 : decide (9999999 < s.num) = false := decide_eq_false (fun hc => hfull (.inr hc))
        have hla := lay_any HL4.out (get_head HI.out) (get_head HJ.out) HIJ.out (HENV.out.below HBB4.out) HG.out.name s HPB.out.1 (by omega) (by have := HPB.out.2.1; omega) fresh x (by have := HXS.out; omega) _ rfl
        unfold ASeg.val at hla
        obtain ⟨e5, A5, d5, hLA⟩ : ∃ e a d, layA A g s fresh x.data.toList = (e, a, d) := ⟨_, _, _, rfl⟩
        rw [hLA] at hla
        simp only at hla
        have HLA := hide hla
        have HLAE := hide hLA
        have HFU := hide hfull
        clear hla hLA hfull
        go_wp2_with fail
        refine (HLA.out).mono ?_
        rintro e W5 ⟨rfl, hl5, hb5⟩
        have hil := (List.getElem?_eq_some_iff.1 HI.out).1
        have hjl := (List.getElem?_eq_some_iff.1 HJ.out).1
        have hbb5 := HBB4.out.trans hb5
        rw [hset_app _ hil, hset_app _ (by rw [List.length_set]; exact hjl)] at hl5
        obtain ⟨M, hM⟩ : ∃ M, (L.set i (.disk p A5)).set j (.log l p { g with dead := d5 }) = M := ⟨_, rfl⟩
        rw [hM] at hl5
        have hMl : M.length = L.length := by rw [← hM, List.length_set, List.length_set]
        have hMj : M[j]? = some (.log l p { g with dead := d5 }) := by rw [← hM]; exact List.getElem?_set_self (by rw [List.length_set]; exact hjl)
        by_cases hE5 : e5 = 0
        · subst hE5
          have hRR : R = (0, A5, { g with dead := d5, next := g.next + 1, segs := keepA g ⟨s.num, s.size + x.size, g.next + 1⟩ fresh }) := by
            rw [← HR.out]; unfold appA
            rw [if_neg (by rw [HD.out]; decide), HE.out, if_neg (by simp), HHX.out]; simp only
            rw [HP.out]; simp only
            rw [if_neg HFU.out, HLAE.out]; simp only
            rw [if_neg (by simp)]
          obtain ⟨v5, r5, hat5, _⟩ := hl5.logAt (get_head hMj)
          have u4 := hat5.c4
          have u4f := hat5.fz 4
          obtain ⟨hl6, hb6⟩ := hl5.setLog (get_head hMj) 4 (.int .i64 (g.next + 1)) (g' := { g with dead := d5, next := g.next + 1 }) (fun v => rfl) rfl
          rw [hset_app _ (by rw [hMl]; exact hjl)] at hl6
          obtain ⟨W6, hW6⟩ : ∃ x, W5.setCell ⟨l, 4, none⟩ (.int .i64 (g.next + 1)) = x := ⟨_, rfl⟩
          rw [hW6] at hl6 hb6
          have hbb6 := hbb5.trans hb6
          obtain ⟨V0, hV0⟩ : ∃ x, W6.drew = x := ⟨_, rfl⟩
          have hv0 := hl6.same (w' := W6.drew) (Nat.le_refl _) (fun _ _ _ => rfl)
          rw [hV0] at hv0
          have hvb0 : Below B w V0 := by rw [← hV0]; exact hbb6.drew
          have HMX : Hid (((M.set j (.log l p { g with dead := d5, next := g.next + 1 })) ++ X)[L.length + 0]? = some (.block g1 (.cells #[.int .i64 s.num, .int .i64 s.size, .int .i64 s.fin] 66 (0, 0)))) := by
            show _ = _
            have e := HX0.out
            rw [get_tail] at e
            have hl' : (M.set j (.log l p { g with dead := d5, next := g.next + 1 })).length = L.length := by rw [List.length_set, hMl]
            rw [← hl', get_tail]; exact e
          obtain ⟨⟨a0, a1, a2⟩, _⟩ := hv0.get3 HMX.out
          have hjv : ((M.set j (.log l p { g with dead := d5, next := g.next + 1 })) ++ X)[j]? = some (.log l p { g with dead := d5, next := g.next + 1 }) := get_head (List.getElem?_set_self (by rw [hMl]; exact hjl))
          obtain ⟨v6, r6, hat6, _⟩ := hv0.logAt hjv
          have a4 := hat6.c4
          have hk := keep_any hv0 hjv ⟨s.num, s.size + x.size, g.next + 1⟩ fresh HG.out.len HPB.out.2.2
          unfold ASeg.val at hk
          simp only at hk
          have HKP := hide hk
          have HVB := hide hvb0
          have HV0 := hide hV0
          have HSS : Hid (∀ (W : World) (g' : AL), Lies B W ((M.set j (.log l p { g with dead := d5, next := g.next + 1 }) ++ X).set j (.log l p { g' with next := g.next + 1 })) → (W.cell? ⟨l, 4, none⟩ = some (.int .i64 (g.next + 1)) ∧ W.cell? ⟨g1, 0, none⟩ = some (.int .i64 s.num) ∧ W.cell? ⟨g1, 1, none⟩ = some (.int .i64 s.size) ∧ W.cell? ⟨g1, 2, none⟩ = some (.int .i64 s.fin))) := fun W g' hl => by
            obtain ⟨v, r, hat, _⟩ := hl.logAt (i := j) (List.getElem?_set_self (List.getElem?_eq_some_iff.1 hjv).1)
            have := hl.get3 (q := L.length + 0) (by rw [List.getElem?_set_ne (by omega)]; exact HMX.out)
            exact ⟨hat.c4, this.1⟩
          have HFIN : Hid (∀ (W : World), Lies B W ((M.set j (.log l p { g with dead := d5, next := g.next + 1 }) ++ X).set j (.log l p { g with dead := d5, next := g.next + 1, segs := keepA { g with dead := d5, next := g.next + 1 } ⟨s.num, s.size + x.size, g.next + 1⟩ fresh })) → Lies B W ((L.set i (.disk p R.2.1)).set j (.log l p R.2.2))) := fun W hl => by
            rw [hset_app _ (by rw [List.length_set, hMl]; exact hjl), List.set_set, ← hM, List.set_set] at hl
            rw [hRR]
            exact hl.drop
          have n1 : -1 ≤ g.next := HG.out.next.1
          have n2 : g.next < 1152921504606846976 := by have := k1; simpa using this
          have s1 : 0 ≤ s.size := HPB.out.2.1.1
          have s2 : s.size ≤ 1048576 := HPB.out.2.1.2
          have x1 : x.size ≤ 65664 := HXS.out
          have q7 : IntKind.i64.wrap (s.size + (x.size : Int)) = s.size + (x.size : Int) := by rw [IntKind.wrap_i64]; omega
          have hR1 : R.1 = 0 := by rw [hRR]
          have HR1 := hide hR1
          clear hl5 hb5 hbb5 hat5 hl6 hb6 hbb6 hV0 hv0 hvb0 hat6 hk hRR hM hMj hjv hjl hil hR1
          go_wp2
          refine wp_region_noPanic ?_
          refine wp_region_held_drew (S := fun wx => wx.cell? ⟨l, 4, none⟩ = some (.int .i64 (g.next + 1)) ∧ wx.cell? ⟨g1, 0, none⟩ = some (.int .i64 s.num) ∧ wx.cell? ⟨g1, 1, none⟩ = some (.int .i64 s.size) ∧ wx.cell? ⟨g1, 2, none⟩ = some (.int .i64 s.fin)) (by kernel_rfl) (by rw [HV0.out]; exact ⟨a4, a0, a1, a2⟩) (fun hHeld => ?_)
          rw [HV0.out] at hHeld ⊢
          refine tK 0 (some 58) (.pointer (some ⟨l, 0, none⟩)) rfl hHeld ?_
          simp only [Act.put, pA, pB, pC]
          refine tK 1 (some 59) (.pointer (some ⟨g1, 0, none⟩)) rfl hHeld ?_
          simp only [Act.put, pA, pB, pC]
          refine tH 2 (some 60) (.int .i64 s.num) rfl (fun w hw => by obtain ⟨hw1, hw2, hw3, hw4⟩ := hw; first | rfl | (go_simp; done) | (go_simp; rfl)) hHeld ?_
          simp only [Act.put, pA, pB, pC]
          refine tK 3 (some 61) (.pointer (some ⟨g1, 1, none⟩)) rfl hHeld ?_
          simp only [Act.put, pA, pB, pC]
          refine tH 4 (some 62) (.int .i64 s.size) rfl (fun w hw => by obtain ⟨hw1, hw2, hw3, hw4⟩ := hw; first | rfl | (go_simp; done) | (go_simp; rfl)) hHeld ?_
          simp only [Act.put, pA, pB, pC]
          refine tK 5 (some 63) (.string x) rfl hHeld ?_
          simp only [Act.put, pA, pB, pC]
          refine tK 6 (some 64) (.int .i64 (x.size : Int)) rfl hHeld ?_
          simp only [Act.put, pA, pB, pC]
          refine tH 7 (some 65) (.int .i64 (s.size + (x.size : Int))) rfl (fun w hw => by first | rfl | (go_simp; done) | (go_simp; rfl) | (go_simp; exact q7)) hHeld ?_
          simp only [Act.put, pA, pB, pC]
          refine tK 8 (some 66) (.pointer (some ⟨l, 0, none⟩)) rfl hHeld ?_
          simp only [Act.put, pA, pB, pC]
          refine tK 9 (some 67) (.pointer (some ⟨l, 0, none⟩)) rfl hHeld ?_
          simp only [Act.put, pA, pB, pC]
          refine tK 10 (some 68) (.pointer (some ⟨l, 4, none⟩)) rfl hHeld ?_
          simp only [Act.put, pA, pB, pC]
          refine tH 11 (some 69) (.int .i64 (g.next + 1)) rfl (fun w hw => by obtain ⟨hw1, hw2, hw3, hw4⟩ := hw; first | rfl | (go_simp; done) | (go_simp; rfl)) hHeld ?_
          simp only [Act.put, pA, pB, pC]
          refine tK 12 (some 70) (.agg #[.int .i64 s.num, .int .i64 (s.size + (x.size : Int)), .int .i64 (g.next + 1)]) rfl hHeld ?_
          simp only [Act.put, pA, pB, pC]
          refine tK 13 (some 71) (.bool fresh) rfl hHeld ?_
          simp only [Act.put, pA, pB, pC]
          refine rdH 14 rfl (fun K hK => ?_)
          go_simp
          refine (HKP.out).mono ?_
          rintro e W7 ⟨rfl, hl7, hb7⟩
          try go_wp2_with fail
          refine hK.out _ _ (HSS.out W7 { g with dead := d5, segs := keepA { g with dead := d5, next := g.next + 1 } ⟨s.num, s.size + (x.size : Int), g.next + 1⟩ fresh } hl7) (fun hH => ?_)
          clear hK K hHeld
          have hHeld := hH
          clear hH
          refine ⟨by kernel_rfl, ?_⟩
          refine NoPanic.normal ?_
          go_wp2
          go_ret
          rw [HR1.out]
          exact ⟨rfl, HFIN.out _ hl7, HVB.out.trans hb7⟩
        · have hRR : R = (e5, A5, { g with dead := d5 }) := by
            rw [← HR.out]; unfold appA
            rw [if_neg (by rw [HD.out]; decide), HE.out, if_neg (by simp), HHX.out]; simp only
            rw [HP.out]; simp only
            rw [if_neg HFU.out, HLAE.out]; simp only
            rw [if_pos hE5]
          have q1 : (e5 != 0) = true := by simpa using hE5
          have HL5 : Hid (Lies B W5 ((L.set i (.disk p A5)).set j (.log l p { g with dead := d5 }))) := by show Lies _ _ _; rw [hM]; exact hl5.drop
          have HBB5 := hide hbb5
          clear hl5 hb5 hbb5
          go_wp2
          go_ret
          rw [hRR]
          exact ⟨rfl, HL5.out, HBB5.out⟩
    · have hRR : R = (E, A, g) := by
        rw [← HR.out]; unfold appA
        rw [if_neg (by rw [HD.out]; decide), HE.out, if_pos hE0]
      have q1 : (E != 0) = true := by simpa using hE0
      have HL5 := hide (HKEEP.out _ hl1)
      have HBB := hide hbb1
      clear hl1 hbb1 hb1
      go_wp2
      go_ret
      rw [hRR]
      exact ⟨rfl, HL5.out, HBB.out⟩
end
end Go.Proofs.YtdffmmiegpndkaaGreatDoor
