/-
  keep: a segment is remembered (printed by gen_keep.py).
-/
import Derived.Test.YtjfbdnogkbhciaaGreatDoorWPlace
namespace Go.Proofs.YtjfbdnogkbhciaaGreatDoor
open Go.RowKit Go.Maps
set_option linter.unusedVariables false
set_option linter.unusedSimpArgs false
def keepA (g : AL) (s : ASeg) (fresh : Bool) : List ASeg := if fresh then g.segs ++ [s] else g.segs.set (g.segs.length - 1) s
section
variable {B : Nat} {w : World} {L : List Item} {i j l p : Nat} {A : AD} {g : AL}
theorem Lies.setSeg3 {b off n cap : Nat} (h : Lies B w L) (hj : L[j]? = some (.logv l p g (.slice (some ⟨b, off, none⟩) n cap))) (k : Nat) (hk : k < g.segs.length) (s : ASeg) {w' : World} (hw : ((w.setCell ⟨b, off + k * 3, none⟩ (.int .i64 s.num)).setCell ⟨b, off + k * 3 + 1, none⟩ (.int .i64 s.size)).setCell ⟨b, off + k * 3 + 2, none⟩ (.int .i64 s.fin) = w') :
    Lies B w' (L.set j (.logv l p { g with segs := g.segs.set k s } (.slice (some ⟨b, off, none⟩) n cap))) ∧ Below B w w' := by
  have hjl := (List.getElem?_eq_some_iff.1 hj).1
  obtain ⟨h1, b1⟩ := h.setSeg hj k hk 0 (by omega) s.num ⟨s.num, (g.segs[k]).size, (g.segs[k]).fin⟩ rfl
  obtain ⟨h2, b2⟩ := h1.setSeg (List.getElem?_set_self hjl) k (by show k < (g.segs.set k _).length; rw [List.length_set]; exact hk) 1 (by omega) s.size ⟨s.num, s.size, (g.segs[k]).fin⟩ (by simp only [List.getElem_set_self]; rfl)
  obtain ⟨h3, b3⟩ := h2.setSeg (by rw [List.set_set]; exact List.getElem?_set_self hjl) k (by show k < ((g.segs.set k _).set k _).length; rw [List.length_set, List.length_set]; exact hk) 2 (by omega) s.fin s (by simp only [List.getElem_set_self]; rfl)
  rw [List.set_set, List.set_set] at h3
  simp only [List.set_set] at h3
  rw [← hw]
  exact ⟨h3, (b1.trans b2).trans b3⟩
theorem SegRow.uniq {v : Value} {gs : List ASeg} {r r' : Option Nat} (h : SegRow w v gs r) (h' : SegRow w v gs r') : r = r' := by
  obtain ⟨ad, cap, hv, _, h1⟩ := h
  obtain ⟨ad', cap', hv', _, h1'⟩ := h'
  rw [hv] at hv'
  cases hv'
  rcases h1 with ⟨e1, e2, e3⟩ | ⟨b, off, e1, e2, _⟩ <;> rcases h1' with ⟨f1, f2, f3⟩ | ⟨b', off', f1, f2, _⟩
  · rw [e3, f3]
  · rw [e1] at f1; cases f1
  · rw [f1] at e1; cases e1
  · rw [e1] at f1; cases f1; rw [e2, f2]
theorem Lies.logApart {q b : Nat} {ob : Obj} {v : Value} {r : Option Nat} (h : Lies B w L) (hj : L[j]? = some (.log l p g)) (hq : L[q]? = some (.block b ob)) (hne : q ≠ j) (hat : LogAt w l p g v r) : r ≠ some b := by
  obtain ⟨_, S, h1, h2, h3⟩ := h
  obtain ⟨v', r', hat', hS⟩ := h1 j _ hj
  have hv : v = v' := by have a := hat.c3; rw [hat'.c3] at a; cases a; rfl
  subst hv
  have hr : r = r' := hat.row.uniq hat'.row
  subst hr
  intro e
  obtain ⟨_, hSb⟩ := h1 q _ hq
  exact h3 j q b (List.getElem?_eq_some_iff.1 hj).1 (List.getElem?_eq_some_iff.1 hq).1 (fun e => hne e.symm) ((hS b).2 (.inr e)) ((hSb b).2 rfl)
set_option maxRecDepth 100000 in
set_option maxHeartbeats 4000000 in
theorem keep_any (h : Lies B w L) (hj : L[j]? = some (.log l p g)) (s : ASeg) (fresh : Bool) (hlen : g.segs.length ≤ 10000000) (hne : fresh = false → 0 < g.segs.length) :
    Calls Tryz.prog 63 #[.pointer (some ⟨l, 0, none⟩), s.val, .bool fresh] w fun e w' => e = .returned (.tuple #[]) ∧ Lies B w' (L.set j (.log l p { g with segs := keepA g s fresh })) ∧ Below B w w' := by
  obtain ⟨g1, hg1⟩ : ∃ x, w.heap.size = x := ⟨_, rfl⟩
  obtain ⟨w1, hw1⟩ : ∃ x, w.alloc (.cells #[.int .i64 s.num, .int .i64 s.size, .int .i64 s.fin] 108) = x := ⟨_, rfl⟩
  obtain ⟨hl1, hb1⟩ := h.newCells #[.int .i64 s.num, .int .i64 s.size, .int .i64 s.fin] 108
  rw [hw1, hg1] at hl1
  rw [hw1] at hb1
  obtain ⟨X, hX⟩ : ∃ X : List Item, [.block g1 (.cells #[.int .i64 s.num, .int .i64 s.size, .int .i64 s.fin] 108 (0, 0))] = X := ⟨_, rfl⟩
  rw [hX] at hl1
  have hX0 : (L ++ X)[L.length + 0]? = some (.block g1 (.cells #[.int .i64 s.num, .int .i64 s.size, .int .i64 s.fin] 108 (0, 0))) := by rw [get_tail, ← hX]; rfl
  have hjl := (List.getElem?_eq_some_iff.1 hj).1
  obtain ⟨V0, hV0⟩ : ∃ x, w1.drew = x := ⟨_, rfl⟩
  have hv0 := hl1.same (w' := w1.drew) (Nat.le_refl _) (fun _ _ _ => rfl)
  rw [hV0] at hv0
  have hvb0 : Below B w V0 := by rw [← hV0]; exact hb1.drew
  obtain ⟨⟨z0, z1, z2⟩, _⟩ := hv0.get3 hX0
  have HV0 := hide hV0
  have HG1 : Hid (g1 < V0.heap.size) := lt_of_some (hv0.atBlock hX0)
  unfold ASeg.val
  cases fresh with
  | true =>
    obtain ⟨v, r, hat, _, hnew, _⟩ := hv0.newSegs (get_head hj)
    have hgne : r ≠ some g1 := hv0.logApart (get_head hj) hX0 (by omega) hat
    have c3 := hat.c3
    obtain ⟨g2, hg2⟩ : ∃ g1, V0.heap.size = g1 := ⟨_, rfl⟩
    obtain ⟨V1, hV1⟩ : ∃ x, V0.alloc (.cells s.cs.toArray 108) = x := ⟨_, rfl⟩
    obtain ⟨v', r', V2, hap, hrow3, ht3, hown3⟩ := app_seg hat.row hlen s 74 hV1 hg2
    obtain ⟨hc3, hf3, hL3, hb3⟩ := hnew V2 v' r' _ hrow3 ht3 hown3
    obtain ⟨ad4, cap4, hv4, _⟩ := hrow3
    obtain ⟨ad5, cap5, hv5, _⟩ := hat.row
    obtain ⟨n4, hn4⟩ : ∃ n, (g.segs ++ [s]).length = n := ⟨_, rfl⟩
    obtain ⟨n5, hn5⟩ : ∃ n, g.segs.length = n := ⟨_, rfl⟩
    rw [hn4] at hv4
    rw [hn5] at hv5
    subst hv4 hv5
    rw [hset_app _ hjl] at hL3
    have hV1' : V0.alloc (.cells #[.int .i64 s.num, .int .i64 s.size, .int .i64 s.fin] 108) = V1 := hV1
    have hbV1 : Below V0.heap.size V0 V1 := by rw [← hV1]; exact (Below.refl _ _).alloc (Nat.le_refl _) _
    have hl_lt : l < V0.heap.size := lt_of_some hat.cells
    have x3 := (World.cell?_of_block (a := ⟨l, 3, none⟩) (hbV1.block l hl_lt)).trans c3
    have x0 := (World.cell?_of_block (a := ⟨g1, 0, none⟩) (hbV1.block g1 HG1.out)).trans z0
    have x1 := (World.cell?_of_block (a := ⟨g1, 1, none⟩) (hbV1.block g1 HG1.out)).trans z1
    have x2 := (World.cell?_of_block (a := ⟨g1, 2, none⟩) (hbV1.block g1 HG1.out)).trans z2
    have HY : Hid (V2.cell? ⟨g1, 0, none⟩ = some (.int .i64 s.num) ∧ V2.cell? ⟨g1, 1, none⟩ = some (.int .i64 s.size) ∧ V2.cell? ⟨g1, 2, none⟩ = some (.int .i64 s.fin)) := by
      have hb : V2.heap[g1]? = V0.heap[g1]? := ht3.block g1 (by rw [hg2]; have := HG1.out; omega) (fun hc => hgne hc)
      exact ⟨(World.cell?_of_block (a := ⟨g1, 0, none⟩) hb).trans z0, (World.cell?_of_block (a := ⟨g1, 1, none⟩) hb).trans z1, (World.cell?_of_block (a := ⟨g1, 2, none⟩) hb).trans z2⟩
    obtain ⟨V3, hV3⟩ : ∃ x, V2.setCell ⟨l, 3, none⟩ (.slice ad4 n4 cap4) = x := ⟨_, rfl⟩
    rw [hV3] at hL3 hb3
    have HL3 := hide hL3.drop
    have HB3 := hide (hvb0.trans hb3)
    have HAP := hide hap
    have HV1 := hide hV1'
    clear h hl1 hb1 hV0 hv0 hvb0 hX hX0 hat hnew hV1 hL3 hb3 hn4 hn5 hlen ht3 hown3 hap hbV1 hV1' hj hne
    go_enter Tryz.func63, Tryz.ntmps63
    go_wp2
    refine wp_region_noPanic ?_
    refine wp_region_T (S := fun wx => wx.cell? ⟨l, 3, none⟩ = some (.slice ad5 n5 cap5) ∧ wx.cell? ⟨g1, 0, none⟩ = some (.int .i64 s.num) ∧ wx.cell? ⟨g1, 1, none⟩ = some (.int .i64 s.size) ∧ wx.cell? ⟨g1, 2, none⟩ = some (.int .i64 s.fin)) 10 (by kernel_rfl) (by rw [HV0.out]; exact ⟨c3, z0, z1, z2⟩) (fun hHeld => ?_)
    rw [HV0.out] at hHeld ⊢
    refine takeT 0 (some 7) (.pointer (some ⟨l, 0, none⟩)) rfl rfl (by kernel_rfl) (by kernel_rfl) (by kernel_rfl) (by kernel_rfl) (by decide) (fun _ _ _ h => h) (by rfl) (fun w hw => by first | rfl | (go_simp; done) | (go_simp; rfl)) hHeld ?_
    simp only [Act.put, List.setIfInBounds_toArray, List.set_cons_zero, List.set_cons_succ]
    refine takeT 1 (some 8) (.pointer (some ⟨l, 0, none⟩)) rfl rfl (by kernel_rfl) (by kernel_rfl) (by kernel_rfl) (by kernel_rfl) (by decide) (fun _ _ _ h => h) (by rfl) (fun w hw => by first | rfl | (go_simp; done) | (go_simp; rfl)) hHeld ?_
    simp only [Act.put, List.setIfInBounds_toArray, List.set_cons_zero, List.set_cons_succ]
    refine takeT 2 (some 9) (.pointer (some ⟨l, 0, none⟩)) rfl rfl (by kernel_rfl) (by kernel_rfl) (by kernel_rfl) (by kernel_rfl) (by decide) (fun _ _ _ h => h) (by rfl) (fun w hw => by first | rfl | (go_simp; done) | (go_simp; rfl)) hHeld ?_
    simp only [Act.put, List.setIfInBounds_toArray, List.set_cons_zero, List.set_cons_succ]
    refine takeT 3 (some 10) (.pointer (some ⟨l, 3, none⟩)) rfl rfl (by kernel_rfl) (by kernel_rfl) (by kernel_rfl) (by kernel_rfl) (by decide) (fun _ _ _ h => h) (by rfl) (fun w hw => by first | rfl | (go_simp; done) | (go_simp; rfl)) hHeld ?_
    simp only [Act.put, List.setIfInBounds_toArray, List.set_cons_zero, List.set_cons_succ]
    refine takeT 4 (some 11) (.slice ad5 n5 cap5) rfl rfl (by kernel_rfl) (by kernel_rfl) (by kernel_rfl) (by kernel_rfl) (by decide) (fun _ _ _ h => h) (by rfl) (fun w hw => by obtain ⟨hw1, hw2, hw3, hw4⟩ := hw; first | rfl | (go_simp; done) | (go_simp; rfl)) hHeld ?_
    simp only [Act.put, List.setIfInBounds_toArray, List.set_cons_zero, List.set_cons_succ]
    refine takeT 5 (some 12) (.agg #[.int .i64 s.num, .int .i64 s.size, .int .i64 s.fin]) rfl rfl (by kernel_rfl) (by kernel_rfl) (by kernel_rfl) (by kernel_rfl) (by decide) (fun _ _ _ h => h) (by rfl) (fun w hw => by obtain ⟨hw1, hw2, hw3, hw4⟩ := hw; first | rfl | (go_simp; done) | (go_simp; rfl)) hHeld ?_
    simp only [Act.put, List.setIfInBounds_toArray, List.set_cons_zero, List.set_cons_succ]
    refine readyT 6 (by kernel_rfl) rfl (by rfl) (fun K hK => ?_)
    go_simp
    rw [HV1.out]
    refine hK.out _ _ (fun _ => ⟨x3, x0, x1, x2⟩) (fun hH => ?_)
    clear hHeld
    have hHeld := hH (by decide)
    clear hK K hH
    refine readyT 7 (by kernel_rfl) rfl (by rfl) (fun K hK => ?_)
    refine wpRun (run_append_op _ _ _ rfl HAP.out) ?_
    simp only [Act.put, List.setIfInBounds_toArray, List.set_cons_zero, List.set_cons_succ]
    refine hK.out _ _ (fun _ => ⟨hc3, HY.out⟩) (fun hH => ?_)
    clear hHeld
    have hHeld := hH (by decide)
    clear hK K hH
    refine readyT 8 (by kernel_rfl) rfl (by rfl) (fun K hK => ?_)
    go_simp
    refine hK.out _ _ (fun _ => hHeld) (fun hH => ?_)
    clear hHeld
    have hHeld := hH (by decide)
    clear hK K hH
    refine readyT 9 (by kernel_rfl) rfl (by rfl) (fun K hK => ?_)
    go_simp
    refine hK.out _ _ (fun _ => hHeld) (fun hH => ?_)
    clear hHeld
    have hHeld := hH (by decide)
    clear hK K hH
    refine readyT 10 (by kernel_rfl) rfl (by rfl) (fun K hK => ?_)
    go_simp
    try rw [hV3]
    refine hK.out _ _ (fun x => absurd rfl x) (fun _ => ?_)
    clear hK K hHeld
    refine ⟨by kernel_rfl, ?_⟩
    refine NoPanic.normal ?_
    go_wp2
    refine bodyPost_ret (results_none rfl _ _ _) rfl ?_
    exact ⟨rfl, HL3.out, HB3.out⟩
  | false =>
    have hn0 := hne rfl
    obtain ⟨v, hp⟩ := hv0.pin (get_head hj)
    obtain ⟨r, hat, hBl⟩ := hp.logv (List.getElem?_set_self (by rw [List.length_append]; omega))
    obtain ⟨ad, cap, b, off, hv, had⟩ := form_of hat
    subst hv
    obtain rfl := had hn0
    obtain ⟨m, hm⟩ : ∃ m, g.segs.length = m + 1 := ⟨g.segs.length - 1, by omega⟩
    obtain ⟨sl, hsl⟩ : ∃ sl, g.segs[m]? = some sl := ⟨_, List.getElem?_eq_getElem (by omega)⟩
    obtain ⟨hbl, _, ⟨d0, d1, d2⟩, df⟩ := seg3 hat m hsl
    have df0 := df (off + m * 3)
    have df1 := df (off + m * 3 + 1)
    have df2 := df (off + m * 3 + 2)
    have c3 := hat.c3
    obtain ⟨V1, hV1⟩ : ∃ x, ((V0.setCell ⟨b, off + m * 3, none⟩ (.int .i64 s.num)).setCell ⟨b, off + m * 3 + 1, none⟩ (.int .i64 s.size)).setCell ⟨b, off + m * 3 + 2, none⟩ (.int .i64 s.fin) = x := ⟨_, rfl⟩
    obtain ⟨hl2, hb2⟩ := hp.setSeg3 (List.getElem?_set_self (by rw [List.length_append]; omega)) m (by omega) s hV1
    rw [List.set_set] at hl2
    have hl3 := hl2.unpin (List.getElem?_set_self (by rw [List.length_append]; omega))
    rw [List.set_set, hset_app _ hjl] at hl3
    have HL3 : Hid (Lies B V1 (L.set j (.log l p { g with segs := keepA g s false }))) := by
      show Lies _ _ _
      have : keepA g s false = g.segs.set m s := by unfold keepA; rw [hm, Nat.add_sub_cancel]; rfl
      rw [this]
      exact hl3.drop
    have HB3 := hide (hvb0.trans hb2)
    have hxs := hl2.get3 (q := L.length + 0) (by rw [List.getElem?_set_ne (by omega)]; exact hX0)
    obtain ⟨⟨x0, x1, x2⟩, _⟩ := hxs
    obtain ⟨r2, hat2, _⟩ := hl2.logv (List.getElem?_set_self (by rw [List.length_append]; omega))
    have x3 := hat2.c3
    rw [hm] at c3 x3
    have q3 : ((m + 1 : Nat) : Int) - 1 = (m : Int) := by omega
    have q2 : IntKind.i64.wrap (m : Int) = (m : Int) := by rw [IntKind.wrap_i64]; omega
    have HV1 := hide hV1
    clear h hl1 hb1 hV0 hv0 hvb0 hX hX0 hat hat2 hl2 hl3 hb2 hj hne hp df had hm hn0 hsl hV1
    go_enter Tryz.func63, Tryz.ntmps63
    go_wp2
    refine wp_region_noPanic ?_
    refine wp_region_held_drew (S := fun wx => wx.cell? ⟨l, 3, none⟩ = some (.slice (some ⟨b, off, none⟩) (m + 1) cap) ∧ wx.cell? ⟨g1, 0, none⟩ = some (.int .i64 s.num) ∧ wx.cell? ⟨g1, 1, none⟩ = some (.int .i64 s.size) ∧ wx.cell? ⟨g1, 2, none⟩ = some (.int .i64 s.fin)) (by kernel_rfl) (by rw [HV0.out]; exact ⟨c3, z0, z1, z2⟩) (fun hHeld => ?_)
    rw [HV0.out] at hHeld ⊢
    refine takeH 0 (some 17) (.pointer (some ⟨l, 0, none⟩)) rfl rfl (by kernel_rfl) (by kernel_rfl) (by kernel_rfl) (fun _ _ _ h => h) (by rfl) (fun w hw => by first | rfl | (go_simp; done) | (go_simp; rfl)) hHeld ?_
    simp only [Act.put, List.setIfInBounds_toArray, List.set_cons_zero, List.set_cons_succ]
    refine takeH 1 (some 18) (.pointer (some ⟨l, 0, none⟩)) rfl rfl (by kernel_rfl) (by kernel_rfl) (by kernel_rfl) (fun _ _ _ h => h) (by rfl) (fun w hw => by first | rfl | (go_simp; done) | (go_simp; rfl)) hHeld ?_
    simp only [Act.put, List.setIfInBounds_toArray, List.set_cons_zero, List.set_cons_succ]
    refine takeH 2 (some 19) (.pointer (some ⟨l, 3, none⟩)) rfl rfl (by kernel_rfl) (by kernel_rfl) (by kernel_rfl) (fun _ _ _ h => h) (by rfl) (fun w hw => by first | rfl | (go_simp; done) | (go_simp; rfl)) hHeld ?_
    simp only [Act.put, List.setIfInBounds_toArray, List.set_cons_zero, List.set_cons_succ]
    refine takeH 3 (some 20) (.slice (some ⟨b, off, none⟩) (m + 1) cap) rfl rfl (by kernel_rfl) (by kernel_rfl) (by kernel_rfl) (fun _ _ _ h => h) (by rfl) (fun w hw => by obtain ⟨hw1, hw2, hw3, hw4⟩ := hw; first | rfl | (go_simp; done) | (go_simp; rfl)) hHeld ?_
    simp only [Act.put, List.setIfInBounds_toArray, List.set_cons_zero, List.set_cons_succ]
    refine takeH 4 (some 21) (.pointer (some ⟨l, 0, none⟩)) rfl rfl (by kernel_rfl) (by kernel_rfl) (by kernel_rfl) (fun _ _ _ h => h) (by rfl) (fun w hw => by first | rfl | (go_simp; done) | (go_simp; rfl)) hHeld ?_
    simp only [Act.put, List.setIfInBounds_toArray, List.set_cons_zero, List.set_cons_succ]
    refine takeH 5 (some 22) (.pointer (some ⟨l, 0, none⟩)) rfl rfl (by kernel_rfl) (by kernel_rfl) (by kernel_rfl) (fun _ _ _ h => h) (by rfl) (fun w hw => by first | rfl | (go_simp; done) | (go_simp; rfl)) hHeld ?_
    simp only [Act.put, List.setIfInBounds_toArray, List.set_cons_zero, List.set_cons_succ]
    refine takeH 6 (some 23) (.pointer (some ⟨l, 3, none⟩)) rfl rfl (by kernel_rfl) (by kernel_rfl) (by kernel_rfl) (fun _ _ _ h => h) (by rfl) (fun w hw => by first | rfl | (go_simp; done) | (go_simp; rfl)) hHeld ?_
    simp only [Act.put, List.setIfInBounds_toArray, List.set_cons_zero, List.set_cons_succ]
    refine takeH 7 (some 24) (.slice (some ⟨b, off, none⟩) (m + 1) cap) rfl rfl (by kernel_rfl) (by kernel_rfl) (by kernel_rfl) (fun _ _ _ h => h) (by rfl) (fun w hw => by obtain ⟨hw1, hw2, hw3, hw4⟩ := hw; first | rfl | (go_simp; done) | (go_simp; rfl)) hHeld ?_
    simp only [Act.put, List.setIfInBounds_toArray, List.set_cons_zero, List.set_cons_succ]
    refine takeH 8 (some 25) (.int .i64 ((m + 1 : Nat) : Int)) rfl rfl (by kernel_rfl) (by kernel_rfl) (by kernel_rfl) (fun _ _ _ h => h) (by rfl) (fun w hw => by first | rfl | (go_simp; done) | (go_simp; rfl)) hHeld ?_
    simp only [Act.put, List.setIfInBounds_toArray, List.set_cons_zero, List.set_cons_succ]
    refine takeH 9 (some 26) (.int .i64 (m : Int)) rfl rfl (by kernel_rfl) (by kernel_rfl) (by kernel_rfl) (fun _ _ _ h => h) (by rfl) (fun w hw => by first | rfl | (go_simp; done) | (go_simp; rfl) | (go_simp; exact q2)) hHeld ?_
    simp only [Act.put, List.setIfInBounds_toArray, List.set_cons_zero, List.set_cons_succ]
    refine takeH 10 (some 27) (.agg #[.int .i64 s.num, .int .i64 s.size, .int .i64 s.fin]) rfl rfl (by kernel_rfl) (by kernel_rfl) (by kernel_rfl) (fun _ _ _ h => h) (by rfl) (fun w hw => by obtain ⟨hw1, hw2, hw3, hw4⟩ := hw; first | rfl | (go_simp; done) | (go_simp; rfl)) hHeld ?_
    simp only [Act.put, List.setIfInBounds_toArray, List.set_cons_zero, List.set_cons_succ]
    refine takeH 11 (some 28) (.pointer (some ⟨b, off + m * 3, none⟩)) rfl rfl (by kernel_rfl) (by kernel_rfl) (by kernel_rfl) (fun _ _ _ h => h) (by rfl) (fun w hw => by first | rfl | (go_simp; done) | (go_simp; rfl) | (go_simp; intro hbad; exfalso; omega)) hHeld ?_
    simp only [Act.put, List.setIfInBounds_toArray, List.set_cons_zero, List.set_cons_succ]
    refine wpAnyH_ready (rs := [12]) (by kernel_rfl) (by simp) (AllReadyH.cons rfl (fun K hK => ?_) AllReadyH.nil)
    rw [if_pos (by rfl)]
    go_simp
    try rw [HV1.out]
    refine hK.out _ _ ⟨x3, x0, x1, x2⟩ (fun hH => ?_)
    clear hK K hHeld
    have hHeld := hH
    clear hH
    refine ⟨by kernel_rfl, ?_⟩
    refine NoPanic.normal ?_
    go_wp2
    go_end0
    exact ⟨rfl, HL3.out, HB3.out⟩
end
end Go.Proofs.YtjfbdnogkbhciaaGreatDoor
