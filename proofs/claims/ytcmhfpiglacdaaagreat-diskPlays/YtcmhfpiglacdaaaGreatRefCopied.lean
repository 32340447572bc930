/-
  DiskPlays: plays, copied.
-/
import Derived.Test.YtcmhfpiglacdaaaGreatRefCrashes
namespace Go.Proofs.YtcmhfpiglacdaaaGreat
open Go.RowKit Go.Maps Go.WideMaps
set_option linter.unusedVariables false
set_option linter.unusedSimpArgs false
section
variable {B : Nat} {w : World} {L : List Item} {i j p r : Nat} {A : AD}
theorem op_cells {M : List Item} {q g : Nat} {o : OP} (h : Lies B w M) (hq : M[q]? = some (Item.block g (.cells o.cs 33 (0, 0)))) (t : Nat) : w.cell? ⟨g, t, none⟩ = o.cs[t]? := cell_of_row w g t _ _ (0, 0) (h.blockOf hq)
set_option maxRecDepth 5000 in
set_option maxHeartbeats 40000000 in
theorem plays_any (h : Lies B w L) (hi : L[i]? = some (.disk p A)) (hj : L[j]? = some (.ref r A)) (hij : i ≠ j) (o : OP) (hop : o.Ok) (hl : o.Lie B w) (hsz : (o.fates.length + 1) * 48 ≤ 140737488355328) :
    Calls Tryz.prog 8 #[.pointer (some ⟨p, 0, none⟩), .pointer (some ⟨r, 0, none⟩), .agg o.cs] w fun e w' => e = .returned (.bool true) ∧ Lies B w' ((L.set i (.disk p (A.step o).2)).set j (.ref r (A.step o).2)) ∧ Below B w w' := by
  have hok := h.ok hi
  obtain ⟨g, hg⟩ : ∃ g, w.heap.size = g := ⟨_, rfl⟩
  obtain ⟨w0, hw0⟩ : ∃ w0, w.alloc (.cells o.cs 33) = w0 := ⟨_, rfl⟩
  have hb0 : Below w.heap.size w w0 := by rw [← hw0]; exact (Below.refl _ _).alloc (Nat.le_refl _) _
  have hk0 : w0.heap[g]? = some (.cells o.cs 33 (0, 0)) := by rw [← hw0, ← hg]; exact heap_alloc_new w _
  have h0 : Lies B w0 (L ++ [Item.block g (.cells o.cs 33 (0, 0))]) := h.push (S' := fun b => b = g) hb0 ⟨hk0, fun _ => Iff.rfl⟩ (fun b hb => by rw [hb, hg]; exact Nat.le_refl _)
  have hB0 := hb0.mono h.base
  have H0 := hide h0
  have HB0 := hide hB0
  have HI0 : Hid ((L ++ [Item.block g (.cells o.cs 33 (0, 0))])[i]? = some (.disk p A)) := get_push hi
  have HJ0 : Hid ((L ++ [Item.block g (.cells o.cs 33 (0, 0))])[j]? = some (.ref r A)) := get_push hj
  have HQ0 : Hid ((L ++ [Item.block g (.cells o.cs 33 (0, 0))])[L.length]? = some (Item.block g (.cells o.cs 33 (0, 0)))) := get_last _ _
  have HIQ : Hid (i ≠ L.length) := by have := (List.getElem?_eq_some_iff.1 hi).1; show _ ≠ _; omega
  have HJQ : Hid (j ≠ L.length) := by have := (List.getElem?_eq_some_iff.1 hj).1; show _ ≠ _; omega
  have HIJ := hide hij
  have HOK := hide hok
  have HOP := hide hop
  have HLI := hide (hl.below hB0)
  have HSZ := hide hsz
  have HFIN : Hid (∀ (A1 : AD) (M1 : List Item), (A.step o).2 = A1 → ((L ++ [Item.block g (.cells o.cs 33 (0, 0))]).set i (.disk p A1)).set j (.ref r A1) = M1 → ∀ {e : Ending} {w' : World}, e = .returned (.bool true) → Lies B w' M1 → Below B w w' → e = .returned (.bool true) ∧ Lies B w' ((L.set i (.disk p (A.step o).2)).set j (.ref r (A.step o).2)) ∧ Below B w w') := fun A1 M1 h1 h2 e w' he hL hb => by
    rw [h1]
    rw [← h2, set_push hi, set_push (get_set_ne hj hij)] at hL
    exact ⟨he, hL.drop, hb⟩
  unfold OP.cs at hw0 ⊢
  clear h hi hj hij hop hl hsz hok hb0 hk0 h0 hB0
  by_cases k1 : o.kind = 1
  · have d1 : (o.kind == 1) = true := beq_iff_eq.2 k1
    obtain ⟨A1, hA1⟩ : ∃ A1, (A.write o.name.data.toList o.at_ o.text.data.toList).2 = A1 := ⟨_, rfl⟩
    obtain ⟨x, hx⟩ : ∃ x, (A.write o.name.data.toList o.at_ o.text.data.toList).1 = x := ⟨_, rfl⟩
    have HE : Hid ((A.step o).2 = A1) := by show _ = _; unfold AD.step; rw [if_pos k1]; exact hA1
    have hc := s_write H0.out HI0.out o.name HOP.out.name o.at_ ⟨HOP.out.a0, HOP.out.a1⟩ o.text HOP.out.text
    rw [hx, hA1] at hc
    have w0f0 : w0.cell? ⟨g, 0, none⟩ = some (.int .i64 o.kind) := op_cells H0.out HQ0.out 0
    have w0f2 : w0.cell? ⟨g, 2, none⟩ = some (.string o.name) := op_cells H0.out HQ0.out 2
    have w0f4 : w0.cell? ⟨g, 4, none⟩ = some (.int .i64 o.at_) := op_cells H0.out HQ0.out 4
    have w0f6 : w0.cell? ⟨g, 6, none⟩ = some (.string o.text) := op_cells H0.out HQ0.out 6
    have HA1 := hide hA1
    have HX := hide hx
    clear k1
    clear hA1 hx
    go_enter Tryz.func8, Tryz.ntmps8
    go_wp2_with fail
    refine hc.mono ?_
    rintro e w2 ⟨rfl, h, hb⟩
    have HB2 := hide (HB0.out.trans hb)
    have H2 := hide h
    have hj2 := get_set_ne (y := Item.disk p A1) HJ0.out HIJ.out
    have hq2 := get_set_ne (y := Item.disk p A1) HQ0.out HIQ.out
    have w2f0 : w2.cell? ⟨g, 0, none⟩ = some (.int .i64 o.kind) := op_cells H2.out hq2 0
    have w2f2 : w2.cell? ⟨g, 2, none⟩ = some (.string o.name) := op_cells H2.out hq2 2
    have w2f4 : w2.cell? ⟨g, 4, none⟩ = some (.int .i64 o.at_) := op_cells H2.out hq2 4
    have w2f6 : w2.cell? ⟨g, 6, none⟩ = some (.string o.text) := op_cells H2.out hq2 6
    replace hc := r_write H2.out hj2 HOK.out o.name HOP.out.name o.at_ ⟨HOP.out.a0, HOP.out.a1⟩ o.text HOP.out.text
    rw [HX.out, HA1.out] at hc
    clear h hb w0f0 w0f2 w0f4 w0f6
    go_wp2_with fail
    refine hc.mono ?_
    rintro e w3 ⟨rfl, h, hb⟩
    have HB1 := hide (HB2.out.trans hb)
    have hq3 := get_set_ne (y := Item.ref r A1) hq2 HJQ.out
    have I1' := get_set_ne (y := Item.ref r A1) (get_set HI0.out (Item.disk p A1)) (fun e => HIJ.out e.symm)
    have J1' := get_set hj2 (Item.ref r A1)
    obtain ⟨M1, hM1⟩ : ∃ M1, ((L ++ [Item.block g (.cells o.cs 33 (0, 0))]).set i (.disk p A1)).set j (.ref r A1) = M1 := ⟨_, rfl⟩
    have H1 : Hid (Lies B w3 M1) := by rw [← hM1]; exact h
    have I1 : M1[i]? = some (.disk p A1) := by rw [← hM1]; exact I1'
    have J1 : M1[j]? = some (.ref r A1) := by rw [← hM1]; exact J1'
    have Q1 : M1[L.length]? = some (Item.block g (.cells o.cs 33 (0, 0))) := by rw [← hM1]; exact hq3
    have HEM := hide hM1
    clear h hb hc H2 HB2 hj2 hq2 hq3 I1' J1' hM1 w2f0 w2f2 w2f4 w2f6
    have hok1 := H1.out.ok I1
    have HOK1 := hide hok1
    obtain ⟨bo, hbo⟩ : ∃ b, A1.pow.off = b := ⟨_, rfl⟩
    obtain ⟨us, hus⟩ : ∃ n, (fused A1.fs : Int) = n := ⟨_, rfl⟩
    obtain ⟨ks, hks⟩ : ∃ ks, A1.list = ks := ⟨_, rfl⟩
    have hlm : (ks.map encStr).length = ks.length := List.length_map ..
    have hkm : ks.length ≤ maxLen := by rw [← hks]; exact list_len hok1
    have db : (ks == ks) = true := by simp
    have HBO := hide hbo; have HUS := hide hus; have HKS := hide hks
    have HI1 := hide I1; have HJ1 := hide J1; have HQ1 := hide Q1
    clear hok1 hbo hus hks I1 J1 Q1
    have hc := s_off H1.out HI1.out
    rw [HBO.out] at hc
    go_wp2_with fail
    refine hc.mono ?_
    rintro e v1 ⟨rfl, rfl⟩
    replace hc := r_off H1.out HJ1.out
    rw [HBO.out] at hc
    go_wp2_with fail
    refine hc.mono ?_
    rintro e v2 ⟨rfl, rfl⟩
    replace hc := s_used H1.out HI1.out
    rw [HUS.out] at hc
    go_wp2_with fail
    refine hc.mono ?_
    rintro e v3 ⟨rfl, h, hb⟩
    have H3 := hide h
    have HB3 := hide (HB1.out.trans hb)
    clear h hb H1 HB1
    replace hc := r_used H3.out HJ1.out HOK1.out
    rw [HUS.out] at hc
    go_wp2_with fail
    refine hc.mono ?_
    rintro e v4 ⟨rfl, rfl⟩
    replace hc := s_list H3.out HI1.out
    rw [HKS.out] at hc
    go_wp2_with fail
    refine hc.mono ?_
    rintro e v5 ⟨x5, rfl, hr, h, hb⟩
    rw [hlm] at hr
    obtain ⟨ad5, cap5, e5, _, _, _⟩ := row_at hr
    subst e5
    have HB5 := hide (HB3.out.trans hb)
    replace hc := r_list h (get_push HJ1.out) HOK1.out
    rw [HKS.out] at hc
    clear h hb hr H3 HB3
    go_wp2_with fail
    refine hc.mono ?_
    rintro e v6 ⟨x6, rfl, hr, h, hb⟩
    rw [hlm] at hr
    obtain ⟨ad6, cap6, e6, hr6, _, _⟩ := row_at hr
    subst e6
    have hr5 := h.rowOf (get_push (get_last M1 _))
    rw [hlm] at hr5
    obtain ⟨_, _, en, hr5', _, _⟩ := row_at hr5
    cases en
    have HB6 := hide (HB5.out.trans hb)
    replace hc := sameTexts_any v6 ad5 ad6 cap5 cap6 ks ks hr5' hr6 hkm hkm
    rw [db] at hc
    have H6 := hide h.drop.drop
    clear h hb hr hr5 hr5' hr6 HB5
    go_wp2_with fail
    refine hc.mono ?_
    rintro e v7 ⟨rfl, hb⟩
    have H7 := hide (H6.out.below hb)
    have HB7 := hide (HB6.out.trans (hb.mono H6.out.base))
    have n2 : v7.cell? ⟨g, 2, none⟩ = some (.string o.name) := op_cells H7.out HQ1.out 2
    replace hc := told_any H7.out HI1.out HJ1.out o.name HOP.out.name
    clear hb H6 HB6
    go_wp2_with fail
    refine hc.mono ?_
    rintro e v8 ⟨rfl, h, hb⟩
    have H8 := hide h
    have HB8 := hide (HB7.out.trans hb)
    have n3 : v8.cell? ⟨g, 3, none⟩ = some (.string o.to) := op_cells H8.out HQ1.out 3
    replace hc := told_any H8.out HI1.out HJ1.out o.to HOP.out.to
    clear h hb H7 HB7 n2
    go_wp2_with fail
    refine hc.mono ?_
    rintro e v9 ⟨rfl, h, hb⟩
    have H9 := hide h
    have HB9 := hide (HB8.out.trans hb)
    clear h hb hc n3
    go_wp2
    go_ret
    exact HFIN.out _ _ HE.out HEM.out rfl H9.out HB9.out
  by_cases k2 : o.kind = 2
  · have d1 : (o.kind == 1) = false := beq_eq_false_iff_ne.2 k1
    have d2 : (o.kind == 2) = true := beq_iff_eq.2 k2
    obtain ⟨A1, hA1⟩ : ∃ A1, (A.sync o.name.data.toList).2 = A1 := ⟨_, rfl⟩
    obtain ⟨x, hx⟩ : ∃ x, (A.sync o.name.data.toList).1 = x := ⟨_, rfl⟩
    have HE : Hid ((A.step o).2 = A1) := by show _ = _; unfold AD.step; rw [if_neg k1, if_pos k2]; exact hA1
    have hc := s_sync H0.out HI0.out o.name HOP.out.name
    rw [hx, hA1] at hc
    have w0f0 : w0.cell? ⟨g, 0, none⟩ = some (.int .i64 o.kind) := op_cells H0.out HQ0.out 0
    have w0f2 : w0.cell? ⟨g, 2, none⟩ = some (.string o.name) := op_cells H0.out HQ0.out 2
    have HA1 := hide hA1
    have HX := hide hx
    clear k1 k2
    clear hA1 hx
    go_enter Tryz.func8, Tryz.ntmps8
    go_wp2_with fail
    refine hc.mono ?_
    rintro e w2 ⟨rfl, h, hb⟩
    have HB2 := hide (HB0.out.trans hb)
    have H2 := hide h
    have hj2 := get_set_ne (y := Item.disk p A1) HJ0.out HIJ.out
    have hq2 := get_set_ne (y := Item.disk p A1) HQ0.out HIQ.out
    have w2f0 : w2.cell? ⟨g, 0, none⟩ = some (.int .i64 o.kind) := op_cells H2.out hq2 0
    have w2f2 : w2.cell? ⟨g, 2, none⟩ = some (.string o.name) := op_cells H2.out hq2 2
    replace hc := r_sync H2.out hj2 HOK.out o.name
    rw [HX.out, HA1.out] at hc
    clear h hb w0f0 w0f2
    go_wp2_with fail
    refine hc.mono ?_
    rintro e w3 ⟨rfl, h, hb⟩
    have HB1 := hide (HB2.out.trans hb)
    have hq3 := get_set_ne (y := Item.ref r A1) hq2 HJQ.out
    have I1' := get_set_ne (y := Item.ref r A1) (get_set HI0.out (Item.disk p A1)) (fun e => HIJ.out e.symm)
    have J1' := get_set hj2 (Item.ref r A1)
    obtain ⟨M1, hM1⟩ : ∃ M1, ((L ++ [Item.block g (.cells o.cs 33 (0, 0))]).set i (.disk p A1)).set j (.ref r A1) = M1 := ⟨_, rfl⟩
    have H1 : Hid (Lies B w3 M1) := by rw [← hM1]; exact h
    have I1 : M1[i]? = some (.disk p A1) := by rw [← hM1]; exact I1'
    have J1 : M1[j]? = some (.ref r A1) := by rw [← hM1]; exact J1'
    have Q1 : M1[L.length]? = some (Item.block g (.cells o.cs 33 (0, 0))) := by rw [← hM1]; exact hq3
    have HEM := hide hM1
    clear h hb hc H2 HB2 hj2 hq2 hq3 I1' J1' hM1 w2f0 w2f2
    have hok1 := H1.out.ok I1
    have HOK1 := hide hok1
    obtain ⟨bo, hbo⟩ : ∃ b, A1.pow.off = b := ⟨_, rfl⟩
    obtain ⟨us, hus⟩ : ∃ n, (fused A1.fs : Int) = n := ⟨_, rfl⟩
    obtain ⟨ks, hks⟩ : ∃ ks, A1.list = ks := ⟨_, rfl⟩
    have hlm : (ks.map encStr).length = ks.length := List.length_map ..
    have hkm : ks.length ≤ maxLen := by rw [← hks]; exact list_len hok1
    have db : (ks == ks) = true := by simp
    have HBO := hide hbo; have HUS := hide hus; have HKS := hide hks
    have HI1 := hide I1; have HJ1 := hide J1; have HQ1 := hide Q1
    clear hok1 hbo hus hks I1 J1 Q1
    have hc := s_off H1.out HI1.out
    rw [HBO.out] at hc
    go_wp2_with fail
    refine hc.mono ?_
    rintro e v1 ⟨rfl, rfl⟩
    replace hc := r_off H1.out HJ1.out
    rw [HBO.out] at hc
    go_wp2_with fail
    refine hc.mono ?_
    rintro e v2 ⟨rfl, rfl⟩
    replace hc := s_used H1.out HI1.out
    rw [HUS.out] at hc
    go_wp2_with fail
    refine hc.mono ?_
    rintro e v3 ⟨rfl, h, hb⟩
    have H3 := hide h
    have HB3 := hide (HB1.out.trans hb)
    clear h hb H1 HB1
    replace hc := r_used H3.out HJ1.out HOK1.out
    rw [HUS.out] at hc
    go_wp2_with fail
    refine hc.mono ?_
    rintro e v4 ⟨rfl, rfl⟩
    replace hc := s_list H3.out HI1.out
    rw [HKS.out] at hc
    go_wp2_with fail
    refine hc.mono ?_
    rintro e v5 ⟨x5, rfl, hr, h, hb⟩
    rw [hlm] at hr
    obtain ⟨ad5, cap5, e5, _, _, _⟩ := row_at hr
    subst e5
    have HB5 := hide (HB3.out.trans hb)
    replace hc := r_list h (get_push HJ1.out) HOK1.out
    rw [HKS.out] at hc
    clear h hb hr H3 HB3
    go_wp2_with fail
    refine hc.mono ?_
    rintro e v6 ⟨x6, rfl, hr, h, hb⟩
    rw [hlm] at hr
    obtain ⟨ad6, cap6, e6, hr6, _, _⟩ := row_at hr
    subst e6
    have hr5 := h.rowOf (get_push (get_last M1 _))
    rw [hlm] at hr5
    obtain ⟨_, _, en, hr5', _, _⟩ := row_at hr5
    cases en
    have HB6 := hide (HB5.out.trans hb)
    replace hc := sameTexts_any v6 ad5 ad6 cap5 cap6 ks ks hr5' hr6 hkm hkm
    rw [db] at hc
    have H6 := hide h.drop.drop
    clear h hb hr hr5 hr5' hr6 HB5
    go_wp2_with fail
    refine hc.mono ?_
    rintro e v7 ⟨rfl, hb⟩
    have H7 := hide (H6.out.below hb)
    have HB7 := hide (HB6.out.trans (hb.mono H6.out.base))
    have n2 : v7.cell? ⟨g, 2, none⟩ = some (.string o.name) := op_cells H7.out HQ1.out 2
    replace hc := told_any H7.out HI1.out HJ1.out o.name HOP.out.name
    clear hb H6 HB6
    go_wp2_with fail
    refine hc.mono ?_
    rintro e v8 ⟨rfl, h, hb⟩
    have H8 := hide h
    have HB8 := hide (HB7.out.trans hb)
    have n3 : v8.cell? ⟨g, 3, none⟩ = some (.string o.to) := op_cells H8.out HQ1.out 3
    replace hc := told_any H8.out HI1.out HJ1.out o.to HOP.out.to
    clear h hb H7 HB7 n2
    go_wp2_with fail
    refine hc.mono ?_
    rintro e v9 ⟨rfl, h, hb⟩
    have H9 := hide h
    have HB9 := hide (HB8.out.trans hb)
    clear h hb hc n3
    go_wp2
    go_ret
    exact HFIN.out _ _ HE.out HEM.out rfl H9.out HB9.out
  by_cases k3 : o.kind = 3
  · have d1 : (o.kind == 1) = false := beq_eq_false_iff_ne.2 k1
    have d2 : (o.kind == 2) = false := beq_eq_false_iff_ne.2 k2
    have d3 : (o.kind == 3) = true := beq_iff_eq.2 k3
    obtain ⟨A1, hA1⟩ : ∃ A1, (A.trunc o.name.data.toList o.n).2 = A1 := ⟨_, rfl⟩
    obtain ⟨x, hx⟩ : ∃ x, (A.trunc o.name.data.toList o.n).1 = x := ⟨_, rfl⟩
    have HE : Hid ((A.step o).2 = A1) := by show _ = _; unfold AD.step; rw [if_neg k1, if_neg k2, if_pos k3]; exact hA1
    have hc := s_trunc H0.out HI0.out o.name HOP.out.name o.n
    rw [hx, hA1] at hc
    have w0f0 : w0.cell? ⟨g, 0, none⟩ = some (.int .i64 o.kind) := op_cells H0.out HQ0.out 0
    have w0f2 : w0.cell? ⟨g, 2, none⟩ = some (.string o.name) := op_cells H0.out HQ0.out 2
    have w0f5 : w0.cell? ⟨g, 5, none⟩ = some (.int .i64 o.n) := op_cells H0.out HQ0.out 5
    have HA1 := hide hA1
    have HX := hide hx
    clear k1 k2 k3
    clear hA1 hx
    go_enter Tryz.func8, Tryz.ntmps8
    go_wp2_with fail
    refine hc.mono ?_
    rintro e w2 ⟨rfl, h, hb⟩
    have HB2 := hide (HB0.out.trans hb)
    have H2 := hide h
    have hj2 := get_set_ne (y := Item.disk p A1) HJ0.out HIJ.out
    have hq2 := get_set_ne (y := Item.disk p A1) HQ0.out HIQ.out
    have w2f0 : w2.cell? ⟨g, 0, none⟩ = some (.int .i64 o.kind) := op_cells H2.out hq2 0
    have w2f2 : w2.cell? ⟨g, 2, none⟩ = some (.string o.name) := op_cells H2.out hq2 2
    have w2f5 : w2.cell? ⟨g, 5, none⟩ = some (.int .i64 o.n) := op_cells H2.out hq2 5
    replace hc := r_trunc H2.out hj2 HOK.out o.name o.n
    rw [HX.out, HA1.out] at hc
    clear h hb w0f0 w0f2 w0f5
    go_wp2_with fail
    refine hc.mono ?_
    rintro e w3 ⟨rfl, h, hb⟩
    have HB1 := hide (HB2.out.trans hb)
    have hq3 := get_set_ne (y := Item.ref r A1) hq2 HJQ.out
    have I1' := get_set_ne (y := Item.ref r A1) (get_set HI0.out (Item.disk p A1)) (fun e => HIJ.out e.symm)
    have J1' := get_set hj2 (Item.ref r A1)
    obtain ⟨M1, hM1⟩ : ∃ M1, ((L ++ [Item.block g (.cells o.cs 33 (0, 0))]).set i (.disk p A1)).set j (.ref r A1) = M1 := ⟨_, rfl⟩
    have H1 : Hid (Lies B w3 M1) := by rw [← hM1]; exact h
    have I1 : M1[i]? = some (.disk p A1) := by rw [← hM1]; exact I1'
    have J1 : M1[j]? = some (.ref r A1) := by rw [← hM1]; exact J1'
    have Q1 : M1[L.length]? = some (Item.block g (.cells o.cs 33 (0, 0))) := by rw [← hM1]; exact hq3
    have HEM := hide hM1
    clear h hb hc H2 HB2 hj2 hq2 hq3 I1' J1' hM1 w2f0 w2f2 w2f5
    have hok1 := H1.out.ok I1
    have HOK1 := hide hok1
    obtain ⟨bo, hbo⟩ : ∃ b, A1.pow.off = b := ⟨_, rfl⟩
    obtain ⟨us, hus⟩ : ∃ n, (fused A1.fs : Int) = n := ⟨_, rfl⟩
    obtain ⟨ks, hks⟩ : ∃ ks, A1.list = ks := ⟨_, rfl⟩
    have hlm : (ks.map encStr).length = ks.length := List.length_map ..
    have hkm : ks.length ≤ maxLen := by rw [← hks]; exact list_len hok1
    have db : (ks == ks) = true := by simp
    have HBO := hide hbo; have HUS := hide hus; have HKS := hide hks
    have HI1 := hide I1; have HJ1 := hide J1; have HQ1 := hide Q1
    clear hok1 hbo hus hks I1 J1 Q1
    have hc := s_off H1.out HI1.out
    rw [HBO.out] at hc
    go_wp2_with fail
    refine hc.mono ?_
    rintro e v1 ⟨rfl, rfl⟩
    replace hc := r_off H1.out HJ1.out
    rw [HBO.out] at hc
    go_wp2_with fail
    refine hc.mono ?_
    rintro e v2 ⟨rfl, rfl⟩
    replace hc := s_used H1.out HI1.out
    rw [HUS.out] at hc
    go_wp2_with fail
    refine hc.mono ?_
    rintro e v3 ⟨rfl, h, hb⟩
    have H3 := hide h
    have HB3 := hide (HB1.out.trans hb)
    clear h hb H1 HB1
    replace hc := r_used H3.out HJ1.out HOK1.out
    rw [HUS.out] at hc
    go_wp2_with fail
    refine hc.mono ?_
    rintro e v4 ⟨rfl, rfl⟩
    replace hc := s_list H3.out HI1.out
    rw [HKS.out] at hc
    go_wp2_with fail
    refine hc.mono ?_
    rintro e v5 ⟨x5, rfl, hr, h, hb⟩
    rw [hlm] at hr
    obtain ⟨ad5, cap5, e5, _, _, _⟩ := row_at hr
    subst e5
    have HB5 := hide (HB3.out.trans hb)
    replace hc := r_list h (get_push HJ1.out) HOK1.out
    rw [HKS.out] at hc
    clear h hb hr H3 HB3
    go_wp2_with fail
    refine hc.mono ?_
    rintro e v6 ⟨x6, rfl, hr, h, hb⟩
    rw [hlm] at hr
    obtain ⟨ad6, cap6, e6, hr6, _, _⟩ := row_at hr
    subst e6
    have hr5 := h.rowOf (get_push (get_last M1 _))
    rw [hlm] at hr5
    obtain ⟨_, _, en, hr5', _, _⟩ := row_at hr5
    cases en
    have HB6 := hide (HB5.out.trans hb)
    replace hc := sameTexts_any v6 ad5 ad6 cap5 cap6 ks ks hr5' hr6 hkm hkm
    rw [db] at hc
    have H6 := hide h.drop.drop
    clear h hb hr hr5 hr5' hr6 HB5
    go_wp2_with fail
    refine hc.mono ?_
    rintro e v7 ⟨rfl, hb⟩
    have H7 := hide (H6.out.below hb)
    have HB7 := hide (HB6.out.trans (hb.mono H6.out.base))
    have n2 : v7.cell? ⟨g, 2, none⟩ = some (.string o.name) := op_cells H7.out HQ1.out 2
    replace hc := told_any H7.out HI1.out HJ1.out o.name HOP.out.name
    clear hb H6 HB6
    go_wp2_with fail
    refine hc.mono ?_
    rintro e v8 ⟨rfl, h, hb⟩
    have H8 := hide h
    have HB8 := hide (HB7.out.trans hb)
    have n3 : v8.cell? ⟨g, 3, none⟩ = some (.string o.to) := op_cells H8.out HQ1.out 3
    replace hc := told_any H8.out HI1.out HJ1.out o.to HOP.out.to
    clear h hb H7 HB7 n2
    go_wp2_with fail
    refine hc.mono ?_
    rintro e v9 ⟨rfl, h, hb⟩
    have H9 := hide h
    have HB9 := hide (HB8.out.trans hb)
    clear h hb hc n3
    go_wp2
    go_ret
    exact HFIN.out _ _ HE.out HEM.out rfl H9.out HB9.out
  by_cases k4 : o.kind = 4
  · have d1 : (o.kind == 1) = false := beq_eq_false_iff_ne.2 k1
    have d2 : (o.kind == 2) = false := beq_eq_false_iff_ne.2 k2
    have d3 : (o.kind == 3) = false := beq_eq_false_iff_ne.2 k3
    have d4 : (o.kind == 4) = true := beq_iff_eq.2 k4
    obtain ⟨A1, hA1⟩ : ∃ A1, (A.rename o.name.data.toList o.to.data.toList).2 = A1 := ⟨_, rfl⟩
    obtain ⟨x, hx⟩ : ∃ x, (A.rename o.name.data.toList o.to.data.toList).1 = x := ⟨_, rfl⟩
    have HE : Hid ((A.step o).2 = A1) := by show _ = _; unfold AD.step; rw [if_neg k1, if_neg k2, if_neg k3, if_pos k4]; exact hA1
    have hc := s_rename H0.out HI0.out o.name HOP.out.name o.to HOP.out.to
    rw [hx, hA1] at hc
    have w0f0 : w0.cell? ⟨g, 0, none⟩ = some (.int .i64 o.kind) := op_cells H0.out HQ0.out 0
    have w0f2 : w0.cell? ⟨g, 2, none⟩ = some (.string o.name) := op_cells H0.out HQ0.out 2
    have w0f3 : w0.cell? ⟨g, 3, none⟩ = some (.string o.to) := op_cells H0.out HQ0.out 3
    have HA1 := hide hA1
    have HX := hide hx
    clear k1 k2 k3 k4
    clear hA1 hx
    go_enter Tryz.func8, Tryz.ntmps8
    go_wp2_with fail
    refine hc.mono ?_
    rintro e w2 ⟨rfl, h, hb⟩
    have HB2 := hide (HB0.out.trans hb)
    have H2 := hide h
    have hj2 := get_set_ne (y := Item.disk p A1) HJ0.out HIJ.out
    have hq2 := get_set_ne (y := Item.disk p A1) HQ0.out HIQ.out
    have w2f0 : w2.cell? ⟨g, 0, none⟩ = some (.int .i64 o.kind) := op_cells H2.out hq2 0
    have w2f2 : w2.cell? ⟨g, 2, none⟩ = some (.string o.name) := op_cells H2.out hq2 2
    have w2f3 : w2.cell? ⟨g, 3, none⟩ = some (.string o.to) := op_cells H2.out hq2 3
    replace hc := r_rename H2.out hj2 HOK.out o.name o.to HOP.out.to
    rw [HX.out, HA1.out] at hc
    clear h hb w0f0 w0f2 w0f3
    go_wp2_with fail
    refine hc.mono ?_
    rintro e w3 ⟨rfl, h, hb⟩
    have HB1 := hide (HB2.out.trans hb)
    have hq3 := get_set_ne (y := Item.ref r A1) hq2 HJQ.out
    have I1' := get_set_ne (y := Item.ref r A1) (get_set HI0.out (Item.disk p A1)) (fun e => HIJ.out e.symm)
    have J1' := get_set hj2 (Item.ref r A1)
    obtain ⟨M1, hM1⟩ : ∃ M1, ((L ++ [Item.block g (.cells o.cs 33 (0, 0))]).set i (.disk p A1)).set j (.ref r A1) = M1 := ⟨_, rfl⟩
    have H1 : Hid (Lies B w3 M1) := by rw [← hM1]; exact h
    have I1 : M1[i]? = some (.disk p A1) := by rw [← hM1]; exact I1'
    have J1 : M1[j]? = some (.ref r A1) := by rw [← hM1]; exact J1'
    have Q1 : M1[L.length]? = some (Item.block g (.cells o.cs 33 (0, 0))) := by rw [← hM1]; exact hq3
    have HEM := hide hM1
    clear h hb hc H2 HB2 hj2 hq2 hq3 I1' J1' hM1 w2f0 w2f2 w2f3
    have hok1 := H1.out.ok I1
    have HOK1 := hide hok1
    obtain ⟨bo, hbo⟩ : ∃ b, A1.pow.off = b := ⟨_, rfl⟩
    obtain ⟨us, hus⟩ : ∃ n, (fused A1.fs : Int) = n := ⟨_, rfl⟩
    obtain ⟨ks, hks⟩ : ∃ ks, A1.list = ks := ⟨_, rfl⟩
    have hlm : (ks.map encStr).length = ks.length := List.length_map ..
    have hkm : ks.length ≤ maxLen := by rw [← hks]; exact list_len hok1
    have db : (ks == ks) = true := by simp
    have HBO := hide hbo; have HUS := hide hus; have HKS := hide hks
    have HI1 := hide I1; have HJ1 := hide J1; have HQ1 := hide Q1
    clear hok1 hbo hus hks I1 J1 Q1
    have hc := s_off H1.out HI1.out
    rw [HBO.out] at hc
    go_wp2_with fail
    refine hc.mono ?_
    rintro e v1 ⟨rfl, rfl⟩
    replace hc := r_off H1.out HJ1.out
    rw [HBO.out] at hc
    go_wp2_with fail
    refine hc.mono ?_
    rintro e v2 ⟨rfl, rfl⟩
    replace hc := s_used H1.out HI1.out
    rw [HUS.out] at hc
    go_wp2_with fail
    refine hc.mono ?_
    rintro e v3 ⟨rfl, h, hb⟩
    have H3 := hide h
    have HB3 := hide (HB1.out.trans hb)
    clear h hb H1 HB1
    replace hc := r_used H3.out HJ1.out HOK1.out
    rw [HUS.out] at hc
    go_wp2_with fail
    refine hc.mono ?_
    rintro e v4 ⟨rfl, rfl⟩
    replace hc := s_list H3.out HI1.out
    rw [HKS.out] at hc
    go_wp2_with fail
    refine hc.mono ?_
    rintro e v5 ⟨x5, rfl, hr, h, hb⟩
    rw [hlm] at hr
    obtain ⟨ad5, cap5, e5, _, _, _⟩ := row_at hr
    subst e5
    have HB5 := hide (HB3.out.trans hb)
    replace hc := r_list h (get_push HJ1.out) HOK1.out
    rw [HKS.out] at hc
    clear h hb hr H3 HB3
    go_wp2_with fail
    refine hc.mono ?_
    rintro e v6 ⟨x6, rfl, hr, h, hb⟩
    rw [hlm] at hr
    obtain ⟨ad6, cap6, e6, hr6, _, _⟩ := row_at hr
    subst e6
    have hr5 := h.rowOf (get_push (get_last M1 _))
    rw [hlm] at hr5
    obtain ⟨_, _, en, hr5', _, _⟩ := row_at hr5
    cases en
    have HB6 := hide (HB5.out.trans hb)
    replace hc := sameTexts_any v6 ad5 ad6 cap5 cap6 ks ks hr5' hr6 hkm hkm
    rw [db] at hc
    have H6 := hide h.drop.drop
    clear h hb hr hr5 hr5' hr6 HB5
    go_wp2_with fail
    refine hc.mono ?_
    rintro e v7 ⟨rfl, hb⟩
    have H7 := hide (H6.out.below hb)
    have HB7 := hide (HB6.out.trans (hb.mono H6.out.base))
    have n2 : v7.cell? ⟨g, 2, none⟩ = some (.string o.name) := op_cells H7.out HQ1.out 2
    replace hc := told_any H7.out HI1.out HJ1.out o.name HOP.out.name
    clear hb H6 HB6
    go_wp2_with fail
    refine hc.mono ?_
    rintro e v8 ⟨rfl, h, hb⟩
    have H8 := hide h
    have HB8 := hide (HB7.out.trans hb)
    have n3 : v8.cell? ⟨g, 3, none⟩ = some (.string o.to) := op_cells H8.out HQ1.out 3
    replace hc := told_any H8.out HI1.out HJ1.out o.to HOP.out.to
    clear h hb H7 HB7 n2
    go_wp2_with fail
    refine hc.mono ?_
    rintro e v9 ⟨rfl, h, hb⟩
    have H9 := hide h
    have HB9 := hide (HB8.out.trans hb)
    clear h hb hc n3
    go_wp2
    go_ret
    exact HFIN.out _ _ HE.out HEM.out rfl H9.out HB9.out
  by_cases k5 : o.kind = 5
  · have d1 : (o.kind == 1) = false := beq_eq_false_iff_ne.2 k1
    have d2 : (o.kind == 2) = false := beq_eq_false_iff_ne.2 k2
    have d3 : (o.kind == 3) = false := beq_eq_false_iff_ne.2 k3
    have d4 : (o.kind == 4) = false := beq_eq_false_iff_ne.2 k4
    have d5 : (o.kind == 5) = true := beq_iff_eq.2 k5
    obtain ⟨A1, hA1⟩ : ∃ A1, (A.remove o.name.data.toList).2 = A1 := ⟨_, rfl⟩
    obtain ⟨x, hx⟩ : ∃ x, (A.remove o.name.data.toList).1 = x := ⟨_, rfl⟩
    have HE : Hid ((A.step o).2 = A1) := by show _ = _; unfold AD.step; rw [if_neg k1, if_neg k2, if_neg k3, if_neg k4, if_pos k5]; exact hA1
    have hc := s_remove H0.out HI0.out o.name HOP.out.name
    rw [hx, hA1] at hc
    have w0f0 : w0.cell? ⟨g, 0, none⟩ = some (.int .i64 o.kind) := op_cells H0.out HQ0.out 0
    have w0f2 : w0.cell? ⟨g, 2, none⟩ = some (.string o.name) := op_cells H0.out HQ0.out 2
    have HA1 := hide hA1
    have HX := hide hx
    clear k1 k2 k3 k4 k5
    clear hA1 hx
    go_enter Tryz.func8, Tryz.ntmps8
    go_wp2_with fail
    refine hc.mono ?_
    rintro e w2 ⟨rfl, h, hb⟩
    have HB2 := hide (HB0.out.trans hb)
    have H2 := hide h
    have hj2 := get_set_ne (y := Item.disk p A1) HJ0.out HIJ.out
    have hq2 := get_set_ne (y := Item.disk p A1) HQ0.out HIQ.out
    have w2f0 : w2.cell? ⟨g, 0, none⟩ = some (.int .i64 o.kind) := op_cells H2.out hq2 0
    have w2f2 : w2.cell? ⟨g, 2, none⟩ = some (.string o.name) := op_cells H2.out hq2 2
    replace hc := r_remove H2.out hj2 HOK.out o.name
    rw [HX.out, HA1.out] at hc
    clear h hb w0f0 w0f2
    go_wp2_with fail
    refine hc.mono ?_
    rintro e w3 ⟨rfl, h, hb⟩
    have HB1 := hide (HB2.out.trans hb)
    have hq3 := get_set_ne (y := Item.ref r A1) hq2 HJQ.out
    have I1' := get_set_ne (y := Item.ref r A1) (get_set HI0.out (Item.disk p A1)) (fun e => HIJ.out e.symm)
    have J1' := get_set hj2 (Item.ref r A1)
    obtain ⟨M1, hM1⟩ : ∃ M1, ((L ++ [Item.block g (.cells o.cs 33 (0, 0))]).set i (.disk p A1)).set j (.ref r A1) = M1 := ⟨_, rfl⟩
    have H1 : Hid (Lies B w3 M1) := by rw [← hM1]; exact h
    have I1 : M1[i]? = some (.disk p A1) := by rw [← hM1]; exact I1'
    have J1 : M1[j]? = some (.ref r A1) := by rw [← hM1]; exact J1'
    have Q1 : M1[L.length]? = some (Item.block g (.cells o.cs 33 (0, 0))) := by rw [← hM1]; exact hq3
    have HEM := hide hM1
    clear h hb hc H2 HB2 hj2 hq2 hq3 I1' J1' hM1 w2f0 w2f2
    have hok1 := H1.out.ok I1
    have HOK1 := hide hok1
    obtain ⟨bo, hbo⟩ : ∃ b, A1.pow.off = b := ⟨_, rfl⟩
    obtain ⟨us, hus⟩ : ∃ n, (fused A1.fs : Int) = n := ⟨_, rfl⟩
    obtain ⟨ks, hks⟩ : ∃ ks, A1.list = ks := ⟨_, rfl⟩
    have hlm : (ks.map encStr).length = ks.length := List.length_map ..
    have hkm : ks.length ≤ maxLen := by rw [← hks]; exact list_len hok1
    have db : (ks == ks) = true := by simp
    have HBO := hide hbo; have HUS := hide hus; have HKS := hide hks
    have HI1 := hide I1; have HJ1 := hide J1; have HQ1 := hide Q1
    clear hok1 hbo hus hks I1 J1 Q1
    have hc := s_off H1.out HI1.out
    rw [HBO.out] at hc
    go_wp2_with fail
    refine hc.mono ?_
    rintro e v1 ⟨rfl, rfl⟩
    replace hc := r_off H1.out HJ1.out
    rw [HBO.out] at hc
    go_wp2_with fail
    refine hc.mono ?_
    rintro e v2 ⟨rfl, rfl⟩
    replace hc := s_used H1.out HI1.out
    rw [HUS.out] at hc
    go_wp2_with fail
    refine hc.mono ?_
    rintro e v3 ⟨rfl, h, hb⟩
    have H3 := hide h
    have HB3 := hide (HB1.out.trans hb)
    clear h hb H1 HB1
    replace hc := r_used H3.out HJ1.out HOK1.out
    rw [HUS.out] at hc
    go_wp2_with fail
    refine hc.mono ?_
    rintro e v4 ⟨rfl, rfl⟩
    replace hc := s_list H3.out HI1.out
    rw [HKS.out] at hc
    go_wp2_with fail
    refine hc.mono ?_
    rintro e v5 ⟨x5, rfl, hr, h, hb⟩
    rw [hlm] at hr
    obtain ⟨ad5, cap5, e5, _, _, _⟩ := row_at hr
    subst e5
    have HB5 := hide (HB3.out.trans hb)
    replace hc := r_list h (get_push HJ1.out) HOK1.out
    rw [HKS.out] at hc
    clear h hb hr H3 HB3
    go_wp2_with fail
    refine hc.mono ?_
    rintro e v6 ⟨x6, rfl, hr, h, hb⟩
    rw [hlm] at hr
    obtain ⟨ad6, cap6, e6, hr6, _, _⟩ := row_at hr
    subst e6
    have hr5 := h.rowOf (get_push (get_last M1 _))
    rw [hlm] at hr5
    obtain ⟨_, _, en, hr5', _, _⟩ := row_at hr5
    cases en
    have HB6 := hide (HB5.out.trans hb)
    replace hc := sameTexts_any v6 ad5 ad6 cap5 cap6 ks ks hr5' hr6 hkm hkm
    rw [db] at hc
    have H6 := hide h.drop.drop
    clear h hb hr hr5 hr5' hr6 HB5
    go_wp2_with fail
    refine hc.mono ?_
    rintro e v7 ⟨rfl, hb⟩
    have H7 := hide (H6.out.below hb)
    have HB7 := hide (HB6.out.trans (hb.mono H6.out.base))
    have n2 : v7.cell? ⟨g, 2, none⟩ = some (.string o.name) := op_cells H7.out HQ1.out 2
    replace hc := told_any H7.out HI1.out HJ1.out o.name HOP.out.name
    clear hb H6 HB6
    go_wp2_with fail
    refine hc.mono ?_
    rintro e v8 ⟨rfl, h, hb⟩
    have H8 := hide h
    have HB8 := hide (HB7.out.trans hb)
    have n3 : v8.cell? ⟨g, 3, none⟩ = some (.string o.to) := op_cells H8.out HQ1.out 3
    replace hc := told_any H8.out HI1.out HJ1.out o.to HOP.out.to
    clear h hb H7 HB7 n2
    go_wp2_with fail
    refine hc.mono ?_
    rintro e v9 ⟨rfl, h, hb⟩
    have H9 := hide h
    have HB9 := hide (HB8.out.trans hb)
    clear h hb hc n3
    go_wp2
    go_ret
    exact HFIN.out _ _ HE.out HEM.out rfl H9.out HB9.out
  by_cases k6 : o.kind = 6
  · have d1 : (o.kind == 1) = false := beq_eq_false_iff_ne.2 k1
    have d2 : (o.kind == 2) = false := beq_eq_false_iff_ne.2 k2
    have d3 : (o.kind == 3) = false := beq_eq_false_iff_ne.2 k3
    have d4 : (o.kind == 4) = false := beq_eq_false_iff_ne.2 k4
    have d5 : (o.kind == 5) = false := beq_eq_false_iff_ne.2 k5
    have d6 : (o.kind == 6) = true := beq_iff_eq.2 k6
    have k7 : ¬ o.kind = 7 := by omega
    have k11 : ¬ o.kind = 11 := by omega
    have k8 : ¬ o.kind = 8 := by omega
    have k9 : ¬ o.kind = 9 := by omega
    have HE : Hid ((A.step o).2 = A) := by show _ = _; unfold AD.step; rw [if_neg k1, if_neg k2, if_neg k3, if_neg k4, if_neg k5, if_neg k7, if_neg k11, if_neg k8, if_neg k9]
    have HEM : Hid (((L ++ [Item.block g (.cells o.cs 33 (0, 0))]).set i (.disk p A)).set j (.ref r A) = L ++ [Item.block g (.cells o.cs 33 (0, 0))]) := by
      show _ = _
      have e1 := set_same HI0.out
      rw [e1, set_same HJ0.out]
    obtain ⟨T, hT⟩ : ∃ T : ByteArray, (⟨(A.read o.name.data.toList o.at_ o.n).1.toArray⟩ : ByteArray) = T := ⟨_, rfl⟩
    obtain ⟨x, hx⟩ : ∃ x, (A.read o.name.data.toList o.at_ o.n).2 = x := ⟨_, rfl⟩
    have hc := s_read H0.out HI0.out o.name HOP.out.name o.at_ o.n
    rw [hT, hx] at hc
    have w0f0 : w0.cell? ⟨g, 0, none⟩ = some (.int .i64 o.kind) := op_cells H0.out HQ0.out 0
    have w0f2 : w0.cell? ⟨g, 2, none⟩ = some (.string o.name) := op_cells H0.out HQ0.out 2
    have w0f4 : w0.cell? ⟨g, 4, none⟩ = some (.int .i64 o.at_) := op_cells H0.out HQ0.out 4
    have w0f5 : w0.cell? ⟨g, 5, none⟩ = some (.int .i64 o.n) := op_cells H0.out HQ0.out 5
    have HT := hide hT
    have HX := hide hx
    clear k1 k2 k3 k4 k5 k6 k7 k11 k8 k9 hT hx
    go_enter Tryz.func8, Tryz.ntmps8
    go_wp2_with fail
    refine hc.mono ?_
    rintro e w2 ⟨rfl, h, hb⟩
    have HB2 := hide (HB0.out.trans hb)
    have H2 := hide h
    have w2f0 : w2.cell? ⟨g, 0, none⟩ = some (.int .i64 o.kind) := op_cells H2.out HQ0.out 0
    have w2f2 : w2.cell? ⟨g, 2, none⟩ = some (.string o.name) := op_cells H2.out HQ0.out 2
    have w2f4 : w2.cell? ⟨g, 4, none⟩ = some (.int .i64 o.at_) := op_cells H2.out HQ0.out 4
    have w2f5 : w2.cell? ⟨g, 5, none⟩ = some (.int .i64 o.n) := op_cells H2.out HQ0.out 5
    replace hc := r_read H2.out HJ0.out HOK.out o.name o.at_ o.n
    rw [HT.out, HX.out] at hc
    clear h hb w0f0 w0f2 w0f4 w0f5
    go_wp2_with fail
    refine hc.mono ?_
    rintro e w3 ⟨rfl, rfl⟩
    have I1 := HI0.out
    have J1 := HJ0.out
    have Q1 := HQ0.out
    have H1 := H2
    have HB1 := HB2
    clear hc H2 HB2 w2f0 w2f2 w2f4 w2f5
    have hok1 := H1.out.ok I1
    have HOK1 := hide hok1
    obtain ⟨bo, hbo⟩ : ∃ b, A.pow.off = b := ⟨_, rfl⟩
    obtain ⟨us, hus⟩ : ∃ n, (fused A.fs : Int) = n := ⟨_, rfl⟩
    obtain ⟨ks, hks⟩ : ∃ ks, A.list = ks := ⟨_, rfl⟩
    have hlm : (ks.map encStr).length = ks.length := List.length_map ..
    have hkm : ks.length ≤ maxLen := by rw [← hks]; exact list_len hok1
    have db : (ks == ks) = true := by simp
    have HBO := hide hbo; have HUS := hide hus; have HKS := hide hks
    have HI1 := hide I1; have HJ1 := hide J1; have HQ1 := hide Q1
    clear hok1 hbo hus hks I1 J1 Q1
    have hc := s_off H1.out HI1.out
    rw [HBO.out] at hc
    go_wp2_with fail
    refine hc.mono ?_
    rintro e v1 ⟨rfl, rfl⟩
    replace hc := r_off H1.out HJ1.out
    rw [HBO.out] at hc
    go_wp2_with fail
    refine hc.mono ?_
    rintro e v2 ⟨rfl, rfl⟩
    replace hc := s_used H1.out HI1.out
    rw [HUS.out] at hc
    go_wp2_with fail
    refine hc.mono ?_
    rintro e v3 ⟨rfl, h, hb⟩
    have H3 := hide h
    have HB3 := hide (HB1.out.trans hb)
    clear h hb H1 HB1
    replace hc := r_used H3.out HJ1.out HOK1.out
    rw [HUS.out] at hc
    go_wp2_with fail
    refine hc.mono ?_
    rintro e v4 ⟨rfl, rfl⟩
    replace hc := s_list H3.out HI1.out
    rw [HKS.out] at hc
    go_wp2_with fail
    refine hc.mono ?_
    rintro e v5 ⟨x5, rfl, hr, h, hb⟩
    rw [hlm] at hr
    obtain ⟨ad5, cap5, e5, _, _, _⟩ := row_at hr
    subst e5
    have HB5 := hide (HB3.out.trans hb)
    replace hc := r_list h (get_push HJ1.out) HOK1.out
    rw [HKS.out] at hc
    clear h hb hr H3 HB3
    go_wp2_with fail
    refine hc.mono ?_
    rintro e v6 ⟨x6, rfl, hr, h, hb⟩
    rw [hlm] at hr
    obtain ⟨ad6, cap6, e6, hr6, _, _⟩ := row_at hr
    subst e6
    have hr5 := h.rowOf (get_push (get_last (L ++ [Item.block g (.cells o.cs 33 (0, 0))]) _))
    rw [hlm] at hr5
    obtain ⟨_, _, en, hr5', _, _⟩ := row_at hr5
    cases en
    have HB6 := hide (HB5.out.trans hb)
    replace hc := sameTexts_any v6 ad5 ad6 cap5 cap6 ks ks hr5' hr6 hkm hkm
    rw [db] at hc
    have H6 := hide h.drop.drop
    clear h hb hr hr5 hr5' hr6 HB5
    go_wp2_with fail
    refine hc.mono ?_
    rintro e v7 ⟨rfl, hb⟩
    have H7 := hide (H6.out.below hb)
    have HB7 := hide (HB6.out.trans (hb.mono H6.out.base))
    have n2 : v7.cell? ⟨g, 2, none⟩ = some (.string o.name) := op_cells H7.out HQ1.out 2
    replace hc := told_any H7.out HI1.out HJ1.out o.name HOP.out.name
    clear hb H6 HB6
    go_wp2_with fail
    refine hc.mono ?_
    rintro e v8 ⟨rfl, h, hb⟩
    have H8 := hide h
    have HB8 := hide (HB7.out.trans hb)
    have n3 : v8.cell? ⟨g, 3, none⟩ = some (.string o.to) := op_cells H8.out HQ1.out 3
    replace hc := told_any H8.out HI1.out HJ1.out o.to HOP.out.to
    clear h hb H7 HB7 n2
    go_wp2_with fail
    refine hc.mono ?_
    rintro e v9 ⟨rfl, h, hb⟩
    have H9 := hide h
    have HB9 := hide (HB8.out.trans hb)
    clear h hb hc n3
    go_wp2
    go_ret
    exact HFIN.out _ _ HE.out HEM.out rfl H9.out HB9.out
  by_cases k7 : o.kind = 7
  · have d1 : (o.kind == 1) = false := beq_eq_false_iff_ne.2 k1
    have d2 : (o.kind == 2) = false := beq_eq_false_iff_ne.2 k2
    have d3 : (o.kind == 3) = false := beq_eq_false_iff_ne.2 k3
    have d4 : (o.kind == 4) = false := beq_eq_false_iff_ne.2 k4
    have d5 : (o.kind == 5) = false := beq_eq_false_iff_ne.2 k5
    have d6 : (o.kind == 6) = false := beq_eq_false_iff_ne.2 k6
    have d7 : (o.kind == 7) = true := beq_iff_eq.2 k7
    obtain ⟨A1, hA1⟩ : ∃ A1, A.armed o.n o.at_ = A1 := ⟨_, rfl⟩
    have HE : Hid ((A.step o).2 = A1) := by show _ = _; unfold AD.step; rw [if_neg k1, if_neg k2, if_neg k3, if_neg k4, if_neg k5, if_pos k7]; exact hA1
    have hc := s_arm H0.out HI0.out o.n o.at_ ⟨HOP.out.n0, HOP.out.n1⟩
    rw [hA1] at hc
    have w0f0 : w0.cell? ⟨g, 0, none⟩ = some (.int .i64 o.kind) := op_cells H0.out HQ0.out 0
    have w0f4 : w0.cell? ⟨g, 4, none⟩ = some (.int .i64 o.at_) := op_cells H0.out HQ0.out 4
    have w0f5 : w0.cell? ⟨g, 5, none⟩ = some (.int .i64 o.n) := op_cells H0.out HQ0.out 5
    have HA1 := hide hA1
    clear k1 k2 k3 k4 k5 k6 k7
    clear hA1
    go_enter Tryz.func8, Tryz.ntmps8
    go_wp2_with fail
    refine hc.mono ?_
    rintro e w2 ⟨rfl, h, hb⟩
    have HB2 := hide (HB0.out.trans hb)
    have H2 := hide h
    have hj2 := get_set_ne (y := Item.disk p A1) HJ0.out HIJ.out
    have hq2 := get_set_ne (y := Item.disk p A1) HQ0.out HIQ.out
    have w2f0 : w2.cell? ⟨g, 0, none⟩ = some (.int .i64 o.kind) := op_cells H2.out hq2 0
    have w2f4 : w2.cell? ⟨g, 4, none⟩ = some (.int .i64 o.at_) := op_cells H2.out hq2 4
    have w2f5 : w2.cell? ⟨g, 5, none⟩ = some (.int .i64 o.n) := op_cells H2.out hq2 5
    replace hc := r_arm H2.out hj2 o.n o.at_
    rw [HA1.out] at hc
    clear h hb w0f0 w0f4 w0f5
    go_wp2_with fail
    refine hc.mono ?_
    rintro e w3 ⟨rfl, h, hb⟩
    have HB1 := hide (HB2.out.trans hb)
    have hq3 := get_set_ne (y := Item.ref r A1) hq2 HJQ.out
    have I1' := get_set_ne (y := Item.ref r A1) (get_set HI0.out (Item.disk p A1)) (fun e => HIJ.out e.symm)
    have J1' := get_set hj2 (Item.ref r A1)
    obtain ⟨M1, hM1⟩ : ∃ M1, ((L ++ [Item.block g (.cells o.cs 33 (0, 0))]).set i (.disk p A1)).set j (.ref r A1) = M1 := ⟨_, rfl⟩
    have H1 : Hid (Lies B w3 M1) := by rw [← hM1]; exact h
    have I1 : M1[i]? = some (.disk p A1) := by rw [← hM1]; exact I1'
    have J1 : M1[j]? = some (.ref r A1) := by rw [← hM1]; exact J1'
    have Q1 : M1[L.length]? = some (Item.block g (.cells o.cs 33 (0, 0))) := by rw [← hM1]; exact hq3
    have HEM := hide hM1
    clear h hb hc H2 HB2 hj2 hq2 hq3 I1' J1' hM1 w2f0 w2f4 w2f5
    have hok1 := H1.out.ok I1
    have HOK1 := hide hok1
    obtain ⟨bo, hbo⟩ : ∃ b, A1.pow.off = b := ⟨_, rfl⟩
    obtain ⟨us, hus⟩ : ∃ n, (fused A1.fs : Int) = n := ⟨_, rfl⟩
    obtain ⟨ks, hks⟩ : ∃ ks, A1.list = ks := ⟨_, rfl⟩
    have hlm : (ks.map encStr).length = ks.length := List.length_map ..
    have hkm : ks.length ≤ maxLen := by rw [← hks]; exact list_len hok1
    have db : (ks == ks) = true := by simp
    have HBO := hide hbo; have HUS := hide hus; have HKS := hide hks
    have HI1 := hide I1; have HJ1 := hide J1; have HQ1 := hide Q1
    clear hok1 hbo hus hks I1 J1 Q1
    have hc := s_off H1.out HI1.out
    rw [HBO.out] at hc
    go_wp2_with fail
    refine hc.mono ?_
    rintro e v1 ⟨rfl, rfl⟩
    replace hc := r_off H1.out HJ1.out
    rw [HBO.out] at hc
    go_wp2_with fail
    refine hc.mono ?_
    rintro e v2 ⟨rfl, rfl⟩
    replace hc := s_used H1.out HI1.out
    rw [HUS.out] at hc
    go_wp2_with fail
    refine hc.mono ?_
    rintro e v3 ⟨rfl, h, hb⟩
    have H3 := hide h
    have HB3 := hide (HB1.out.trans hb)
    clear h hb H1 HB1
    replace hc := r_used H3.out HJ1.out HOK1.out
    rw [HUS.out] at hc
    go_wp2_with fail
    refine hc.mono ?_
    rintro e v4 ⟨rfl, rfl⟩
    replace hc := s_list H3.out HI1.out
    rw [HKS.out] at hc
    go_wp2_with fail
    refine hc.mono ?_
    rintro e v5 ⟨x5, rfl, hr, h, hb⟩
    rw [hlm] at hr
    obtain ⟨ad5, cap5, e5, _, _, _⟩ := row_at hr
    subst e5
    have HB5 := hide (HB3.out.trans hb)
    replace hc := r_list h (get_push HJ1.out) HOK1.out
    rw [HKS.out] at hc
    clear h hb hr H3 HB3
    go_wp2_with fail
    refine hc.mono ?_
    rintro e v6 ⟨x6, rfl, hr, h, hb⟩
    rw [hlm] at hr
    obtain ⟨ad6, cap6, e6, hr6, _, _⟩ := row_at hr
    subst e6
    have hr5 := h.rowOf (get_push (get_last M1 _))
    rw [hlm] at hr5
    obtain ⟨_, _, en, hr5', _, _⟩ := row_at hr5
    cases en
    have HB6 := hide (HB5.out.trans hb)
    replace hc := sameTexts_any v6 ad5 ad6 cap5 cap6 ks ks hr5' hr6 hkm hkm
    rw [db] at hc
    have H6 := hide h.drop.drop
    clear h hb hr hr5 hr5' hr6 HB5
    go_wp2_with fail
    refine hc.mono ?_
    rintro e v7 ⟨rfl, hb⟩
    have H7 := hide (H6.out.below hb)
    have HB7 := hide (HB6.out.trans (hb.mono H6.out.base))
    have n2 : v7.cell? ⟨g, 2, none⟩ = some (.string o.name) := op_cells H7.out HQ1.out 2
    replace hc := told_any H7.out HI1.out HJ1.out o.name HOP.out.name
    clear hb H6 HB6
    go_wp2_with fail
    refine hc.mono ?_
    rintro e v8 ⟨rfl, h, hb⟩
    have H8 := hide h
    have HB8 := hide (HB7.out.trans hb)
    have n3 : v8.cell? ⟨g, 3, none⟩ = some (.string o.to) := op_cells H8.out HQ1.out 3
    replace hc := told_any H8.out HI1.out HJ1.out o.to HOP.out.to
    clear h hb H7 HB7 n2
    go_wp2_with fail
    refine hc.mono ?_
    rintro e v9 ⟨rfl, h, hb⟩
    have H9 := hide h
    have HB9 := hide (HB8.out.trans hb)
    clear h hb hc n3
    go_wp2
    go_ret
    exact HFIN.out _ _ HE.out HEM.out rfl H9.out HB9.out
  by_cases k11 : o.kind = 11
  · have d1 : (o.kind == 1) = false := beq_eq_false_iff_ne.2 k1
    have d2 : (o.kind == 2) = false := beq_eq_false_iff_ne.2 k2
    have d3 : (o.kind == 3) = false := beq_eq_false_iff_ne.2 k3
    have d4 : (o.kind == 4) = false := beq_eq_false_iff_ne.2 k4
    have d5 : (o.kind == 5) = false := beq_eq_false_iff_ne.2 k5
    have d6 : (o.kind == 6) = false := beq_eq_false_iff_ne.2 k6
    have d7 : (o.kind == 7) = false := beq_eq_false_iff_ne.2 k7
    have d11 : (o.kind == 11) = true := beq_iff_eq.2 k11
    obtain ⟨A1, hA1⟩ : ∃ A1, A.fallen o.n = A1 := ⟨_, rfl⟩
    have HE : Hid ((A.step o).2 = A1) := by show _ = _; unfold AD.step; rw [if_neg k1, if_neg k2, if_neg k3, if_neg k4, if_neg k5, if_neg k7, if_pos k11]; exact hA1
    have hc := s_fall H0.out HI0.out o.n ⟨HOP.out.n0, HOP.out.n1⟩
    rw [hA1] at hc
    have w0f0 : w0.cell? ⟨g, 0, none⟩ = some (.int .i64 o.kind) := op_cells H0.out HQ0.out 0
    have w0f5 : w0.cell? ⟨g, 5, none⟩ = some (.int .i64 o.n) := op_cells H0.out HQ0.out 5
    have HA1 := hide hA1
    clear k1 k2 k3 k4 k5 k6 k7 k11
    clear hA1
    go_enter Tryz.func8, Tryz.ntmps8
    go_wp2_with fail
    refine hc.mono ?_
    rintro e w2 ⟨rfl, h, hb⟩
    have HB2 := hide (HB0.out.trans hb)
    have H2 := hide h
    have hj2 := get_set_ne (y := Item.disk p A1) HJ0.out HIJ.out
    have hq2 := get_set_ne (y := Item.disk p A1) HQ0.out HIQ.out
    have w2f0 : w2.cell? ⟨g, 0, none⟩ = some (.int .i64 o.kind) := op_cells H2.out hq2 0
    have w2f5 : w2.cell? ⟨g, 5, none⟩ = some (.int .i64 o.n) := op_cells H2.out hq2 5
    replace hc := r_fall H2.out hj2 o.n
    rw [HA1.out] at hc
    clear h hb w0f0 w0f5
    go_wp2_with fail
    refine hc.mono ?_
    rintro e w3 ⟨rfl, h, hb⟩
    have HB1 := hide (HB2.out.trans hb)
    have hq3 := get_set_ne (y := Item.ref r A1) hq2 HJQ.out
    have I1' := get_set_ne (y := Item.ref r A1) (get_set HI0.out (Item.disk p A1)) (fun e => HIJ.out e.symm)
    have J1' := get_set hj2 (Item.ref r A1)
    obtain ⟨M1, hM1⟩ : ∃ M1, ((L ++ [Item.block g (.cells o.cs 33 (0, 0))]).set i (.disk p A1)).set j (.ref r A1) = M1 := ⟨_, rfl⟩
    have H1 : Hid (Lies B w3 M1) := by rw [← hM1]; exact h
    have I1 : M1[i]? = some (.disk p A1) := by rw [← hM1]; exact I1'
    have J1 : M1[j]? = some (.ref r A1) := by rw [← hM1]; exact J1'
    have Q1 : M1[L.length]? = some (Item.block g (.cells o.cs 33 (0, 0))) := by rw [← hM1]; exact hq3
    have HEM := hide hM1
    clear h hb hc H2 HB2 hj2 hq2 hq3 I1' J1' hM1 w2f0 w2f5
    have hok1 := H1.out.ok I1
    have HOK1 := hide hok1
    obtain ⟨bo, hbo⟩ : ∃ b, A1.pow.off = b := ⟨_, rfl⟩
    obtain ⟨us, hus⟩ : ∃ n, (fused A1.fs : Int) = n := ⟨_, rfl⟩
    obtain ⟨ks, hks⟩ : ∃ ks, A1.list = ks := ⟨_, rfl⟩
    have hlm : (ks.map encStr).length = ks.length := List.length_map ..
    have hkm : ks.length ≤ maxLen := by rw [← hks]; exact list_len hok1
    have db : (ks == ks) = true := by simp
    have HBO := hide hbo; have HUS := hide hus; have HKS := hide hks
    have HI1 := hide I1; have HJ1 := hide J1; have HQ1 := hide Q1
    clear hok1 hbo hus hks I1 J1 Q1
    have hc := s_off H1.out HI1.out
    rw [HBO.out] at hc
    go_wp2_with fail
    refine hc.mono ?_
    rintro e v1 ⟨rfl, rfl⟩
    replace hc := r_off H1.out HJ1.out
    rw [HBO.out] at hc
    go_wp2_with fail
    refine hc.mono ?_
    rintro e v2 ⟨rfl, rfl⟩
    replace hc := s_used H1.out HI1.out
    rw [HUS.out] at hc
    go_wp2_with fail
    refine hc.mono ?_
    rintro e v3 ⟨rfl, h, hb⟩
    have H3 := hide h
    have HB3 := hide (HB1.out.trans hb)
    clear h hb H1 HB1
    replace hc := r_used H3.out HJ1.out HOK1.out
    rw [HUS.out] at hc
    go_wp2_with fail
    refine hc.mono ?_
    rintro e v4 ⟨rfl, rfl⟩
    replace hc := s_list H3.out HI1.out
    rw [HKS.out] at hc
    go_wp2_with fail
    refine hc.mono ?_
    rintro e v5 ⟨x5, rfl, hr, h, hb⟩
    rw [hlm] at hr
    obtain ⟨ad5, cap5, e5, _, _, _⟩ := row_at hr
    subst e5
    have HB5 := hide (HB3.out.trans hb)
    replace hc := r_list h (get_push HJ1.out) HOK1.out
    rw [HKS.out] at hc
    clear h hb hr H3 HB3
    go_wp2_with fail
    refine hc.mono ?_
    rintro e v6 ⟨x6, rfl, hr, h, hb⟩
    rw [hlm] at hr
    obtain ⟨ad6, cap6, e6, hr6, _, _⟩ := row_at hr
    subst e6
    have hr5 := h.rowOf (get_push (get_last M1 _))
    rw [hlm] at hr5
    obtain ⟨_, _, en, hr5', _, _⟩ := row_at hr5
    cases en
    have HB6 := hide (HB5.out.trans hb)
    replace hc := sameTexts_any v6 ad5 ad6 cap5 cap6 ks ks hr5' hr6 hkm hkm
    rw [db] at hc
    have H6 := hide h.drop.drop
    clear h hb hr hr5 hr5' hr6 HB5
    go_wp2_with fail
    refine hc.mono ?_
    rintro e v7 ⟨rfl, hb⟩
    have H7 := hide (H6.out.below hb)
    have HB7 := hide (HB6.out.trans (hb.mono H6.out.base))
    have n2 : v7.cell? ⟨g, 2, none⟩ = some (.string o.name) := op_cells H7.out HQ1.out 2
    replace hc := told_any H7.out HI1.out HJ1.out o.name HOP.out.name
    clear hb H6 HB6
    go_wp2_with fail
    refine hc.mono ?_
    rintro e v8 ⟨rfl, h, hb⟩
    have H8 := hide h
    have HB8 := hide (HB7.out.trans hb)
    have n3 : v8.cell? ⟨g, 3, none⟩ = some (.string o.to) := op_cells H8.out HQ1.out 3
    replace hc := told_any H8.out HI1.out HJ1.out o.to HOP.out.to
    clear h hb H7 HB7 n2
    go_wp2_with fail
    refine hc.mono ?_
    rintro e v9 ⟨rfl, h, hb⟩
    have H9 := hide h
    have HB9 := hide (HB8.out.trans hb)
    clear h hb hc n3
    go_wp2
    go_ret
    exact HFIN.out _ _ HE.out HEM.out rfl H9.out HB9.out
  by_cases k8 : o.kind = 8
  · have d1 : (o.kind == 1) = false := beq_eq_false_iff_ne.2 k1
    have d2 : (o.kind == 2) = false := beq_eq_false_iff_ne.2 k2
    have d3 : (o.kind == 3) = false := beq_eq_false_iff_ne.2 k3
    have d4 : (o.kind == 4) = false := beq_eq_false_iff_ne.2 k4
    have d5 : (o.kind == 5) = false := beq_eq_false_iff_ne.2 k5
    have d6 : (o.kind == 6) = false := beq_eq_false_iff_ne.2 k6
    have d7 : (o.kind == 7) = false := beq_eq_false_iff_ne.2 k7
    have d11 : (o.kind == 11) = false := beq_eq_false_iff_ne.2 k11
    have d8 : (o.kind == 8) = true := beq_iff_eq.2 k8
    obtain ⟨A1, hA1⟩ : ∃ A1, A.crash (o.fates.map FT.abs) = A1 := ⟨_, rfl⟩
    have HE : Hid ((A.step o).2 = A1) := by show _ = _; unfold AD.step; rw [if_neg k1, if_neg k2, if_neg k3, if_neg k4, if_neg k5, if_neg k7, if_neg k11, if_pos k8]; exact hA1
    have hc := crashes_any H0.out HI0.out HJ0.out HIJ.out o.ad o.cap o.fates HLI.out.at_ HOP.out.fates HSZ.out HLI.out.lt
    rw [hA1] at hc
    have w0f0 : w0.cell? ⟨g, 0, none⟩ = some (.int .i64 o.kind) := op_cells H0.out HQ0.out 0
    have w0f7 : w0.cell? ⟨g, 7, none⟩ = some (.slice o.ad o.fates.length o.cap) := op_cells H0.out HQ0.out 7
    clear k1 k2 k3 k4 k5 k6 k7 k11 k8
    clear hA1
    go_enter Tryz.func8, Tryz.ntmps8
    go_wp2_with fail
    refine hc.mono ?_
    rintro e w3 ⟨rfl, h, hb⟩
    have HB1 := hide (HB0.out.trans hb)
    have hq2 := get_set_ne (y := Item.disk p A1) HQ0.out HIQ.out
    have hq3 := get_set_ne (y := Item.ref r A1) hq2 HJQ.out
    have hj2 := get_set_ne (y := Item.disk p A1) HJ0.out HIJ.out
    have I1' := get_set_ne (y := Item.ref r A1) (get_set HI0.out (Item.disk p A1)) (fun e => HIJ.out e.symm)
    have J1' := get_set hj2 (Item.ref r A1)
    obtain ⟨M1, hM1⟩ : ∃ M1, ((L ++ [Item.block g (.cells o.cs 33 (0, 0))]).set i (.disk p A1)).set j (.ref r A1) = M1 := ⟨_, rfl⟩
    have H1 : Hid (Lies B w3 M1) := by rw [← hM1]; exact h
    have I1 : M1[i]? = some (.disk p A1) := by rw [← hM1]; exact I1'
    have J1 : M1[j]? = some (.ref r A1) := by rw [← hM1]; exact J1'
    have Q1 : M1[L.length]? = some (Item.block g (.cells o.cs 33 (0, 0))) := by rw [← hM1]; exact hq3
    have HEM := hide hM1
    clear h hb hc hj2 hq2 hq3 I1' J1' hM1 w0f0 w0f7
    have hok1 := H1.out.ok I1
    have HOK1 := hide hok1
    obtain ⟨bo, hbo⟩ : ∃ b, A1.pow.off = b := ⟨_, rfl⟩
    obtain ⟨us, hus⟩ : ∃ n, (fused A1.fs : Int) = n := ⟨_, rfl⟩
    obtain ⟨ks, hks⟩ : ∃ ks, A1.list = ks := ⟨_, rfl⟩
    have hlm : (ks.map encStr).length = ks.length := List.length_map ..
    have hkm : ks.length ≤ maxLen := by rw [← hks]; exact list_len hok1
    have db : (ks == ks) = true := by simp
    have HBO := hide hbo; have HUS := hide hus; have HKS := hide hks
    have HI1 := hide I1; have HJ1 := hide J1; have HQ1 := hide Q1
    clear hok1 hbo hus hks I1 J1 Q1
    have hc := s_off H1.out HI1.out
    rw [HBO.out] at hc
    go_wp2_with fail
    refine hc.mono ?_
    rintro e v1 ⟨rfl, rfl⟩
    replace hc := r_off H1.out HJ1.out
    rw [HBO.out] at hc
    go_wp2_with fail
    refine hc.mono ?_
    rintro e v2 ⟨rfl, rfl⟩
    replace hc := s_used H1.out HI1.out
    rw [HUS.out] at hc
    go_wp2_with fail
    refine hc.mono ?_
    rintro e v3 ⟨rfl, h, hb⟩
    have H3 := hide h
    have HB3 := hide (HB1.out.trans hb)
    clear h hb H1 HB1
    replace hc := r_used H3.out HJ1.out HOK1.out
    rw [HUS.out] at hc
    go_wp2_with fail
    refine hc.mono ?_
    rintro e v4 ⟨rfl, rfl⟩
    replace hc := s_list H3.out HI1.out
    rw [HKS.out] at hc
    go_wp2_with fail
    refine hc.mono ?_
    rintro e v5 ⟨x5, rfl, hr, h, hb⟩
    rw [hlm] at hr
    obtain ⟨ad5, cap5, e5, _, _, _⟩ := row_at hr
    subst e5
    have HB5 := hide (HB3.out.trans hb)
    replace hc := r_list h (get_push HJ1.out) HOK1.out
    rw [HKS.out] at hc
    clear h hb hr H3 HB3
    go_wp2_with fail
    refine hc.mono ?_
    rintro e v6 ⟨x6, rfl, hr, h, hb⟩
    rw [hlm] at hr
    obtain ⟨ad6, cap6, e6, hr6, _, _⟩ := row_at hr
    subst e6
    have hr5 := h.rowOf (get_push (get_last M1 _))
    rw [hlm] at hr5
    obtain ⟨_, _, en, hr5', _, _⟩ := row_at hr5
    cases en
    have HB6 := hide (HB5.out.trans hb)
    replace hc := sameTexts_any v6 ad5 ad6 cap5 cap6 ks ks hr5' hr6 hkm hkm
    rw [db] at hc
    have H6 := hide h.drop.drop
    clear h hb hr hr5 hr5' hr6 HB5
    go_wp2_with fail
    refine hc.mono ?_
    rintro e v7 ⟨rfl, hb⟩
    have H7 := hide (H6.out.below hb)
    have HB7 := hide (HB6.out.trans (hb.mono H6.out.base))
    have n2 : v7.cell? ⟨g, 2, none⟩ = some (.string o.name) := op_cells H7.out HQ1.out 2
    replace hc := told_any H7.out HI1.out HJ1.out o.name HOP.out.name
    clear hb H6 HB6
    go_wp2_with fail
    refine hc.mono ?_
    rintro e v8 ⟨rfl, h, hb⟩
    have H8 := hide h
    have HB8 := hide (HB7.out.trans hb)
    have n3 : v8.cell? ⟨g, 3, none⟩ = some (.string o.to) := op_cells H8.out HQ1.out 3
    replace hc := told_any H8.out HI1.out HJ1.out o.to HOP.out.to
    clear h hb H7 HB7 n2
    go_wp2_with fail
    refine hc.mono ?_
    rintro e v9 ⟨rfl, h, hb⟩
    have H9 := hide h
    have HB9 := hide (HB8.out.trans hb)
    clear h hb hc n3
    go_wp2
    go_ret
    exact HFIN.out _ _ HE.out HEM.out rfl H9.out HB9.out
  by_cases k9 : o.kind = 9
  · have d1 : (o.kind == 1) = false := beq_eq_false_iff_ne.2 k1
    have d2 : (o.kind == 2) = false := beq_eq_false_iff_ne.2 k2
    have d3 : (o.kind == 3) = false := beq_eq_false_iff_ne.2 k3
    have d4 : (o.kind == 4) = false := beq_eq_false_iff_ne.2 k4
    have d5 : (o.kind == 5) = false := beq_eq_false_iff_ne.2 k5
    have d6 : (o.kind == 6) = false := beq_eq_false_iff_ne.2 k6
    have d7 : (o.kind == 7) = false := beq_eq_false_iff_ne.2 k7
    have d11 : (o.kind == 11) = false := beq_eq_false_iff_ne.2 k11
    have d8 : (o.kind == 8) = false := beq_eq_false_iff_ne.2 k8
    have d9 : (o.kind == 9) = true := beq_iff_eq.2 k9
    obtain ⟨A1, hA1⟩ : ∃ A1, A.on = A1 := ⟨_, rfl⟩
    have HE : Hid ((A.step o).2 = A1) := by show _ = _; unfold AD.step; rw [if_neg k1, if_neg k2, if_neg k3, if_neg k4, if_neg k5, if_neg k7, if_neg k11, if_neg k8, if_pos k9]; exact hA1
    have hc := s_on H0.out HI0.out
    rw [hA1] at hc
    have w0f0 : w0.cell? ⟨g, 0, none⟩ = some (.int .i64 o.kind) := op_cells H0.out HQ0.out 0
    have HA1 := hide hA1
    clear k1 k2 k3 k4 k5 k6 k7 k11 k8 k9
    clear hA1
    go_enter Tryz.func8, Tryz.ntmps8
    go_wp2_with fail
    refine hc.mono ?_
    rintro e w2 ⟨rfl, h, hb⟩
    have HB2 := hide (HB0.out.trans hb)
    have H2 := hide h
    have hj2 := get_set_ne (y := Item.disk p A1) HJ0.out HIJ.out
    have hq2 := get_set_ne (y := Item.disk p A1) HQ0.out HIQ.out
    have w2f0 : w2.cell? ⟨g, 0, none⟩ = some (.int .i64 o.kind) := op_cells H2.out hq2 0
    replace hc := r_on H2.out hj2 HOK.out
    rw [HA1.out] at hc
    clear h hb w0f0
    go_wp2_with fail
    refine hc.mono ?_
    rintro e w3 ⟨rfl, h, hb⟩
    have HB1 := hide (HB2.out.trans hb)
    have hq3 := get_set_ne (y := Item.ref r A1) hq2 HJQ.out
    have I1' := get_set_ne (y := Item.ref r A1) (get_set HI0.out (Item.disk p A1)) (fun e => HIJ.out e.symm)
    have J1' := get_set hj2 (Item.ref r A1)
    obtain ⟨M1, hM1⟩ : ∃ M1, ((L ++ [Item.block g (.cells o.cs 33 (0, 0))]).set i (.disk p A1)).set j (.ref r A1) = M1 := ⟨_, rfl⟩
    have H1 : Hid (Lies B w3 M1) := by rw [← hM1]; exact h
    have I1 : M1[i]? = some (.disk p A1) := by rw [← hM1]; exact I1'
    have J1 : M1[j]? = some (.ref r A1) := by rw [← hM1]; exact J1'
    have Q1 : M1[L.length]? = some (Item.block g (.cells o.cs 33 (0, 0))) := by rw [← hM1]; exact hq3
    have HEM := hide hM1
    clear h hb hc H2 HB2 hj2 hq2 hq3 I1' J1' hM1 w2f0
    have hok1 := H1.out.ok I1
    have HOK1 := hide hok1
    obtain ⟨bo, hbo⟩ : ∃ b, A1.pow.off = b := ⟨_, rfl⟩
    obtain ⟨us, hus⟩ : ∃ n, (fused A1.fs : Int) = n := ⟨_, rfl⟩
    obtain ⟨ks, hks⟩ : ∃ ks, A1.list = ks := ⟨_, rfl⟩
    have hlm : (ks.map encStr).length = ks.length := List.length_map ..
    have hkm : ks.length ≤ maxLen := by rw [← hks]; exact list_len hok1
    have db : (ks == ks) = true := by simp
    have HBO := hide hbo; have HUS := hide hus; have HKS := hide hks
    have HI1 := hide I1; have HJ1 := hide J1; have HQ1 := hide Q1
    clear hok1 hbo hus hks I1 J1 Q1
    have hc := s_off H1.out HI1.out
    rw [HBO.out] at hc
    go_wp2_with fail
    refine hc.mono ?_
    rintro e v1 ⟨rfl, rfl⟩
    replace hc := r_off H1.out HJ1.out
    rw [HBO.out] at hc
    go_wp2_with fail
    refine hc.mono ?_
    rintro e v2 ⟨rfl, rfl⟩
    replace hc := s_used H1.out HI1.out
    rw [HUS.out] at hc
    go_wp2_with fail
    refine hc.mono ?_
    rintro e v3 ⟨rfl, h, hb⟩
    have H3 := hide h
    have HB3 := hide (HB1.out.trans hb)
    clear h hb H1 HB1
    replace hc := r_used H3.out HJ1.out HOK1.out
    rw [HUS.out] at hc
    go_wp2_with fail
    refine hc.mono ?_
    rintro e v4 ⟨rfl, rfl⟩
    replace hc := s_list H3.out HI1.out
    rw [HKS.out] at hc
    go_wp2_with fail
    refine hc.mono ?_
    rintro e v5 ⟨x5, rfl, hr, h, hb⟩
    rw [hlm] at hr
    obtain ⟨ad5, cap5, e5, _, _, _⟩ := row_at hr
    subst e5
    have HB5 := hide (HB3.out.trans hb)
    replace hc := r_list h (get_push HJ1.out) HOK1.out
    rw [HKS.out] at hc
    clear h hb hr H3 HB3
    go_wp2_with fail
    refine hc.mono ?_
    rintro e v6 ⟨x6, rfl, hr, h, hb⟩
    rw [hlm] at hr
    obtain ⟨ad6, cap6, e6, hr6, _, _⟩ := row_at hr
    subst e6
    have hr5 := h.rowOf (get_push (get_last M1 _))
    rw [hlm] at hr5
    obtain ⟨_, _, en, hr5', _, _⟩ := row_at hr5
    cases en
    have HB6 := hide (HB5.out.trans hb)
    replace hc := sameTexts_any v6 ad5 ad6 cap5 cap6 ks ks hr5' hr6 hkm hkm
    rw [db] at hc
    have H6 := hide h.drop.drop
    clear h hb hr hr5 hr5' hr6 HB5
    go_wp2_with fail
    refine hc.mono ?_
    rintro e v7 ⟨rfl, hb⟩
    have H7 := hide (H6.out.below hb)
    have HB7 := hide (HB6.out.trans (hb.mono H6.out.base))
    have n2 : v7.cell? ⟨g, 2, none⟩ = some (.string o.name) := op_cells H7.out HQ1.out 2
    replace hc := told_any H7.out HI1.out HJ1.out o.name HOP.out.name
    clear hb H6 HB6
    go_wp2_with fail
    refine hc.mono ?_
    rintro e v8 ⟨rfl, h, hb⟩
    have H8 := hide h
    have HB8 := hide (HB7.out.trans hb)
    have n3 : v8.cell? ⟨g, 3, none⟩ = some (.string o.to) := op_cells H8.out HQ1.out 3
    replace hc := told_any H8.out HI1.out HJ1.out o.to HOP.out.to
    clear h hb H7 HB7 n2
    go_wp2_with fail
    refine hc.mono ?_
    rintro e v9 ⟨rfl, h, hb⟩
    have H9 := hide h
    have HB9 := hide (HB8.out.trans hb)
    clear h hb hc n3
    go_wp2
    go_ret
    exact HFIN.out _ _ HE.out HEM.out rfl H9.out HB9.out
  have d1 : (o.kind == 1) = false := beq_eq_false_iff_ne.2 k1
  have d2 : (o.kind == 2) = false := beq_eq_false_iff_ne.2 k2
  have d3 : (o.kind == 3) = false := beq_eq_false_iff_ne.2 k3
  have d4 : (o.kind == 4) = false := beq_eq_false_iff_ne.2 k4
  have d5 : (o.kind == 5) = false := beq_eq_false_iff_ne.2 k5
  have d6 : (o.kind == 6) = false := beq_eq_false_iff_ne.2 k6
  have d7 : (o.kind == 7) = false := beq_eq_false_iff_ne.2 k7
  have d11 : (o.kind == 11) = false := beq_eq_false_iff_ne.2 k11
  have d8 : (o.kind == 8) = false := beq_eq_false_iff_ne.2 k8
  have d9 : (o.kind == 9) = false := beq_eq_false_iff_ne.2 k9
  have HE : Hid ((A.step o).2 = A) := by show _ = _; unfold AD.step; rw [if_neg k1, if_neg k2, if_neg k3, if_neg k4, if_neg k5, if_neg k7, if_neg k11, if_neg k8, if_neg k9]
  have HEM : Hid (((L ++ [Item.block g (.cells o.cs 33 (0, 0))]).set i (.disk p A)).set j (.ref r A) = L ++ [Item.block g (.cells o.cs 33 (0, 0))]) := by
    show _ = _
    have e1 := set_same HI0.out
    rw [e1, set_same HJ0.out]
  have w0f0 : w0.cell? ⟨g, 0, none⟩ = some (.int .i64 o.kind) := op_cells H0.out HQ0.out 0
  clear k1 k2 k3 k4 k5 k6 k7 k11 k8 k9
  have I1 := HI0.out
  have J1 := HJ0.out
  have Q1 := HQ0.out
  have H1 := H0
  have HB1 := HB0
  go_enter Tryz.func8, Tryz.ntmps8
  have hok1 := H1.out.ok I1
  have HOK1 := hide hok1
  obtain ⟨bo, hbo⟩ : ∃ b, A.pow.off = b := ⟨_, rfl⟩
  obtain ⟨us, hus⟩ : ∃ n, (fused A.fs : Int) = n := ⟨_, rfl⟩
  obtain ⟨ks, hks⟩ : ∃ ks, A.list = ks := ⟨_, rfl⟩
  have hlm : (ks.map encStr).length = ks.length := List.length_map ..
  have hkm : ks.length ≤ maxLen := by rw [← hks]; exact list_len hok1
  have db : (ks == ks) = true := by simp
  have HBO := hide hbo; have HUS := hide hus; have HKS := hide hks
  have HI1 := hide I1; have HJ1 := hide J1; have HQ1 := hide Q1
  clear hok1 hbo hus hks I1 J1 Q1
  have hc := s_off H1.out HI1.out
  rw [HBO.out] at hc
  go_wp2_with fail
  refine hc.mono ?_
  rintro e v1 ⟨rfl, rfl⟩
  replace hc := r_off H1.out HJ1.out
  rw [HBO.out] at hc
  go_wp2_with fail
  refine hc.mono ?_
  rintro e v2 ⟨rfl, rfl⟩
  replace hc := s_used H1.out HI1.out
  rw [HUS.out] at hc
  go_wp2_with fail
  refine hc.mono ?_
  rintro e v3 ⟨rfl, h, hb⟩
  have H3 := hide h
  have HB3 := hide (HB1.out.trans hb)
  clear h hb H1 HB1
  replace hc := r_used H3.out HJ1.out HOK1.out
  rw [HUS.out] at hc
  go_wp2_with fail
  refine hc.mono ?_
  rintro e v4 ⟨rfl, rfl⟩
  replace hc := s_list H3.out HI1.out
  rw [HKS.out] at hc
  go_wp2_with fail
  refine hc.mono ?_
  rintro e v5 ⟨x5, rfl, hr, h, hb⟩
  rw [hlm] at hr
  obtain ⟨ad5, cap5, e5, _, _, _⟩ := row_at hr
  subst e5
  have HB5 := hide (HB3.out.trans hb)
  replace hc := r_list h (get_push HJ1.out) HOK1.out
  rw [HKS.out] at hc
  clear h hb hr H3 HB3
  go_wp2_with fail
  refine hc.mono ?_
  rintro e v6 ⟨x6, rfl, hr, h, hb⟩
  rw [hlm] at hr
  obtain ⟨ad6, cap6, e6, hr6, _, _⟩ := row_at hr
  subst e6
  have hr5 := h.rowOf (get_push (get_last (L ++ [Item.block g (.cells o.cs 33 (0, 0))]) _))
  rw [hlm] at hr5
  obtain ⟨_, _, en, hr5', _, _⟩ := row_at hr5
  cases en
  have HB6 := hide (HB5.out.trans hb)
  replace hc := sameTexts_any v6 ad5 ad6 cap5 cap6 ks ks hr5' hr6 hkm hkm
  rw [db] at hc
  have H6 := hide h.drop.drop
  clear h hb hr hr5 hr5' hr6 HB5
  go_wp2_with fail
  refine hc.mono ?_
  rintro e v7 ⟨rfl, hb⟩
  have H7 := hide (H6.out.below hb)
  have HB7 := hide (HB6.out.trans (hb.mono H6.out.base))
  have n2 : v7.cell? ⟨g, 2, none⟩ = some (.string o.name) := op_cells H7.out HQ1.out 2
  replace hc := told_any H7.out HI1.out HJ1.out o.name HOP.out.name
  clear hb H6 HB6
  go_wp2_with fail
  refine hc.mono ?_
  rintro e v8 ⟨rfl, h, hb⟩
  have H8 := hide h
  have HB8 := hide (HB7.out.trans hb)
  have n3 : v8.cell? ⟨g, 3, none⟩ = some (.string o.to) := op_cells H8.out HQ1.out 3
  replace hc := told_any H8.out HI1.out HJ1.out o.to HOP.out.to
  clear h hb H7 HB7 n2
  go_wp2_with fail
  refine hc.mono ?_
  rintro e v9 ⟨rfl, h, hb⟩
  have H9 := hide h
  have HB9 := hide (HB8.out.trans hb)
  clear h hb hc n3
  go_wp2
  go_ret
  exact HFIN.out _ _ HE.out HEM.out rfl H9.out HB9.out
end
section
variable {B : Nat} {w : World} {L : List Item} {i j p r : Nat} {A : AD}
theorem Lies.unmid {L : List Item} {X Y : Item} (h : Lies B w (L ++ [X] ++ [Y])) : Lies B w (L ++ [Y]) := by
  refine h.pick (fun q => if q < L.length then q else L.length + 1) (fun a b ha hb e => ?_) (fun q x hq => ?_)
  · simp at ha hb
    split at e <;> split at e <;> omega
  · have hl := (List.getElem?_eq_some_iff.1 hq).1
    simp at hl
    by_cases e : q < L.length
    · rw [if_pos e, List.append_assoc, List.getElem?_append_left e]
      rw [List.getElem?_append_left e] at hq
      exact hq
    · rw [if_neg e]
      have : q = L.length := by omega
      subst this
      rw [List.getElem?_append_right (Nat.le_refl _)] at hq
      simp at hq
      subst hq
      simp
set_option maxRecDepth 5000 in
set_option maxHeartbeats 8000000 in
theorem copied_any (h : Lies B w L) (hi : L[i]? = some (.disk p A)) (hj : L[j]? = some (.ref r A)) (hij : i ≠ j) (o : OP) (hop : o.Ok) :
    Calls Tryz.prog 7 #[.pointer (some ⟨p, 0, none⟩), .pointer (some ⟨r, 0, none⟩), .agg o.cs] w fun e w' => ∃ pc A', e = .returned (.tuple #[.pointer (some ⟨pc, 0, none⟩), .bool true]) ∧ Lies B w' (L.set i (Item.disk p A') ++ [.disk pc A]) ∧ Below B w w' := by
  obtain ⟨g, hg⟩ : ∃ g, w.heap.size = g := ⟨_, rfl⟩
  obtain ⟨w0, hw0⟩ : ∃ w0, w.alloc (.cells o.cs 33) = w0 := ⟨_, rfl⟩
  have hb0 : Below w.heap.size w w0 := by rw [← hw0]; exact (Below.refl _ _).alloc (Nat.le_refl _) _
  have hk0 : w0.heap[g]? = some (.cells o.cs 33 (0, 0)) := by rw [← hw0, ← hg]; exact heap_alloc_new w _
  have h0 : Lies B w0 (L ++ [Item.block g (.cells o.cs 33 (0, 0))]) := h.push (S' := fun b => b = g) hb0 ⟨hk0, fun _ => Iff.rfl⟩ (fun b hb => by rw [hb, hg]; exact Nat.le_refl _)
  have hB0 := hb0.mono h.base
  have HB0 := hide hB0
  have HI := hide hi
  have HJ := hide hj
  have HIJ := hide hij
  have HOP := hide hop
  have hc := s_copy h0 (get_push hi)
  unfold OP.cs at hw0 ⊢
  clear h hi hj hij hop hb0 hk0 h0 hB0
  go_enter Tryz.func7, Tryz.ntmps7
  go_wp2_with fail
  refine hc.mono ?_
  rintro e w1 ⟨pc, rfl, h, hb⟩
  have SP : Hid (∀ (M : List Item) (X Y : Item) (Z : Item), M[i]? = some X → (M ++ [Y] ++ [Z]).set i X = M ++ [Y] ++ [Z]) := fun M X Y Z hM => by rw [set_push (get_push hM), set_push hM, set_same hM]
  have STEP : Hid (∀ (A1 A2 : AD), ((L.set i (Item.disk p A1)) ++ [Item.block g (.cells o.cs 33 (0, 0))] ++ [Item.disk pc A]).set i (.disk p A2) = (L.set i (Item.disk p A2)) ++ [Item.block g (.cells o.cs 33 (0, 0))] ++ [Item.disk pc A]) := fun A1 A2 => by
    have hM := get_set HI.out (Item.disk p A1)
    rw [set_push (get_push hM), set_push hM, List.set_set]
  have GI : Hid (∀ A1 : AD, ((L.set i (Item.disk p A1)) ++ [Item.block g (.cells o.cs 33 (0, 0))] ++ [Item.disk pc A])[i]? = some (.disk p A1)) := fun A1 => get_push (get_push (get_set HI.out _))
  have GQ : Hid (∀ A1 : AD, ((L.set i (Item.disk p A1)) ++ [Item.block g (.cells o.cs 33 (0, 0))] ++ [Item.disk pc A])[L.length]? = some (Item.block g (.cells o.cs 33 (0, 0)))) := fun A1 => by
    have := get_push (M := [Item.disk pc A]) (get_last (L.set i (Item.disk p A1)) (Item.block g (.cells o.cs 33 (0, 0))))
    rw [List.length_set] at this
    exact this
  have GJ : Hid (∀ A1 : AD, ((L.set i (Item.disk p A1)) ++ [Item.block g (.cells o.cs 33 (0, 0))] ++ [Item.disk pc A])[j]? = some (.ref r A)) := fun A1 => get_push (get_push (get_set_ne HJ.out HIJ.out))
  have GC : Hid (∀ A1 : AD, ((L.set i (Item.disk p A1)) ++ [Item.block g (.cells o.cs 33 (0, 0))] ++ [Item.disk pc A])[L.length + 1]? = some (.disk pc A)) := fun A1 => by
    have := get_last (L.set i (Item.disk p A1) ++ [Item.block g (.cells o.cs 33 (0, 0))]) (Item.disk pc A)
    rw [show (L.set i (Item.disk p A1) ++ [Item.block g (.cells o.cs 33 (0, 0))]).length = L.length + 1 by simp] at this
    exact this
  have h1 : Lies B w1 ((L.set i (Item.disk p A)) ++ [Item.block g (.cells o.cs 33 (0, 0))] ++ [Item.disk pc A]) := by rw [set_same HI.out]; exact h
  have HB1 := hide (HB0.out.trans hb)
  have m2 : w1.cell? ⟨g, 2, none⟩ = some (.string o.name) := op_cells h1 (GQ.out A) 2
  obtain ⟨A2, hA2⟩ : ∃ A2, (A.write o.name.data.toList 0 [119, 114, 105, 116, 116, 101, 110]).2 = A2 := ⟨_, rfl⟩
  replace hc := s_write h1 (GI.out A) o.name HOP.out.name 0 (by decide) ⟨#[119, 114, 105, 116, 116, 101, 110]⟩ (by decide)
  rw [show (⟨#[119, 114, 105, 116, 116, 101, 110]⟩ : ByteArray).data.toList = [119, 114, 105, 116, 116, 101, 110] from rfl, hA2, STEP.out] at hc
  clear h hb h1 hA2 HB0 SP
  go_wp2_with fail
  refine hc.mono ?_
  rintro e w2 ⟨rfl, h, hb⟩
  have HB2 := hide (HB1.out.trans hb)
  have m3 : w2.cell? ⟨g, 2, none⟩ = some (.string o.name) := op_cells h (GQ.out A2) 2
  obtain ⟨A3, hA3⟩ : ∃ A3, (A2.sync o.name.data.toList).2 = A3 := ⟨_, rfl⟩
  replace hc := s_sync h (GI.out A2) o.name HOP.out.name
  rw [hA3, STEP.out] at hc
  clear h hb hA3 HB1 m2
  go_wp2_with fail
  refine hc.mono ?_
  rintro e w3 ⟨rfl, h, hb⟩
  have HB3 := hide (HB2.out.trans hb)
  have m4 : w3.cell? ⟨g, 3, none⟩ = some (.string o.to) := op_cells h (GQ.out A3) 3
  obtain ⟨A4, hA4⟩ : ∃ A4, (A3.remove o.to.data.toList).2 = A4 := ⟨_, rfl⟩
  replace hc := s_remove h (GI.out A3) o.to HOP.out.to
  rw [hA4, STEP.out] at hc
  clear h hb hA4 HB2 m3
  go_wp2_with fail
  refine hc.mono ?_
  rintro e w4 ⟨rfl, h, hb⟩
  have HB4 := hide (HB3.out.trans hb)
  replace hc := s_arm h (GI.out A4) 1 0 (by decide)
  rw [STEP.out] at hc
  clear h hb HB3 m4
  go_wp2_with fail
  refine hc.mono ?_
  rintro e w5 ⟨rfl, h, hb⟩
  have HB5 := hide (HB4.out.trans hb)
  replace hc := s_crash0 h (GI.out _)
  rw [STEP.out] at hc
  clear h hb HB4
  go_wp2_with fail
  refine hc.mono ?_
  rintro e w6 ⟨rfl, h, hb⟩
  have HB6 := hide (HB5.out.trans hb)
  obtain ⟨A5, hA5⟩ : ∃ A5, (A4.armed 1 0).crash [] = A5 := ⟨_, rfl⟩
  rw [hA5] at h
  obtain ⟨M1, hM1⟩ : ∃ M1, (L.set i (Item.disk p A5)) ++ [Item.block g (.cells o.cs 33 (0, 0))] ++ [Item.disk pc A] = M1 := ⟨_, rfl⟩
  have H1 : Hid (Lies B w6 M1) := by rw [← hM1]; exact h
  have I1 : M1[L.length + 1]? = some (.disk pc A) := by rw [← hM1]; exact GC.out A5
  have J1 : M1[j]? = some (.ref r A) := by rw [← hM1]; exact GJ.out A5
  have Q1 : M1[L.length]? = some (Item.block g (.cells o.cs 33 (0, 0))) := by rw [← hM1]; exact GQ.out A5
  have HM1 := hide hM1
  have HB1 := HB6
  clear h hb hA5 hM1 hc HB5 HB6 STEP GI GQ GJ GC
  have hok1 := H1.out.ok I1
  have HOK1 := hide hok1
  obtain ⟨bo, hbo⟩ : ∃ b, A.pow.off = b := ⟨_, rfl⟩
  obtain ⟨us, hus⟩ : ∃ n, (fused A.fs : Int) = n := ⟨_, rfl⟩
  obtain ⟨ks, hks⟩ : ∃ ks, A.list = ks := ⟨_, rfl⟩
  have hlm : (ks.map encStr).length = ks.length := List.length_map ..
  have hkm : ks.length ≤ maxLen := by rw [← hks]; exact list_len hok1
  have db : (ks == ks) = true := by simp
  have HBO := hide hbo; have HUS := hide hus; have HKS := hide hks
  have HI1 := hide I1; have HJ1 := hide J1; have HQ1 := hide Q1
  clear hok1 hbo hus hks I1 J1 Q1
  have hc := s_off H1.out HI1.out
  rw [HBO.out] at hc
  go_wp2_with fail
  refine hc.mono ?_
  rintro e v1 ⟨rfl, rfl⟩
  replace hc := r_off H1.out HJ1.out
  rw [HBO.out] at hc
  go_wp2_with fail
  refine hc.mono ?_
  rintro e v2 ⟨rfl, rfl⟩
  replace hc := s_used H1.out HI1.out
  rw [HUS.out] at hc
  go_wp2_with fail
  refine hc.mono ?_
  rintro e v3 ⟨rfl, h, hb⟩
  have H3 := hide h
  have HB3 := hide (HB1.out.trans hb)
  clear h hb H1 HB1
  replace hc := r_used H3.out HJ1.out HOK1.out
  rw [HUS.out] at hc
  go_wp2_with fail
  refine hc.mono ?_
  rintro e v4 ⟨rfl, rfl⟩
  replace hc := s_list H3.out HI1.out
  rw [HKS.out] at hc
  go_wp2_with fail
  refine hc.mono ?_
  rintro e v5 ⟨x5, rfl, hr, h, hb⟩
  rw [hlm] at hr
  obtain ⟨ad5, cap5, e5, _, _, _⟩ := row_at hr
  subst e5
  have HB5 := hide (HB3.out.trans hb)
  replace hc := r_list h (get_push HJ1.out) HOK1.out
  rw [HKS.out] at hc
  clear h hb hr H3 HB3
  go_wp2_with fail
  refine hc.mono ?_
  rintro e v6 ⟨x6, rfl, hr, h, hb⟩
  rw [hlm] at hr
  obtain ⟨ad6, cap6, e6, hr6, _, _⟩ := row_at hr
  subst e6
  have hr5 := h.rowOf (get_push (get_last M1 _))
  rw [hlm] at hr5
  obtain ⟨_, _, en, hr5', _, _⟩ := row_at hr5
  cases en
  have HB6 := hide (HB5.out.trans hb)
  replace hc := sameTexts_any v6 ad5 ad6 cap5 cap6 ks ks hr5' hr6 hkm hkm
  rw [db] at hc
  have H6 := hide h.drop.drop
  clear h hb hr hr5 hr5' hr6 HB5
  go_wp2_with fail
  refine hc.mono ?_
  rintro e v7 ⟨rfl, hb⟩
  have H7 := hide (H6.out.below hb)
  have HB7 := hide (HB6.out.trans (hb.mono H6.out.base))
  have n2 : v7.cell? ⟨g, 2, none⟩ = some (.string o.name) := op_cells H7.out HQ1.out 2
  replace hc := told_any H7.out HI1.out HJ1.out o.name HOP.out.name
  clear hb H6 HB6
  go_wp2_with fail
  refine hc.mono ?_
  rintro e v8 ⟨rfl, h, hb⟩
  have H8 := hide h
  have HB8 := hide (HB7.out.trans hb)
  have n3 : v8.cell? ⟨g, 3, none⟩ = some (.string o.to) := op_cells H8.out HQ1.out 3
  replace hc := told_any H8.out HI1.out HJ1.out o.to HOP.out.to
  clear h hb H7 HB7 n2
  go_wp2_with fail
  refine hc.mono ?_
  rintro e v9 ⟨rfl, h, hb⟩
  have H9 := hide h
  have HB9 := hide (HB8.out.trans hb)
  clear h hb hc n3
  go_wp2
  go_ret2
  refine ⟨pc, A5, rfl, ?_, HB9.out⟩
  have := H9.out
  rw [← HM1.out] at this
  exact this.unmid
end
end Go.Proofs.YtcmhfpiglacdaaaGreat
