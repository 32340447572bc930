/-
  GateOne (printed by gen_g2.py).
-/
import Derived.Test.YtnmoheipfadmeaaGtOneS
namespace Go.Proofs.Ytnmoheipfadmeaa
open Go.RowKit S
set_option linter.unusedVariables false
set_option linter.unusedSimpArgs false
set_option maxRecDepth 100000 in
set_option maxHeartbeats 40000000 in
theorem one_walk (mk : Int) (s : St) (i na nb ma mb ot : Int) (w : World) (hi : -9223372036854775808 ≤ i ∧ i ≤ 9223372036854775807) (hot : -9223372036854775808 ≤ ot ∧ ot ≤ 9223372036854775807) : Calls Try.prog 4 #[.int .i64 mk, .agg (tabv s.v 115), .int .i64 i, .agg #[.int .i64 na, .int .i64 nb], .agg #[.int .i64 ma, .int .i64 mb], .int .i64 ot] w fun e w' => e = .returned (.bool true) ∧ Below w.heap.size w w' := by
  obtain ⟨w1, hW1⟩ : ∃ x, w.alloc (.cells (tabv s.v 115) 30) = x := ⟨_, rfl⟩
  have r1 : Has w1 w.heap.size 30 s.v 115 := by rw [← hW1]; exact Has.new w 30 s.v 115 _ rfl
  have b1 : Below w.heap.size w w1 := by rw [← hW1]; exact (Below.refl w.heap.size w).alloc (Nat.le_refl _) _
  obtain ⟨w2, hW2⟩ : ∃ x, w1.alloc (.cells #[.int .i64 na, .int .i64 nb] 24) = x := ⟨_, rfl⟩
  have r2 : Has w2 w1.heap.size 24 (Ctv na nb) 2 := by rw [← hW2]; exact Has.new w1 _ (Ctv na nb) 2 _ rfl
  have b2 : Below w1.heap.size w1 w2 := by rw [← hW2]; exact (Below.refl w1.heap.size w1).alloc (Nat.le_refl _) _
  obtain ⟨w3, hW3⟩ : ∃ x, w2.alloc (.cells #[.int .i64 ma, .int .i64 mb] 24) = x := ⟨_, rfl⟩
  have r3 : Has w3 w2.heap.size 24 (Ctv ma mb) 2 := by rw [← hW3]; exact Has.new w2 _ (Ctv ma mb) 2 _ rfl
  have b3 : Below w2.heap.size w2 w3 := by rw [← hW3]; exact (Below.refl w2.heap.size w2).alloc (Nat.le_refl _) _
  have R1_s := hide ((r1.below b2 r1.lt).below b3 (Nat.lt_of_lt_of_le r1.lt b2.size))
  have R1_n := hide (r2.below b3 r2.lt)
  have R1_m := hide r3
  have B1 := hide (below2 (below2 b1 b2) b3)
  clear r1 r2 r3 b1 b2 b3
  have hc7 : ∀ wx, Has wx w.heap.size 30 s.v 115 → wx.cell? ⟨w.heap.size, 7, none⟩ = some (.int .i64 s.rem) := fun wx h => h.cell 7 (by omega)
  have hc8 : ∀ wx, Has wx w.heap.size 30 s.v 115 → wx.cell? ⟨w.heap.size, 8, none⟩ = some (.int .i64 s.ack) := fun wx h => h.cell 8 (by omega)
  have hc11 : ∀ wx, Has wx w.heap.size 30 s.v 115 → wx.cell? ⟨w.heap.size, 11, none⟩ = some (.int .i64 s.so) := fun wx h => h.cell 11 (by omega)
  have hc12 : ∀ wx, Has wx w.heap.size 30 s.v 115 → wx.cell? ⟨w.heap.size, 12, none⟩ = some (.int .i64 s.sp) := fun wx h => h.cell 12 (by omega)
  have hc4 : ∀ wx, Has wx w.heap.size 30 s.v 115 → wx.cell? ⟨w.heap.size, 4, none⟩ = some (.slice s.ours.ad s.ours.n s.ours.c) := fun wx h => h.cell 4 (by omega)
  have ht7 : ∀ wx bt, Has wx bt 30 (s.sgn i na nb).v 115 → wx.cell? ⟨bt, 7, none⟩ = some (.int .i64 i) := fun wx bt h => h.cell 7 (by omega)
  have ht8 : ∀ wx bt, Has wx bt 30 (s.sgn i na nb).v 115 → wx.cell? ⟨bt, 8, none⟩ = some (.int .i64 s.ack) := fun wx bt h => h.cell 8 (by omega)
  have HO1 : ∀ w, Calls Try.prog 6 #[.int .i64 mk, .agg (tabv s.v 115)] w fun e w' => e = .returned (.agg #[.int .i64 mk, .int .i64 s.loc, .int .i64 s.rem, .int .i64 s.ack, .int .i64 s.so, .int .i64 s.sp, .int .i64 (s.ours.n : Int), .int .i64 s.ap, .int .i64 s.fail, .int .i64 s.closed]) ∧ Below w.heap.size w w' := fun w => of_any mk s w
  have HO2 : ∀ w, Calls Try.prog 6 #[.int .i64 mk, .agg (tabv (s.sgn i na nb).v 115)] w fun e w' => e = .returned (.agg #[.int .i64 mk, .int .i64 s.loc, .int .i64 i, .int .i64 s.ack, .int .i64 na, .int .i64 nb, .int .i64 (s.ours.n : Int), .int .i64 s.ap, .int .i64 s.fail, .int .i64 s.closed]) ∧ Below w.heap.size w w' := fun w => of_any mk (s.sgn i na nb) w
  obtain ⟨vg1, eg1⟩ : ∃ x, Gt.sign (gOf mk s) i na nb = x := ⟨_, rfl⟩
  have Hg1 : ∀ w, Calls Try.prog 10 #[.agg #[.int .i64 mk, .int .i64 s.loc, .int .i64 s.rem, .int .i64 s.ack, .int .i64 s.so, .int .i64 s.sp, .int .i64 (s.ours.n : Int), .int .i64 s.ap, .int .i64 s.fail, .int .i64 s.closed], .int .i64 i, .agg #[.int .i64 na, .int .i64 nb]] w fun e w' => e = .returned (.bool vg1) ∧ Below w.heap.size w w' := fun w => by have h := sign_any (gOf mk s) i na nb w; rw [eg1] at h; exact h
  obtain ⟨vh1, eh1⟩ : ∃ x, Gt.sign (gOf mk (s.sgn i na nb)) i na nb = x := ⟨_, rfl⟩
  have Hh1 : ∀ w, Calls Try.prog 10 #[.agg #[.int .i64 mk, .int .i64 s.loc, .int .i64 i, .int .i64 s.ack, .int .i64 na, .int .i64 nb, .int .i64 (s.ours.n : Int), .int .i64 s.ap, .int .i64 s.fail, .int .i64 s.closed], .int .i64 i, .agg #[.int .i64 na, .int .i64 nb]] w fun e w' => e = .returned (.bool vh1) ∧ Below w.heap.size w w' := fun w => by have h := sign_any (gOf mk (s.sgn i na nb)) i na nb w; rw [eh1] at h; exact h
  obtain ⟨vh2, eh2⟩ : ∃ x, Gt.sign (gOf mk (s.sgn i na nb)) i ma mb = x := ⟨_, rfl⟩
  have Hh2 : ∀ w, Calls Try.prog 10 #[.agg #[.int .i64 mk, .int .i64 s.loc, .int .i64 i, .int .i64 s.ack, .int .i64 na, .int .i64 nb, .int .i64 (s.ours.n : Int), .int .i64 s.ap, .int .i64 s.fail, .int .i64 s.closed], .int .i64 i, .agg #[.int .i64 ma, .int .i64 mb]] w fun e w' => e = .returned (.bool vh2) ∧ Below w.heap.size w w' := fun w => by have h := sign_any (gOf mk (s.sgn i na nb)) i ma mb w; rw [eh2] at h; exact h
  obtain ⟨vh3, eh3⟩ : ∃ x, Gt.sign (gOf mk (s.sgn i na nb)) ot ma mb = x := ⟨_, rfl⟩
  have Hh3 : ∀ w, Calls Try.prog 10 #[.agg #[.int .i64 mk, .int .i64 s.loc, .int .i64 i, .int .i64 s.ack, .int .i64 na, .int .i64 nb, .int .i64 (s.ours.n : Int), .int .i64 s.ap, .int .i64 s.fail, .int .i64 s.closed], .int .i64 ot, .agg #[.int .i64 ma, .int .i64 mb]] w fun e w' => e = .returned (.bool vh3) ∧ Below w.heap.size w w' := fun w => by have h := sign_any (gOf mk (s.sgn i na nb)) ot ma mb w; rw [eh3] at h; exact h
  have k1 : vg1 = true → 1 ≤ i ∧ vh1 = true ∧ ((i = s.rem ∧ na = s.so ∧ nb = s.sp) ∨ (s.rem = s.ack ∧ i - 1 = s.rem ∧ na ≤ (s.ours.n : Int) ∧ ¬(na = s.so ∧ nb = s.sp))) := by
    intro h
    rw [← eg1] at h
    obtain ⟨f1, f2, f3, f4⟩ := on1 h
    refine ⟨f3, by rw [← eh1]; exact on2 (g := gOf mk (s.sgn i na nb)) f1 f2 f3 rfl rfl rfl, ?_⟩
    rcases f4 with f4 | ⟨f4, f5, _, f6, _, f7⟩
    · exact .inl f4
    · rw [wrap_one f3 hi.2] at f5
      exact .inr ⟨f4, f5, f6, f7⟩
  have k3 : vh2 = true → ma = na ∧ mb = nb := by
    intro h
    rw [← eh2] at h
    rcases on3 (g := gOf mk (s.sgn i na nb)) (i := i) (a := na) (b := nb) rfl rfl rfl hi.2 h with f | f
    · exact f.2
    · exact absurd f.2 (by omega)
  have k4 : vh3 = true → ot = i ∨ (s.ack = i ∧ i < ot) := by
    intro h
    rw [← eh3] at h
    rcases on3 (g := gOf mk (s.sgn i na nb)) (i := i) (a := na) (b := nb) rfl rfl rfl hot.2 h with f | f
    · exact .inl f.1
    · exact .inr f
  clear eg1 eh1 eh2 eh3
  generalize s.loc = lo at HO1 Hg1 HO2 Hh1 Hh2 Hh3
  generalize s.rem = re at HO1 Hg1 hc7 k1
  generalize s.ack = ak at HO1 Hg1 HO2 Hh1 Hh2 Hh3 hc8 ht8 k1 k4
  generalize s.so = so at HO1 Hg1 hc11 k1
  generalize s.sp = sp at HO1 Hg1 hc12 k1
  generalize s.ours.n = n at HO1 Hg1 HO2 Hh1 Hh2 Hh3 hc4 k1
  generalize s.ap = ap at HO1 Hg1 HO2 Hh1 Hh2 Hh3
  generalize s.fail = fa at HO1 Hg1 HO2 Hh1 Hh2 Hh3
  generalize s.closed = cl at HO1 Hg1 HO2 Hh1 Hh2 Hh3
  generalize s.ours.ad = oa at hc4
  generalize s.ours.c = oc at hc4
  replace HO1 := hide HO1
  replace HO2 := hide HO2
  replace Hg1 := hide Hg1
  replace Hh1 := hide Hh1
  replace Hh2 := hide Hh2
  replace Hh3 := hide Hh3
  replace k1 := hide k1
  replace k3 := hide k3
  replace k4 := hide k4
  replace hc4 := hide hc4
  replace hc7 := hide hc7
  replace hc8 := hide hc8
  replace hc11 := hide hc11
  replace hc12 := hide hc12
  replace ht7 := hide ht7
  replace ht8 := hide ht8
  replace hi := hide hi
  replace hot := hide hot
  go_enter Try.func4, Try.ntmps4
  go_wp2_with (first | (refine wpW_st _ rfl w.heap.size rfl rfl s R1_s.out ?_) | fail)
  refine (HO1.out _).mono ?_
  rintro e wog ⟨rfl, hbo⟩
  obtain ⟨wA, hWgg, bg, lg, rg⟩ := newGt wog (⟨mk, lo, re, ak, so, sp, n, ap, fa, cl⟩ : Gt)
  have hWgg : wog.alloc (.cells #[.int .i64 mk, .int .i64 lo, .int .i64 re, .int .i64 ak, .int .i64 so, .int .i64 sp, .int .i64 (n : Int), .int .i64 ap, .int .i64 fa, .int .i64 cl] 32) = wA := hWgg
  have BwA := hide (B1.out.trans ((below2 hbo bg).mono B1.out.size))
  have RwA_s := hide (R1_s.out.below (below2 hbo bg) R1_s.out.lt)
  have RwA_n := hide (R1_n.out.below (below2 hbo bg) R1_n.out.lt)
  have RwA_m := hide (R1_m.out.below (below2 hbo bg) R1_m.out.lt)
  have RwA_g := hide rg
  clear hbo bg lg rg R1_s R1_n R1_m
  go_wp2_with (first | (rw [hWgg]) | fail)
  refine (first_any _).mono ?_
  rintro e wB ⟨rfl, hb⟩
  have RwB_s := hide (RwA_s.out.below hb RwA_s.out.lt)
  have RwB_n := hide (RwA_n.out.below hb RwA_n.out.lt)
  have RwB_m := hide (RwA_m.out.below hb RwA_m.out.lt)
  have RwB_g := hide (RwA_g.out.below hb RwA_g.out.lt)
  have BwB := hide (BwA.out.trans (hb.mono BwA.out.size))
  clear hb
  have zwB_g0 : wB.cell? ⟨wog.heap.size, 0, none⟩ = some (.int .i64 mk) := RwB_g.out.cell 0 (by omega)
  have zwB_g1 : wB.cell? ⟨wog.heap.size, 1, none⟩ = some (.int .i64 lo) := RwB_g.out.cell 1 (by omega)
  have zwB_g2 : wB.cell? ⟨wog.heap.size, 2, none⟩ = some (.int .i64 re) := RwB_g.out.cell 2 (by omega)
  have zwB_g3 : wB.cell? ⟨wog.heap.size, 3, none⟩ = some (.int .i64 ak) := RwB_g.out.cell 3 (by omega)
  have zwB_g4 : wB.cell? ⟨wog.heap.size, 4, none⟩ = some (.int .i64 so) := RwB_g.out.cell 4 (by omega)
  have zwB_g5 : wB.cell? ⟨wog.heap.size, 5, none⟩ = some (.int .i64 sp) := RwB_g.out.cell 5 (by omega)
  have zwB_g6 : wB.cell? ⟨wog.heap.size, 6, none⟩ = some (.int .i64 (n : Int)) := RwB_g.out.cell 6 (by omega)
  have zwB_g7 : wB.cell? ⟨wog.heap.size, 7, none⟩ = some (.int .i64 ap) := RwB_g.out.cell 7 (by omega)
  have zwB_g8 : wB.cell? ⟨wog.heap.size, 8, none⟩ = some (.int .i64 fa) := RwB_g.out.cell 8 (by omega)
  have zwB_g9 : wB.cell? ⟨wog.heap.size, 9, none⟩ = some (.int .i64 cl) := RwB_g.out.cell 9 (by omega)
  have zwB_n0 : wB.cell? ⟨w1.heap.size, 0, none⟩ = some (.int .i64 na) := RwB_n.out.cell 0 (by omega)
  have zwB_n1 : wB.cell? ⟨w1.heap.size, 1, none⟩ = some (.int .i64 nb) := RwB_n.out.cell 1 (by omega)
  go_wp2_with fail
  refine (Hg1.out _).mono ?_
  rintro e wC ⟨rfl, hb⟩
  clear zwB_g0 zwB_g1 zwB_g2 zwB_g3 zwB_g4 zwB_g5 zwB_g6 zwB_g7 zwB_g8 zwB_g9 zwB_n0 zwB_n1
  have RwC_s := hide (RwB_s.out.below hb RwB_s.out.lt)
  have RwC_n := hide (RwB_n.out.below hb RwB_n.out.lt)
  have RwC_m := hide (RwB_m.out.below hb RwB_m.out.lt)
  have RwC_g := hide (RwB_g.out.below hb RwB_g.out.lt)
  have BwC := hide (BwB.out.trans (hb.mono BwB.out.size))
  clear hb
  cases hv : vg1 with
  | false =>
    subst hv
    go_wp2
    go_ret
    exact ⟨rfl, BwC.out⟩
  | true =>
  subst hv
  obtain ⟨q1, q2, q3⟩ := k1.out rfl
  subst q2
  have Q3 := hide q3
  clear q3
  have p1 : decide (i < 1) = false := decide_eq_false (by omega)
  have Q1 := hide q1
  clear q1
  go_upto_region 6 with fail
  go_cut [79] from 16 (fun sC wx => sC = .bool false ∧ wx = wC)
  case first =>
    have zwC_s7 : wC.cell? ⟨w.heap.size, 7, none⟩ = some (.int .i64 re) := hc7.out _ RwC_s.out
    have zwC_s8 : wC.cell? ⟨w.heap.size, 8, none⟩ = some (.int .i64 ak) := hc8.out _ RwC_s.out
    have zwC_s11 : wC.cell? ⟨w.heap.size, 11, none⟩ = some (.int .i64 so) := hc11.out _ RwC_s.out
    have zwC_s12 : wC.cell? ⟨w.heap.size, 12, none⟩ = some (.int .i64 sp) := hc12.out _ RwC_s.out
    have zwC_s4 : wC.cell? ⟨w.heap.size, 4, none⟩ = some (.slice oa n oc) := hc4.out _ RwC_s.out
    have zwC_n0 : wC.cell? ⟨w1.heap.size, 0, none⟩ = some (.int .i64 na) := RwC_n.out.cell 0 (by omega)
    have zwC_n1 : wC.cell? ⟨w1.heap.size, 1, none⟩ = some (.int .i64 nb) := RwC_n.out.cell 1 (by omega)
    rcases Q3.out with ⟨e1, e2, e3⟩ | ⟨e1, e2, e3, e4⟩
    · have p2 : (i != re) = false := by rw [e1]; simp
      have p3 : (i == re) = true := by rw [e1]; simp
      have p4 : (na == so) = true := by rw [e2]; simp
      have p5 : (nb == sp) = true := by rw [e3]; simp
      have p6 : (na != so) = false := by rw [e2]; simp
      have p7 : (nb != sp) = false := by rw [e3]; simp
      clear e1 e2 e3
      go_wp2_with fail
      go_meet
      exact ⟨rfl, rfl⟩
    · have p2 : (i != re) = true := by simp; omega
      have p3 : (i == re) = false := by simp; omega
      have p8 : (wrap64 (i - 1) != re) = false := by rw [wrap_one Q1.out hi.out.2, e2]; simp
      have p9 : (i - 1 != re) = false := by rw [e2]; simp
      have pa : (re != ak) = false := by rw [e1]; simp
      have pb : decide (na > (n : Int)) = false := decide_eq_false (by omega)
      have pc : decide ((n : Int) < na) = false := decide_eq_false (by omega)
      have E4 := hide e4
      clear e1 e2 e3 e4
      cases p4 : (na == so) with
      | false =>
        go_wp2_with fail
        go_meet
        exact ⟨rfl, rfl⟩
      | true =>
        have p5 : (nb == sp) = false := by have h1 := E4.out; have h2 := p4; simp at h1 h2 ⊢; exact h1 h2
        go_wp2_with fail
        go_meet
        exact ⟨rfl, rfl⟩
  case rest =>
  obtain ⟨rfl, hwc⟩ := hcut
  obtain rfl := hwc.symm
  clear hwc
  obtain ⟨V1, V2, hV1, rV1, hV2, rV2, bV2⟩ := copySt wC s
  have RV1 := hide rV1
  obtain ⟨V3, V4, hV3, rV3, hV4, rV4, bV4⟩ := signSt rV2 i na nb
  have fz7 : V2.frozen? ⟨wC.heap.size, 7, none⟩ = false := rV2.frozen 7
  have cz7 : V2.cell? ⟨wC.heap.size, 7, none⟩ = some (.int .i64 s.rem) := rV2.cell 7 (by omega)
  have fz11 : V3.frozen? ⟨wC.heap.size, 11, none⟩ = false := rV3.frozen 11
  have cz11 : V3.cell? ⟨wC.heap.size, 11, none⟩ = some (.int .i64 s.so) := rV3.cell 11 (by omega)
  have fz12 : (V3.setCell ⟨wC.heap.size, 11, none⟩ (.int .i64 na)).frozen? ⟨wC.heap.size, 12, none⟩ = false := (rV3.set 11 _).frozen 12
  have cz12 : (V3.setCell ⟨wC.heap.size, 11, none⟩ (.int .i64 na)).cell? ⟨wC.heap.size, 12, none⟩ = some (.int .i64 s.sp) := (rV3.set 11 _).cell 12 (by omega)
  generalize s.rem = zr at cz7
  generalize s.so = zo at cz11
  generalize s.sp = zp at cz12
  have BV := hide (bV4 _ _ (Nat.le_refl _) bV2)
  have b3 : Below wC.heap.size wC V3 := by rw [← hV3]; exact bV2.setCell (p := ⟨wC.heap.size, 7, none⟩) (Nat.le_refl _) _
  have RV3_n := hide (RwC_n.out.below b3 RwC_n.out.lt)
  have c3a : V3.cell? ⟨w1.heap.size, 0, none⟩ = some (.int .i64 na) := RV3_n.out.cell 0 (by omega)
  have c3b : V3.cell? ⟨w1.heap.size, 1, none⟩ = some (.int .i64 nb) := RV3_n.out.cell 1 (by omega)
  have RV_t := hide rV4
  clear rV1 rV2 rV3 rV4 bV2 bV4 b3 RV3_n
  have RV_s := hide (RwC_s.out.below BV.out RwC_s.out.lt)
  have RV_n := hide (RwC_n.out.below BV.out RwC_n.out.lt)
  have RV_m := hide (RwC_m.out.below BV.out RwC_m.out.lt)
  have RV_g := hide (RwC_g.out.below BV.out RwC_g.out.lt)
  have BV4 := hide (BwC.out.trans (BV.out.mono BwC.out.size))
  have tz7 : V4.cell? ⟨wC.heap.size, 7, none⟩ = some (.int .i64 i) := ht7.out _ _ RV_t.out
  have tz8 : V4.cell? ⟨wC.heap.size, 8, none⟩ = some (.int .i64 ak) := ht8.out _ _ RV_t.out
  have sz7 : V4.cell? ⟨w.heap.size, 7, none⟩ = some (.int .i64 re) := hc7.out _ RV_s.out
  go_upto_region 11 with (first | (rw [hV4]) | (rw [hV3]) | (refine wpW_st _ rfl w.heap.size rfl rfl s RwC_s.out ?_) | (refine wpList_alloc_z rfl 30 zS.v 115 infoStz rfl ?_; rw [hV1]) | (refine wpList_storeSt rfl _ _ rfl rfl wC.heap.size s rfl rfl zS.v RV1.out ?_; rw [hV2]) | fail)
  try rw [hV4]
  clear fz7 cz7 fz11 cz11 fz12 cz12 c3a c3b
  go_cut [95] from 16 (fun sC wx => sC = .bool false ∧ wx = V4)
  case first =>
    rcases Q3.out with ⟨e1, e2, e3⟩ | ⟨e1, e2, e3, e4⟩
    · have p2 : (i != re) = false := by rw [e1]; simp
      clear e1 e2 e3
      cases p4 : (i == ak) with
      | false =>
        go_wp2_with fail
        go_meet
        exact ⟨rfl, rfl⟩
      | true =>
        go_wp2_with fail
        go_meet
        exact ⟨rfl, rfl⟩
    · have p2 : (i == ak) = false := by simp; omega
      clear e1 e2 e3 e4
      go_wp2_with fail
      go_meet
      exact ⟨rfl, rfl⟩
  case rest =>
  obtain ⟨rfl, hwc⟩ := hcut
  obtain rfl := hwc.symm
  clear hwc tz7 tz8 sz7
  clear RwC_s RwC_n RwC_m RwC_g BV
  go_wp2_with (first | (refine wpW_st _ rfl wC.heap.size rfl rfl (s.sgn i na nb) RV_t.out ?_) | fail)
  refine (HO2.out _).mono ?_
  rintro e woh ⟨rfl, hbo⟩
  obtain ⟨wD, hWgh, bg, lg, rg⟩ := newGt woh (⟨mk, lo, i, ak, na, nb, n, ap, fa, cl⟩ : Gt)
  have hWgh : woh.alloc (.cells #[.int .i64 mk, .int .i64 lo, .int .i64 i, .int .i64 ak, .int .i64 na, .int .i64 nb, .int .i64 (n : Int), .int .i64 ap, .int .i64 fa, .int .i64 cl] 32) = wD := hWgh
  have BwD := hide (BV4.out.trans ((below2 hbo bg).mono BV4.out.size))
  have RwD_s := hide (RV_s.out.below (below2 hbo bg) RV_s.out.lt)
  have RwD_n := hide (RV_n.out.below (below2 hbo bg) RV_n.out.lt)
  have RwD_m := hide (RV_m.out.below (below2 hbo bg) RV_m.out.lt)
  have RwD_g := hide (RV_g.out.below (below2 hbo bg) RV_g.out.lt)
  have RwD_t := hide (RV_t.out.below (below2 hbo bg) RV_t.out.lt)
  have RwD_h := hide rg
  clear hbo bg lg rg RV_s RV_n RV_m RV_g RV_t
  go_upto_region 14 with (first | (rw [hWgh]) | fail)
  go_cut [125] from 16 (fun sC wx => sC = .bool false ∧ Below wD.heap.size wD wx)
  case first =>
    cases pl : decide (ot < i) with
    | false =>
      cases pa : (ma == na) with
      | false =>
        have NE := hide (show ((ma == na) && (mb == nb)) = false by rw [pa]; rfl)
        obtain rfl : vh2 = false := by cases hv : vh2 with | false => rfl | true => exact absurd (k3.out hv) (by have h := NE.out; intro k; rw [k.1, k.2] at h; simp at h)
        have zwD_h0 : wD.cell? ⟨woh.heap.size, 0, none⟩ = some (.int .i64 mk) := RwD_h.out.cell 0 (by omega)
        have zwD_h1 : wD.cell? ⟨woh.heap.size, 1, none⟩ = some (.int .i64 lo) := RwD_h.out.cell 1 (by omega)
        have zwD_h2 : wD.cell? ⟨woh.heap.size, 2, none⟩ = some (.int .i64 i) := RwD_h.out.cell 2 (by omega)
        have zwD_h3 : wD.cell? ⟨woh.heap.size, 3, none⟩ = some (.int .i64 ak) := RwD_h.out.cell 3 (by omega)
        have zwD_h4 : wD.cell? ⟨woh.heap.size, 4, none⟩ = some (.int .i64 na) := RwD_h.out.cell 4 (by omega)
        have zwD_h5 : wD.cell? ⟨woh.heap.size, 5, none⟩ = some (.int .i64 nb) := RwD_h.out.cell 5 (by omega)
        have zwD_h6 : wD.cell? ⟨woh.heap.size, 6, none⟩ = some (.int .i64 (n : Int)) := RwD_h.out.cell 6 (by omega)
        have zwD_h7 : wD.cell? ⟨woh.heap.size, 7, none⟩ = some (.int .i64 ap) := RwD_h.out.cell 7 (by omega)
        have zwD_h8 : wD.cell? ⟨woh.heap.size, 8, none⟩ = some (.int .i64 fa) := RwD_h.out.cell 8 (by omega)
        have zwD_h9 : wD.cell? ⟨woh.heap.size, 9, none⟩ = some (.int .i64 cl) := RwD_h.out.cell 9 (by omega)
        have zwD_n0 : wD.cell? ⟨w1.heap.size, 0, none⟩ = some (.int .i64 na) := RwD_n.out.cell 0 (by omega)
        have zwD_n1 : wD.cell? ⟨w1.heap.size, 1, none⟩ = some (.int .i64 nb) := RwD_n.out.cell 1 (by omega)
        go_wp2_with fail
        refine (Hh1.out _).mono ?_
        rintro e x1 ⟨rfl, hbx1⟩
        clear zwD_h0 zwD_h1 zwD_h2 zwD_h3 zwD_h4 zwD_h5 zwD_h6 zwD_h7 zwD_h8 zwD_h9 zwD_n0 zwD_n1
        have Rx1_s := hide (RwD_s.out.below hbx1 RwD_s.out.lt)
        have Rx1_n := hide (RwD_n.out.below hbx1 RwD_n.out.lt)
        have Rx1_m := hide (RwD_m.out.below hbx1 RwD_m.out.lt)
        have Rx1_g := hide (RwD_g.out.below hbx1 RwD_g.out.lt)
        have Rx1_t := hide (RwD_t.out.below hbx1 RwD_t.out.lt)
        have Rx1_h := hide (RwD_h.out.below hbx1 RwD_h.out.lt)
        have Qx1 := hide hbx1
        clear hbx1
        have zx1_n0 : x1.cell? ⟨w1.heap.size, 0, none⟩ = some (.int .i64 na) := Rx1_n.out.cell 0 (by omega)
        have zx1_n1 : x1.cell? ⟨w1.heap.size, 1, none⟩ = some (.int .i64 nb) := Rx1_n.out.cell 1 (by omega)
        have zx1_m0 : x1.cell? ⟨w2.heap.size, 0, none⟩ = some (.int .i64 ma) := Rx1_m.out.cell 0 (by omega)
        have zx1_m1 : x1.cell? ⟨w2.heap.size, 1, none⟩ = some (.int .i64 mb) := Rx1_m.out.cell 1 (by omega)
        have zx1_h0 : x1.cell? ⟨woh.heap.size, 0, none⟩ = some (.int .i64 mk) := Rx1_h.out.cell 0 (by omega)
        have zx1_h1 : x1.cell? ⟨woh.heap.size, 1, none⟩ = some (.int .i64 lo) := Rx1_h.out.cell 1 (by omega)
        have zx1_h2 : x1.cell? ⟨woh.heap.size, 2, none⟩ = some (.int .i64 i) := Rx1_h.out.cell 2 (by omega)
        have zx1_h3 : x1.cell? ⟨woh.heap.size, 3, none⟩ = some (.int .i64 ak) := Rx1_h.out.cell 3 (by omega)
        have zx1_h4 : x1.cell? ⟨woh.heap.size, 4, none⟩ = some (.int .i64 na) := Rx1_h.out.cell 4 (by omega)
        have zx1_h5 : x1.cell? ⟨woh.heap.size, 5, none⟩ = some (.int .i64 nb) := Rx1_h.out.cell 5 (by omega)
        have zx1_h6 : x1.cell? ⟨woh.heap.size, 6, none⟩ = some (.int .i64 (n : Int)) := Rx1_h.out.cell 6 (by omega)
        have zx1_h7 : x1.cell? ⟨woh.heap.size, 7, none⟩ = some (.int .i64 ap) := Rx1_h.out.cell 7 (by omega)
        have zx1_h8 : x1.cell? ⟨woh.heap.size, 8, none⟩ = some (.int .i64 fa) := Rx1_h.out.cell 8 (by omega)
        have zx1_h9 : x1.cell? ⟨woh.heap.size, 9, none⟩ = some (.int .i64 cl) := Rx1_h.out.cell 9 (by omega)
        go_wp2_with fail
        refine (Hh2.out _).mono ?_
        rintro e x2 ⟨rfl, hbx2⟩
        clear zx1_n0 zx1_n1 zx1_m0 zx1_m1 zx1_h0 zx1_h1 zx1_h2 zx1_h3 zx1_h4 zx1_h5 zx1_h6 zx1_h7 zx1_h8 zx1_h9
        have Rx2_s := hide (Rx1_s.out.below hbx2 Rx1_s.out.lt)
        have Rx2_n := hide (Rx1_n.out.below hbx2 Rx1_n.out.lt)
        have Rx2_m := hide (Rx1_m.out.below hbx2 Rx1_m.out.lt)
        have Rx2_g := hide (Rx1_g.out.below hbx2 Rx1_g.out.lt)
        have Rx2_t := hide (Rx1_t.out.below hbx2 Rx1_t.out.lt)
        have Rx2_h := hide (Rx1_h.out.below hbx2 Rx1_h.out.lt)
        have Qx2 := hide (Qx1.out.trans (hbx2.mono Qx1.out.size))
        clear hbx2
        have zx2_h0 : x2.cell? ⟨woh.heap.size, 0, none⟩ = some (.int .i64 mk) := Rx2_h.out.cell 0 (by omega)
        have zx2_h1 : x2.cell? ⟨woh.heap.size, 1, none⟩ = some (.int .i64 lo) := Rx2_h.out.cell 1 (by omega)
        have zx2_h2 : x2.cell? ⟨woh.heap.size, 2, none⟩ = some (.int .i64 i) := Rx2_h.out.cell 2 (by omega)
        have zx2_h3 : x2.cell? ⟨woh.heap.size, 3, none⟩ = some (.int .i64 ak) := Rx2_h.out.cell 3 (by omega)
        have zx2_h4 : x2.cell? ⟨woh.heap.size, 4, none⟩ = some (.int .i64 na) := Rx2_h.out.cell 4 (by omega)
        have zx2_h5 : x2.cell? ⟨woh.heap.size, 5, none⟩ = some (.int .i64 nb) := Rx2_h.out.cell 5 (by omega)
        have zx2_h6 : x2.cell? ⟨woh.heap.size, 6, none⟩ = some (.int .i64 (n : Int)) := Rx2_h.out.cell 6 (by omega)
        have zx2_h7 : x2.cell? ⟨woh.heap.size, 7, none⟩ = some (.int .i64 ap) := Rx2_h.out.cell 7 (by omega)
        have zx2_h8 : x2.cell? ⟨woh.heap.size, 8, none⟩ = some (.int .i64 fa) := Rx2_h.out.cell 8 (by omega)
        have zx2_h9 : x2.cell? ⟨woh.heap.size, 9, none⟩ = some (.int .i64 cl) := Rx2_h.out.cell 9 (by omega)
        have zx2_m0 : x2.cell? ⟨w2.heap.size, 0, none⟩ = some (.int .i64 ma) := Rx2_m.out.cell 0 (by omega)
        have zx2_m1 : x2.cell? ⟨w2.heap.size, 1, none⟩ = some (.int .i64 mb) := Rx2_m.out.cell 1 (by omega)
        go_wp2_with fail
        go_meet
        exact ⟨rfl, Qx2.out⟩
      | true =>
        cases pb : (mb == nb) with
        | false =>
          have NE := hide (show ((ma == na) && (mb == nb)) = false by rw [pa, pb]; rfl)
          obtain rfl : vh2 = false := by cases hv : vh2 with | false => rfl | true => exact absurd (k3.out hv) (by have h := NE.out; intro k; rw [k.1, k.2] at h; simp at h)
          have zwD_h0 : wD.cell? ⟨woh.heap.size, 0, none⟩ = some (.int .i64 mk) := RwD_h.out.cell 0 (by omega)
          have zwD_h1 : wD.cell? ⟨woh.heap.size, 1, none⟩ = some (.int .i64 lo) := RwD_h.out.cell 1 (by omega)
          have zwD_h2 : wD.cell? ⟨woh.heap.size, 2, none⟩ = some (.int .i64 i) := RwD_h.out.cell 2 (by omega)
          have zwD_h3 : wD.cell? ⟨woh.heap.size, 3, none⟩ = some (.int .i64 ak) := RwD_h.out.cell 3 (by omega)
          have zwD_h4 : wD.cell? ⟨woh.heap.size, 4, none⟩ = some (.int .i64 na) := RwD_h.out.cell 4 (by omega)
          have zwD_h5 : wD.cell? ⟨woh.heap.size, 5, none⟩ = some (.int .i64 nb) := RwD_h.out.cell 5 (by omega)
          have zwD_h6 : wD.cell? ⟨woh.heap.size, 6, none⟩ = some (.int .i64 (n : Int)) := RwD_h.out.cell 6 (by omega)
          have zwD_h7 : wD.cell? ⟨woh.heap.size, 7, none⟩ = some (.int .i64 ap) := RwD_h.out.cell 7 (by omega)
          have zwD_h8 : wD.cell? ⟨woh.heap.size, 8, none⟩ = some (.int .i64 fa) := RwD_h.out.cell 8 (by omega)
          have zwD_h9 : wD.cell? ⟨woh.heap.size, 9, none⟩ = some (.int .i64 cl) := RwD_h.out.cell 9 (by omega)
          have zwD_n0 : wD.cell? ⟨w1.heap.size, 0, none⟩ = some (.int .i64 na) := RwD_n.out.cell 0 (by omega)
          have zwD_n1 : wD.cell? ⟨w1.heap.size, 1, none⟩ = some (.int .i64 nb) := RwD_n.out.cell 1 (by omega)
          go_wp2_with fail
          refine (Hh1.out _).mono ?_
          rintro e x3 ⟨rfl, hbx3⟩
          clear zwD_h0 zwD_h1 zwD_h2 zwD_h3 zwD_h4 zwD_h5 zwD_h6 zwD_h7 zwD_h8 zwD_h9 zwD_n0 zwD_n1
          have Rx3_s := hide (RwD_s.out.below hbx3 RwD_s.out.lt)
          have Rx3_n := hide (RwD_n.out.below hbx3 RwD_n.out.lt)
          have Rx3_m := hide (RwD_m.out.below hbx3 RwD_m.out.lt)
          have Rx3_g := hide (RwD_g.out.below hbx3 RwD_g.out.lt)
          have Rx3_t := hide (RwD_t.out.below hbx3 RwD_t.out.lt)
          have Rx3_h := hide (RwD_h.out.below hbx3 RwD_h.out.lt)
          have Qx3 := hide hbx3
          clear hbx3
          have zx3_n0 : x3.cell? ⟨w1.heap.size, 0, none⟩ = some (.int .i64 na) := Rx3_n.out.cell 0 (by omega)
          have zx3_n1 : x3.cell? ⟨w1.heap.size, 1, none⟩ = some (.int .i64 nb) := Rx3_n.out.cell 1 (by omega)
          have zx3_m0 : x3.cell? ⟨w2.heap.size, 0, none⟩ = some (.int .i64 ma) := Rx3_m.out.cell 0 (by omega)
          have zx3_m1 : x3.cell? ⟨w2.heap.size, 1, none⟩ = some (.int .i64 mb) := Rx3_m.out.cell 1 (by omega)
          have zx3_h0 : x3.cell? ⟨woh.heap.size, 0, none⟩ = some (.int .i64 mk) := Rx3_h.out.cell 0 (by omega)
          have zx3_h1 : x3.cell? ⟨woh.heap.size, 1, none⟩ = some (.int .i64 lo) := Rx3_h.out.cell 1 (by omega)
          have zx3_h2 : x3.cell? ⟨woh.heap.size, 2, none⟩ = some (.int .i64 i) := Rx3_h.out.cell 2 (by omega)
          have zx3_h3 : x3.cell? ⟨woh.heap.size, 3, none⟩ = some (.int .i64 ak) := Rx3_h.out.cell 3 (by omega)
          have zx3_h4 : x3.cell? ⟨woh.heap.size, 4, none⟩ = some (.int .i64 na) := Rx3_h.out.cell 4 (by omega)
          have zx3_h5 : x3.cell? ⟨woh.heap.size, 5, none⟩ = some (.int .i64 nb) := Rx3_h.out.cell 5 (by omega)
          have zx3_h6 : x3.cell? ⟨woh.heap.size, 6, none⟩ = some (.int .i64 (n : Int)) := Rx3_h.out.cell 6 (by omega)
          have zx3_h7 : x3.cell? ⟨woh.heap.size, 7, none⟩ = some (.int .i64 ap) := Rx3_h.out.cell 7 (by omega)
          have zx3_h8 : x3.cell? ⟨woh.heap.size, 8, none⟩ = some (.int .i64 fa) := Rx3_h.out.cell 8 (by omega)
          have zx3_h9 : x3.cell? ⟨woh.heap.size, 9, none⟩ = some (.int .i64 cl) := Rx3_h.out.cell 9 (by omega)
          go_wp2_with fail
          refine (Hh2.out _).mono ?_
          rintro e x4 ⟨rfl, hbx4⟩
          clear zx3_n0 zx3_n1 zx3_m0 zx3_m1 zx3_h0 zx3_h1 zx3_h2 zx3_h3 zx3_h4 zx3_h5 zx3_h6 zx3_h7 zx3_h8 zx3_h9
          have Rx4_s := hide (Rx3_s.out.below hbx4 Rx3_s.out.lt)
          have Rx4_n := hide (Rx3_n.out.below hbx4 Rx3_n.out.lt)
          have Rx4_m := hide (Rx3_m.out.below hbx4 Rx3_m.out.lt)
          have Rx4_g := hide (Rx3_g.out.below hbx4 Rx3_g.out.lt)
          have Rx4_t := hide (Rx3_t.out.below hbx4 Rx3_t.out.lt)
          have Rx4_h := hide (Rx3_h.out.below hbx4 Rx3_h.out.lt)
          have Qx4 := hide (Qx3.out.trans (hbx4.mono Qx3.out.size))
          clear hbx4
          have zx4_h0 : x4.cell? ⟨woh.heap.size, 0, none⟩ = some (.int .i64 mk) := Rx4_h.out.cell 0 (by omega)
          have zx4_h1 : x4.cell? ⟨woh.heap.size, 1, none⟩ = some (.int .i64 lo) := Rx4_h.out.cell 1 (by omega)
          have zx4_h2 : x4.cell? ⟨woh.heap.size, 2, none⟩ = some (.int .i64 i) := Rx4_h.out.cell 2 (by omega)
          have zx4_h3 : x4.cell? ⟨woh.heap.size, 3, none⟩ = some (.int .i64 ak) := Rx4_h.out.cell 3 (by omega)
          have zx4_h4 : x4.cell? ⟨woh.heap.size, 4, none⟩ = some (.int .i64 na) := Rx4_h.out.cell 4 (by omega)
          have zx4_h5 : x4.cell? ⟨woh.heap.size, 5, none⟩ = some (.int .i64 nb) := Rx4_h.out.cell 5 (by omega)
          have zx4_h6 : x4.cell? ⟨woh.heap.size, 6, none⟩ = some (.int .i64 (n : Int)) := Rx4_h.out.cell 6 (by omega)
          have zx4_h7 : x4.cell? ⟨woh.heap.size, 7, none⟩ = some (.int .i64 ap) := Rx4_h.out.cell 7 (by omega)
          have zx4_h8 : x4.cell? ⟨woh.heap.size, 8, none⟩ = some (.int .i64 fa) := Rx4_h.out.cell 8 (by omega)
          have zx4_h9 : x4.cell? ⟨woh.heap.size, 9, none⟩ = some (.int .i64 cl) := Rx4_h.out.cell 9 (by omega)
          have zx4_m0 : x4.cell? ⟨w2.heap.size, 0, none⟩ = some (.int .i64 ma) := Rx4_m.out.cell 0 (by omega)
          have zx4_m1 : x4.cell? ⟨w2.heap.size, 1, none⟩ = some (.int .i64 mb) := Rx4_m.out.cell 1 (by omega)
          go_wp2_with fail
          go_meet
          exact ⟨rfl, Qx4.out⟩
        | true =>
          have zwD_h0 : wD.cell? ⟨woh.heap.size, 0, none⟩ = some (.int .i64 mk) := RwD_h.out.cell 0 (by omega)
          have zwD_h1 : wD.cell? ⟨woh.heap.size, 1, none⟩ = some (.int .i64 lo) := RwD_h.out.cell 1 (by omega)
          have zwD_h2 : wD.cell? ⟨woh.heap.size, 2, none⟩ = some (.int .i64 i) := RwD_h.out.cell 2 (by omega)
          have zwD_h3 : wD.cell? ⟨woh.heap.size, 3, none⟩ = some (.int .i64 ak) := RwD_h.out.cell 3 (by omega)
          have zwD_h4 : wD.cell? ⟨woh.heap.size, 4, none⟩ = some (.int .i64 na) := RwD_h.out.cell 4 (by omega)
          have zwD_h5 : wD.cell? ⟨woh.heap.size, 5, none⟩ = some (.int .i64 nb) := RwD_h.out.cell 5 (by omega)
          have zwD_h6 : wD.cell? ⟨woh.heap.size, 6, none⟩ = some (.int .i64 (n : Int)) := RwD_h.out.cell 6 (by omega)
          have zwD_h7 : wD.cell? ⟨woh.heap.size, 7, none⟩ = some (.int .i64 ap) := RwD_h.out.cell 7 (by omega)
          have zwD_h8 : wD.cell? ⟨woh.heap.size, 8, none⟩ = some (.int .i64 fa) := RwD_h.out.cell 8 (by omega)
          have zwD_h9 : wD.cell? ⟨woh.heap.size, 9, none⟩ = some (.int .i64 cl) := RwD_h.out.cell 9 (by omega)
          have zwD_n0 : wD.cell? ⟨w1.heap.size, 0, none⟩ = some (.int .i64 na) := RwD_n.out.cell 0 (by omega)
          have zwD_n1 : wD.cell? ⟨w1.heap.size, 1, none⟩ = some (.int .i64 nb) := RwD_n.out.cell 1 (by omega)
          go_wp2_with fail
          refine (Hh1.out _).mono ?_
          rintro e x5 ⟨rfl, hbx5⟩
          clear zwD_h0 zwD_h1 zwD_h2 zwD_h3 zwD_h4 zwD_h5 zwD_h6 zwD_h7 zwD_h8 zwD_h9 zwD_n0 zwD_n1
          have Rx5_s := hide (RwD_s.out.below hbx5 RwD_s.out.lt)
          have Rx5_n := hide (RwD_n.out.below hbx5 RwD_n.out.lt)
          have Rx5_m := hide (RwD_m.out.below hbx5 RwD_m.out.lt)
          have Rx5_g := hide (RwD_g.out.below hbx5 RwD_g.out.lt)
          have Rx5_t := hide (RwD_t.out.below hbx5 RwD_t.out.lt)
          have Rx5_h := hide (RwD_h.out.below hbx5 RwD_h.out.lt)
          have Qx5 := hide hbx5
          clear hbx5
          have zx5_n0 : x5.cell? ⟨w1.heap.size, 0, none⟩ = some (.int .i64 na) := Rx5_n.out.cell 0 (by omega)
          have zx5_n1 : x5.cell? ⟨w1.heap.size, 1, none⟩ = some (.int .i64 nb) := Rx5_n.out.cell 1 (by omega)
          have zx5_m0 : x5.cell? ⟨w2.heap.size, 0, none⟩ = some (.int .i64 ma) := Rx5_m.out.cell 0 (by omega)
          have zx5_m1 : x5.cell? ⟨w2.heap.size, 1, none⟩ = some (.int .i64 mb) := Rx5_m.out.cell 1 (by omega)
          have zx5_h0 : x5.cell? ⟨woh.heap.size, 0, none⟩ = some (.int .i64 mk) := Rx5_h.out.cell 0 (by omega)
          have zx5_h1 : x5.cell? ⟨woh.heap.size, 1, none⟩ = some (.int .i64 lo) := Rx5_h.out.cell 1 (by omega)
          have zx5_h2 : x5.cell? ⟨woh.heap.size, 2, none⟩ = some (.int .i64 i) := Rx5_h.out.cell 2 (by omega)
          have zx5_h3 : x5.cell? ⟨woh.heap.size, 3, none⟩ = some (.int .i64 ak) := Rx5_h.out.cell 3 (by omega)
          have zx5_h4 : x5.cell? ⟨woh.heap.size, 4, none⟩ = some (.int .i64 na) := Rx5_h.out.cell 4 (by omega)
          have zx5_h5 : x5.cell? ⟨woh.heap.size, 5, none⟩ = some (.int .i64 nb) := Rx5_h.out.cell 5 (by omega)
          have zx5_h6 : x5.cell? ⟨woh.heap.size, 6, none⟩ = some (.int .i64 (n : Int)) := Rx5_h.out.cell 6 (by omega)
          have zx5_h7 : x5.cell? ⟨woh.heap.size, 7, none⟩ = some (.int .i64 ap) := Rx5_h.out.cell 7 (by omega)
          have zx5_h8 : x5.cell? ⟨woh.heap.size, 8, none⟩ = some (.int .i64 fa) := Rx5_h.out.cell 8 (by omega)
          have zx5_h9 : x5.cell? ⟨woh.heap.size, 9, none⟩ = some (.int .i64 cl) := Rx5_h.out.cell 9 (by omega)
          go_wp2_with fail
          go_meet
          exact ⟨rfl, Qx5.out⟩
    | true =>
      cases pa : (ma == na) with
      | false =>
        have NE := hide (show ((ma == na) && (mb == nb)) = false by rw [pa]; rfl)
        obtain rfl : vh2 = false := by cases hv : vh2 with | false => rfl | true => exact absurd (k3.out hv) (by have h := NE.out; intro k; rw [k.1, k.2] at h; simp at h)
        obtain rfl : vh3 = false := by cases hv : vh3 with | false => rfl | true => exact absurd (k4.out hv) (by have h := of_decide_eq_true pl; omega)
        have zwD_h0 : wD.cell? ⟨woh.heap.size, 0, none⟩ = some (.int .i64 mk) := RwD_h.out.cell 0 (by omega)
        have zwD_h1 : wD.cell? ⟨woh.heap.size, 1, none⟩ = some (.int .i64 lo) := RwD_h.out.cell 1 (by omega)
        have zwD_h2 : wD.cell? ⟨woh.heap.size, 2, none⟩ = some (.int .i64 i) := RwD_h.out.cell 2 (by omega)
        have zwD_h3 : wD.cell? ⟨woh.heap.size, 3, none⟩ = some (.int .i64 ak) := RwD_h.out.cell 3 (by omega)
        have zwD_h4 : wD.cell? ⟨woh.heap.size, 4, none⟩ = some (.int .i64 na) := RwD_h.out.cell 4 (by omega)
        have zwD_h5 : wD.cell? ⟨woh.heap.size, 5, none⟩ = some (.int .i64 nb) := RwD_h.out.cell 5 (by omega)
        have zwD_h6 : wD.cell? ⟨woh.heap.size, 6, none⟩ = some (.int .i64 (n : Int)) := RwD_h.out.cell 6 (by omega)
        have zwD_h7 : wD.cell? ⟨woh.heap.size, 7, none⟩ = some (.int .i64 ap) := RwD_h.out.cell 7 (by omega)
        have zwD_h8 : wD.cell? ⟨woh.heap.size, 8, none⟩ = some (.int .i64 fa) := RwD_h.out.cell 8 (by omega)
        have zwD_h9 : wD.cell? ⟨woh.heap.size, 9, none⟩ = some (.int .i64 cl) := RwD_h.out.cell 9 (by omega)
        have zwD_n0 : wD.cell? ⟨w1.heap.size, 0, none⟩ = some (.int .i64 na) := RwD_n.out.cell 0 (by omega)
        have zwD_n1 : wD.cell? ⟨w1.heap.size, 1, none⟩ = some (.int .i64 nb) := RwD_n.out.cell 1 (by omega)
        go_wp2_with fail
        refine (Hh1.out _).mono ?_
        rintro e x6 ⟨rfl, hbx6⟩
        clear zwD_h0 zwD_h1 zwD_h2 zwD_h3 zwD_h4 zwD_h5 zwD_h6 zwD_h7 zwD_h8 zwD_h9 zwD_n0 zwD_n1
        have Rx6_s := hide (RwD_s.out.below hbx6 RwD_s.out.lt)
        have Rx6_n := hide (RwD_n.out.below hbx6 RwD_n.out.lt)
        have Rx6_m := hide (RwD_m.out.below hbx6 RwD_m.out.lt)
        have Rx6_g := hide (RwD_g.out.below hbx6 RwD_g.out.lt)
        have Rx6_t := hide (RwD_t.out.below hbx6 RwD_t.out.lt)
        have Rx6_h := hide (RwD_h.out.below hbx6 RwD_h.out.lt)
        have Qx6 := hide hbx6
        clear hbx6
        have zx6_n0 : x6.cell? ⟨w1.heap.size, 0, none⟩ = some (.int .i64 na) := Rx6_n.out.cell 0 (by omega)
        have zx6_n1 : x6.cell? ⟨w1.heap.size, 1, none⟩ = some (.int .i64 nb) := Rx6_n.out.cell 1 (by omega)
        have zx6_m0 : x6.cell? ⟨w2.heap.size, 0, none⟩ = some (.int .i64 ma) := Rx6_m.out.cell 0 (by omega)
        have zx6_m1 : x6.cell? ⟨w2.heap.size, 1, none⟩ = some (.int .i64 mb) := Rx6_m.out.cell 1 (by omega)
        have zx6_h0 : x6.cell? ⟨woh.heap.size, 0, none⟩ = some (.int .i64 mk) := Rx6_h.out.cell 0 (by omega)
        have zx6_h1 : x6.cell? ⟨woh.heap.size, 1, none⟩ = some (.int .i64 lo) := Rx6_h.out.cell 1 (by omega)
        have zx6_h2 : x6.cell? ⟨woh.heap.size, 2, none⟩ = some (.int .i64 i) := Rx6_h.out.cell 2 (by omega)
        have zx6_h3 : x6.cell? ⟨woh.heap.size, 3, none⟩ = some (.int .i64 ak) := Rx6_h.out.cell 3 (by omega)
        have zx6_h4 : x6.cell? ⟨woh.heap.size, 4, none⟩ = some (.int .i64 na) := Rx6_h.out.cell 4 (by omega)
        have zx6_h5 : x6.cell? ⟨woh.heap.size, 5, none⟩ = some (.int .i64 nb) := Rx6_h.out.cell 5 (by omega)
        have zx6_h6 : x6.cell? ⟨woh.heap.size, 6, none⟩ = some (.int .i64 (n : Int)) := Rx6_h.out.cell 6 (by omega)
        have zx6_h7 : x6.cell? ⟨woh.heap.size, 7, none⟩ = some (.int .i64 ap) := Rx6_h.out.cell 7 (by omega)
        have zx6_h8 : x6.cell? ⟨woh.heap.size, 8, none⟩ = some (.int .i64 fa) := Rx6_h.out.cell 8 (by omega)
        have zx6_h9 : x6.cell? ⟨woh.heap.size, 9, none⟩ = some (.int .i64 cl) := Rx6_h.out.cell 9 (by omega)
        go_wp2_with fail
        refine (Hh2.out _).mono ?_
        rintro e x7 ⟨rfl, hbx7⟩
        clear zx6_n0 zx6_n1 zx6_m0 zx6_m1 zx6_h0 zx6_h1 zx6_h2 zx6_h3 zx6_h4 zx6_h5 zx6_h6 zx6_h7 zx6_h8 zx6_h9
        have Rx7_s := hide (Rx6_s.out.below hbx7 Rx6_s.out.lt)
        have Rx7_n := hide (Rx6_n.out.below hbx7 Rx6_n.out.lt)
        have Rx7_m := hide (Rx6_m.out.below hbx7 Rx6_m.out.lt)
        have Rx7_g := hide (Rx6_g.out.below hbx7 Rx6_g.out.lt)
        have Rx7_t := hide (Rx6_t.out.below hbx7 Rx6_t.out.lt)
        have Rx7_h := hide (Rx6_h.out.below hbx7 Rx6_h.out.lt)
        have Qx7 := hide (Qx6.out.trans (hbx7.mono Qx6.out.size))
        clear hbx7
        have zx7_h0 : x7.cell? ⟨woh.heap.size, 0, none⟩ = some (.int .i64 mk) := Rx7_h.out.cell 0 (by omega)
        have zx7_h1 : x7.cell? ⟨woh.heap.size, 1, none⟩ = some (.int .i64 lo) := Rx7_h.out.cell 1 (by omega)
        have zx7_h2 : x7.cell? ⟨woh.heap.size, 2, none⟩ = some (.int .i64 i) := Rx7_h.out.cell 2 (by omega)
        have zx7_h3 : x7.cell? ⟨woh.heap.size, 3, none⟩ = some (.int .i64 ak) := Rx7_h.out.cell 3 (by omega)
        have zx7_h4 : x7.cell? ⟨woh.heap.size, 4, none⟩ = some (.int .i64 na) := Rx7_h.out.cell 4 (by omega)
        have zx7_h5 : x7.cell? ⟨woh.heap.size, 5, none⟩ = some (.int .i64 nb) := Rx7_h.out.cell 5 (by omega)
        have zx7_h6 : x7.cell? ⟨woh.heap.size, 6, none⟩ = some (.int .i64 (n : Int)) := Rx7_h.out.cell 6 (by omega)
        have zx7_h7 : x7.cell? ⟨woh.heap.size, 7, none⟩ = some (.int .i64 ap) := Rx7_h.out.cell 7 (by omega)
        have zx7_h8 : x7.cell? ⟨woh.heap.size, 8, none⟩ = some (.int .i64 fa) := Rx7_h.out.cell 8 (by omega)
        have zx7_h9 : x7.cell? ⟨woh.heap.size, 9, none⟩ = some (.int .i64 cl) := Rx7_h.out.cell 9 (by omega)
        have zx7_m0 : x7.cell? ⟨w2.heap.size, 0, none⟩ = some (.int .i64 ma) := Rx7_m.out.cell 0 (by omega)
        have zx7_m1 : x7.cell? ⟨w2.heap.size, 1, none⟩ = some (.int .i64 mb) := Rx7_m.out.cell 1 (by omega)
        go_wp2_with fail
        refine (Hh3.out _).mono ?_
        rintro e x8 ⟨rfl, hbx8⟩
        clear zx7_h0 zx7_h1 zx7_h2 zx7_h3 zx7_h4 zx7_h5 zx7_h6 zx7_h7 zx7_h8 zx7_h9 zx7_m0 zx7_m1
        have Rx8_s := hide (Rx7_s.out.below hbx8 Rx7_s.out.lt)
        have Rx8_n := hide (Rx7_n.out.below hbx8 Rx7_n.out.lt)
        have Rx8_m := hide (Rx7_m.out.below hbx8 Rx7_m.out.lt)
        have Rx8_g := hide (Rx7_g.out.below hbx8 Rx7_g.out.lt)
        have Rx8_t := hide (Rx7_t.out.below hbx8 Rx7_t.out.lt)
        have Rx8_h := hide (Rx7_h.out.below hbx8 Rx7_h.out.lt)
        have Qx8 := hide (Qx7.out.trans (hbx8.mono Qx7.out.size))
        clear hbx8
        go_wp2_with fail
        go_meet
        exact ⟨rfl, Qx8.out⟩
      | true =>
        cases pb : (mb == nb) with
        | false =>
          have NE := hide (show ((ma == na) && (mb == nb)) = false by rw [pa, pb]; rfl)
          obtain rfl : vh2 = false := by cases hv : vh2 with | false => rfl | true => exact absurd (k3.out hv) (by have h := NE.out; intro k; rw [k.1, k.2] at h; simp at h)
          obtain rfl : vh3 = false := by cases hv : vh3 with | false => rfl | true => exact absurd (k4.out hv) (by have h := of_decide_eq_true pl; omega)
          have zwD_h0 : wD.cell? ⟨woh.heap.size, 0, none⟩ = some (.int .i64 mk) := RwD_h.out.cell 0 (by omega)
          have zwD_h1 : wD.cell? ⟨woh.heap.size, 1, none⟩ = some (.int .i64 lo) := RwD_h.out.cell 1 (by omega)
          have zwD_h2 : wD.cell? ⟨woh.heap.size, 2, none⟩ = some (.int .i64 i) := RwD_h.out.cell 2 (by omega)
          have zwD_h3 : wD.cell? ⟨woh.heap.size, 3, none⟩ = some (.int .i64 ak) := RwD_h.out.cell 3 (by omega)
          have zwD_h4 : wD.cell? ⟨woh.heap.size, 4, none⟩ = some (.int .i64 na) := RwD_h.out.cell 4 (by omega)
          have zwD_h5 : wD.cell? ⟨woh.heap.size, 5, none⟩ = some (.int .i64 nb) := RwD_h.out.cell 5 (by omega)
          have zwD_h6 : wD.cell? ⟨woh.heap.size, 6, none⟩ = some (.int .i64 (n : Int)) := RwD_h.out.cell 6 (by omega)
          have zwD_h7 : wD.cell? ⟨woh.heap.size, 7, none⟩ = some (.int .i64 ap) := RwD_h.out.cell 7 (by omega)
          have zwD_h8 : wD.cell? ⟨woh.heap.size, 8, none⟩ = some (.int .i64 fa) := RwD_h.out.cell 8 (by omega)
          have zwD_h9 : wD.cell? ⟨woh.heap.size, 9, none⟩ = some (.int .i64 cl) := RwD_h.out.cell 9 (by omega)
          have zwD_n0 : wD.cell? ⟨w1.heap.size, 0, none⟩ = some (.int .i64 na) := RwD_n.out.cell 0 (by omega)
          have zwD_n1 : wD.cell? ⟨w1.heap.size, 1, none⟩ = some (.int .i64 nb) := RwD_n.out.cell 1 (by omega)
          go_wp2_with fail
          refine (Hh1.out _).mono ?_
          rintro e x9 ⟨rfl, hbx9⟩
          clear zwD_h0 zwD_h1 zwD_h2 zwD_h3 zwD_h4 zwD_h5 zwD_h6 zwD_h7 zwD_h8 zwD_h9 zwD_n0 zwD_n1
          have Rx9_s := hide (RwD_s.out.below hbx9 RwD_s.out.lt)
          have Rx9_n := hide (RwD_n.out.below hbx9 RwD_n.out.lt)
          have Rx9_m := hide (RwD_m.out.below hbx9 RwD_m.out.lt)
          have Rx9_g := hide (RwD_g.out.below hbx9 RwD_g.out.lt)
          have Rx9_t := hide (RwD_t.out.below hbx9 RwD_t.out.lt)
          have Rx9_h := hide (RwD_h.out.below hbx9 RwD_h.out.lt)
          have Qx9 := hide hbx9
          clear hbx9
          have zx9_n0 : x9.cell? ⟨w1.heap.size, 0, none⟩ = some (.int .i64 na) := Rx9_n.out.cell 0 (by omega)
          have zx9_n1 : x9.cell? ⟨w1.heap.size, 1, none⟩ = some (.int .i64 nb) := Rx9_n.out.cell 1 (by omega)
          have zx9_m0 : x9.cell? ⟨w2.heap.size, 0, none⟩ = some (.int .i64 ma) := Rx9_m.out.cell 0 (by omega)
          have zx9_m1 : x9.cell? ⟨w2.heap.size, 1, none⟩ = some (.int .i64 mb) := Rx9_m.out.cell 1 (by omega)
          have zx9_h0 : x9.cell? ⟨woh.heap.size, 0, none⟩ = some (.int .i64 mk) := Rx9_h.out.cell 0 (by omega)
          have zx9_h1 : x9.cell? ⟨woh.heap.size, 1, none⟩ = some (.int .i64 lo) := Rx9_h.out.cell 1 (by omega)
          have zx9_h2 : x9.cell? ⟨woh.heap.size, 2, none⟩ = some (.int .i64 i) := Rx9_h.out.cell 2 (by omega)
          have zx9_h3 : x9.cell? ⟨woh.heap.size, 3, none⟩ = some (.int .i64 ak) := Rx9_h.out.cell 3 (by omega)
          have zx9_h4 : x9.cell? ⟨woh.heap.size, 4, none⟩ = some (.int .i64 na) := Rx9_h.out.cell 4 (by omega)
          have zx9_h5 : x9.cell? ⟨woh.heap.size, 5, none⟩ = some (.int .i64 nb) := Rx9_h.out.cell 5 (by omega)
          have zx9_h6 : x9.cell? ⟨woh.heap.size, 6, none⟩ = some (.int .i64 (n : Int)) := Rx9_h.out.cell 6 (by omega)
          have zx9_h7 : x9.cell? ⟨woh.heap.size, 7, none⟩ = some (.int .i64 ap) := Rx9_h.out.cell 7 (by omega)
          have zx9_h8 : x9.cell? ⟨woh.heap.size, 8, none⟩ = some (.int .i64 fa) := Rx9_h.out.cell 8 (by omega)
          have zx9_h9 : x9.cell? ⟨woh.heap.size, 9, none⟩ = some (.int .i64 cl) := Rx9_h.out.cell 9 (by omega)
          go_wp2_with fail
          refine (Hh2.out _).mono ?_
          rintro e x10 ⟨rfl, hbx10⟩
          clear zx9_n0 zx9_n1 zx9_m0 zx9_m1 zx9_h0 zx9_h1 zx9_h2 zx9_h3 zx9_h4 zx9_h5 zx9_h6 zx9_h7 zx9_h8 zx9_h9
          have Rx10_s := hide (Rx9_s.out.below hbx10 Rx9_s.out.lt)
          have Rx10_n := hide (Rx9_n.out.below hbx10 Rx9_n.out.lt)
          have Rx10_m := hide (Rx9_m.out.below hbx10 Rx9_m.out.lt)
          have Rx10_g := hide (Rx9_g.out.below hbx10 Rx9_g.out.lt)
          have Rx10_t := hide (Rx9_t.out.below hbx10 Rx9_t.out.lt)
          have Rx10_h := hide (Rx9_h.out.below hbx10 Rx9_h.out.lt)
          have Qx10 := hide (Qx9.out.trans (hbx10.mono Qx9.out.size))
          clear hbx10
          have zx10_h0 : x10.cell? ⟨woh.heap.size, 0, none⟩ = some (.int .i64 mk) := Rx10_h.out.cell 0 (by omega)
          have zx10_h1 : x10.cell? ⟨woh.heap.size, 1, none⟩ = some (.int .i64 lo) := Rx10_h.out.cell 1 (by omega)
          have zx10_h2 : x10.cell? ⟨woh.heap.size, 2, none⟩ = some (.int .i64 i) := Rx10_h.out.cell 2 (by omega)
          have zx10_h3 : x10.cell? ⟨woh.heap.size, 3, none⟩ = some (.int .i64 ak) := Rx10_h.out.cell 3 (by omega)
          have zx10_h4 : x10.cell? ⟨woh.heap.size, 4, none⟩ = some (.int .i64 na) := Rx10_h.out.cell 4 (by omega)
          have zx10_h5 : x10.cell? ⟨woh.heap.size, 5, none⟩ = some (.int .i64 nb) := Rx10_h.out.cell 5 (by omega)
          have zx10_h6 : x10.cell? ⟨woh.heap.size, 6, none⟩ = some (.int .i64 (n : Int)) := Rx10_h.out.cell 6 (by omega)
          have zx10_h7 : x10.cell? ⟨woh.heap.size, 7, none⟩ = some (.int .i64 ap) := Rx10_h.out.cell 7 (by omega)
          have zx10_h8 : x10.cell? ⟨woh.heap.size, 8, none⟩ = some (.int .i64 fa) := Rx10_h.out.cell 8 (by omega)
          have zx10_h9 : x10.cell? ⟨woh.heap.size, 9, none⟩ = some (.int .i64 cl) := Rx10_h.out.cell 9 (by omega)
          have zx10_m0 : x10.cell? ⟨w2.heap.size, 0, none⟩ = some (.int .i64 ma) := Rx10_m.out.cell 0 (by omega)
          have zx10_m1 : x10.cell? ⟨w2.heap.size, 1, none⟩ = some (.int .i64 mb) := Rx10_m.out.cell 1 (by omega)
          go_wp2_with fail
          refine (Hh3.out _).mono ?_
          rintro e x11 ⟨rfl, hbx11⟩
          clear zx10_h0 zx10_h1 zx10_h2 zx10_h3 zx10_h4 zx10_h5 zx10_h6 zx10_h7 zx10_h8 zx10_h9 zx10_m0 zx10_m1
          have Rx11_s := hide (Rx10_s.out.below hbx11 Rx10_s.out.lt)
          have Rx11_n := hide (Rx10_n.out.below hbx11 Rx10_n.out.lt)
          have Rx11_m := hide (Rx10_m.out.below hbx11 Rx10_m.out.lt)
          have Rx11_g := hide (Rx10_g.out.below hbx11 Rx10_g.out.lt)
          have Rx11_t := hide (Rx10_t.out.below hbx11 Rx10_t.out.lt)
          have Rx11_h := hide (Rx10_h.out.below hbx11 Rx10_h.out.lt)
          have Qx11 := hide (Qx10.out.trans (hbx11.mono Qx10.out.size))
          clear hbx11
          go_wp2_with fail
          go_meet
          exact ⟨rfl, Qx11.out⟩
        | true =>
          obtain rfl : vh3 = false := by cases hv : vh3 with | false => rfl | true => exact absurd (k4.out hv) (by have h := of_decide_eq_true pl; omega)
          have zwD_h0 : wD.cell? ⟨woh.heap.size, 0, none⟩ = some (.int .i64 mk) := RwD_h.out.cell 0 (by omega)
          have zwD_h1 : wD.cell? ⟨woh.heap.size, 1, none⟩ = some (.int .i64 lo) := RwD_h.out.cell 1 (by omega)
          have zwD_h2 : wD.cell? ⟨woh.heap.size, 2, none⟩ = some (.int .i64 i) := RwD_h.out.cell 2 (by omega)
          have zwD_h3 : wD.cell? ⟨woh.heap.size, 3, none⟩ = some (.int .i64 ak) := RwD_h.out.cell 3 (by omega)
          have zwD_h4 : wD.cell? ⟨woh.heap.size, 4, none⟩ = some (.int .i64 na) := RwD_h.out.cell 4 (by omega)
          have zwD_h5 : wD.cell? ⟨woh.heap.size, 5, none⟩ = some (.int .i64 nb) := RwD_h.out.cell 5 (by omega)
          have zwD_h6 : wD.cell? ⟨woh.heap.size, 6, none⟩ = some (.int .i64 (n : Int)) := RwD_h.out.cell 6 (by omega)
          have zwD_h7 : wD.cell? ⟨woh.heap.size, 7, none⟩ = some (.int .i64 ap) := RwD_h.out.cell 7 (by omega)
          have zwD_h8 : wD.cell? ⟨woh.heap.size, 8, none⟩ = some (.int .i64 fa) := RwD_h.out.cell 8 (by omega)
          have zwD_h9 : wD.cell? ⟨woh.heap.size, 9, none⟩ = some (.int .i64 cl) := RwD_h.out.cell 9 (by omega)
          have zwD_n0 : wD.cell? ⟨w1.heap.size, 0, none⟩ = some (.int .i64 na) := RwD_n.out.cell 0 (by omega)
          have zwD_n1 : wD.cell? ⟨w1.heap.size, 1, none⟩ = some (.int .i64 nb) := RwD_n.out.cell 1 (by omega)
          go_wp2_with fail
          refine (Hh1.out _).mono ?_
          rintro e x12 ⟨rfl, hbx12⟩
          clear zwD_h0 zwD_h1 zwD_h2 zwD_h3 zwD_h4 zwD_h5 zwD_h6 zwD_h7 zwD_h8 zwD_h9 zwD_n0 zwD_n1
          have Rx12_s := hide (RwD_s.out.below hbx12 RwD_s.out.lt)
          have Rx12_n := hide (RwD_n.out.below hbx12 RwD_n.out.lt)
          have Rx12_m := hide (RwD_m.out.below hbx12 RwD_m.out.lt)
          have Rx12_g := hide (RwD_g.out.below hbx12 RwD_g.out.lt)
          have Rx12_t := hide (RwD_t.out.below hbx12 RwD_t.out.lt)
          have Rx12_h := hide (RwD_h.out.below hbx12 RwD_h.out.lt)
          have Qx12 := hide hbx12
          clear hbx12
          have zx12_n0 : x12.cell? ⟨w1.heap.size, 0, none⟩ = some (.int .i64 na) := Rx12_n.out.cell 0 (by omega)
          have zx12_n1 : x12.cell? ⟨w1.heap.size, 1, none⟩ = some (.int .i64 nb) := Rx12_n.out.cell 1 (by omega)
          have zx12_m0 : x12.cell? ⟨w2.heap.size, 0, none⟩ = some (.int .i64 ma) := Rx12_m.out.cell 0 (by omega)
          have zx12_m1 : x12.cell? ⟨w2.heap.size, 1, none⟩ = some (.int .i64 mb) := Rx12_m.out.cell 1 (by omega)
          have zx12_h0 : x12.cell? ⟨woh.heap.size, 0, none⟩ = some (.int .i64 mk) := Rx12_h.out.cell 0 (by omega)
          have zx12_h1 : x12.cell? ⟨woh.heap.size, 1, none⟩ = some (.int .i64 lo) := Rx12_h.out.cell 1 (by omega)
          have zx12_h2 : x12.cell? ⟨woh.heap.size, 2, none⟩ = some (.int .i64 i) := Rx12_h.out.cell 2 (by omega)
          have zx12_h3 : x12.cell? ⟨woh.heap.size, 3, none⟩ = some (.int .i64 ak) := Rx12_h.out.cell 3 (by omega)
          have zx12_h4 : x12.cell? ⟨woh.heap.size, 4, none⟩ = some (.int .i64 na) := Rx12_h.out.cell 4 (by omega)
          have zx12_h5 : x12.cell? ⟨woh.heap.size, 5, none⟩ = some (.int .i64 nb) := Rx12_h.out.cell 5 (by omega)
          have zx12_h6 : x12.cell? ⟨woh.heap.size, 6, none⟩ = some (.int .i64 (n : Int)) := Rx12_h.out.cell 6 (by omega)
          have zx12_h7 : x12.cell? ⟨woh.heap.size, 7, none⟩ = some (.int .i64 ap) := Rx12_h.out.cell 7 (by omega)
          have zx12_h8 : x12.cell? ⟨woh.heap.size, 8, none⟩ = some (.int .i64 fa) := Rx12_h.out.cell 8 (by omega)
          have zx12_h9 : x12.cell? ⟨woh.heap.size, 9, none⟩ = some (.int .i64 cl) := Rx12_h.out.cell 9 (by omega)
          go_wp2_with fail
          refine (Hh3.out _).mono ?_
          rintro e x13 ⟨rfl, hbx13⟩
          clear zx12_n0 zx12_n1 zx12_m0 zx12_m1 zx12_h0 zx12_h1 zx12_h2 zx12_h3 zx12_h4 zx12_h5 zx12_h6 zx12_h7 zx12_h8 zx12_h9
          have Rx13_s := hide (Rx12_s.out.below hbx13 Rx12_s.out.lt)
          have Rx13_n := hide (Rx12_n.out.below hbx13 Rx12_n.out.lt)
          have Rx13_m := hide (Rx12_m.out.below hbx13 Rx12_m.out.lt)
          have Rx13_g := hide (Rx12_g.out.below hbx13 Rx12_g.out.lt)
          have Rx13_t := hide (Rx12_t.out.below hbx13 Rx12_t.out.lt)
          have Rx13_h := hide (Rx12_h.out.below hbx13 Rx12_h.out.lt)
          have Qx13 := hide (Qx12.out.trans (hbx13.mono Qx12.out.size))
          clear hbx13
          go_wp2_with fail
          go_meet
          exact ⟨rfl, Qx13.out⟩
  case rest =>
  obtain ⟨rfl, hbc⟩ := hcut
  generalize wc = wE at hbc ⊢
  have RwE_s := hide (RwD_s.out.below hbc RwD_s.out.lt)
  have RwE_n := hide (RwD_n.out.below hbc RwD_n.out.lt)
  have RwE_m := hide (RwD_m.out.below hbc RwD_m.out.lt)
  have RwE_g := hide (RwD_g.out.below hbc RwD_g.out.lt)
  have RwE_t := hide (RwD_t.out.below hbc RwD_t.out.lt)
  have RwE_h := hide (RwD_h.out.below hbc RwD_h.out.lt)
  have BwE := hide (BwD.out.trans (hbc.mono BwD.out.size))
  clear hbc RwD_s RwD_n RwD_m RwD_g RwD_t RwD_h
  have tz7 : wE.cell? ⟨wC.heap.size, 7, none⟩ = some (.int .i64 i) := ht7.out _ _ RwE_t.out
  have tz8 : wE.cell? ⟨wC.heap.size, 8, none⟩ = some (.int .i64 ak) := ht8.out _ _ RwE_t.out
  cases pa : (i == ak) with
  | true =>
    go_wp2
    go_ret
    exact ⟨rfl, BwE.out⟩
  | false =>
    cases pl : decide (ot ≤ i) with
    | true =>
      go_wp2
      go_ret
      exact ⟨rfl, BwE.out⟩
    | false =>
      obtain rfl : vh3 = false := by cases hv : vh3 with | false => rfl | true => exact absurd (k4.out hv) (by have h := of_decide_eq_false pl; have h2 : ¬ i = ak := (by simpa using pa); omega)
      have zwE_h0 : wE.cell? ⟨woh.heap.size, 0, none⟩ = some (.int .i64 mk) := RwE_h.out.cell 0 (by omega)
      have zwE_h1 : wE.cell? ⟨woh.heap.size, 1, none⟩ = some (.int .i64 lo) := RwE_h.out.cell 1 (by omega)
      have zwE_h2 : wE.cell? ⟨woh.heap.size, 2, none⟩ = some (.int .i64 i) := RwE_h.out.cell 2 (by omega)
      have zwE_h3 : wE.cell? ⟨woh.heap.size, 3, none⟩ = some (.int .i64 ak) := RwE_h.out.cell 3 (by omega)
      have zwE_h4 : wE.cell? ⟨woh.heap.size, 4, none⟩ = some (.int .i64 na) := RwE_h.out.cell 4 (by omega)
      have zwE_h5 : wE.cell? ⟨woh.heap.size, 5, none⟩ = some (.int .i64 nb) := RwE_h.out.cell 5 (by omega)
      have zwE_h6 : wE.cell? ⟨woh.heap.size, 6, none⟩ = some (.int .i64 (n : Int)) := RwE_h.out.cell 6 (by omega)
      have zwE_h7 : wE.cell? ⟨woh.heap.size, 7, none⟩ = some (.int .i64 ap) := RwE_h.out.cell 7 (by omega)
      have zwE_h8 : wE.cell? ⟨woh.heap.size, 8, none⟩ = some (.int .i64 fa) := RwE_h.out.cell 8 (by omega)
      have zwE_h9 : wE.cell? ⟨woh.heap.size, 9, none⟩ = some (.int .i64 cl) := RwE_h.out.cell 9 (by omega)
      have zwE_m0 : wE.cell? ⟨w2.heap.size, 0, none⟩ = some (.int .i64 ma) := RwE_m.out.cell 0 (by omega)
      have zwE_m1 : wE.cell? ⟨w2.heap.size, 1, none⟩ = some (.int .i64 mb) := RwE_m.out.cell 1 (by omega)
      go_wp2_with fail
      refine (Hh3.out _).mono ?_
      rintro e wF ⟨rfl, hb⟩
      have BF := hide (BwE.out.trans (hb.mono BwE.out.size))
      clear hb
      clear zwE_h0 zwE_h1 zwE_h2 zwE_h3 zwE_h4 zwE_h5 zwE_h6 zwE_h7 zwE_h8 zwE_h9 zwE_m0 zwE_m1
      go_wp2
      go_ret
      exact ⟨rfl, BF.out⟩
end Go.Proofs.Ytnmoheipfadmeaa
