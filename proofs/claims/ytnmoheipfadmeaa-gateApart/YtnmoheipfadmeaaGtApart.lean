/-
  GateApart (printed by gen_g2.py).
-/
import Derived.Test.YtnmoheipfadmeaaGtApM
namespace Go.Proofs.Ytnmoheipfadmeaa
open Go.RowKit S
set_option linter.unusedVariables false
set_option linter.unusedSimpArgs false
set_option maxRecDepth 100000 in
set_option maxHeartbeats 40000000 in
theorem apart_walk (mk mo : Int) (s : St) (a b : Int) (w : World) : Calls Try.prog 3 #[.int .i64 mk, .int .i64 mo, .agg (tabv s.v 115), .int .i64 a, .int .i64 b] w fun e w' => e = .returned (.bool true) ∧ Below w.heap.size w w' := by
  obtain ⟨w1, hW1⟩ : ∃ x, w.alloc (.cells (tabv s.v 115) 30) = x := ⟨_, rfl⟩
  have R1 := hide (show Has w1 w.heap.size 30 s.v 115 by rw [← hW1]; exact Has.new w 30 s.v 115 _ rfl)
  have B1 := hide (show Below w.heap.size w w1 by rw [← hW1]; exact (Below.refl w.heap.size w).alloc (Nat.le_refl _) _)
  have hc6 : ∀ wx, Has wx w.heap.size 30 s.v 115 → wx.cell? ⟨w.heap.size, 6, none⟩ = some (.int .i64 s.loc) := fun wx h => h.cell 6 (by omega)
  have hc11 : ∀ wx, Has wx w.heap.size 30 s.v 115 → wx.cell? ⟨w.heap.size, 11, none⟩ = some (.int .i64 s.so) := fun wx h => h.cell 11 (by omega)
  have hc12 : ∀ wx, Has wx w.heap.size 30 s.v 115 → wx.cell? ⟨w.heap.size, 12, none⟩ = some (.int .i64 s.sp) := fun wx h => h.cell 12 (by omega)
  have hc10 : ∀ wx, Has wx w.heap.size 30 s.v 115 → wx.cell? ⟨w.heap.size, 10, none⟩ = some (.int .i64 s.ap) := fun wx h => h.cell 10 (by omega)
  have hc4 : ∀ wx, Has wx w.heap.size 30 s.v 115 → wx.cell? ⟨w.heap.size, 4, none⟩ = some (.slice s.ours.ad s.ours.n s.ours.c) := fun wx h => h.cell 4 (by omega)
  have HO1 : ∀ w, Calls Try.prog 6 #[.int .i64 mk, .agg (tabv s.v 115)] w fun e w' => e = .returned (.agg #[.int .i64 mk, .int .i64 s.loc, .int .i64 s.rem, .int .i64 s.ack, .int .i64 s.so, .int .i64 s.sp, .int .i64 (s.ours.n : Int), .int .i64 s.ap, .int .i64 s.fail, .int .i64 s.closed]) ∧ Below w.heap.size w w' := fun w => of_any mk s w
  have HO2 : ∀ w, Calls Try.prog 6 #[.int .i64 (max mk mo), .agg (tabv s.v 115)] w fun e w' => e = .returned (.agg #[.int .i64 (max mk mo), .int .i64 s.loc, .int .i64 s.rem, .int .i64 s.ack, .int .i64 s.so, .int .i64 s.sp, .int .i64 (s.ours.n : Int), .int .i64 s.ap, .int .i64 s.fail, .int .i64 s.closed]) ∧ Below w.heap.size w w' := fun w => of_any (max mk mo) s w
  have HO3 : ∀ w, Calls Try.prog 6 #[.int .i64 mk, .agg (tabv (s.setF 180).v 115)] w fun e w' => e = .returned (.agg #[.int .i64 mk, .int .i64 s.loc, .int .i64 s.rem, .int .i64 s.ack, .int .i64 s.so, .int .i64 s.sp, .int .i64 (s.ours.n : Int), .int .i64 s.ap, .int .i64 180, .int .i64 s.closed]) ∧ Below w.heap.size w w' := fun w => of_any mk (s.setF 180) w
  have HO4 : ∀ w, Calls Try.prog 6 #[.int .i64 mk, .agg (tabv (s.setC a).v 115)] w fun e w' => e = .returned (.agg #[.int .i64 mk, .int .i64 s.loc, .int .i64 s.rem, .int .i64 s.ack, .int .i64 s.so, .int .i64 s.sp, .int .i64 (s.ours.n : Int), .int .i64 s.ap, .int .i64 s.fail, .int .i64 a]) ∧ Below w.heap.size w w' := fun w => of_any mk (s.setC a) w
  obtain ⟨vgba, egba⟩ : ∃ x, Gt.broad (gOf mk s) a = x := ⟨_, rfl⟩
  have Hgba : ∀ w, Calls Try.prog 8 #[.agg #[.int .i64 mk, .int .i64 s.loc, .int .i64 s.rem, .int .i64 s.ack, .int .i64 s.so, .int .i64 s.sp, .int .i64 (s.ours.n : Int), .int .i64 s.ap, .int .i64 s.fail, .int .i64 s.closed], .int .i64 a] w fun e w' => e = .returned (.bool vgba) ∧ Below w.heap.size w w' := fun w => by have h := broad_any (gOf mk s) a w; rw [egba] at h; exact h
  obtain ⟨vgsa, egsa⟩ : ∃ x, Gt.send (gOf mk s) a = x := ⟨_, rfl⟩
  have Hgsa : ∀ w, Calls Try.prog 9 #[.agg #[.int .i64 mk, .int .i64 s.loc, .int .i64 s.rem, .int .i64 s.ack, .int .i64 s.so, .int .i64 s.sp, .int .i64 (s.ours.n : Int), .int .i64 s.ap, .int .i64 s.fail, .int .i64 s.closed], .int .i64 a] w fun e w' => e = .returned (.bool vgsa) ∧ Below w.heap.size w w' := fun w => by have h := send_any (gOf mk s) a w; rw [egsa] at h; exact h
  obtain ⟨vgsb, egsb⟩ : ∃ x, Gt.send (gOf mk s) b = x := ⟨_, rfl⟩
  have Hgsb : ∀ w, Calls Try.prog 9 #[.agg #[.int .i64 mk, .int .i64 s.loc, .int .i64 s.rem, .int .i64 s.ack, .int .i64 s.so, .int .i64 s.sp, .int .i64 (s.ours.n : Int), .int .i64 s.ap, .int .i64 s.fail, .int .i64 s.closed], .int .i64 b] w fun e w' => e = .returned (.bool vgsb) ∧ Below w.heap.size w w' := fun w => by have h := send_any (gOf mk s) b w; rw [egsb] at h; exact h
  obtain ⟨vhba, ehba⟩ : ∃ x, Gt.broad (gOf (max mk mo) s) a = x := ⟨_, rfl⟩
  have Hhba : ∀ w, Calls Try.prog 8 #[.agg #[.int .i64 (max mk mo), .int .i64 s.loc, .int .i64 s.rem, .int .i64 s.ack, .int .i64 s.so, .int .i64 s.sp, .int .i64 (s.ours.n : Int), .int .i64 s.ap, .int .i64 s.fail, .int .i64 s.closed], .int .i64 a] w fun e w' => e = .returned (.bool vhba) ∧ Below w.heap.size w w' := fun w => by have h := broad_any (gOf (max mk mo) s) a w; rw [ehba] at h; exact h
  obtain ⟨vhsb, ehsb⟩ : ∃ x, Gt.send (gOf (max mk mo) s) b = x := ⟨_, rfl⟩
  have Hhsb : ∀ w, Calls Try.prog 9 #[.agg #[.int .i64 (max mk mo), .int .i64 s.loc, .int .i64 s.rem, .int .i64 s.ack, .int .i64 s.so, .int .i64 s.sp, .int .i64 (s.ours.n : Int), .int .i64 s.ap, .int .i64 s.fail, .int .i64 s.closed], .int .i64 b] w fun e w' => e = .returned (.bool vhsb) ∧ Below w.heap.size w w' := fun w => by have h := send_any (gOf (max mk mo) s) b w; rw [ehsb] at h; exact h
  obtain ⟨vlba, elba⟩ : ∃ x, Gt.broad (gOf mk (s.setF 180)) a = x := ⟨_, rfl⟩
  have Hlba : ∀ w, Calls Try.prog 8 #[.agg #[.int .i64 mk, .int .i64 s.loc, .int .i64 s.rem, .int .i64 s.ack, .int .i64 s.so, .int .i64 s.sp, .int .i64 (s.ours.n : Int), .int .i64 s.ap, .int .i64 180, .int .i64 s.closed], .int .i64 a] w fun e w' => e = .returned (.bool vlba) ∧ Below w.heap.size w w' := fun w => by have h := broad_any (gOf mk (s.setF 180)) a w; rw [elba] at h; exact h
  obtain ⟨vlsb, elsb⟩ : ∃ x, Gt.send (gOf mk (s.setF 180)) b = x := ⟨_, rfl⟩
  have Hlsb : ∀ w, Calls Try.prog 9 #[.agg #[.int .i64 mk, .int .i64 s.loc, .int .i64 s.rem, .int .i64 s.ack, .int .i64 s.so, .int .i64 s.sp, .int .i64 (s.ours.n : Int), .int .i64 s.ap, .int .i64 180, .int .i64 s.closed], .int .i64 b] w fun e w' => e = .returned (.bool vlsb) ∧ Below w.heap.size w w' := fun w => by have h := send_any (gOf mk (s.setF 180)) b w; rw [elsb] at h; exact h
  obtain ⟨vlga, elga⟩ : ∃ x, Gt.sign (gOf mk (s.setF 180)) a s.so s.sp = x := ⟨_, rfl⟩
  have Hlga : ∀ w, Calls Try.prog 10 #[.agg #[.int .i64 mk, .int .i64 s.loc, .int .i64 s.rem, .int .i64 s.ack, .int .i64 s.so, .int .i64 s.sp, .int .i64 (s.ours.n : Int), .int .i64 s.ap, .int .i64 180, .int .i64 s.closed], .int .i64 a, .agg #[.int .i64 s.so, .int .i64 s.sp]] w fun e w' => e = .returned (.bool vlga) ∧ Below w.heap.size w w' := fun w => by have h := sign_any (gOf mk (s.setF 180)) a s.so s.sp w; rw [elga] at h; exact h
  obtain ⟨vlgb, elgb⟩ : ∃ x, Gt.sign (gOf mk (s.setF 180)) b (s.ours.n : Int) s.ap = x := ⟨_, rfl⟩
  have Hlgb : ∀ w, Calls Try.prog 10 #[.agg #[.int .i64 mk, .int .i64 s.loc, .int .i64 s.rem, .int .i64 s.ack, .int .i64 s.so, .int .i64 s.sp, .int .i64 (s.ours.n : Int), .int .i64 s.ap, .int .i64 180, .int .i64 s.closed], .int .i64 b, .agg #[.int .i64 (s.ours.n : Int), .int .i64 s.ap]] w fun e w' => e = .returned (.bool vlgb) ∧ Below w.heap.size w w' := fun w => by have h := sign_any (gOf mk (s.setF 180)) b (s.ours.n : Int) s.ap w; rw [elgb] at h; exact h
  obtain ⟨vcsb, ecsb⟩ : ∃ x, Gt.send (gOf mk (s.setC a)) b = x := ⟨_, rfl⟩
  have Hcsb : ∀ w, Calls Try.prog 9 #[.agg #[.int .i64 mk, .int .i64 s.loc, .int .i64 s.rem, .int .i64 s.ack, .int .i64 s.so, .int .i64 s.sp, .int .i64 (s.ours.n : Int), .int .i64 s.ap, .int .i64 s.fail, .int .i64 a], .int .i64 b] w fun e w' => e = .returned (.bool vcsb) ∧ Below w.heap.size w w' := fun w => by have h := send_any (gOf mk (s.setC a)) b w; rw [ecsb] at h; exact h
  obtain ⟨vcgb, ecgb⟩ : ∃ x, Gt.sign (gOf mk (s.setC a)) b s.so s.sp = x := ⟨_, rfl⟩
  have Hcgb : ∀ w, Calls Try.prog 10 #[.agg #[.int .i64 mk, .int .i64 s.loc, .int .i64 s.rem, .int .i64 s.ack, .int .i64 s.so, .int .i64 s.sp, .int .i64 (s.ours.n : Int), .int .i64 s.ap, .int .i64 s.fail, .int .i64 a], .int .i64 b, .agg #[.int .i64 s.so, .int .i64 s.sp]] w fun e w' => e = .returned (.bool vcgb) ∧ Below w.heap.size w w' := fun w => by have h := sign_any (gOf mk (s.setC a)) b s.so s.sp w; rw [ecgb] at h; exact h
  obtain ⟨vcbb, ecbb⟩ : ∃ x, Gt.broad (gOf mk (s.setC a)) b = x := ⟨_, rfl⟩
  have Hcbb : ∀ w, Calls Try.prog 8 #[.agg #[.int .i64 mk, .int .i64 s.loc, .int .i64 s.rem, .int .i64 s.ack, .int .i64 s.so, .int .i64 s.sp, .int .i64 (s.ours.n : Int), .int .i64 s.ap, .int .i64 s.fail, .int .i64 a], .int .i64 b] w fun e w' => e = .returned (.bool vcbb) ∧ Below w.heap.size w w' := fun w => by have h := broad_any (gOf mk (s.setC a)) b w; rw [ecbb] at h; exact h
  have k1 : vgba = true → a = s.loc ∧ vgsa = false ∧ (vgsb = true → b < a) := by rw [← egba, ← egsa, ← egsb]; exact fun h => ap1 b h
  have k2 : (vhba = true → vgba = true) ∧ (vgsb = true → vhsb = true) := by rw [← egba, ← ehba, ← egsb, ← ehsb]; exact ap2 (g := gOf mk s) (h := gOf (max mk mo) s) a b (show mk ≤ max mk mo by omega) rfl rfl rfl
  have k3 : vlba = false ∧ vlsb = false ∧ vlga = false ∧ vlgb = false := by rw [← elba, ← elsb, ← elga, ← elgb]; exact ⟨(ap3 rfl a b 0 0).1, (ap3 rfl a b 0 0).2.1, (ap3 rfl _ b _ _).2.2, (ap3 rfl _ b _ _).2.2⟩
  have k4 : a ≠ -1 → vcsb = false ∧ vcgb = false ∧ (vcbb = true → a = b) := by rw [← ecsb, ← ecgb, ← ecbb]; exact fun h => ap4 rfl h b _ _
  clear egba egsa egsb ehba ehsb elba elsb elga elgb ecsb ecgb ecbb
  generalize s.loc = lo at HO1 HO2 HO3 HO4 Hgba Hgsa Hgsb Hhba Hhsb Hlba Hlsb Hlga Hlgb Hcsb Hcgb Hcbb hc6 k1
  generalize s.rem = re at HO1 HO2 HO3 HO4 Hgba Hgsa Hgsb Hhba Hhsb Hlba Hlsb Hlga Hlgb Hcsb Hcgb Hcbb
  generalize s.ack = ak at HO1 HO2 HO3 HO4 Hgba Hgsa Hgsb Hhba Hhsb Hlba Hlsb Hlga Hlgb Hcsb Hcgb Hcbb
  generalize s.so = so at HO1 HO2 HO3 HO4 Hgba Hgsa Hgsb Hhba Hhsb Hlba Hlsb Hlga Hlgb Hcsb Hcgb Hcbb hc11
  generalize s.sp = sp at HO1 HO2 HO3 HO4 Hgba Hgsa Hgsb Hhba Hhsb Hlba Hlsb Hlga Hlgb Hcsb Hcgb Hcbb hc12
  generalize s.ours.n = n at HO1 HO2 HO3 HO4 Hgba Hgsa Hgsb Hhba Hhsb Hlba Hlsb Hlga Hlgb Hcsb Hcgb Hcbb hc4
  generalize s.ap = ap at HO1 HO2 HO3 HO4 Hgba Hgsa Hgsb Hhba Hhsb Hlba Hlsb Hlga Hlgb Hcsb Hcgb Hcbb hc10
  generalize s.fail = fa at HO1 HO2 HO4 Hgba Hgsa Hgsb Hhba Hhsb Hcsb Hcgb Hcbb
  generalize s.closed = cl at HO1 HO2 HO3 Hgba Hgsa Hgsb Hhba Hhsb Hlba Hlsb Hlga Hlgb
  generalize s.ours.ad = oa at hc4
  generalize s.ours.c = oc at hc4
  obtain ⟨mx, hmx⟩ : ∃ x, max mk mo = x := ⟨_, rfl⟩
  simp only [hmx] at HO2 Hhba Hhsb
  replace HO1 := hide HO1
  replace HO2 := hide HO2
  replace HO3 := hide HO3
  replace HO4 := hide HO4
  replace Hgba := hide Hgba
  replace Hgsa := hide Hgsa
  replace Hgsb := hide Hgsb
  replace Hhba := hide Hhba
  replace Hhsb := hide Hhsb
  replace Hlba := hide Hlba
  replace Hlsb := hide Hlsb
  replace Hlga := hide Hlga
  replace Hlgb := hide Hlgb
  replace Hcsb := hide Hcsb
  replace Hcgb := hide Hcgb
  replace Hcbb := hide Hcbb
  replace hc4 := hide hc4
  replace hc6 := hide hc6
  replace hc10 := hide hc10
  replace hc11 := hide hc11
  replace hc12 := hide hc12
  replace k1 := hide k1
  replace k2 := hide k2
  replace k3 := hide k3
  replace k4 := hide k4
  go_enter Try.func3, Try.ntmps3
  go_wp2_with (first | (refine wpW_st _ rfl w.heap.size rfl rfl s R1.out ?_) | fail)
  refine (HO1.out _).mono ?_
  rintro e wog ⟨rfl, hbo⟩
  obtain ⟨wgg, hWgg, bg, lg, rg⟩ := newGt wog (⟨mk, lo, re, ak, so, sp, n, ap, fa, cl⟩ : Gt)
  have hWgg : wog.alloc (.cells #[.int .i64 mk, .int .i64 lo, .int .i64 re, .int .i64 ak, .int .i64 so, .int .i64 sp, .int .i64 (n : Int), .int .i64 ap, .int .i64 fa, .int .i64 cl] 32) = wgg := hWgg
  have Bgg := hide ((B1.out.trans (hbo.mono B1.out.size)).trans (bg.mono (B1.out.trans (hbo.mono B1.out.size)).size))
  have Rg_s := hide ((R1.out.below hbo R1.out.lt).below bg (Nat.lt_of_lt_of_le R1.out.lt hbo.size))
  have Rg_g := hide rg
  clear hbo bg lg rg
  go_upto_region 2 with (first | (rw [hWgg]) | fail)
  go_cut [12] from 17 (fun s12 wx => ∃ bh, s12 = .pointer (some ⟨bh, 0, none⟩) ∧ Has wx bh 32 (⟨mx, lo, re, ak, so, sp, n, ap, fa, cl⟩ : Gt).v 10 ∧ wgg.heap.size ≤ bh ∧ Below wgg.heap.size wgg wx)
  case first =>
    by_cases hm : mk < mo
    · obtain rfl : mo = mx := by omega
      clear hmx
      go_wp2_with (first | (refine wpW_st _ rfl w.heap.size rfl rfl s Rg_s.out ?_) | fail)
      refine (HO2.out _).mono ?_
      rintro e woh ⟨rfl, hbo⟩
      obtain ⟨wgh, hWgh, bg, lg, rg⟩ := newGt woh (⟨mo, lo, re, ak, so, sp, n, ap, fa, cl⟩ : Gt)
      have hWgh : woh.alloc (.cells #[.int .i64 mo, .int .i64 lo, .int .i64 re, .int .i64 ak, .int .i64 so, .int .i64 sp, .int .i64 (n : Int), .int .i64 ap, .int .i64 fa, .int .i64 cl] 32) = wgh := hWgh
      have BB := hide (below2 hbo bg)
      have RR := hide rg
      have LL := hbo.size
      clear hbo bg lg rg
      go_wp2_with (first | (rw [hWgh]) | fail)
      go_meet
      exact ⟨_, rfl, RR.out, LL, BB.out⟩
    · obtain rfl : mk = mx := by omega
      clear hmx
      go_wp2_with (first | (refine wpW_st _ rfl w.heap.size rfl rfl s Rg_s.out ?_) | fail)
      refine (HO2.out _).mono ?_
      rintro e woh ⟨rfl, hbo⟩
      obtain ⟨wgh, hWgh, bg, lg, rg⟩ := newGt woh (⟨mk, lo, re, ak, so, sp, n, ap, fa, cl⟩ : Gt)
      have hWgh : woh.alloc (.cells #[.int .i64 mk, .int .i64 lo, .int .i64 re, .int .i64 ak, .int .i64 so, .int .i64 sp, .int .i64 (n : Int), .int .i64 ap, .int .i64 fa, .int .i64 cl] 32) = wgh := hWgh
      have BB := hide (below2 hbo bg)
      have RR := hide rg
      have LL := hbo.size
      clear hbo bg lg rg
      go_wp2_with (first | (rw [hWgh]) | fail)
      go_meet
      exact ⟨_, rfl, RR.out, LL, BB.out⟩
  case rest =>
  obtain ⟨bh, rfl, rh, lh, hbh⟩ := hcut
  clear hmx
  have Bgh := hide (Bgg.out.trans (hbh.mono Bgg.out.size))
  have Rh_s := hide (Rg_s.out.below hbh Rg_s.out.lt)
  have Rh_g := hide (Rg_g.out.below hbh Rg_g.out.lt)
  have Rh_h := hide rh
  clear rh lh hbh Rg_s Rg_g
  go_upto_region 3 with fail
  generalize wc = wA at Bgh Rh_s Rh_g Rh_h ⊢
  go_cut [57] from 17 (fun sC wx => sC = .bool false ∧ Below wA.heap.size wA wx)
  case first =>
    cases hv : vgba with
    | false =>
      subst hv
      go_wp2_with fail
      refine (first_any _).mono ?_
      rintro e x1 ⟨rfl, hbx1⟩
      have Rx1_s := hide (Rh_s.out.below hbx1 Rh_s.out.lt)
      have Rx1_g := hide (Rh_g.out.below hbx1 Rh_g.out.lt)
      have Rx1_h := hide (Rh_h.out.below hbx1 Rh_h.out.lt)
      have Qx1 := hide hbx1
      clear hbx1
      have zx1_g0 : x1.cell? ⟨wog.heap.size, 0, none⟩ = some (.int .i64 mk) := Rx1_g.out.cell 0 (by omega)
      have zx1_g1 : x1.cell? ⟨wog.heap.size, 1, none⟩ = some (.int .i64 lo) := Rx1_g.out.cell 1 (by omega)
      have zx1_g2 : x1.cell? ⟨wog.heap.size, 2, none⟩ = some (.int .i64 re) := Rx1_g.out.cell 2 (by omega)
      have zx1_g3 : x1.cell? ⟨wog.heap.size, 3, none⟩ = some (.int .i64 ak) := Rx1_g.out.cell 3 (by omega)
      have zx1_g4 : x1.cell? ⟨wog.heap.size, 4, none⟩ = some (.int .i64 so) := Rx1_g.out.cell 4 (by omega)
      have zx1_g5 : x1.cell? ⟨wog.heap.size, 5, none⟩ = some (.int .i64 sp) := Rx1_g.out.cell 5 (by omega)
      have zx1_g6 : x1.cell? ⟨wog.heap.size, 6, none⟩ = some (.int .i64 (n : Int)) := Rx1_g.out.cell 6 (by omega)
      have zx1_g7 : x1.cell? ⟨wog.heap.size, 7, none⟩ = some (.int .i64 ap) := Rx1_g.out.cell 7 (by omega)
      have zx1_g8 : x1.cell? ⟨wog.heap.size, 8, none⟩ = some (.int .i64 fa) := Rx1_g.out.cell 8 (by omega)
      have zx1_g9 : x1.cell? ⟨wog.heap.size, 9, none⟩ = some (.int .i64 cl) := Rx1_g.out.cell 9 (by omega)
      go_wp2_with fail
      refine (Hgba.out _).mono ?_
      rintro e x2 ⟨rfl, hbx2⟩
      clear zx1_g0 zx1_g1 zx1_g2 zx1_g3 zx1_g4 zx1_g5 zx1_g6 zx1_g7 zx1_g8 zx1_g9
      have Rx2_s := hide (Rx1_s.out.below hbx2 Rx1_s.out.lt)
      have Rx2_g := hide (Rx1_g.out.below hbx2 Rx1_g.out.lt)
      have Rx2_h := hide (Rx1_h.out.below hbx2 Rx1_h.out.lt)
      have Qx2 := hide (Qx1.out.trans (hbx2.mono Qx1.out.size))
      clear hbx2
      have zx2_g0 : x2.cell? ⟨wog.heap.size, 0, none⟩ = some (.int .i64 mk) := Rx2_g.out.cell 0 (by omega)
      have zx2_g1 : x2.cell? ⟨wog.heap.size, 1, none⟩ = some (.int .i64 lo) := Rx2_g.out.cell 1 (by omega)
      have zx2_g2 : x2.cell? ⟨wog.heap.size, 2, none⟩ = some (.int .i64 re) := Rx2_g.out.cell 2 (by omega)
      have zx2_g3 : x2.cell? ⟨wog.heap.size, 3, none⟩ = some (.int .i64 ak) := Rx2_g.out.cell 3 (by omega)
      have zx2_g4 : x2.cell? ⟨wog.heap.size, 4, none⟩ = some (.int .i64 so) := Rx2_g.out.cell 4 (by omega)
      have zx2_g5 : x2.cell? ⟨wog.heap.size, 5, none⟩ = some (.int .i64 sp) := Rx2_g.out.cell 5 (by omega)
      have zx2_g6 : x2.cell? ⟨wog.heap.size, 6, none⟩ = some (.int .i64 (n : Int)) := Rx2_g.out.cell 6 (by omega)
      have zx2_g7 : x2.cell? ⟨wog.heap.size, 7, none⟩ = some (.int .i64 ap) := Rx2_g.out.cell 7 (by omega)
      have zx2_g8 : x2.cell? ⟨wog.heap.size, 8, none⟩ = some (.int .i64 fa) := Rx2_g.out.cell 8 (by omega)
      have zx2_g9 : x2.cell? ⟨wog.heap.size, 9, none⟩ = some (.int .i64 cl) := Rx2_g.out.cell 9 (by omega)
      go_wp2_with fail
      refine (Hgba.out _).mono ?_
      rintro e x3 ⟨rfl, hbx3⟩
      clear zx2_g0 zx2_g1 zx2_g2 zx2_g3 zx2_g4 zx2_g5 zx2_g6 zx2_g7 zx2_g8 zx2_g9
      have Rx3_s := hide (Rx2_s.out.below hbx3 Rx2_s.out.lt)
      have Rx3_g := hide (Rx2_g.out.below hbx3 Rx2_g.out.lt)
      have Rx3_h := hide (Rx2_h.out.below hbx3 Rx2_h.out.lt)
      have Qx3 := hide (Qx2.out.trans (hbx3.mono Qx2.out.size))
      clear hbx3
      go_wp2_with fail
      go_meet
      exact ⟨rfl, Qx3.out⟩
    | true =>
      subst hv
      obtain ⟨ea, es, eb⟩ := k1.out rfl
      have q1 : (a != lo) = false := by rw [ea]; simp
      have EB := hide eb
      subst es
      clear ea eb
      cases hv : vgsb with
      | false =>
        subst hv
        go_wp2_with fail
        refine (first_any _).mono ?_
        rintro e x4 ⟨rfl, hbx4⟩
        have Rx4_s := hide (Rh_s.out.below hbx4 Rh_s.out.lt)
        have Rx4_g := hide (Rh_g.out.below hbx4 Rh_g.out.lt)
        have Rx4_h := hide (Rh_h.out.below hbx4 Rh_h.out.lt)
        have Qx4 := hide hbx4
        clear hbx4
        have zx4_g0 : x4.cell? ⟨wog.heap.size, 0, none⟩ = some (.int .i64 mk) := Rx4_g.out.cell 0 (by omega)
        have zx4_g1 : x4.cell? ⟨wog.heap.size, 1, none⟩ = some (.int .i64 lo) := Rx4_g.out.cell 1 (by omega)
        have zx4_g2 : x4.cell? ⟨wog.heap.size, 2, none⟩ = some (.int .i64 re) := Rx4_g.out.cell 2 (by omega)
        have zx4_g3 : x4.cell? ⟨wog.heap.size, 3, none⟩ = some (.int .i64 ak) := Rx4_g.out.cell 3 (by omega)
        have zx4_g4 : x4.cell? ⟨wog.heap.size, 4, none⟩ = some (.int .i64 so) := Rx4_g.out.cell 4 (by omega)
        have zx4_g5 : x4.cell? ⟨wog.heap.size, 5, none⟩ = some (.int .i64 sp) := Rx4_g.out.cell 5 (by omega)
        have zx4_g6 : x4.cell? ⟨wog.heap.size, 6, none⟩ = some (.int .i64 (n : Int)) := Rx4_g.out.cell 6 (by omega)
        have zx4_g7 : x4.cell? ⟨wog.heap.size, 7, none⟩ = some (.int .i64 ap) := Rx4_g.out.cell 7 (by omega)
        have zx4_g8 : x4.cell? ⟨wog.heap.size, 8, none⟩ = some (.int .i64 fa) := Rx4_g.out.cell 8 (by omega)
        have zx4_g9 : x4.cell? ⟨wog.heap.size, 9, none⟩ = some (.int .i64 cl) := Rx4_g.out.cell 9 (by omega)
        go_wp2_with fail
        refine (Hgba.out _).mono ?_
        rintro e x5 ⟨rfl, hbx5⟩
        clear zx4_g0 zx4_g1 zx4_g2 zx4_g3 zx4_g4 zx4_g5 zx4_g6 zx4_g7 zx4_g8 zx4_g9
        have Rx5_s := hide (Rx4_s.out.below hbx5 Rx4_s.out.lt)
        have Rx5_g := hide (Rx4_g.out.below hbx5 Rx4_g.out.lt)
        have Rx5_h := hide (Rx4_h.out.below hbx5 Rx4_h.out.lt)
        have Qx5 := hide (Qx4.out.trans (hbx5.mono Qx4.out.size))
        clear hbx5
        have zx5_g0 : x5.cell? ⟨wog.heap.size, 0, none⟩ = some (.int .i64 mk) := Rx5_g.out.cell 0 (by omega)
        have zx5_g1 : x5.cell? ⟨wog.heap.size, 1, none⟩ = some (.int .i64 lo) := Rx5_g.out.cell 1 (by omega)
        have zx5_g2 : x5.cell? ⟨wog.heap.size, 2, none⟩ = some (.int .i64 re) := Rx5_g.out.cell 2 (by omega)
        have zx5_g3 : x5.cell? ⟨wog.heap.size, 3, none⟩ = some (.int .i64 ak) := Rx5_g.out.cell 3 (by omega)
        have zx5_g4 : x5.cell? ⟨wog.heap.size, 4, none⟩ = some (.int .i64 so) := Rx5_g.out.cell 4 (by omega)
        have zx5_g5 : x5.cell? ⟨wog.heap.size, 5, none⟩ = some (.int .i64 sp) := Rx5_g.out.cell 5 (by omega)
        have zx5_g6 : x5.cell? ⟨wog.heap.size, 6, none⟩ = some (.int .i64 (n : Int)) := Rx5_g.out.cell 6 (by omega)
        have zx5_g7 : x5.cell? ⟨wog.heap.size, 7, none⟩ = some (.int .i64 ap) := Rx5_g.out.cell 7 (by omega)
        have zx5_g8 : x5.cell? ⟨wog.heap.size, 8, none⟩ = some (.int .i64 fa) := Rx5_g.out.cell 8 (by omega)
        have zx5_g9 : x5.cell? ⟨wog.heap.size, 9, none⟩ = some (.int .i64 cl) := Rx5_g.out.cell 9 (by omega)
        have zx5_s6 : x5.cell? ⟨w.heap.size, 6, none⟩ = some (.int .i64 lo) := hc6.out _ Rx5_s.out
        go_wp2_with fail
        refine (Hgsa.out _).mono ?_
        rintro e x6 ⟨rfl, hbx6⟩
        clear zx5_g0 zx5_g1 zx5_g2 zx5_g3 zx5_g4 zx5_g5 zx5_g6 zx5_g7 zx5_g8 zx5_g9 zx5_s6
        have Rx6_s := hide (Rx5_s.out.below hbx6 Rx5_s.out.lt)
        have Rx6_g := hide (Rx5_g.out.below hbx6 Rx5_g.out.lt)
        have Rx6_h := hide (Rx5_h.out.below hbx6 Rx5_h.out.lt)
        have Qx6 := hide (Qx5.out.trans (hbx6.mono Qx5.out.size))
        clear hbx6
        have zx6_g0 : x6.cell? ⟨wog.heap.size, 0, none⟩ = some (.int .i64 mk) := Rx6_g.out.cell 0 (by omega)
        have zx6_g1 : x6.cell? ⟨wog.heap.size, 1, none⟩ = some (.int .i64 lo) := Rx6_g.out.cell 1 (by omega)
        have zx6_g2 : x6.cell? ⟨wog.heap.size, 2, none⟩ = some (.int .i64 re) := Rx6_g.out.cell 2 (by omega)
        have zx6_g3 : x6.cell? ⟨wog.heap.size, 3, none⟩ = some (.int .i64 ak) := Rx6_g.out.cell 3 (by omega)
        have zx6_g4 : x6.cell? ⟨wog.heap.size, 4, none⟩ = some (.int .i64 so) := Rx6_g.out.cell 4 (by omega)
        have zx6_g5 : x6.cell? ⟨wog.heap.size, 5, none⟩ = some (.int .i64 sp) := Rx6_g.out.cell 5 (by omega)
        have zx6_g6 : x6.cell? ⟨wog.heap.size, 6, none⟩ = some (.int .i64 (n : Int)) := Rx6_g.out.cell 6 (by omega)
        have zx6_g7 : x6.cell? ⟨wog.heap.size, 7, none⟩ = some (.int .i64 ap) := Rx6_g.out.cell 7 (by omega)
        have zx6_g8 : x6.cell? ⟨wog.heap.size, 8, none⟩ = some (.int .i64 fa) := Rx6_g.out.cell 8 (by omega)
        have zx6_g9 : x6.cell? ⟨wog.heap.size, 9, none⟩ = some (.int .i64 cl) := Rx6_g.out.cell 9 (by omega)
        go_wp2_with fail
        refine (Hgba.out _).mono ?_
        rintro e x7 ⟨rfl, hbx7⟩
        clear zx6_g0 zx6_g1 zx6_g2 zx6_g3 zx6_g4 zx6_g5 zx6_g6 zx6_g7 zx6_g8 zx6_g9
        have Rx7_s := hide (Rx6_s.out.below hbx7 Rx6_s.out.lt)
        have Rx7_g := hide (Rx6_g.out.below hbx7 Rx6_g.out.lt)
        have Rx7_h := hide (Rx6_h.out.below hbx7 Rx6_h.out.lt)
        have Qx7 := hide (Qx6.out.trans (hbx7.mono Qx6.out.size))
        clear hbx7
        have zx7_g0 : x7.cell? ⟨wog.heap.size, 0, none⟩ = some (.int .i64 mk) := Rx7_g.out.cell 0 (by omega)
        have zx7_g1 : x7.cell? ⟨wog.heap.size, 1, none⟩ = some (.int .i64 lo) := Rx7_g.out.cell 1 (by omega)
        have zx7_g2 : x7.cell? ⟨wog.heap.size, 2, none⟩ = some (.int .i64 re) := Rx7_g.out.cell 2 (by omega)
        have zx7_g3 : x7.cell? ⟨wog.heap.size, 3, none⟩ = some (.int .i64 ak) := Rx7_g.out.cell 3 (by omega)
        have zx7_g4 : x7.cell? ⟨wog.heap.size, 4, none⟩ = some (.int .i64 so) := Rx7_g.out.cell 4 (by omega)
        have zx7_g5 : x7.cell? ⟨wog.heap.size, 5, none⟩ = some (.int .i64 sp) := Rx7_g.out.cell 5 (by omega)
        have zx7_g6 : x7.cell? ⟨wog.heap.size, 6, none⟩ = some (.int .i64 (n : Int)) := Rx7_g.out.cell 6 (by omega)
        have zx7_g7 : x7.cell? ⟨wog.heap.size, 7, none⟩ = some (.int .i64 ap) := Rx7_g.out.cell 7 (by omega)
        have zx7_g8 : x7.cell? ⟨wog.heap.size, 8, none⟩ = some (.int .i64 fa) := Rx7_g.out.cell 8 (by omega)
        have zx7_g9 : x7.cell? ⟨wog.heap.size, 9, none⟩ = some (.int .i64 cl) := Rx7_g.out.cell 9 (by omega)
        go_wp2_with fail
        refine (Hgsb.out _).mono ?_
        rintro e x8 ⟨rfl, hbx8⟩
        clear zx7_g0 zx7_g1 zx7_g2 zx7_g3 zx7_g4 zx7_g5 zx7_g6 zx7_g7 zx7_g8 zx7_g9
        have Rx8_s := hide (Rx7_s.out.below hbx8 Rx7_s.out.lt)
        have Rx8_g := hide (Rx7_g.out.below hbx8 Rx7_g.out.lt)
        have Rx8_h := hide (Rx7_h.out.below hbx8 Rx7_h.out.lt)
        have Qx8 := hide (Qx7.out.trans (hbx8.mono Qx7.out.size))
        clear hbx8
        go_wp2_with fail
        go_meet
        exact ⟨rfl, Qx8.out⟩
      | true =>
        subst hv
        have q2 : decide (a ≤ b) = false := decide_eq_false (by have := EB.out rfl; omega)
        go_wp2_with fail
        refine (first_any _).mono ?_
        rintro e x9 ⟨rfl, hbx9⟩
        have Rx9_s := hide (Rh_s.out.below hbx9 Rh_s.out.lt)
        have Rx9_g := hide (Rh_g.out.below hbx9 Rh_g.out.lt)
        have Rx9_h := hide (Rh_h.out.below hbx9 Rh_h.out.lt)
        have Qx9 := hide hbx9
        clear hbx9
        have zx9_g0 : x9.cell? ⟨wog.heap.size, 0, none⟩ = some (.int .i64 mk) := Rx9_g.out.cell 0 (by omega)
        have zx9_g1 : x9.cell? ⟨wog.heap.size, 1, none⟩ = some (.int .i64 lo) := Rx9_g.out.cell 1 (by omega)
        have zx9_g2 : x9.cell? ⟨wog.heap.size, 2, none⟩ = some (.int .i64 re) := Rx9_g.out.cell 2 (by omega)
        have zx9_g3 : x9.cell? ⟨wog.heap.size, 3, none⟩ = some (.int .i64 ak) := Rx9_g.out.cell 3 (by omega)
        have zx9_g4 : x9.cell? ⟨wog.heap.size, 4, none⟩ = some (.int .i64 so) := Rx9_g.out.cell 4 (by omega)
        have zx9_g5 : x9.cell? ⟨wog.heap.size, 5, none⟩ = some (.int .i64 sp) := Rx9_g.out.cell 5 (by omega)
        have zx9_g6 : x9.cell? ⟨wog.heap.size, 6, none⟩ = some (.int .i64 (n : Int)) := Rx9_g.out.cell 6 (by omega)
        have zx9_g7 : x9.cell? ⟨wog.heap.size, 7, none⟩ = some (.int .i64 ap) := Rx9_g.out.cell 7 (by omega)
        have zx9_g8 : x9.cell? ⟨wog.heap.size, 8, none⟩ = some (.int .i64 fa) := Rx9_g.out.cell 8 (by omega)
        have zx9_g9 : x9.cell? ⟨wog.heap.size, 9, none⟩ = some (.int .i64 cl) := Rx9_g.out.cell 9 (by omega)
        go_wp2_with fail
        refine (Hgba.out _).mono ?_
        rintro e x10 ⟨rfl, hbx10⟩
        clear zx9_g0 zx9_g1 zx9_g2 zx9_g3 zx9_g4 zx9_g5 zx9_g6 zx9_g7 zx9_g8 zx9_g9
        have Rx10_s := hide (Rx9_s.out.below hbx10 Rx9_s.out.lt)
        have Rx10_g := hide (Rx9_g.out.below hbx10 Rx9_g.out.lt)
        have Rx10_h := hide (Rx9_h.out.below hbx10 Rx9_h.out.lt)
        have Qx10 := hide (Qx9.out.trans (hbx10.mono Qx9.out.size))
        clear hbx10
        have zx10_g0 : x10.cell? ⟨wog.heap.size, 0, none⟩ = some (.int .i64 mk) := Rx10_g.out.cell 0 (by omega)
        have zx10_g1 : x10.cell? ⟨wog.heap.size, 1, none⟩ = some (.int .i64 lo) := Rx10_g.out.cell 1 (by omega)
        have zx10_g2 : x10.cell? ⟨wog.heap.size, 2, none⟩ = some (.int .i64 re) := Rx10_g.out.cell 2 (by omega)
        have zx10_g3 : x10.cell? ⟨wog.heap.size, 3, none⟩ = some (.int .i64 ak) := Rx10_g.out.cell 3 (by omega)
        have zx10_g4 : x10.cell? ⟨wog.heap.size, 4, none⟩ = some (.int .i64 so) := Rx10_g.out.cell 4 (by omega)
        have zx10_g5 : x10.cell? ⟨wog.heap.size, 5, none⟩ = some (.int .i64 sp) := Rx10_g.out.cell 5 (by omega)
        have zx10_g6 : x10.cell? ⟨wog.heap.size, 6, none⟩ = some (.int .i64 (n : Int)) := Rx10_g.out.cell 6 (by omega)
        have zx10_g7 : x10.cell? ⟨wog.heap.size, 7, none⟩ = some (.int .i64 ap) := Rx10_g.out.cell 7 (by omega)
        have zx10_g8 : x10.cell? ⟨wog.heap.size, 8, none⟩ = some (.int .i64 fa) := Rx10_g.out.cell 8 (by omega)
        have zx10_g9 : x10.cell? ⟨wog.heap.size, 9, none⟩ = some (.int .i64 cl) := Rx10_g.out.cell 9 (by omega)
        have zx10_s6 : x10.cell? ⟨w.heap.size, 6, none⟩ = some (.int .i64 lo) := hc6.out _ Rx10_s.out
        go_wp2_with fail
        refine (Hgsa.out _).mono ?_
        rintro e x11 ⟨rfl, hbx11⟩
        clear zx10_g0 zx10_g1 zx10_g2 zx10_g3 zx10_g4 zx10_g5 zx10_g6 zx10_g7 zx10_g8 zx10_g9 zx10_s6
        have Rx11_s := hide (Rx10_s.out.below hbx11 Rx10_s.out.lt)
        have Rx11_g := hide (Rx10_g.out.below hbx11 Rx10_g.out.lt)
        have Rx11_h := hide (Rx10_h.out.below hbx11 Rx10_h.out.lt)
        have Qx11 := hide (Qx10.out.trans (hbx11.mono Qx10.out.size))
        clear hbx11
        have zx11_g0 : x11.cell? ⟨wog.heap.size, 0, none⟩ = some (.int .i64 mk) := Rx11_g.out.cell 0 (by omega)
        have zx11_g1 : x11.cell? ⟨wog.heap.size, 1, none⟩ = some (.int .i64 lo) := Rx11_g.out.cell 1 (by omega)
        have zx11_g2 : x11.cell? ⟨wog.heap.size, 2, none⟩ = some (.int .i64 re) := Rx11_g.out.cell 2 (by omega)
        have zx11_g3 : x11.cell? ⟨wog.heap.size, 3, none⟩ = some (.int .i64 ak) := Rx11_g.out.cell 3 (by omega)
        have zx11_g4 : x11.cell? ⟨wog.heap.size, 4, none⟩ = some (.int .i64 so) := Rx11_g.out.cell 4 (by omega)
        have zx11_g5 : x11.cell? ⟨wog.heap.size, 5, none⟩ = some (.int .i64 sp) := Rx11_g.out.cell 5 (by omega)
        have zx11_g6 : x11.cell? ⟨wog.heap.size, 6, none⟩ = some (.int .i64 (n : Int)) := Rx11_g.out.cell 6 (by omega)
        have zx11_g7 : x11.cell? ⟨wog.heap.size, 7, none⟩ = some (.int .i64 ap) := Rx11_g.out.cell 7 (by omega)
        have zx11_g8 : x11.cell? ⟨wog.heap.size, 8, none⟩ = some (.int .i64 fa) := Rx11_g.out.cell 8 (by omega)
        have zx11_g9 : x11.cell? ⟨wog.heap.size, 9, none⟩ = some (.int .i64 cl) := Rx11_g.out.cell 9 (by omega)
        go_wp2_with fail
        refine (Hgba.out _).mono ?_
        rintro e x12 ⟨rfl, hbx12⟩
        clear zx11_g0 zx11_g1 zx11_g2 zx11_g3 zx11_g4 zx11_g5 zx11_g6 zx11_g7 zx11_g8 zx11_g9
        have Rx12_s := hide (Rx11_s.out.below hbx12 Rx11_s.out.lt)
        have Rx12_g := hide (Rx11_g.out.below hbx12 Rx11_g.out.lt)
        have Rx12_h := hide (Rx11_h.out.below hbx12 Rx11_h.out.lt)
        have Qx12 := hide (Qx11.out.trans (hbx12.mono Qx11.out.size))
        clear hbx12
        have zx12_g0 : x12.cell? ⟨wog.heap.size, 0, none⟩ = some (.int .i64 mk) := Rx12_g.out.cell 0 (by omega)
        have zx12_g1 : x12.cell? ⟨wog.heap.size, 1, none⟩ = some (.int .i64 lo) := Rx12_g.out.cell 1 (by omega)
        have zx12_g2 : x12.cell? ⟨wog.heap.size, 2, none⟩ = some (.int .i64 re) := Rx12_g.out.cell 2 (by omega)
        have zx12_g3 : x12.cell? ⟨wog.heap.size, 3, none⟩ = some (.int .i64 ak) := Rx12_g.out.cell 3 (by omega)
        have zx12_g4 : x12.cell? ⟨wog.heap.size, 4, none⟩ = some (.int .i64 so) := Rx12_g.out.cell 4 (by omega)
        have zx12_g5 : x12.cell? ⟨wog.heap.size, 5, none⟩ = some (.int .i64 sp) := Rx12_g.out.cell 5 (by omega)
        have zx12_g6 : x12.cell? ⟨wog.heap.size, 6, none⟩ = some (.int .i64 (n : Int)) := Rx12_g.out.cell 6 (by omega)
        have zx12_g7 : x12.cell? ⟨wog.heap.size, 7, none⟩ = some (.int .i64 ap) := Rx12_g.out.cell 7 (by omega)
        have zx12_g8 : x12.cell? ⟨wog.heap.size, 8, none⟩ = some (.int .i64 fa) := Rx12_g.out.cell 8 (by omega)
        have zx12_g9 : x12.cell? ⟨wog.heap.size, 9, none⟩ = some (.int .i64 cl) := Rx12_g.out.cell 9 (by omega)
        go_wp2_with fail
        refine (Hgsb.out _).mono ?_
        rintro e x13 ⟨rfl, hbx13⟩
        clear zx12_g0 zx12_g1 zx12_g2 zx12_g3 zx12_g4 zx12_g5 zx12_g6 zx12_g7 zx12_g8 zx12_g9
        have Rx13_s := hide (Rx12_s.out.below hbx13 Rx12_s.out.lt)
        have Rx13_g := hide (Rx12_g.out.below hbx13 Rx12_g.out.lt)
        have Rx13_h := hide (Rx12_h.out.below hbx13 Rx12_h.out.lt)
        have Qx13 := hide (Qx12.out.trans (hbx13.mono Qx12.out.size))
        clear hbx13
        go_wp2_with fail
        go_meet
        exact ⟨rfl, Qx13.out⟩
  case rest =>
  obtain ⟨rfl, hbc⟩ := hcut
  generalize wc = wB at hbc ⊢
  have RwB_s := hide (Rh_s.out.below hbc Rh_s.out.lt)
  have RwB_g := hide (Rh_g.out.below hbc Rh_g.out.lt)
  have RwB_h := hide (Rh_h.out.below hbc Rh_h.out.lt)
  have BwB := hide (Bgh.out.trans (hbc.mono Bgh.out.size))
  clear hbc Rh_s Rh_g Rh_h
  go_upto_region 5 with fail
  go_cut [77] from 17 (fun sC wx => sC = .bool false ∧ Below wB.heap.size wB wx)
  case first =>
    have kA := k2.out.1
    have kB := k2.out.2
    cases hv : vhba with
    | false =>
      subst hv
      clear kA
      cases hv : vgsb with
      | false =>
        subst hv
        clear kB
        have zwB_h0 : wB.cell? ⟨bh, 0, none⟩ = some (.int .i64 mx) := RwB_h.out.cell 0 (by omega)
        have zwB_h1 : wB.cell? ⟨bh, 1, none⟩ = some (.int .i64 lo) := RwB_h.out.cell 1 (by omega)
        have zwB_h2 : wB.cell? ⟨bh, 2, none⟩ = some (.int .i64 re) := RwB_h.out.cell 2 (by omega)
        have zwB_h3 : wB.cell? ⟨bh, 3, none⟩ = some (.int .i64 ak) := RwB_h.out.cell 3 (by omega)
        have zwB_h4 : wB.cell? ⟨bh, 4, none⟩ = some (.int .i64 so) := RwB_h.out.cell 4 (by omega)
        have zwB_h5 : wB.cell? ⟨bh, 5, none⟩ = some (.int .i64 sp) := RwB_h.out.cell 5 (by omega)
        have zwB_h6 : wB.cell? ⟨bh, 6, none⟩ = some (.int .i64 (n : Int)) := RwB_h.out.cell 6 (by omega)
        have zwB_h7 : wB.cell? ⟨bh, 7, none⟩ = some (.int .i64 ap) := RwB_h.out.cell 7 (by omega)
        have zwB_h8 : wB.cell? ⟨bh, 8, none⟩ = some (.int .i64 fa) := RwB_h.out.cell 8 (by omega)
        have zwB_h9 : wB.cell? ⟨bh, 9, none⟩ = some (.int .i64 cl) := RwB_h.out.cell 9 (by omega)
        go_wp2_with fail
        refine (Hhba.out _).mono ?_
        rintro e x14 ⟨rfl, hbx14⟩
        clear zwB_h0 zwB_h1 zwB_h2 zwB_h3 zwB_h4 zwB_h5 zwB_h6 zwB_h7 zwB_h8 zwB_h9
        have Rx14_s := hide (RwB_s.out.below hbx14 RwB_s.out.lt)
        have Rx14_g := hide (RwB_g.out.below hbx14 RwB_g.out.lt)
        have Rx14_h := hide (RwB_h.out.below hbx14 RwB_h.out.lt)
        have Qx14 := hide hbx14
        clear hbx14
        have zx14_g0 : x14.cell? ⟨wog.heap.size, 0, none⟩ = some (.int .i64 mk) := Rx14_g.out.cell 0 (by omega)
        have zx14_g1 : x14.cell? ⟨wog.heap.size, 1, none⟩ = some (.int .i64 lo) := Rx14_g.out.cell 1 (by omega)
        have zx14_g2 : x14.cell? ⟨wog.heap.size, 2, none⟩ = some (.int .i64 re) := Rx14_g.out.cell 2 (by omega)
        have zx14_g3 : x14.cell? ⟨wog.heap.size, 3, none⟩ = some (.int .i64 ak) := Rx14_g.out.cell 3 (by omega)
        have zx14_g4 : x14.cell? ⟨wog.heap.size, 4, none⟩ = some (.int .i64 so) := Rx14_g.out.cell 4 (by omega)
        have zx14_g5 : x14.cell? ⟨wog.heap.size, 5, none⟩ = some (.int .i64 sp) := Rx14_g.out.cell 5 (by omega)
        have zx14_g6 : x14.cell? ⟨wog.heap.size, 6, none⟩ = some (.int .i64 (n : Int)) := Rx14_g.out.cell 6 (by omega)
        have zx14_g7 : x14.cell? ⟨wog.heap.size, 7, none⟩ = some (.int .i64 ap) := Rx14_g.out.cell 7 (by omega)
        have zx14_g8 : x14.cell? ⟨wog.heap.size, 8, none⟩ = some (.int .i64 fa) := Rx14_g.out.cell 8 (by omega)
        have zx14_g9 : x14.cell? ⟨wog.heap.size, 9, none⟩ = some (.int .i64 cl) := Rx14_g.out.cell 9 (by omega)
        go_wp2_with fail
        refine (Hgsb.out _).mono ?_
        rintro e x15 ⟨rfl, hbx15⟩
        clear zx14_g0 zx14_g1 zx14_g2 zx14_g3 zx14_g4 zx14_g5 zx14_g6 zx14_g7 zx14_g8 zx14_g9
        have Rx15_s := hide (Rx14_s.out.below hbx15 Rx14_s.out.lt)
        have Rx15_g := hide (Rx14_g.out.below hbx15 Rx14_g.out.lt)
        have Rx15_h := hide (Rx14_h.out.below hbx15 Rx14_h.out.lt)
        have Qx15 := hide (Qx14.out.trans (hbx15.mono Qx14.out.size))
        clear hbx15
        go_wp2_with fail
        go_meet
        exact ⟨rfl, Qx15.out⟩
      | true =>
        subst hv
        obtain rfl := kB rfl
        clear kB
        have zwB_h0 : wB.cell? ⟨bh, 0, none⟩ = some (.int .i64 mx) := RwB_h.out.cell 0 (by omega)
        have zwB_h1 : wB.cell? ⟨bh, 1, none⟩ = some (.int .i64 lo) := RwB_h.out.cell 1 (by omega)
        have zwB_h2 : wB.cell? ⟨bh, 2, none⟩ = some (.int .i64 re) := RwB_h.out.cell 2 (by omega)
        have zwB_h3 : wB.cell? ⟨bh, 3, none⟩ = some (.int .i64 ak) := RwB_h.out.cell 3 (by omega)
        have zwB_h4 : wB.cell? ⟨bh, 4, none⟩ = some (.int .i64 so) := RwB_h.out.cell 4 (by omega)
        have zwB_h5 : wB.cell? ⟨bh, 5, none⟩ = some (.int .i64 sp) := RwB_h.out.cell 5 (by omega)
        have zwB_h6 : wB.cell? ⟨bh, 6, none⟩ = some (.int .i64 (n : Int)) := RwB_h.out.cell 6 (by omega)
        have zwB_h7 : wB.cell? ⟨bh, 7, none⟩ = some (.int .i64 ap) := RwB_h.out.cell 7 (by omega)
        have zwB_h8 : wB.cell? ⟨bh, 8, none⟩ = some (.int .i64 fa) := RwB_h.out.cell 8 (by omega)
        have zwB_h9 : wB.cell? ⟨bh, 9, none⟩ = some (.int .i64 cl) := RwB_h.out.cell 9 (by omega)
        go_wp2_with fail
        refine (Hhba.out _).mono ?_
        rintro e x16 ⟨rfl, hbx16⟩
        clear zwB_h0 zwB_h1 zwB_h2 zwB_h3 zwB_h4 zwB_h5 zwB_h6 zwB_h7 zwB_h8 zwB_h9
        have Rx16_s := hide (RwB_s.out.below hbx16 RwB_s.out.lt)
        have Rx16_g := hide (RwB_g.out.below hbx16 RwB_g.out.lt)
        have Rx16_h := hide (RwB_h.out.below hbx16 RwB_h.out.lt)
        have Qx16 := hide hbx16
        clear hbx16
        have zx16_g0 : x16.cell? ⟨wog.heap.size, 0, none⟩ = some (.int .i64 mk) := Rx16_g.out.cell 0 (by omega)
        have zx16_g1 : x16.cell? ⟨wog.heap.size, 1, none⟩ = some (.int .i64 lo) := Rx16_g.out.cell 1 (by omega)
        have zx16_g2 : x16.cell? ⟨wog.heap.size, 2, none⟩ = some (.int .i64 re) := Rx16_g.out.cell 2 (by omega)
        have zx16_g3 : x16.cell? ⟨wog.heap.size, 3, none⟩ = some (.int .i64 ak) := Rx16_g.out.cell 3 (by omega)
        have zx16_g4 : x16.cell? ⟨wog.heap.size, 4, none⟩ = some (.int .i64 so) := Rx16_g.out.cell 4 (by omega)
        have zx16_g5 : x16.cell? ⟨wog.heap.size, 5, none⟩ = some (.int .i64 sp) := Rx16_g.out.cell 5 (by omega)
        have zx16_g6 : x16.cell? ⟨wog.heap.size, 6, none⟩ = some (.int .i64 (n : Int)) := Rx16_g.out.cell 6 (by omega)
        have zx16_g7 : x16.cell? ⟨wog.heap.size, 7, none⟩ = some (.int .i64 ap) := Rx16_g.out.cell 7 (by omega)
        have zx16_g8 : x16.cell? ⟨wog.heap.size, 8, none⟩ = some (.int .i64 fa) := Rx16_g.out.cell 8 (by omega)
        have zx16_g9 : x16.cell? ⟨wog.heap.size, 9, none⟩ = some (.int .i64 cl) := Rx16_g.out.cell 9 (by omega)
        go_wp2_with fail
        refine (Hgsb.out _).mono ?_
        rintro e x17 ⟨rfl, hbx17⟩
        clear zx16_g0 zx16_g1 zx16_g2 zx16_g3 zx16_g4 zx16_g5 zx16_g6 zx16_g7 zx16_g8 zx16_g9
        have Rx17_s := hide (Rx16_s.out.below hbx17 Rx16_s.out.lt)
        have Rx17_g := hide (Rx16_g.out.below hbx17 Rx16_g.out.lt)
        have Rx17_h := hide (Rx16_h.out.below hbx17 Rx16_h.out.lt)
        have Qx17 := hide (Qx16.out.trans (hbx17.mono Qx16.out.size))
        clear hbx17
        have zx17_h0 : x17.cell? ⟨bh, 0, none⟩ = some (.int .i64 mx) := Rx17_h.out.cell 0 (by omega)
        have zx17_h1 : x17.cell? ⟨bh, 1, none⟩ = some (.int .i64 lo) := Rx17_h.out.cell 1 (by omega)
        have zx17_h2 : x17.cell? ⟨bh, 2, none⟩ = some (.int .i64 re) := Rx17_h.out.cell 2 (by omega)
        have zx17_h3 : x17.cell? ⟨bh, 3, none⟩ = some (.int .i64 ak) := Rx17_h.out.cell 3 (by omega)
        have zx17_h4 : x17.cell? ⟨bh, 4, none⟩ = some (.int .i64 so) := Rx17_h.out.cell 4 (by omega)
        have zx17_h5 : x17.cell? ⟨bh, 5, none⟩ = some (.int .i64 sp) := Rx17_h.out.cell 5 (by omega)
        have zx17_h6 : x17.cell? ⟨bh, 6, none⟩ = some (.int .i64 (n : Int)) := Rx17_h.out.cell 6 (by omega)
        have zx17_h7 : x17.cell? ⟨bh, 7, none⟩ = some (.int .i64 ap) := Rx17_h.out.cell 7 (by omega)
        have zx17_h8 : x17.cell? ⟨bh, 8, none⟩ = some (.int .i64 fa) := Rx17_h.out.cell 8 (by omega)
        have zx17_h9 : x17.cell? ⟨bh, 9, none⟩ = some (.int .i64 cl) := Rx17_h.out.cell 9 (by omega)
        go_wp2_with fail
        refine (Hhsb.out _).mono ?_
        rintro e x18 ⟨rfl, hbx18⟩
        clear zx17_h0 zx17_h1 zx17_h2 zx17_h3 zx17_h4 zx17_h5 zx17_h6 zx17_h7 zx17_h8 zx17_h9
        have Rx18_s := hide (Rx17_s.out.below hbx18 Rx17_s.out.lt)
        have Rx18_g := hide (Rx17_g.out.below hbx18 Rx17_g.out.lt)
        have Rx18_h := hide (Rx17_h.out.below hbx18 Rx17_h.out.lt)
        have Qx18 := hide (Qx17.out.trans (hbx18.mono Qx17.out.size))
        clear hbx18
        go_wp2_with fail
        go_meet
        exact ⟨rfl, Qx18.out⟩
    | true =>
      subst hv
      obtain rfl := kA rfl
      clear kA
      cases hv : vgsb with
      | false =>
        subst hv
        clear kB
        have zwB_h0 : wB.cell? ⟨bh, 0, none⟩ = some (.int .i64 mx) := RwB_h.out.cell 0 (by omega)
        have zwB_h1 : wB.cell? ⟨bh, 1, none⟩ = some (.int .i64 lo) := RwB_h.out.cell 1 (by omega)
        have zwB_h2 : wB.cell? ⟨bh, 2, none⟩ = some (.int .i64 re) := RwB_h.out.cell 2 (by omega)
        have zwB_h3 : wB.cell? ⟨bh, 3, none⟩ = some (.int .i64 ak) := RwB_h.out.cell 3 (by omega)
        have zwB_h4 : wB.cell? ⟨bh, 4, none⟩ = some (.int .i64 so) := RwB_h.out.cell 4 (by omega)
        have zwB_h5 : wB.cell? ⟨bh, 5, none⟩ = some (.int .i64 sp) := RwB_h.out.cell 5 (by omega)
        have zwB_h6 : wB.cell? ⟨bh, 6, none⟩ = some (.int .i64 (n : Int)) := RwB_h.out.cell 6 (by omega)
        have zwB_h7 : wB.cell? ⟨bh, 7, none⟩ = some (.int .i64 ap) := RwB_h.out.cell 7 (by omega)
        have zwB_h8 : wB.cell? ⟨bh, 8, none⟩ = some (.int .i64 fa) := RwB_h.out.cell 8 (by omega)
        have zwB_h9 : wB.cell? ⟨bh, 9, none⟩ = some (.int .i64 cl) := RwB_h.out.cell 9 (by omega)
        go_wp2_with fail
        refine (Hhba.out _).mono ?_
        rintro e x19 ⟨rfl, hbx19⟩
        clear zwB_h0 zwB_h1 zwB_h2 zwB_h3 zwB_h4 zwB_h5 zwB_h6 zwB_h7 zwB_h8 zwB_h9
        have Rx19_s := hide (RwB_s.out.below hbx19 RwB_s.out.lt)
        have Rx19_g := hide (RwB_g.out.below hbx19 RwB_g.out.lt)
        have Rx19_h := hide (RwB_h.out.below hbx19 RwB_h.out.lt)
        have Qx19 := hide hbx19
        clear hbx19
        have zx19_g0 : x19.cell? ⟨wog.heap.size, 0, none⟩ = some (.int .i64 mk) := Rx19_g.out.cell 0 (by omega)
        have zx19_g1 : x19.cell? ⟨wog.heap.size, 1, none⟩ = some (.int .i64 lo) := Rx19_g.out.cell 1 (by omega)
        have zx19_g2 : x19.cell? ⟨wog.heap.size, 2, none⟩ = some (.int .i64 re) := Rx19_g.out.cell 2 (by omega)
        have zx19_g3 : x19.cell? ⟨wog.heap.size, 3, none⟩ = some (.int .i64 ak) := Rx19_g.out.cell 3 (by omega)
        have zx19_g4 : x19.cell? ⟨wog.heap.size, 4, none⟩ = some (.int .i64 so) := Rx19_g.out.cell 4 (by omega)
        have zx19_g5 : x19.cell? ⟨wog.heap.size, 5, none⟩ = some (.int .i64 sp) := Rx19_g.out.cell 5 (by omega)
        have zx19_g6 : x19.cell? ⟨wog.heap.size, 6, none⟩ = some (.int .i64 (n : Int)) := Rx19_g.out.cell 6 (by omega)
        have zx19_g7 : x19.cell? ⟨wog.heap.size, 7, none⟩ = some (.int .i64 ap) := Rx19_g.out.cell 7 (by omega)
        have zx19_g8 : x19.cell? ⟨wog.heap.size, 8, none⟩ = some (.int .i64 fa) := Rx19_g.out.cell 8 (by omega)
        have zx19_g9 : x19.cell? ⟨wog.heap.size, 9, none⟩ = some (.int .i64 cl) := Rx19_g.out.cell 9 (by omega)
        go_wp2_with fail
        refine (Hgba.out _).mono ?_
        rintro e x20 ⟨rfl, hbx20⟩
        clear zx19_g0 zx19_g1 zx19_g2 zx19_g3 zx19_g4 zx19_g5 zx19_g6 zx19_g7 zx19_g8 zx19_g9
        have Rx20_s := hide (Rx19_s.out.below hbx20 Rx19_s.out.lt)
        have Rx20_g := hide (Rx19_g.out.below hbx20 Rx19_g.out.lt)
        have Rx20_h := hide (Rx19_h.out.below hbx20 Rx19_h.out.lt)
        have Qx20 := hide (Qx19.out.trans (hbx20.mono Qx19.out.size))
        clear hbx20
        have zx20_g0 : x20.cell? ⟨wog.heap.size, 0, none⟩ = some (.int .i64 mk) := Rx20_g.out.cell 0 (by omega)
        have zx20_g1 : x20.cell? ⟨wog.heap.size, 1, none⟩ = some (.int .i64 lo) := Rx20_g.out.cell 1 (by omega)
        have zx20_g2 : x20.cell? ⟨wog.heap.size, 2, none⟩ = some (.int .i64 re) := Rx20_g.out.cell 2 (by omega)
        have zx20_g3 : x20.cell? ⟨wog.heap.size, 3, none⟩ = some (.int .i64 ak) := Rx20_g.out.cell 3 (by omega)
        have zx20_g4 : x20.cell? ⟨wog.heap.size, 4, none⟩ = some (.int .i64 so) := Rx20_g.out.cell 4 (by omega)
        have zx20_g5 : x20.cell? ⟨wog.heap.size, 5, none⟩ = some (.int .i64 sp) := Rx20_g.out.cell 5 (by omega)
        have zx20_g6 : x20.cell? ⟨wog.heap.size, 6, none⟩ = some (.int .i64 (n : Int)) := Rx20_g.out.cell 6 (by omega)
        have zx20_g7 : x20.cell? ⟨wog.heap.size, 7, none⟩ = some (.int .i64 ap) := Rx20_g.out.cell 7 (by omega)
        have zx20_g8 : x20.cell? ⟨wog.heap.size, 8, none⟩ = some (.int .i64 fa) := Rx20_g.out.cell 8 (by omega)
        have zx20_g9 : x20.cell? ⟨wog.heap.size, 9, none⟩ = some (.int .i64 cl) := Rx20_g.out.cell 9 (by omega)
        go_wp2_with fail
        refine (Hgsb.out _).mono ?_
        rintro e x21 ⟨rfl, hbx21⟩
        clear zx20_g0 zx20_g1 zx20_g2 zx20_g3 zx20_g4 zx20_g5 zx20_g6 zx20_g7 zx20_g8 zx20_g9
        have Rx21_s := hide (Rx20_s.out.below hbx21 Rx20_s.out.lt)
        have Rx21_g := hide (Rx20_g.out.below hbx21 Rx20_g.out.lt)
        have Rx21_h := hide (Rx20_h.out.below hbx21 Rx20_h.out.lt)
        have Qx21 := hide (Qx20.out.trans (hbx21.mono Qx20.out.size))
        clear hbx21
        go_wp2_with fail
        go_meet
        exact ⟨rfl, Qx21.out⟩
      | true =>
        subst hv
        obtain rfl := kB rfl
        clear kB
        have zwB_h0 : wB.cell? ⟨bh, 0, none⟩ = some (.int .i64 mx) := RwB_h.out.cell 0 (by omega)
        have zwB_h1 : wB.cell? ⟨bh, 1, none⟩ = some (.int .i64 lo) := RwB_h.out.cell 1 (by omega)
        have zwB_h2 : wB.cell? ⟨bh, 2, none⟩ = some (.int .i64 re) := RwB_h.out.cell 2 (by omega)
        have zwB_h3 : wB.cell? ⟨bh, 3, none⟩ = some (.int .i64 ak) := RwB_h.out.cell 3 (by omega)
        have zwB_h4 : wB.cell? ⟨bh, 4, none⟩ = some (.int .i64 so) := RwB_h.out.cell 4 (by omega)
        have zwB_h5 : wB.cell? ⟨bh, 5, none⟩ = some (.int .i64 sp) := RwB_h.out.cell 5 (by omega)
        have zwB_h6 : wB.cell? ⟨bh, 6, none⟩ = some (.int .i64 (n : Int)) := RwB_h.out.cell 6 (by omega)
        have zwB_h7 : wB.cell? ⟨bh, 7, none⟩ = some (.int .i64 ap) := RwB_h.out.cell 7 (by omega)
        have zwB_h8 : wB.cell? ⟨bh, 8, none⟩ = some (.int .i64 fa) := RwB_h.out.cell 8 (by omega)
        have zwB_h9 : wB.cell? ⟨bh, 9, none⟩ = some (.int .i64 cl) := RwB_h.out.cell 9 (by omega)
        go_wp2_with fail
        refine (Hhba.out _).mono ?_
        rintro e x22 ⟨rfl, hbx22⟩
        clear zwB_h0 zwB_h1 zwB_h2 zwB_h3 zwB_h4 zwB_h5 zwB_h6 zwB_h7 zwB_h8 zwB_h9
        have Rx22_s := hide (RwB_s.out.below hbx22 RwB_s.out.lt)
        have Rx22_g := hide (RwB_g.out.below hbx22 RwB_g.out.lt)
        have Rx22_h := hide (RwB_h.out.below hbx22 RwB_h.out.lt)
        have Qx22 := hide hbx22
        clear hbx22
        have zx22_g0 : x22.cell? ⟨wog.heap.size, 0, none⟩ = some (.int .i64 mk) := Rx22_g.out.cell 0 (by omega)
        have zx22_g1 : x22.cell? ⟨wog.heap.size, 1, none⟩ = some (.int .i64 lo) := Rx22_g.out.cell 1 (by omega)
        have zx22_g2 : x22.cell? ⟨wog.heap.size, 2, none⟩ = some (.int .i64 re) := Rx22_g.out.cell 2 (by omega)
        have zx22_g3 : x22.cell? ⟨wog.heap.size, 3, none⟩ = some (.int .i64 ak) := Rx22_g.out.cell 3 (by omega)
        have zx22_g4 : x22.cell? ⟨wog.heap.size, 4, none⟩ = some (.int .i64 so) := Rx22_g.out.cell 4 (by omega)
        have zx22_g5 : x22.cell? ⟨wog.heap.size, 5, none⟩ = some (.int .i64 sp) := Rx22_g.out.cell 5 (by omega)
        have zx22_g6 : x22.cell? ⟨wog.heap.size, 6, none⟩ = some (.int .i64 (n : Int)) := Rx22_g.out.cell 6 (by omega)
        have zx22_g7 : x22.cell? ⟨wog.heap.size, 7, none⟩ = some (.int .i64 ap) := Rx22_g.out.cell 7 (by omega)
        have zx22_g8 : x22.cell? ⟨wog.heap.size, 8, none⟩ = some (.int .i64 fa) := Rx22_g.out.cell 8 (by omega)
        have zx22_g9 : x22.cell? ⟨wog.heap.size, 9, none⟩ = some (.int .i64 cl) := Rx22_g.out.cell 9 (by omega)
        go_wp2_with fail
        refine (Hgba.out _).mono ?_
        rintro e x23 ⟨rfl, hbx23⟩
        clear zx22_g0 zx22_g1 zx22_g2 zx22_g3 zx22_g4 zx22_g5 zx22_g6 zx22_g7 zx22_g8 zx22_g9
        have Rx23_s := hide (Rx22_s.out.below hbx23 Rx22_s.out.lt)
        have Rx23_g := hide (Rx22_g.out.below hbx23 Rx22_g.out.lt)
        have Rx23_h := hide (Rx22_h.out.below hbx23 Rx22_h.out.lt)
        have Qx23 := hide (Qx22.out.trans (hbx23.mono Qx22.out.size))
        clear hbx23
        have zx23_g0 : x23.cell? ⟨wog.heap.size, 0, none⟩ = some (.int .i64 mk) := Rx23_g.out.cell 0 (by omega)
        have zx23_g1 : x23.cell? ⟨wog.heap.size, 1, none⟩ = some (.int .i64 lo) := Rx23_g.out.cell 1 (by omega)
        have zx23_g2 : x23.cell? ⟨wog.heap.size, 2, none⟩ = some (.int .i64 re) := Rx23_g.out.cell 2 (by omega)
        have zx23_g3 : x23.cell? ⟨wog.heap.size, 3, none⟩ = some (.int .i64 ak) := Rx23_g.out.cell 3 (by omega)
        have zx23_g4 : x23.cell? ⟨wog.heap.size, 4, none⟩ = some (.int .i64 so) := Rx23_g.out.cell 4 (by omega)
        have zx23_g5 : x23.cell? ⟨wog.heap.size, 5, none⟩ = some (.int .i64 sp) := Rx23_g.out.cell 5 (by omega)
        have zx23_g6 : x23.cell? ⟨wog.heap.size, 6, none⟩ = some (.int .i64 (n : Int)) := Rx23_g.out.cell 6 (by omega)
        have zx23_g7 : x23.cell? ⟨wog.heap.size, 7, none⟩ = some (.int .i64 ap) := Rx23_g.out.cell 7 (by omega)
        have zx23_g8 : x23.cell? ⟨wog.heap.size, 8, none⟩ = some (.int .i64 fa) := Rx23_g.out.cell 8 (by omega)
        have zx23_g9 : x23.cell? ⟨wog.heap.size, 9, none⟩ = some (.int .i64 cl) := Rx23_g.out.cell 9 (by omega)
        go_wp2_with fail
        refine (Hgsb.out _).mono ?_
        rintro e x24 ⟨rfl, hbx24⟩
        clear zx23_g0 zx23_g1 zx23_g2 zx23_g3 zx23_g4 zx23_g5 zx23_g6 zx23_g7 zx23_g8 zx23_g9
        have Rx24_s := hide (Rx23_s.out.below hbx24 Rx23_s.out.lt)
        have Rx24_g := hide (Rx23_g.out.below hbx24 Rx23_g.out.lt)
        have Rx24_h := hide (Rx23_h.out.below hbx24 Rx23_h.out.lt)
        have Qx24 := hide (Qx23.out.trans (hbx24.mono Qx23.out.size))
        clear hbx24
        have zx24_h0 : x24.cell? ⟨bh, 0, none⟩ = some (.int .i64 mx) := Rx24_h.out.cell 0 (by omega)
        have zx24_h1 : x24.cell? ⟨bh, 1, none⟩ = some (.int .i64 lo) := Rx24_h.out.cell 1 (by omega)
        have zx24_h2 : x24.cell? ⟨bh, 2, none⟩ = some (.int .i64 re) := Rx24_h.out.cell 2 (by omega)
        have zx24_h3 : x24.cell? ⟨bh, 3, none⟩ = some (.int .i64 ak) := Rx24_h.out.cell 3 (by omega)
        have zx24_h4 : x24.cell? ⟨bh, 4, none⟩ = some (.int .i64 so) := Rx24_h.out.cell 4 (by omega)
        have zx24_h5 : x24.cell? ⟨bh, 5, none⟩ = some (.int .i64 sp) := Rx24_h.out.cell 5 (by omega)
        have zx24_h6 : x24.cell? ⟨bh, 6, none⟩ = some (.int .i64 (n : Int)) := Rx24_h.out.cell 6 (by omega)
        have zx24_h7 : x24.cell? ⟨bh, 7, none⟩ = some (.int .i64 ap) := Rx24_h.out.cell 7 (by omega)
        have zx24_h8 : x24.cell? ⟨bh, 8, none⟩ = some (.int .i64 fa) := Rx24_h.out.cell 8 (by omega)
        have zx24_h9 : x24.cell? ⟨bh, 9, none⟩ = some (.int .i64 cl) := Rx24_h.out.cell 9 (by omega)
        go_wp2_with fail
        refine (Hhsb.out _).mono ?_
        rintro e x25 ⟨rfl, hbx25⟩
        clear zx24_h0 zx24_h1 zx24_h2 zx24_h3 zx24_h4 zx24_h5 zx24_h6 zx24_h7 zx24_h8 zx24_h9
        have Rx25_s := hide (Rx24_s.out.below hbx25 Rx24_s.out.lt)
        have Rx25_g := hide (Rx24_g.out.below hbx25 Rx24_g.out.lt)
        have Rx25_h := hide (Rx24_h.out.below hbx25 Rx24_h.out.lt)
        have Qx25 := hide (Qx24.out.trans (hbx25.mono Qx24.out.size))
        clear hbx25
        go_wp2_with fail
        go_meet
        exact ⟨rfl, Qx25.out⟩
  case rest =>
  obtain ⟨rfl, hbc⟩ := hcut
  generalize wc = wC at hbc ⊢
  have RwC_s := hide (RwB_s.out.below hbc RwB_s.out.lt)
  have RwC_g := hide (RwB_g.out.below hbc RwB_g.out.lt)
  have RwC_h := hide (RwB_h.out.below hbc RwB_h.out.lt)
  have BwC := hide (BwB.out.trans (hbc.mono BwB.out.size))
  clear hbc RwB_s RwB_g RwB_h
  obtain ⟨V1l, V2l, hV1l, rV1, hV2l, rV2, bV2⟩ := copySt wC s
  have RV1l := hide rV1
  obtain ⟨V3l, hV3l, rV3, bV3⟩ := setSt (s' := (s.setF 180)) rV2 113 (.int .i64 180) (St.fail_set s _)
  have fz : V2l.frozen? ⟨wC.heap.size, 113, none⟩ = false := rV2.frozen 113
  have cz : V2l.cell? ⟨wC.heap.size, 113, none⟩ = some (.int .i64 s.fail) := rV2.cell 113 (by omega)
  generalize s.fail = zz at cz
  have BV := hide (bV3 _ _ (Nat.le_refl _) bV2)
  have RV3l := hide rV3
  have RV2l := hide rV2
  clear rV1 rV2 rV3 bV2 bV3
  have RV_s := hide (RwC_s.out.below BV.out RwC_s.out.lt)
  have RV_g := hide (RwC_g.out.below BV.out RwC_g.out.lt)
  have RV_h := hide (RwC_h.out.below BV.out RwC_h.out.lt)
  have BT := hide (BwC.out.trans (BV.out.mono BwC.out.size))
  clear BV
  go_wp2_with (first | (rw [hV3l]) | (refine wpW_st _ rfl w.heap.size rfl rfl s RwC_s.out ?_) | (refine wpList_alloc_z rfl 30 zS.v 115 infoStz rfl ?_; rw [hV1l]) | (refine wpList_storeSt rfl _ _ rfl rfl wC.heap.size s rfl rfl zS.v RV1l.out ?_; rw [hV2l]) | (refine wpW_st _ rfl wC.heap.size rfl rfl (s.setF 180) RV3l.out ?_) | fail)
  clear RwC_s RwC_g RwC_h
  refine (HO3.out _).mono ?_
  rintro e wol ⟨rfl, hbo⟩
  obtain ⟨wD, hWgl, bg, lg, rg⟩ := newGt wol (⟨mk, lo, re, ak, so, sp, n, ap, 180, cl⟩ : Gt)
  have hWgl : wol.alloc (.cells #[.int .i64 mk, .int .i64 lo, .int .i64 re, .int .i64 ak, .int .i64 so, .int .i64 sp, .int .i64 (n : Int), .int .i64 ap, .int .i64 180, .int .i64 cl] 32) = wD := hWgl
  have BwD := hide (BT.out.trans ((below2 hbo bg).mono BT.out.size))
  have RwD_s := hide (RV_s.out.below (below2 hbo bg) RV_s.out.lt)
  have RwD_g := hide (RV_g.out.below (below2 hbo bg) RV_g.out.lt)
  have RwD_h := hide (RV_h.out.below (below2 hbo bg) RV_h.out.lt)
  have RwD_l := hide rg
  clear hbo bg lg rg BT cz fz RV_s RV_g RV_h
  go_upto_region 10 with (first | (rw [hWgl]) | fail)
  obtain ⟨e1, e2, e3, e4⟩ := k3.out
  subst e1 e2 e3 e4
  go_cut [109] from 17 (fun sC wx => sC = .bool false ∧ Below wD.heap.size wD wx)
  case first =>
    have zwD_l0 : wD.cell? ⟨wol.heap.size, 0, none⟩ = some (.int .i64 mk) := RwD_l.out.cell 0 (by omega)
    have zwD_l1 : wD.cell? ⟨wol.heap.size, 1, none⟩ = some (.int .i64 lo) := RwD_l.out.cell 1 (by omega)
    have zwD_l2 : wD.cell? ⟨wol.heap.size, 2, none⟩ = some (.int .i64 re) := RwD_l.out.cell 2 (by omega)
    have zwD_l3 : wD.cell? ⟨wol.heap.size, 3, none⟩ = some (.int .i64 ak) := RwD_l.out.cell 3 (by omega)
    have zwD_l4 : wD.cell? ⟨wol.heap.size, 4, none⟩ = some (.int .i64 so) := RwD_l.out.cell 4 (by omega)
    have zwD_l5 : wD.cell? ⟨wol.heap.size, 5, none⟩ = some (.int .i64 sp) := RwD_l.out.cell 5 (by omega)
    have zwD_l6 : wD.cell? ⟨wol.heap.size, 6, none⟩ = some (.int .i64 (n : Int)) := RwD_l.out.cell 6 (by omega)
    have zwD_l7 : wD.cell? ⟨wol.heap.size, 7, none⟩ = some (.int .i64 ap) := RwD_l.out.cell 7 (by omega)
    have zwD_l8 : wD.cell? ⟨wol.heap.size, 8, none⟩ = some (.int .i64 180) := RwD_l.out.cell 8 (by omega)
    have zwD_l9 : wD.cell? ⟨wol.heap.size, 9, none⟩ = some (.int .i64 cl) := RwD_l.out.cell 9 (by omega)
    go_wp2_with fail
    refine (Hlba.out _).mono ?_
    rintro e x26 ⟨rfl, hbx26⟩
    clear zwD_l0 zwD_l1 zwD_l2 zwD_l3 zwD_l4 zwD_l5 zwD_l6 zwD_l7 zwD_l8 zwD_l9
    have Rx26_s := hide (RwD_s.out.below hbx26 RwD_s.out.lt)
    have Rx26_g := hide (RwD_g.out.below hbx26 RwD_g.out.lt)
    have Rx26_h := hide (RwD_h.out.below hbx26 RwD_h.out.lt)
    have Rx26_l := hide (RwD_l.out.below hbx26 RwD_l.out.lt)
    have Qx26 := hide hbx26
    clear hbx26
    have zx26_l0 : x26.cell? ⟨wol.heap.size, 0, none⟩ = some (.int .i64 mk) := Rx26_l.out.cell 0 (by omega)
    have zx26_l1 : x26.cell? ⟨wol.heap.size, 1, none⟩ = some (.int .i64 lo) := Rx26_l.out.cell 1 (by omega)
    have zx26_l2 : x26.cell? ⟨wol.heap.size, 2, none⟩ = some (.int .i64 re) := Rx26_l.out.cell 2 (by omega)
    have zx26_l3 : x26.cell? ⟨wol.heap.size, 3, none⟩ = some (.int .i64 ak) := Rx26_l.out.cell 3 (by omega)
    have zx26_l4 : x26.cell? ⟨wol.heap.size, 4, none⟩ = some (.int .i64 so) := Rx26_l.out.cell 4 (by omega)
    have zx26_l5 : x26.cell? ⟨wol.heap.size, 5, none⟩ = some (.int .i64 sp) := Rx26_l.out.cell 5 (by omega)
    have zx26_l6 : x26.cell? ⟨wol.heap.size, 6, none⟩ = some (.int .i64 (n : Int)) := Rx26_l.out.cell 6 (by omega)
    have zx26_l7 : x26.cell? ⟨wol.heap.size, 7, none⟩ = some (.int .i64 ap) := Rx26_l.out.cell 7 (by omega)
    have zx26_l8 : x26.cell? ⟨wol.heap.size, 8, none⟩ = some (.int .i64 180) := Rx26_l.out.cell 8 (by omega)
    have zx26_l9 : x26.cell? ⟨wol.heap.size, 9, none⟩ = some (.int .i64 cl) := Rx26_l.out.cell 9 (by omega)
    go_wp2_with fail
    refine (Hlsb.out _).mono ?_
    rintro e x27 ⟨rfl, hbx27⟩
    clear zx26_l0 zx26_l1 zx26_l2 zx26_l3 zx26_l4 zx26_l5 zx26_l6 zx26_l7 zx26_l8 zx26_l9
    have Rx27_s := hide (Rx26_s.out.below hbx27 Rx26_s.out.lt)
    have Rx27_g := hide (Rx26_g.out.below hbx27 Rx26_g.out.lt)
    have Rx27_h := hide (Rx26_h.out.below hbx27 Rx26_h.out.lt)
    have Rx27_l := hide (Rx26_l.out.below hbx27 Rx26_l.out.lt)
    have Qx27 := hide (Qx26.out.trans (hbx27.mono Qx26.out.size))
    clear hbx27
    have zx27_l0 : x27.cell? ⟨wol.heap.size, 0, none⟩ = some (.int .i64 mk) := Rx27_l.out.cell 0 (by omega)
    have zx27_l1 : x27.cell? ⟨wol.heap.size, 1, none⟩ = some (.int .i64 lo) := Rx27_l.out.cell 1 (by omega)
    have zx27_l2 : x27.cell? ⟨wol.heap.size, 2, none⟩ = some (.int .i64 re) := Rx27_l.out.cell 2 (by omega)
    have zx27_l3 : x27.cell? ⟨wol.heap.size, 3, none⟩ = some (.int .i64 ak) := Rx27_l.out.cell 3 (by omega)
    have zx27_l4 : x27.cell? ⟨wol.heap.size, 4, none⟩ = some (.int .i64 so) := Rx27_l.out.cell 4 (by omega)
    have zx27_l5 : x27.cell? ⟨wol.heap.size, 5, none⟩ = some (.int .i64 sp) := Rx27_l.out.cell 5 (by omega)
    have zx27_l6 : x27.cell? ⟨wol.heap.size, 6, none⟩ = some (.int .i64 (n : Int)) := Rx27_l.out.cell 6 (by omega)
    have zx27_l7 : x27.cell? ⟨wol.heap.size, 7, none⟩ = some (.int .i64 ap) := Rx27_l.out.cell 7 (by omega)
    have zx27_l8 : x27.cell? ⟨wol.heap.size, 8, none⟩ = some (.int .i64 180) := Rx27_l.out.cell 8 (by omega)
    have zx27_l9 : x27.cell? ⟨wol.heap.size, 9, none⟩ = some (.int .i64 cl) := Rx27_l.out.cell 9 (by omega)
    have zx27_s11 : x27.cell? ⟨w.heap.size, 11, none⟩ = some (.int .i64 so) := hc11.out _ Rx27_s.out
    have zx27_s12 : x27.cell? ⟨w.heap.size, 12, none⟩ = some (.int .i64 sp) := hc12.out _ Rx27_s.out
    go_wp2_with fail
    refine (Hlga.out _).mono ?_
    rintro e x28 ⟨rfl, hbx28⟩
    clear zx27_l0 zx27_l1 zx27_l2 zx27_l3 zx27_l4 zx27_l5 zx27_l6 zx27_l7 zx27_l8 zx27_l9 zx27_s11 zx27_s12
    have Rx28_s := hide (Rx27_s.out.below hbx28 Rx27_s.out.lt)
    have Rx28_g := hide (Rx27_g.out.below hbx28 Rx27_g.out.lt)
    have Rx28_h := hide (Rx27_h.out.below hbx28 Rx27_h.out.lt)
    have Rx28_l := hide (Rx27_l.out.below hbx28 Rx27_l.out.lt)
    have Qx28 := hide (Qx27.out.trans (hbx28.mono Qx27.out.size))
    clear hbx28
    have zx28_l0 : x28.cell? ⟨wol.heap.size, 0, none⟩ = some (.int .i64 mk) := Rx28_l.out.cell 0 (by omega)
    have zx28_l1 : x28.cell? ⟨wol.heap.size, 1, none⟩ = some (.int .i64 lo) := Rx28_l.out.cell 1 (by omega)
    have zx28_l2 : x28.cell? ⟨wol.heap.size, 2, none⟩ = some (.int .i64 re) := Rx28_l.out.cell 2 (by omega)
    have zx28_l3 : x28.cell? ⟨wol.heap.size, 3, none⟩ = some (.int .i64 ak) := Rx28_l.out.cell 3 (by omega)
    have zx28_l4 : x28.cell? ⟨wol.heap.size, 4, none⟩ = some (.int .i64 so) := Rx28_l.out.cell 4 (by omega)
    have zx28_l5 : x28.cell? ⟨wol.heap.size, 5, none⟩ = some (.int .i64 sp) := Rx28_l.out.cell 5 (by omega)
    have zx28_l6 : x28.cell? ⟨wol.heap.size, 6, none⟩ = some (.int .i64 (n : Int)) := Rx28_l.out.cell 6 (by omega)
    have zx28_l7 : x28.cell? ⟨wol.heap.size, 7, none⟩ = some (.int .i64 ap) := Rx28_l.out.cell 7 (by omega)
    have zx28_l8 : x28.cell? ⟨wol.heap.size, 8, none⟩ = some (.int .i64 180) := Rx28_l.out.cell 8 (by omega)
    have zx28_l9 : x28.cell? ⟨wol.heap.size, 9, none⟩ = some (.int .i64 cl) := Rx28_l.out.cell 9 (by omega)
    have zx28_s4 : x28.cell? ⟨w.heap.size, 4, none⟩ = some (.slice oa n oc) := hc4.out _ Rx28_s.out
    have zx28_s10 : x28.cell? ⟨w.heap.size, 10, none⟩ = some (.int .i64 ap) := hc10.out _ Rx28_s.out
    go_wp2_with fail
    refine (Hlgb.out _).mono ?_
    rintro e x29 ⟨rfl, hbx29⟩
    clear zx28_l0 zx28_l1 zx28_l2 zx28_l3 zx28_l4 zx28_l5 zx28_l6 zx28_l7 zx28_l8 zx28_l9 zx28_s4 zx28_s10
    have Rx29_s := hide (Rx28_s.out.below hbx29 Rx28_s.out.lt)
    have Rx29_g := hide (Rx28_g.out.below hbx29 Rx28_g.out.lt)
    have Rx29_h := hide (Rx28_h.out.below hbx29 Rx28_h.out.lt)
    have Rx29_l := hide (Rx28_l.out.below hbx29 Rx28_l.out.lt)
    have Qx29 := hide (Qx28.out.trans (hbx29.mono Qx28.out.size))
    clear hbx29
    go_wp2_with fail
    go_meet
    exact ⟨rfl, Qx29.out⟩
  case rest =>
  obtain ⟨rfl, hbc⟩ := hcut
  generalize wc = wE at hbc ⊢
  have RwE_s := hide (RwD_s.out.below hbc RwD_s.out.lt)
  have RwE_g := hide (RwD_g.out.below hbc RwD_g.out.lt)
  have RwE_h := hide (RwD_h.out.below hbc RwD_h.out.lt)
  have RwE_l := hide (RwD_l.out.below hbc RwD_l.out.lt)
  have BwE := hide (BwD.out.trans (hbc.mono BwD.out.size))
  clear hbc RwD_s RwD_g RwD_h RwD_l
  obtain ⟨V1c, V2c, hV1c, rV1, hV2c, rV2, bV2⟩ := copySt wE s
  have RV1c := hide rV1
  obtain ⟨V3c, hV3c, rV3, bV3⟩ := setSt (s' := (s.setC a)) rV2 114 (.int .i64 a) (St.closed_set s _)
  have fz : V2c.frozen? ⟨wE.heap.size, 114, none⟩ = false := rV2.frozen 114
  have cz : V2c.cell? ⟨wE.heap.size, 114, none⟩ = some (.int .i64 s.closed) := rV2.cell 114 (by omega)
  generalize s.closed = zz at cz
  have BV := hide (bV3 _ _ (Nat.le_refl _) bV2)
  have RV3c := hide rV3
  have RV2c := hide rV2
  clear rV1 rV2 rV3 bV2 bV3
  have RV_s := hide (RwE_s.out.below BV.out RwE_s.out.lt)
  have RV_g := hide (RwE_g.out.below BV.out RwE_g.out.lt)
  have RV_h := hide (RwE_h.out.below BV.out RwE_h.out.lt)
  have RV_l := hide (RwE_l.out.below BV.out RwE_l.out.lt)
  have BT := hide (BwE.out.trans (BV.out.mono BwE.out.size))
  clear BV
  go_wp2_with (first | (rw [hV3c]) | (refine wpW_st _ rfl w.heap.size rfl rfl s RwE_s.out ?_) | (refine wpList_alloc_z rfl 30 zS.v 115 infoStz rfl ?_; rw [hV1c]) | (refine wpList_storeSt rfl _ _ rfl rfl wE.heap.size s rfl rfl zS.v RV1c.out ?_; rw [hV2c]) | (refine wpW_st _ rfl wE.heap.size rfl rfl (s.setC a) RV3c.out ?_) | fail)
  clear RwE_s RwE_g RwE_h RwE_l
  refine (HO4.out _).mono ?_
  rintro e woc ⟨rfl, hbo⟩
  obtain ⟨wF, hWgc, bg, lg, rg⟩ := newGt woc (⟨mk, lo, re, ak, so, sp, n, ap, fa, a⟩ : Gt)
  have hWgc : woc.alloc (.cells #[.int .i64 mk, .int .i64 lo, .int .i64 re, .int .i64 ak, .int .i64 so, .int .i64 sp, .int .i64 (n : Int), .int .i64 ap, .int .i64 fa, .int .i64 a] 32) = wF := hWgc
  have BwF := hide (BT.out.trans ((below2 hbo bg).mono BT.out.size))
  have RwF_s := hide (RV_s.out.below (below2 hbo bg) RV_s.out.lt)
  have RwF_g := hide (RV_g.out.below (below2 hbo bg) RV_g.out.lt)
  have RwF_h := hide (RV_h.out.below (below2 hbo bg) RV_h.out.lt)
  have RwF_l := hide (RV_l.out.below (below2 hbo bg) RV_l.out.lt)
  have RwF_c := hide rg
  clear hbo bg lg rg BT cz fz RV_s RV_g RV_h RV_l
  go_upto_region 15 with (first | (rw [hWgc]) | fail)
  cases qa : (a == -1) with
  | true =>
    go_wp2
    go_ret
    exact ⟨rfl, BwF.out⟩
  | false =>
    obtain ⟨f1, f2, f3⟩ := k4.out (by simpa using qa)
    subst f1 f2
    cases hv : vcbb with
    | false =>
      subst hv
      clear f3
      have zwF_c0 : wF.cell? ⟨woc.heap.size, 0, none⟩ = some (.int .i64 mk) := RwF_c.out.cell 0 (by omega)
      have zwF_c1 : wF.cell? ⟨woc.heap.size, 1, none⟩ = some (.int .i64 lo) := RwF_c.out.cell 1 (by omega)
      have zwF_c2 : wF.cell? ⟨woc.heap.size, 2, none⟩ = some (.int .i64 re) := RwF_c.out.cell 2 (by omega)
      have zwF_c3 : wF.cell? ⟨woc.heap.size, 3, none⟩ = some (.int .i64 ak) := RwF_c.out.cell 3 (by omega)
      have zwF_c4 : wF.cell? ⟨woc.heap.size, 4, none⟩ = some (.int .i64 so) := RwF_c.out.cell 4 (by omega)
      have zwF_c5 : wF.cell? ⟨woc.heap.size, 5, none⟩ = some (.int .i64 sp) := RwF_c.out.cell 5 (by omega)
      have zwF_c6 : wF.cell? ⟨woc.heap.size, 6, none⟩ = some (.int .i64 (n : Int)) := RwF_c.out.cell 6 (by omega)
      have zwF_c7 : wF.cell? ⟨woc.heap.size, 7, none⟩ = some (.int .i64 ap) := RwF_c.out.cell 7 (by omega)
      have zwF_c8 : wF.cell? ⟨woc.heap.size, 8, none⟩ = some (.int .i64 fa) := RwF_c.out.cell 8 (by omega)
      have zwF_c9 : wF.cell? ⟨woc.heap.size, 9, none⟩ = some (.int .i64 a) := RwF_c.out.cell 9 (by omega)
      go_wp2_with fail
      refine (Hcsb.out _).mono ?_
      rintro e x30 ⟨rfl, hbx30⟩
      clear zwF_c0 zwF_c1 zwF_c2 zwF_c3 zwF_c4 zwF_c5 zwF_c6 zwF_c7 zwF_c8 zwF_c9
      have Rx30_s := hide (RwF_s.out.below hbx30 RwF_s.out.lt)
      have Rx30_g := hide (RwF_g.out.below hbx30 RwF_g.out.lt)
      have Rx30_h := hide (RwF_h.out.below hbx30 RwF_h.out.lt)
      have Rx30_l := hide (RwF_l.out.below hbx30 RwF_l.out.lt)
      have Rx30_c := hide (RwF_c.out.below hbx30 RwF_c.out.lt)
      have Qx30 := hide hbx30
      clear hbx30
      have zx30_c0 : x30.cell? ⟨woc.heap.size, 0, none⟩ = some (.int .i64 mk) := Rx30_c.out.cell 0 (by omega)
      have zx30_c1 : x30.cell? ⟨woc.heap.size, 1, none⟩ = some (.int .i64 lo) := Rx30_c.out.cell 1 (by omega)
      have zx30_c2 : x30.cell? ⟨woc.heap.size, 2, none⟩ = some (.int .i64 re) := Rx30_c.out.cell 2 (by omega)
      have zx30_c3 : x30.cell? ⟨woc.heap.size, 3, none⟩ = some (.int .i64 ak) := Rx30_c.out.cell 3 (by omega)
      have zx30_c4 : x30.cell? ⟨woc.heap.size, 4, none⟩ = some (.int .i64 so) := Rx30_c.out.cell 4 (by omega)
      have zx30_c5 : x30.cell? ⟨woc.heap.size, 5, none⟩ = some (.int .i64 sp) := Rx30_c.out.cell 5 (by omega)
      have zx30_c6 : x30.cell? ⟨woc.heap.size, 6, none⟩ = some (.int .i64 (n : Int)) := Rx30_c.out.cell 6 (by omega)
      have zx30_c7 : x30.cell? ⟨woc.heap.size, 7, none⟩ = some (.int .i64 ap) := Rx30_c.out.cell 7 (by omega)
      have zx30_c8 : x30.cell? ⟨woc.heap.size, 8, none⟩ = some (.int .i64 fa) := Rx30_c.out.cell 8 (by omega)
      have zx30_c9 : x30.cell? ⟨woc.heap.size, 9, none⟩ = some (.int .i64 a) := Rx30_c.out.cell 9 (by omega)
      have zx30_s11 : x30.cell? ⟨w.heap.size, 11, none⟩ = some (.int .i64 so) := hc11.out _ Rx30_s.out
      have zx30_s12 : x30.cell? ⟨w.heap.size, 12, none⟩ = some (.int .i64 sp) := hc12.out _ Rx30_s.out
      go_wp2_with fail
      refine (Hcgb.out _).mono ?_
      rintro e x31 ⟨rfl, hbx31⟩
      clear zx30_c0 zx30_c1 zx30_c2 zx30_c3 zx30_c4 zx30_c5 zx30_c6 zx30_c7 zx30_c8 zx30_c9 zx30_s11 zx30_s12
      have Rx31_s := hide (Rx30_s.out.below hbx31 Rx30_s.out.lt)
      have Rx31_g := hide (Rx30_g.out.below hbx31 Rx30_g.out.lt)
      have Rx31_h := hide (Rx30_h.out.below hbx31 Rx30_h.out.lt)
      have Rx31_l := hide (Rx30_l.out.below hbx31 Rx30_l.out.lt)
      have Rx31_c := hide (Rx30_c.out.below hbx31 Rx30_c.out.lt)
      have Qx31 := hide (Qx30.out.trans (hbx31.mono Qx30.out.size))
      clear hbx31
      have zx31_c0 : x31.cell? ⟨woc.heap.size, 0, none⟩ = some (.int .i64 mk) := Rx31_c.out.cell 0 (by omega)
      have zx31_c1 : x31.cell? ⟨woc.heap.size, 1, none⟩ = some (.int .i64 lo) := Rx31_c.out.cell 1 (by omega)
      have zx31_c2 : x31.cell? ⟨woc.heap.size, 2, none⟩ = some (.int .i64 re) := Rx31_c.out.cell 2 (by omega)
      have zx31_c3 : x31.cell? ⟨woc.heap.size, 3, none⟩ = some (.int .i64 ak) := Rx31_c.out.cell 3 (by omega)
      have zx31_c4 : x31.cell? ⟨woc.heap.size, 4, none⟩ = some (.int .i64 so) := Rx31_c.out.cell 4 (by omega)
      have zx31_c5 : x31.cell? ⟨woc.heap.size, 5, none⟩ = some (.int .i64 sp) := Rx31_c.out.cell 5 (by omega)
      have zx31_c6 : x31.cell? ⟨woc.heap.size, 6, none⟩ = some (.int .i64 (n : Int)) := Rx31_c.out.cell 6 (by omega)
      have zx31_c7 : x31.cell? ⟨woc.heap.size, 7, none⟩ = some (.int .i64 ap) := Rx31_c.out.cell 7 (by omega)
      have zx31_c8 : x31.cell? ⟨woc.heap.size, 8, none⟩ = some (.int .i64 fa) := Rx31_c.out.cell 8 (by omega)
      have zx31_c9 : x31.cell? ⟨woc.heap.size, 9, none⟩ = some (.int .i64 a) := Rx31_c.out.cell 9 (by omega)
      go_wp2_with fail
      refine (Hcbb.out _).mono ?_
      rintro e x32 ⟨rfl, hbx32⟩
      clear zx31_c0 zx31_c1 zx31_c2 zx31_c3 zx31_c4 zx31_c5 zx31_c6 zx31_c7 zx31_c8 zx31_c9
      have Rx32_s := hide (Rx31_s.out.below hbx32 Rx31_s.out.lt)
      have Rx32_g := hide (Rx31_g.out.below hbx32 Rx31_g.out.lt)
      have Rx32_h := hide (Rx31_h.out.below hbx32 Rx31_h.out.lt)
      have Rx32_l := hide (Rx31_l.out.below hbx32 Rx31_l.out.lt)
      have Rx32_c := hide (Rx31_c.out.below hbx32 Rx31_c.out.lt)
      have Qx32 := hide (Qx31.out.trans (hbx32.mono Qx31.out.size))
      clear hbx32
      go_wp2
      go_ret
      exact ⟨rfl, BwF.out.trans (Qx32.out.mono BwF.out.size)⟩
    | true =>
      subst hv
      have qb : (a == b) = true := by have := f3 rfl; simpa using this
      clear f3
      have zwF_c0 : wF.cell? ⟨woc.heap.size, 0, none⟩ = some (.int .i64 mk) := RwF_c.out.cell 0 (by omega)
      have zwF_c1 : wF.cell? ⟨woc.heap.size, 1, none⟩ = some (.int .i64 lo) := RwF_c.out.cell 1 (by omega)
      have zwF_c2 : wF.cell? ⟨woc.heap.size, 2, none⟩ = some (.int .i64 re) := RwF_c.out.cell 2 (by omega)
      have zwF_c3 : wF.cell? ⟨woc.heap.size, 3, none⟩ = some (.int .i64 ak) := RwF_c.out.cell 3 (by omega)
      have zwF_c4 : wF.cell? ⟨woc.heap.size, 4, none⟩ = some (.int .i64 so) := RwF_c.out.cell 4 (by omega)
      have zwF_c5 : wF.cell? ⟨woc.heap.size, 5, none⟩ = some (.int .i64 sp) := RwF_c.out.cell 5 (by omega)
      have zwF_c6 : wF.cell? ⟨woc.heap.size, 6, none⟩ = some (.int .i64 (n : Int)) := RwF_c.out.cell 6 (by omega)
      have zwF_c7 : wF.cell? ⟨woc.heap.size, 7, none⟩ = some (.int .i64 ap) := RwF_c.out.cell 7 (by omega)
      have zwF_c8 : wF.cell? ⟨woc.heap.size, 8, none⟩ = some (.int .i64 fa) := RwF_c.out.cell 8 (by omega)
      have zwF_c9 : wF.cell? ⟨woc.heap.size, 9, none⟩ = some (.int .i64 a) := RwF_c.out.cell 9 (by omega)
      go_wp2_with fail
      refine (Hcsb.out _).mono ?_
      rintro e x33 ⟨rfl, hbx33⟩
      clear zwF_c0 zwF_c1 zwF_c2 zwF_c3 zwF_c4 zwF_c5 zwF_c6 zwF_c7 zwF_c8 zwF_c9
      have Rx33_s := hide (RwF_s.out.below hbx33 RwF_s.out.lt)
      have Rx33_g := hide (RwF_g.out.below hbx33 RwF_g.out.lt)
      have Rx33_h := hide (RwF_h.out.below hbx33 RwF_h.out.lt)
      have Rx33_l := hide (RwF_l.out.below hbx33 RwF_l.out.lt)
      have Rx33_c := hide (RwF_c.out.below hbx33 RwF_c.out.lt)
      have Qx33 := hide hbx33
      clear hbx33
      have zx33_c0 : x33.cell? ⟨woc.heap.size, 0, none⟩ = some (.int .i64 mk) := Rx33_c.out.cell 0 (by omega)
      have zx33_c1 : x33.cell? ⟨woc.heap.size, 1, none⟩ = some (.int .i64 lo) := Rx33_c.out.cell 1 (by omega)
      have zx33_c2 : x33.cell? ⟨woc.heap.size, 2, none⟩ = some (.int .i64 re) := Rx33_c.out.cell 2 (by omega)
      have zx33_c3 : x33.cell? ⟨woc.heap.size, 3, none⟩ = some (.int .i64 ak) := Rx33_c.out.cell 3 (by omega)
      have zx33_c4 : x33.cell? ⟨woc.heap.size, 4, none⟩ = some (.int .i64 so) := Rx33_c.out.cell 4 (by omega)
      have zx33_c5 : x33.cell? ⟨woc.heap.size, 5, none⟩ = some (.int .i64 sp) := Rx33_c.out.cell 5 (by omega)
      have zx33_c6 : x33.cell? ⟨woc.heap.size, 6, none⟩ = some (.int .i64 (n : Int)) := Rx33_c.out.cell 6 (by omega)
      have zx33_c7 : x33.cell? ⟨woc.heap.size, 7, none⟩ = some (.int .i64 ap) := Rx33_c.out.cell 7 (by omega)
      have zx33_c8 : x33.cell? ⟨woc.heap.size, 8, none⟩ = some (.int .i64 fa) := Rx33_c.out.cell 8 (by omega)
      have zx33_c9 : x33.cell? ⟨woc.heap.size, 9, none⟩ = some (.int .i64 a) := Rx33_c.out.cell 9 (by omega)
      have zx33_s11 : x33.cell? ⟨w.heap.size, 11, none⟩ = some (.int .i64 so) := hc11.out _ Rx33_s.out
      have zx33_s12 : x33.cell? ⟨w.heap.size, 12, none⟩ = some (.int .i64 sp) := hc12.out _ Rx33_s.out
      go_wp2_with fail
      refine (Hcgb.out _).mono ?_
      rintro e x34 ⟨rfl, hbx34⟩
      clear zx33_c0 zx33_c1 zx33_c2 zx33_c3 zx33_c4 zx33_c5 zx33_c6 zx33_c7 zx33_c8 zx33_c9 zx33_s11 zx33_s12
      have Rx34_s := hide (Rx33_s.out.below hbx34 Rx33_s.out.lt)
      have Rx34_g := hide (Rx33_g.out.below hbx34 Rx33_g.out.lt)
      have Rx34_h := hide (Rx33_h.out.below hbx34 Rx33_h.out.lt)
      have Rx34_l := hide (Rx33_l.out.below hbx34 Rx33_l.out.lt)
      have Rx34_c := hide (Rx33_c.out.below hbx34 Rx33_c.out.lt)
      have Qx34 := hide (Qx33.out.trans (hbx34.mono Qx33.out.size))
      clear hbx34
      have zx34_c0 : x34.cell? ⟨woc.heap.size, 0, none⟩ = some (.int .i64 mk) := Rx34_c.out.cell 0 (by omega)
      have zx34_c1 : x34.cell? ⟨woc.heap.size, 1, none⟩ = some (.int .i64 lo) := Rx34_c.out.cell 1 (by omega)
      have zx34_c2 : x34.cell? ⟨woc.heap.size, 2, none⟩ = some (.int .i64 re) := Rx34_c.out.cell 2 (by omega)
      have zx34_c3 : x34.cell? ⟨woc.heap.size, 3, none⟩ = some (.int .i64 ak) := Rx34_c.out.cell 3 (by omega)
      have zx34_c4 : x34.cell? ⟨woc.heap.size, 4, none⟩ = some (.int .i64 so) := Rx34_c.out.cell 4 (by omega)
      have zx34_c5 : x34.cell? ⟨woc.heap.size, 5, none⟩ = some (.int .i64 sp) := Rx34_c.out.cell 5 (by omega)
      have zx34_c6 : x34.cell? ⟨woc.heap.size, 6, none⟩ = some (.int .i64 (n : Int)) := Rx34_c.out.cell 6 (by omega)
      have zx34_c7 : x34.cell? ⟨woc.heap.size, 7, none⟩ = some (.int .i64 ap) := Rx34_c.out.cell 7 (by omega)
      have zx34_c8 : x34.cell? ⟨woc.heap.size, 8, none⟩ = some (.int .i64 fa) := Rx34_c.out.cell 8 (by omega)
      have zx34_c9 : x34.cell? ⟨woc.heap.size, 9, none⟩ = some (.int .i64 a) := Rx34_c.out.cell 9 (by omega)
      go_wp2_with fail
      refine (Hcbb.out _).mono ?_
      rintro e x35 ⟨rfl, hbx35⟩
      clear zx34_c0 zx34_c1 zx34_c2 zx34_c3 zx34_c4 zx34_c5 zx34_c6 zx34_c7 zx34_c8 zx34_c9
      have Rx35_s := hide (Rx34_s.out.below hbx35 Rx34_s.out.lt)
      have Rx35_g := hide (Rx34_g.out.below hbx35 Rx34_g.out.lt)
      have Rx35_h := hide (Rx34_h.out.below hbx35 Rx34_h.out.lt)
      have Rx35_l := hide (Rx34_l.out.below hbx35 Rx34_l.out.lt)
      have Rx35_c := hide (Rx34_c.out.below hbx35 Rx34_c.out.lt)
      have Qx35 := hide (Qx34.out.trans (hbx35.mono Qx34.out.size))
      clear hbx35
      go_wp2
      go_ret
      exact ⟨rfl, BwF.out.trans (Qx35.out.mono BwF.out.size)⟩
end Go.Proofs.Ytnmoheipfadmeaa
