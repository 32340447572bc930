/-
  GateAsks (printed by gen_g2.py).
-/
import Derived.Test.YtnmoheipfadmeaaGtAskM
import Derived.Test.YtnmoheipfadmeaaGtOneS
namespace Go.Proofs.Ytnmoheipfadmeaa
open Go.RowKit S
set_option linter.unusedVariables false
set_option linter.unusedSimpArgs false
set_option maxRecDepth 100000 in
set_option maxHeartbeats 40000000 in
theorem asks_walk (mk : Int) (s : St) (i na nb : Int) (us : List Upd) (w : World) (hU : Upds w s.ours.ad us) (hn : us.length = s.ours.n) (hz : s.ours.n * 72 ≤ 140737488355328) : Calls Try.prog 5 #[.int .i64 mk, .agg (tabv s.v 115), .int .i64 i, .agg #[.int .i64 na, .int .i64 nb]] w fun e w' => e = .returned (.bool true) ∧ Below w.heap.size w w' := by
  obtain ⟨w1, hW1⟩ : ∃ x, w.alloc (.cells (tabv s.v 115) 30) = x := ⟨_, rfl⟩
  have r1 : Has w1 w.heap.size 30 s.v 115 := by rw [← hW1]; exact Has.new w 30 s.v 115 _ rfl
  have b1 : Below w.heap.size w w1 := by rw [← hW1]; exact (Below.refl w.heap.size w).alloc (Nat.le_refl _) _
  obtain ⟨w2, hW2⟩ : ∃ x, w1.alloc (.cells #[.int .i64 na, .int .i64 nb] 24) = x := ⟨_, rfl⟩
  have r2 : Has w2 w1.heap.size 24 (Ctv na nb) 2 := by rw [← hW2]; exact Has.new w1 _ (Ctv na nb) 2 _ rfl
  have b2 : Below w1.heap.size w1 w2 := by rw [← hW2]; exact (Below.refl w1.heap.size w1).alloc (Nat.le_refl _) _
  have r1 := r1.below b2 r1.lt
  have b2 := below2 b1 b2
  obtain ⟨V1, V2, hV1, rV1, hV2, rV2, bV2⟩ := copySt w2 s
  have RV1 := hide rV1
  have bT : Below w.heap.size w V2 := b2.trans (bV2.mono b2.size)
  obtain ⟨v3, V3, hA, hO, bA⟩ := run_app_all V2 s.ours.ad s.ours.c us (hU.below bT) (by rw [hn]; exact hz)
  obtain ⟨xa, xc, rfl, _, hxl, hxc, _⟩ := hO.upds
  rw [hn] at hA hO hxc
  have rV3 := rV2.below bA rV2.lt
  obtain ⟨V4, hV4, rV4, bV4⟩ := setSt (s' := s.setO ⟨xa, s.ours.n, xc⟩) rV3 4 (.slice xa s.ours.n xc) (St.ours_set s ⟨xa, s.ours.n, xc⟩)
  have fz4 : V3.frozen? ⟨w2.heap.size, 4, none⟩ = false := rV3.frozen 4
  have cz4 : V3.cell? ⟨w2.heap.size, 4, none⟩ = some (.slice s.ours.ad s.ours.n s.ours.c) := rV3.cell 4 (by omega)
  have hlo : w2.heap.size < V2.heap.size := rV2.lt
  have l0 : w.heap.size < w2.heap.size := r1.lt
  have l1 : w1.heap.size < w2.heap.size := r2.lt
  have b4 : Below V2.heap.size V2 V4 ∨ True := .inr trivial
  have hO4 : OwnU V2.heap.size V4 (.slice xa s.ours.n xc) us := hO.same fun k hk => by
    rw [← hV4]; exact heap_setCell_other V3 ⟨w2.heap.size, 4, none⟩ k _ (by have := (hO.lt k hk).1; intro e; simp only at e; omega)
  have bT4 : Below w2.heap.size w2 V4 := bV4 _ _ (Nat.le_refl _) (bV2.trans (bA.mono bV2.size))
  have R4_s := hide (r1.below bT4 r1.lt)
  have R4_n := hide (r2.below bT4 r2.lt)
  have R4_o := hide rV4
  have B4 := hide (b2.trans (bT4.mono b2.size))
  have c4s : V2.cell? ⟨w.heap.size, 4, none⟩ = some (.slice s.ours.ad s.ours.n s.ours.c) := (r1.below bV2 r1.lt).cell 4 (by omega)
  have HA := hide hA
  have HO4 := hide hO4
  have R2_s := hide r1
  have szX : V2.heap.size ≤ V4.heap.size := by rw [← hV4]; simp; exact bA.size
  clear hA hO hO4 rV1 rV2 rV3 rV4 bV2 bV4 bA bT b4 bT4 hU r1 r2 b1 b2 hxl
  have hc6 : ∀ wx, Has wx w.heap.size 30 s.v 115 → wx.cell? ⟨w.heap.size, 6, none⟩ = some (.int .i64 s.loc) := fun wx h => h.cell 6 (by omega)
  have hc7 : ∀ wx, Has wx w.heap.size 30 s.v 115 → wx.cell? ⟨w.heap.size, 7, none⟩ = some (.int .i64 s.rem) := fun wx h => h.cell 7 (by omega)
  have hc8 : ∀ wx, Has wx w.heap.size 30 s.v 115 → wx.cell? ⟨w.heap.size, 8, none⟩ = some (.int .i64 s.ack) := fun wx h => h.cell 8 (by omega)
  have hc10 : ∀ wx, Has wx w.heap.size 30 s.v 115 → wx.cell? ⟨w.heap.size, 10, none⟩ = some (.int .i64 s.ap) := fun wx h => h.cell 10 (by omega)
  have hc11 : ∀ wx, Has wx w.heap.size 30 s.v 115 → wx.cell? ⟨w.heap.size, 11, none⟩ = some (.int .i64 s.so) := fun wx h => h.cell 11 (by omega)
  have hc12 : ∀ wx, Has wx w.heap.size 30 s.v 115 → wx.cell? ⟨w.heap.size, 12, none⟩ = some (.int .i64 s.sp) := fun wx h => h.cell 12 (by omega)
  have hc13 : ∀ wx, Has wx w.heap.size 30 s.v 115 → wx.cell? ⟨w.heap.size, 13, none⟩ = some (.int .i64 s.ho) := fun wx h => h.cell 13 (by omega)
  have hc14 : ∀ wx, Has wx w.heap.size 30 s.v 115 → wx.cell? ⟨w.heap.size, 14, none⟩ = some (.int .i64 s.hp) := fun wx h => h.cell 14 (by omega)
  have hc114 : ∀ wx, Has wx w.heap.size 30 s.v 115 → wx.cell? ⟨w.heap.size, 114, none⟩ = some (.int .i64 s.closed) := fun wx h => h.cell 114 (by omega)
  have hc4 : ∀ wx, Has wx w.heap.size 30 s.v 115 → wx.cell? ⟨w.heap.size, 4, none⟩ = some (.slice s.ours.ad s.ours.n s.ours.c) := fun wx h => h.cell 4 (by omega)
  have ho4 : ∀ wx, Has wx w2.heap.size 30 (s.setO ⟨xa, s.ours.n, xc⟩).v 115 → wx.cell? ⟨w2.heap.size, 4, none⟩ = some (.slice xa s.ours.n xc) := fun wx h => h.cell 4 (by omega)
  have HO : ∀ (w : World), Calls Try.prog 6 #[.int .i64 mk, .agg (tabv (s.setO ⟨xa, s.ours.n, xc⟩).v 115)] w fun e w' => e = .returned (.agg #[.int .i64 mk, .int .i64 s.loc, .int .i64 s.rem, .int .i64 s.ack, .int .i64 s.so, .int .i64 s.sp, .int .i64 (s.ours.n : Int), .int .i64 s.ap, .int .i64 s.fail, .int .i64 s.closed]) ∧ Below w.heap.size w w' := fun w => of_any mk (s.setO ⟨xa, s.ours.n, xc⟩) w
  have HR : ∀ (w : World), Calls Try.prog 11 #[.int .i64 mk, .agg (tabv s.v 115)] w fun e w' => e = .returned (.agg (tabv (rfv mk s s.ours.n) 117)) ∧ Below w.heap.size w w' := fun w => rof_any mk s w
  have HcS : ∀ (z : Int) (w : World), Calls Try.prog 9 #[.agg #[.int .i64 mk, .int .i64 s.loc, .int .i64 s.rem, .int .i64 s.ack, .int .i64 s.so, .int .i64 s.sp, .int .i64 (s.ours.n : Int), .int .i64 s.ap, .int .i64 s.fail, .int .i64 s.closed], .int .i64 z] w fun e w' => e = .returned (.bool (Gt.send (gOn mk s s.ours.n) z)) ∧ Below w.heap.size w w' := fun z w => send_any (gOn mk s s.ours.n) z w
  have HrS : ∀ (z : Int) (w : World), Calls Try.prog 12 #[.agg (tabv (rfv mk s s.ours.n) 117), .int .i64 z] w fun e w' => e = .returned (.bool (Gt.send (gOn mk s s.ours.n) z)) ∧ Below w.heap.size w w' := fun z w => rsend_any mk s s.ours.n z w
  have HcB : ∀ (z : Int) (w : World), Calls Try.prog 8 #[.agg #[.int .i64 mk, .int .i64 s.loc, .int .i64 s.rem, .int .i64 s.ack, .int .i64 s.so, .int .i64 s.sp, .int .i64 (s.ours.n : Int), .int .i64 s.ap, .int .i64 s.fail, .int .i64 s.closed], .int .i64 z] w fun e w' => e = .returned (.bool (Gt.broad (gOn mk s s.ours.n) z)) ∧ Below w.heap.size w w' := fun z w => broad_any (gOn mk s s.ours.n) z w
  have HrB : ∀ (z : Int) (w : World), Calls Try.prog 13 #[.agg (tabv (rfv mk s s.ours.n) 117), .int .i64 z] w fun e w' => e = .returned (.bool (Gt.broad (gOn mk s s.ours.n) z)) ∧ Below w.heap.size w w' := fun z w => rbroad_any mk s s.ours.n z w
  have HcG : ∀ (z a b : Int) (w : World), Calls Try.prog 10 #[.agg #[.int .i64 mk, .int .i64 s.loc, .int .i64 s.rem, .int .i64 s.ack, .int .i64 s.so, .int .i64 s.sp, .int .i64 (s.ours.n : Int), .int .i64 s.ap, .int .i64 s.fail, .int .i64 s.closed], .int .i64 z, .agg #[.int .i64 a, .int .i64 b]] w fun e w' => e = .returned (.bool (Gt.sign (gOn mk s s.ours.n) z a b)) ∧ Below w.heap.size w w' := fun z a b w => sign_any (gOn mk s s.ours.n) z a b w
  have HrG : ∀ (z a b : Int) (w : World), Calls Try.prog 14 #[.agg (tabv (rfv mk s s.ours.n) 117), .int .i64 z, .agg #[.int .i64 a, .int .i64 b]] w fun e w' => e = .returned (.bool (Gt.sign (gOn mk s s.ours.n) z a b)) ∧ Below w.heap.size w w' := fun z a b w => rsign_any mk s s.ours.n z a b w
  generalize Gt.send (gOn mk s s.ours.n) = SND at HcS HrS
  generalize Gt.broad (gOn mk s s.ours.n) = BRD at HcB HrB
  generalize Gt.sign (gOn mk s s.ours.n) = SGN at HcG HrG
  have hF1 : ∀ i, (rfv mk s s.ours.n i).oneCell' = true := oneRf mk s s.ours.n
  generalize rfv mk s s.ours.n = F at HR HrS HrB HrG hF1
  have HF1 := hide hF1
  clear hF1
  obtain ⟨S1, hS1⟩ : ∃ x, s.setO ⟨xa, s.ours.n, xc⟩ = x := ⟨_, rfl⟩
  rw [hS1] at R4_o ho4 HO
  clear hS1
  generalize s.loc = lo at HO HcS HcB HcG hc6
  generalize s.rem = re at HO HcS HcB HcG hc7
  generalize s.ack = ak at HO HcS HcB HcG hc8
  generalize s.so = so at HO HcS HcB HcG hc11
  generalize s.sp = sp at HO HcS HcB HcG hc12
  generalize s.ap = ap at HO HcS HcB HcG hc10
  generalize s.fail = fa at HO HcS HcB HcG
  generalize s.closed = cl at HO HcS HcB HcG hc114
  generalize s.ho = ho at hc13
  generalize s.hp = hp at hc14
  generalize s.ours.n = n at *
  generalize s.ours.ad = oa at *
  generalize s.ours.c = oc at *
  replace HO := hide HO
  replace HR := hide HR
  replace HcS := hide HcS
  replace HrS := hide HrS
  replace HcB := hide HcB
  replace HrB := hide HrB
  replace HcG := hide HcG
  replace HrG := hide HrG
  replace hc4 := hide hc4
  replace hc6 := hide hc6
  replace hc7 := hide hc7
  replace hc8 := hide hc8
  replace hc10 := hide hc10
  replace hc11 := hide hc11
  replace hc12 := hide hc12
  replace hc13 := hide hc13
  replace hc14 := hide hc14
  replace hc114 := hide hc114
  replace ho4 := hide ho4
  go_enter Try.func5, Try.ntmps5
  go_wp2_with (first | (rw [hV4]) | (refine wpW_st _ rfl w.heap.size rfl rfl s R2_s.out ?_) | (refine wpList_alloc_z rfl 30 zS.v 115 infoStz rfl ?_; rw [hV1]) | (refine wpList_storeSt rfl _ _ rfl rfl w2.heap.size s rfl rfl zS.v RV1.out ?_; rw [hV2]) | (at_builtin; refine wpList_app rfl _ _ _ rfl HA.out ?_) | (refine wpW_st _ rfl w2.heap.size rfl rfl S1 R4_o.out ?_) | fail)
  refine (HO.out _).mono ?_
  rintro e wo ⟨rfl, hbo⟩
  obtain ⟨wA, hWA, bg, lg, rg⟩ := newGt wo (⟨mk, lo, re, ak, so, sp, n, ap, fa, cl⟩ : Gt)
  have hWA : wo.alloc (.cells #[.int .i64 mk, .int .i64 lo, .int .i64 re, .int .i64 ak, .int .i64 so, .int .i64 sp, .int .i64 (n : Int), .int .i64 ap, .int .i64 fa, .int .i64 cl] 32) = wA := hWA
  have bb := below2 hbo bg
  have RA_s := R4_s.out.below bb R4_s.out.lt
  have RA_n := R4_n.out.below bb R4_n.out.lt
  have RA_o := R4_o.out.below bb R4_o.out.lt
  have RA_g := rg
  have OA := HO4.out.below bb (Nat.le_refl _)
  have BA := B4.out.trans (bb.mono B4.out.size)
  have lx : ∀ k, (Value.slice xa n xc).ownBlock = some k → k < wo.heap.size := fun k hk => Nat.lt_of_lt_of_le (HO4.out.lt k hk).2 hbo.size
  have LX := hide lx
  clear hbo bg lg rg bb R4_s R4_n R4_o R2_s RV1 HO4 B4 fz4 cz4 c4s HA HO lx
  have hn2 : (n : Int) ≤ 140737488355328 := by omega
  have HZ := hide hz
  have HN := hide hn
  clear hz hn
  go_upto_region 4 with (first | (rw [hWA]) | fail)
  go_wp2_with fail
  go_loopw [11] (fun iv wr => ∃ j : Nat, j ≤ n ∧ iv = .int .i64 (j : Int) ∧ Has wr w.heap.size 30 s.v 115 ∧ Has wr w1.heap.size 24 (Ctv na nb) 2 ∧ Has wr w2.heap.size 30 S1.v 115 ∧ Has wr wo.heap.size 32 (Gt.v (⟨mk, lo, re, ak, so, sp, n, ap, fa, cl⟩ : Gt)) 10 ∧ (∃ l : List Upd, l.length = n ∧ OwnU V2.heap.size wr (.slice xa n xc) l) ∧ Below w.heap.size w wr) (fun iv _ => n - (intOf iv).toNat)
  case atStart => exact ⟨0, Nat.zero_le _, rfl, RA_s, RA_n, RA_o, RA_g, ⟨us, HN.out, OA⟩, BA⟩
  case round =>
    obtain ⟨j, hj, rfl, qs, qn, qo, qg, ⟨l, hl, ho⟩, qb⟩ := hrel
    clear RA_s RA_n RA_o RA_g OA BA
    have c4 : wr.cell? ⟨w2.heap.size, 4, none⟩ = some (.slice xa n xc) := ho4.out _ qo
    by_cases hlt : j < n
    · have hd : decide ((j : Int) < (n : Int)) = true := decide_eq_true (by omega)
      have hd2 : decide (j < n) = true := decide_eq_true hlt
      have jlt : (j : Int) < (n : Int) := by omega
      obtain ⟨g, f, hxa, hH, hnc, hset⟩ := ho.storeAt hl hlt
      have hg := ho.lt g (by rw [hxa]; rfl)
      have hgx := LX.out g (by rw [hxa]; rfl)
      subst hxa
      obtain ⟨wn, hwn⟩ : ∃ y, wr.setRow g (tabv (splice f (j * 36) uM1.v 36) (xc * 36)) = y := ⟨_, rfl⟩
      have NS : Hid (Has wn w.heap.size 30 s.v 115) := by rw [← hwn]; exact qs.row_other _ _ (by omega)
      have NN : Hid (Has wn w1.heap.size 24 (Ctv na nb) 2) := by rw [← hwn]; exact qn.row_other _ _ (by omega)
      have NO : Hid (Has wn w2.heap.size 30 S1.v 115) := by rw [← hwn]; exact qo.row_other _ _ (by omega)
      have NG : Hid (Has wn wo.heap.size 32 (Gt.v (⟨mk, lo, re, ak, so, sp, n, ap, fa, cl⟩ : Gt)) 10) := by rw [← hwn]; exact qg.row_other _ _ (by omega)
      have NU : Hid (OwnU V2.heap.size wn (.slice (some ⟨g, 0, none⟩) n xc) (l.set j uM1)) := by rw [← hwn]; exact hset uM1
      have NL := hide (show (l.set j uM1).length = n by rw [List.length_set]; exact hl)
      have NB : Hid (Below w.heap.size w wn) := by rw [← hwn]; exact below_setRow qb (by omega) _
      have HH := hide hH
      have HWN := hide hwn
      have HNC := hide hnc
      clear hset hwn hH ho qs qn qo qg qb hl hg hgx hnc
      go_wp2_with (first | refine wpW_build (by rfl) 40 #[(0, .const (.int .i64 (-1)))] rfl [(0, .int .i64 (-1))] (by first | rfl | (simp [Act.eval, Act.put]; done)) _ builtM1 ?_ | (refine wpList_store_part rfl 40 _ _ rfl rfl g (j * 36) uM1.v 36 rfl rfl 40 _ (xc * 36) HH.out (by have := HNC.out; omega) infoU (fun i _ => oneV _ i) (splice f (j * 36) uM1.v 36) (fun _ _ => rfl) ?_; rw [HWN.out]) | fail)
      go_roundw
      case rel => exact ⟨j + 1, by omega, by go_num, NS.out, NN.out, NO.out, NG.out, ⟨_, NL.out, NU.out⟩, NB.out⟩
      case measure => simp [intOf]; omega
    · obtain rfl : n = j := by omega
      have hd : decide ((n : Int) < (n : Int)) = false := decide_eq_false (by omega)
      have hd2 : decide (n < n) = false := decide_eq_false (by omega)
      have QS := hide qs
      have QN := hide qn
      have QG := hide qg
      have QB := hide qb
      clear qs qn qo qg qb ho hl hj hlt hn2
      go_wp2_with (first | (refine wpW_st _ rfl w.heap.size rfl rfl s QS.out ?_) | fail)
      refine (HR.out _).mono ?_
      rintro e wp ⟨rfl, hb⟩
      obtain ⟨W1, W2, hW1', rW1, hW2', rW2, bW2⟩ := newRfF wp F
      have bb := below2 hb bW2
      have R2s := QS.out.below bb QS.out.lt
      have R2n := QN.out.below bb QN.out.lt
      have RG := hide (QG.out.below bb QG.out.lt)
      have RF := hide rW2
      have RW1 := hide rW1
      have BB := hide (QB.out.trans (bb.mono QB.out.size))
      have LG2 : wo.heap.size < wp.heap.size := Nat.lt_of_lt_of_le QG.out.lt hb.size
      have d6 : W2.cell? ⟨w.heap.size, 6, none⟩ = some (.int .i64 lo) := hc6.out _ R2s
      have d7 : W2.cell? ⟨w.heap.size, 7, none⟩ = some (.int .i64 re) := hc7.out _ R2s
      have d8 : W2.cell? ⟨w.heap.size, 8, none⟩ = some (.int .i64 ak) := hc8.out _ R2s
      have d10 : W2.cell? ⟨w.heap.size, 10, none⟩ = some (.int .i64 ap) := hc10.out _ R2s
      have d11 : W2.cell? ⟨w.heap.size, 11, none⟩ = some (.int .i64 so) := hc11.out _ R2s
      have d12 : W2.cell? ⟨w.heap.size, 12, none⟩ = some (.int .i64 sp) := hc12.out _ R2s
      have d13 : W2.cell? ⟨w.heap.size, 13, none⟩ = some (.int .i64 ho) := hc13.out _ R2s
      have d14 : W2.cell? ⟨w.heap.size, 14, none⟩ = some (.int .i64 hp) := hc14.out _ R2s
      have d114 : W2.cell? ⟨w.heap.size, 114, none⟩ = some (.int .i64 cl) := hc114.out _ R2s
      have d4 : W2.cell? ⟨w.heap.size, 4, none⟩ = some (.slice oa n oc) := hc4.out _ R2s
      have n0 : W2.cell? ⟨w1.heap.size, 0, none⟩ = some (.int .i64 na) := R2n.cell 0 (by omega)
      have n1 : W2.cell? ⟨w1.heap.size, 1, none⟩ = some (.int .i64 nb) := R2n.cell 1 (by omega)
      obtain ⟨W3, hW3⟩ : ∃ x, W2.alloc (.cells #[.int .i64 na, .int .i64 nb, .int .i64 so, .int .i64 sp, .int .i64 (n : Int), .int .i64 ap, .int .i64 so, .int .i64 ap, .int .i64 ho, .int .i64 hp] 24) = x := ⟨_, rfl⟩
      have b3 : Below W2.heap.size W2 W3 := by rw [← hW3]; exact (Below.refl W2.heap.size W2).alloc (Nat.le_refl _) _
      have C3 : Hid (∀ k, k < 5 → ∃ a b, W3.cell? ⟨W2.heap.size, 2 * k, none⟩ = some (.int .i64 a) ∧ W3.cell? ⟨W2.heap.size, 2 * k + 1, none⟩ = some (.int .i64 b)) := by
        rw [← hW3]
        refine hide fun k hk => ?_
        rw [cell_of_row _ _ (2 * k) _ _ (0, 0) (heap_alloc_new W2 _), cell_of_row _ _ (2 * k + 1) _ _ (0, 0) (heap_alloc_new W2 _)]
        have : k = 0 ∨ k = 1 ∨ k = 2 ∨ k = 3 ∨ k = 4 := by omega
        rcases this with rfl | rfl | rfl | rfl | rfl
        all_goals exact ⟨_, _, rfl, rfl⟩
      have L3 : W2.heap.size < W3.heap.size := by rw [← hW3, size_alloc]; omega
      have R3s := R2s.below b3 R2s.lt
      have RG3 := hide (RG.out.below b3 RG.out.lt)
      have RF3 := hide (RF.out.below b3 RF.out.lt)
      have BB3 := hide (BB.out.trans (b3.mono BB.out.size))
      have f6 : W3.cell? ⟨w.heap.size, 6, none⟩ = some (.int .i64 lo) := hc6.out _ R3s
      have f7 : W3.cell? ⟨w.heap.size, 7, none⟩ = some (.int .i64 re) := hc7.out _ R3s
      have f8 : W3.cell? ⟨w.heap.size, 8, none⟩ = some (.int .i64 ak) := hc8.out _ R3s
      have f114 : W3.cell? ⟨w.heap.size, 114, none⟩ = some (.int .i64 cl) := hc114.out _ R3s
      clear hb rW1 rW2 bW2 bb R2s R2n QS QN QG QB R3s b3
      go_upto_region 10 with (first | (go_big_may; first | (refine wpList_alloc_z rfl 42 (rfv 0 zS 0) 117 infoRfz rfl ?_; rw [hW1']) | (refine wpList_storeRfF rfl _ _ rfl rfl wp.heap.size F HF1.out rfl rfl _ RW1.out ?_; rw [hW2'])) | fail)
      clear d6 d7 d8 d10 d11 d12 d13 d14 d114 d4 n0 n1
      go_wp2_with fail
      go_loopw [81] (fun c wr => ∃ j : Nat, j ≤ 12 ∧ c = .int .i64 (j : Int) ∧ Below W3.heap.size W3 wr ∧ W3.heap.size < wr.heap.size ∧ ∀ k, k < 12 → ∃ z, wr.cell? ⟨W3.heap.size, k, none⟩ = some (.int .i64 z)) (fun c _ => 12 - (intOf c).toNat)
      case atStart =>
        refine ⟨0, by omega, rfl, (Below.refl W3.heap.size W3).alloc (Nat.le_refl _) _, by rw [size_alloc]; omega, fun k hk => ?_⟩
        rw [cell_of_row _ _ k _ _ (0, 0) (heap_alloc_new W3 _)]
        have : k = 0 ∨ k = 1 ∨ k = 2 ∨ k = 3 ∨ k = 4 ∨ k = 5 ∨ k = 6 ∨ k = 7 ∨ k = 8 ∨ k = 9 ∨ k = 10 ∨ k = 11 := by omega
        rcases this with rfl | rfl | rfl | rfl | rfl | rfl | rfl | rfl | rfl | rfl | rfl | rfl
        all_goals exact ⟨_, rfl⟩
      case round =>
        obtain ⟨j, hj, rfl, hB, hL, hz⟩ := hrel
        have HB := hide hB
        have HZZ := hide hz
        clear hB hz f6 f7 f8 f114
        by_cases hlt : j < 12
        · have hd : decide ((j : Int) < 12) = true := decide_eq_true (by omega)
          have jlt : (j : Int) < 12 := by omega
          obtain ⟨z, hzj⟩ := HZZ.out j hlt
          have G9 := hide (RG3.out.below HB.out RG3.out.lt)
          have F9 := hide (RF3.out.below HB.out RF3.out.lt)
          go_upto_region 13 with fail
          obtain ⟨bS, hbS⟩ : ∃ x, SND z = x := ⟨_, rfl⟩
          obtain ⟨bB, hbB⟩ : ∃ x, BRD z = x := ⟨_, rfl⟩
          have HcSz := HcS.out z
          simp only [hbS] at HcSz
          replace HcSz := hide HcSz
          have HrSz := HrS.out z
          simp only [hbS] at HrSz
          replace HrSz := hide HrSz
          have HcBz := HcB.out z
          simp only [hbB] at HcBz
          replace HcBz := hide HcBz
          have HrBz := HrB.out z
          simp only [hbB] at HrBz
          replace HrBz := hide HrBz
          clear hbS hbB
          refine wp_region_noPanic ?_
          refine wp_region_held_drew (S := fun wx => Below wr.heap.size wr wx) (by kernel_rfl) ((Below.refl _ _).drew) (fun hHeld => ?_)
          generalize hwd : World.drew wr = wd at hHeld ⊢
          refine takeH 0 (some 85) (.agg #[.int .i64 mk, .int .i64 lo, .int .i64 re, .int .i64 ak, .int .i64 so, .int .i64 sp, .int .i64 (n : Int), .int .i64 ap, .int .i64 fa, .int .i64 cl]) rfl rfl (by kernel_rfl) (by kernel_rfl) (by kernel_rfl) (fun _ _ _ h => h) (by rfl) (fun w_ hw => run_gt w_ _ rfl wo.heap.size (by rfl) (⟨mk, lo, re, ak, so, sp, n, ap, fa, cl⟩ : Gt) (G9.out.below hw G9.out.lt)) hHeld ?_
          simp only [Act.put, List.setIfInBounds_toArray, List.set_cons_zero, List.set_cons_succ]
          refine takeH 1 (some 86) (.int .i64 z) rfl rfl (by kernel_rfl) (by kernel_rfl) (by kernel_rfl) (fun _ _ _ h => h) (by rfl) (fun w_ hw => by first | rfl | (go_simp; done) | (go_simp; rfl) | (go_simp; omega)) hHeld ?_
          simp only [Act.put, List.setIfInBounds_toArray, List.set_cons_zero, List.set_cons_succ]
          refine takeH 3 (some 88) (.agg (tabv F 117)) rfl rfl (by kernel_rfl) (by kernel_rfl) (by kernel_rfl) (fun _ _ _ h => h) (by rfl) (fun w_ hw => run_rf w_ _ rfl wp.heap.size (by rfl) F (F9.out.below hw F9.out.lt)) hHeld ?_
          simp only [Act.put, List.setIfInBounds_toArray, List.set_cons_zero, List.set_cons_succ]
          refine takeH 4 (some 89) (.int .i64 z) rfl rfl (by kernel_rfl) (by kernel_rfl) (by kernel_rfl) (fun _ _ _ h => h) (by rfl) (fun w_ hw => by first | rfl | (go_simp; done) | (go_simp; rfl) | (go_simp; omega)) hHeld ?_
          simp only [Act.put, List.setIfInBounds_toArray, List.set_cons_zero, List.set_cons_succ]
          refine wpAnyH_ready (rs := [2]) (by kernel_rfl) (by simp) (AllReadyH.cons rfl (fun K hK => ?_) AllReadyH.nil)
          rw [if_pos (by rfl)]
          go_simp
          refine (HcSz.out _).mono ?_
          rintro e wq1 ⟨rfl, hbq⟩
          try go_wp2_with fail
          refine hK.out _ _ (hHeld.trans (hbq.mono hHeld.size)) (fun hH => ?_)
          clear hK K hHeld
          have hHeld := hH
          clear hH
          refine wpAnyH_ready (rs := [5]) (by kernel_rfl) (by simp) (AllReadyH.cons rfl (fun K hK => ?_) AllReadyH.nil)
          rw [if_pos (by rfl)]
          go_simp
          refine (HrSz.out _).mono ?_
          rintro e wq2 ⟨rfl, hbq⟩
          try go_wp2_with fail
          refine hK.out _ _ (hHeld.trans (hbq.mono hHeld.size)) (fun hH => ?_)
          clear hK K hHeld
          have hHeld := hH
          clear hH
          refine takeH 6 (some 91) (.bool false) rfl rfl (by kernel_rfl) (by kernel_rfl) (by kernel_rfl) (fun _ _ _ h => h) (by rfl) (fun w_ hw => by first | rfl | (go_simp; done) | (go_simp; rfl) | (go_simp; omega)) hHeld ?_
          simp only [Act.put, List.setIfInBounds_toArray, List.set_cons_zero, List.set_cons_succ]
          refine takeH 7 (some 92) (.bool false) rfl rfl (by kernel_rfl) (by kernel_rfl) (by kernel_rfl) (fun _ _ _ h => h) (by rfl) (fun w_ hw => by first | rfl | (go_simp; done) | (go_simp; rfl) | (go_simp; omega)) hHeld ?_
          simp only [Act.put, List.setIfInBounds_toArray, List.set_cons_zero, List.set_cons_succ]
          refine takeH 8 (some 93) (.agg #[.int .i64 mk, .int .i64 lo, .int .i64 re, .int .i64 ak, .int .i64 so, .int .i64 sp, .int .i64 (n : Int), .int .i64 ap, .int .i64 fa, .int .i64 cl]) rfl rfl (by kernel_rfl) (by kernel_rfl) (by kernel_rfl) (fun _ _ _ h => h) (by rfl) (fun w_ hw => run_gt w_ _ rfl wo.heap.size (by rfl) (⟨mk, lo, re, ak, so, sp, n, ap, fa, cl⟩ : Gt) (G9.out.below hw G9.out.lt)) hHeld ?_
          simp only [Act.put, List.setIfInBounds_toArray, List.set_cons_zero, List.set_cons_succ]
          refine takeH 9 (some 94) (.int .i64 z) rfl rfl (by kernel_rfl) (by kernel_rfl) (by kernel_rfl) (fun _ _ _ h => h) (by rfl) (fun w_ hw => by first | rfl | (go_simp; done) | (go_simp; rfl) | (go_simp; omega)) hHeld ?_
          simp only [Act.put, List.setIfInBounds_toArray, List.set_cons_zero, List.set_cons_succ]
          refine takeH 11 (some 96) (.agg (tabv F 117)) rfl rfl (by kernel_rfl) (by kernel_rfl) (by kernel_rfl) (fun _ _ _ h => h) (by rfl) (fun w_ hw => run_rf w_ _ rfl wp.heap.size (by rfl) F (F9.out.below hw F9.out.lt)) hHeld ?_
          simp only [Act.put, List.setIfInBounds_toArray, List.set_cons_zero, List.set_cons_succ]
          refine takeH 12 (some 97) (.int .i64 z) rfl rfl (by kernel_rfl) (by kernel_rfl) (by kernel_rfl) (fun _ _ _ h => h) (by rfl) (fun w_ hw => by first | rfl | (go_simp; done) | (go_simp; rfl) | (go_simp; omega)) hHeld ?_
          simp only [Act.put, List.setIfInBounds_toArray, List.set_cons_zero, List.set_cons_succ]
          refine wpAnyH_ready (rs := [10]) (by kernel_rfl) (by simp) (AllReadyH.cons rfl (fun K hK => ?_) AllReadyH.nil)
          rw [if_pos (by rfl)]
          go_simp
          refine (HcBz.out _).mono ?_
          rintro e wq3 ⟨rfl, hbq⟩
          try go_wp2_with fail
          refine hK.out _ _ (hHeld.trans (hbq.mono hHeld.size)) (fun hH => ?_)
          clear hK K hHeld
          have hHeld := hH
          clear hH
          refine wpAnyH_ready (rs := [13]) (by kernel_rfl) (by simp) (AllReadyH.cons rfl (fun K hK => ?_) AllReadyH.nil)
          rw [if_pos (by rfl)]
          go_simp
          refine (HrBz.out _).mono ?_
          rintro e wq4 ⟨rfl, hbq⟩
          try go_wp2_with fail
          refine hK.out _ _ (hHeld.trans (hbq.mono hHeld.size)) (fun hH => ?_)
          clear hK K hHeld
          have hHeld := hH
          clear hH
          refine takeH 14 (some 99) (.bool false) rfl rfl (by kernel_rfl) (by kernel_rfl) (by kernel_rfl) (fun _ _ _ h => h) (by rfl) (fun w_ hw => by first | rfl | (go_simp; done) | (go_simp; rfl) | (go_simp; omega)) hHeld ?_
          simp only [Act.put, List.setIfInBounds_toArray, List.set_cons_zero, List.set_cons_succ]
          refine takeH 15 (some 100) (.bool false) rfl rfl (by kernel_rfl) (by kernel_rfl) (by kernel_rfl) (fun _ _ _ h => h) (by rfl) (fun w_ hw => by first | rfl | (go_simp; done) | (go_simp; rfl) | (go_simp; omega)) hHeld ?_
          simp only [Act.put, List.setIfInBounds_toArray, List.set_cons_zero, List.set_cons_succ]
          refine ⟨by kernel_rfl, ?_⟩
          refine NoPanic.normal ?_
          have B13 := hide hHeld
          clear hHeld hwd HcSz HrSz HcBz HrBz
          have P4 := hide (HB.out.trans (B13.out.mono HB.out.size))
          have L4 : W3.heap.size < wq4.heap.size := Nat.lt_of_lt_of_le hL B13.out.size
          have Z4 : Hid (∀ k, k < 12 → ∃ z, wq4.cell? ⟨W3.heap.size, k, none⟩ = some (.int .i64 z)) := hide fun k hk => by obtain ⟨y, hy⟩ := HZZ.out k hk; exact ⟨y, (B13.out.cell (p := ⟨W3.heap.size, k, none⟩) hL).trans hy⟩
          have G4 := hide (G9.out.below B13.out G9.out.lt)
          have F4 := hide (F9.out.below B13.out F9.out.lt)
          have C4 : Hid (∀ k, k < 5 → ∃ a b, wq4.cell? ⟨W2.heap.size, 2 * k, none⟩ = some (.int .i64 a) ∧ wq4.cell? ⟨W2.heap.size, 2 * k + 1, none⟩ = some (.int .i64 b)) := hide fun k hk => by obtain ⟨x, y, hx, hy⟩ := C3.out k hk; exact ⟨x, y, (P4.out.cell (p := ⟨W2.heap.size, 2 * k, none⟩) L3).trans hx, (P4.out.cell (p := ⟨W2.heap.size, 2 * k + 1, none⟩) L3).trans hy⟩
          have L24 : W2.heap.size < wq4.heap.size := Nat.lt_trans L3 L4
          clear B13 HB HZZ hL G9 F9 hzj hd
          have JL := hide jlt
          have HJ := hide hlt
          clear jlt hlt hj
          go_wp2_with fail
          go_loopw [103] (fun c wx => ∃ k : Nat, k ≤ 5 ∧ c = .int .i64 (k : Int) ∧ Below wq4.heap.size wq4 wx) (fun c _ => 5 - (intOf c).toNat)
          case atStart => exact ⟨0, by omega, rfl, Below.refl _ _⟩
          case round =>
            obtain ⟨k, hk, rfl, hb4⟩ := hrel
            have P5 := hide hb4
            clear hb4
            by_cases hlk : k < 5
            · have hd : decide ((k : Int) < 5) = true := decide_eq_true (by omega)
              have klt : (k : Int) < 5 := by omega
              obtain ⟨a, b, ha, hb⟩ := C4.out k hlk
              have ha : wr.cell? ⟨W2.heap.size, 2 * k, none⟩ = some (.int .i64 a) := (P5.out.cell (p := ⟨W2.heap.size, 2 * k, none⟩) L24).trans ha
              have hb : wr.cell? ⟨W2.heap.size, 2 * k + 1, none⟩ = some (.int .i64 b) := (P5.out.cell (p := ⟨W2.heap.size, 2 * k + 1, none⟩) L24).trans hb
              have ha2 : wr.cell? ⟨W2.heap.size, k * 2, none⟩ = some (.int .i64 a) := by rw [Nat.mul_comm]; exact ha
              have hb2 : wr.cell? ⟨W2.heap.size, k * 2 + 1, none⟩ = some (.int .i64 b) := by rw [Nat.mul_comm]; exact hb
              obtain ⟨wa, hwa, bwa, a0, a1, _⟩ := boxCt wr a b
              have A0 := hide a0
              have A1 := hide a1
              have LA : wr.heap.size < wa.heap.size := by rw [← hwa, size_alloc]; omega
              have P6 := hide (P5.out.trans (bwa.mono P5.out.size))
              have G6 := hide (G4.out.below P6.out G4.out.lt)
              have F6 := hide (F4.out.below P6.out F4.out.lt)
              obtain ⟨bG, hbG⟩ : ∃ x, SGN z a b = x := ⟨_, rfl⟩
              have HcGz := HcG.out z a b
              simp only [hbG] at HcGz
              replace HcGz := hide HcGz
              have HrGz := HrG.out z a b
              simp only [hbG] at HrGz
              replace HrGz := hide HrGz
              clear hbG bwa a0 a1
              go_upto_region 18 with (first | (rw [hwa]) | fail)
              try rw [hwa]
              clear ha hb ha2 hb2
              refine wp_region_noPanic ?_
              refine wp_region_held_drew (S := fun wx => Below wa.heap.size wa wx) (by kernel_rfl) ((Below.refl _ _).drew) (fun hHeld => ?_)
              generalize hwd : World.drew wa = wd at hHeld ⊢
              refine takeH 0 (some 107) (.agg #[.int .i64 mk, .int .i64 lo, .int .i64 re, .int .i64 ak, .int .i64 so, .int .i64 sp, .int .i64 (n : Int), .int .i64 ap, .int .i64 fa, .int .i64 cl]) rfl rfl (by kernel_rfl) (by kernel_rfl) (by kernel_rfl) (fun _ _ _ h => h) (by rfl) (fun w_ hw => run_gt w_ _ rfl wo.heap.size (by rfl) (⟨mk, lo, re, ak, so, sp, n, ap, fa, cl⟩ : Gt) (G6.out.below hw G6.out.lt)) hHeld ?_
              simp only [Act.put, List.setIfInBounds_toArray, List.set_cons_zero, List.set_cons_succ]
              refine takeH 1 (some 108) (.int .i64 z) rfl rfl (by kernel_rfl) (by kernel_rfl) (by kernel_rfl) (fun _ _ _ h => h) (by rfl) (fun w_ hw => by first | rfl | (go_simp; done) | (go_simp; rfl) | (go_simp; omega)) hHeld ?_
              simp only [Act.put, List.setIfInBounds_toArray, List.set_cons_zero, List.set_cons_succ]
              refine takeH 2 (some 109) (.agg #[.int .i64 a, .int .i64 b]) rfl rfl (by kernel_rfl) (by kernel_rfl) (by kernel_rfl) (fun _ _ _ h => h) (by rfl) (fun w_ hw => by have q0 : World.cell? w_ ⟨wr.heap.size, 0, none⟩ = some (.int .i64 a) := (hw.cell (p := ⟨wr.heap.size, 0, none⟩) LA).trans A0.out; have q1 : World.cell? w_ ⟨wr.heap.size, 1, none⟩ = some (.int .i64 b) := (hw.cell (p := ⟨wr.heap.size, 1, none⟩) LA).trans A1.out; first | rfl | (go_simp; done) | (go_simp; rfl)) hHeld ?_
              simp only [Act.put, List.setIfInBounds_toArray, List.set_cons_zero, List.set_cons_succ]
              refine takeH 4 (some 111) (.agg (tabv F 117)) rfl rfl (by kernel_rfl) (by kernel_rfl) (by kernel_rfl) (fun _ _ _ h => h) (by rfl) (fun w_ hw => run_rf w_ _ rfl wp.heap.size (by rfl) F (F6.out.below hw F6.out.lt)) hHeld ?_
              simp only [Act.put, List.setIfInBounds_toArray, List.set_cons_zero, List.set_cons_succ]
              refine takeH 5 (some 112) (.int .i64 z) rfl rfl (by kernel_rfl) (by kernel_rfl) (by kernel_rfl) (fun _ _ _ h => h) (by rfl) (fun w_ hw => by first | rfl | (go_simp; done) | (go_simp; rfl) | (go_simp; omega)) hHeld ?_
              simp only [Act.put, List.setIfInBounds_toArray, List.set_cons_zero, List.set_cons_succ]
              refine takeH 6 (some 113) (.agg #[.int .i64 a, .int .i64 b]) rfl rfl (by kernel_rfl) (by kernel_rfl) (by kernel_rfl) (fun _ _ _ h => h) (by rfl) (fun w_ hw => by have q0 : World.cell? w_ ⟨wr.heap.size, 0, none⟩ = some (.int .i64 a) := (hw.cell (p := ⟨wr.heap.size, 0, none⟩) LA).trans A0.out; have q1 : World.cell? w_ ⟨wr.heap.size, 1, none⟩ = some (.int .i64 b) := (hw.cell (p := ⟨wr.heap.size, 1, none⟩) LA).trans A1.out; first | rfl | (go_simp; done) | (go_simp; rfl)) hHeld ?_
              simp only [Act.put, List.setIfInBounds_toArray, List.set_cons_zero, List.set_cons_succ]
              refine wpAnyH_ready (rs := [3]) (by kernel_rfl) (by simp) (AllReadyH.cons rfl (fun K hK => ?_) AllReadyH.nil)
              rw [if_pos (by rfl)]
              go_simp
              refine (HcGz.out _).mono ?_
              rintro e wq5 ⟨rfl, hbq⟩
              try go_wp2_with fail
              refine hK.out _ _ (hHeld.trans (hbq.mono hHeld.size)) (fun hH => ?_)
              clear hK K hHeld
              have hHeld := hH
              clear hH
              refine wpAnyH_ready (rs := [7]) (by kernel_rfl) (by simp) (AllReadyH.cons rfl (fun K hK => ?_) AllReadyH.nil)
              rw [if_pos (by rfl)]
              go_simp
              refine (HrGz.out _).mono ?_
              rintro e wq6 ⟨rfl, hbq⟩
              try go_wp2_with fail
              refine hK.out _ _ (hHeld.trans (hbq.mono hHeld.size)) (fun hH => ?_)
              clear hK K hHeld
              have hHeld := hH
              clear hH
              refine takeH 8 (some 115) (.bool false) rfl rfl (by kernel_rfl) (by kernel_rfl) (by kernel_rfl) (fun _ _ _ h => h) (by rfl) (fun w_ hw => by first | rfl | (go_simp; done) | (go_simp; rfl) | (go_simp; omega)) hHeld ?_
              simp only [Act.put, List.setIfInBounds_toArray, List.set_cons_zero, List.set_cons_succ]
              refine ⟨by kernel_rfl, ?_⟩
              refine NoPanic.normal ?_
              have B18 := hide (P6.out.trans (hHeld.mono P6.out.size))
              clear hHeld hwd HcGz HrGz
              go_wp2_with fail
              go_roundw
              case rel => exact ⟨k + 1, by omega, by go_num, B18.out⟩
              case measure => simp [intOf]; omega
            · obtain rfl : k = 5 := by omega
              have hd : decide (((5 : Nat) : Int) < 5) = false := decide_eq_false (by omega)
              have jlt := JL.out
              have hlt := HJ.out
              go_wp2_with fail
              go_roundw
              case rel => exact ⟨j + 1, by omega, by go_num, P4.out.trans (P5.out.mono P4.out.size), Nat.lt_of_lt_of_le L4 P5.out.size, fun k hk => by obtain ⟨y, hy⟩ := Z4.out k hk; exact ⟨y, (P5.out.cell (p := ⟨W3.heap.size, k, none⟩) L4).trans hy⟩⟩
              case measure => simp [intOf]; omega
        · obtain rfl : j = 12 := by omega
          have hd : decide (((12 : Nat) : Int) < 12) = false := decide_eq_false (by omega)
          go_wp2_with fail
          refine (first_any _).mono ?_
          rintro e wz ⟨rfl, hbz⟩
          have B9 := hide (HB.out.trans (hbz.mono (Nat.le_of_lt hL)))
          clear hbz
          go_wp2
          go_ret
          exact ⟨rfl, BB3.out.trans (B9.out.mono BB3.out.size)⟩
end Go.Proofs.Ytnmoheipfadmeaa
