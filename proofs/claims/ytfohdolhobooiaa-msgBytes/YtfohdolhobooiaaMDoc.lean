/-
  The document's Valid (printed by gen_m9.py).
-/
import Derived.Test.YtfohdolhobooiaaMHelp
namespace Go.Proofs.Ytfohdolhobooiaa
open Go.RowKit S
set_option linter.unusedVariables false
set_option linter.unusedSimpArgs false
open Cu (nb be hl ofL CW Mw CR Mr RS takeS takeA hOf nil8 num doneS)
/-- Valid's variables: the message, and what its kind names. -/
structure NV (w0 : World) (g1 g3 : Nat) (m nm : Msg) (w : World) : Prop where
  rm : Has w g1 25 m.v 70
  rn : Has w g3 25 nm.v 70
  bel : Below g1 w0 w
  lt : g1 < g3
section
variable {w0 : World} {g1 g3 : Nat} {m nm : Msg} {w w' : World}
theorem NV.below (k : NV w0 g1 g3 m nm w) (hb : Below w.heap.size w w') : NV w0 g1 g3 m nm w' := ⟨k.rm.below hb k.rm.lt, k.rn.below hb k.rn.lt, k.bel.trans (hb.mono (Nat.le_of_lt k.rm.lt)), k.lt⟩
theorem NV.set (k : NV w0 g1 g3 m nm w) (i : Nat) (v : Value) {nm' : Msg} (hv : Has (w.setCell ⟨g3, i, none⟩ v) g3 25 nm'.v 70) : NV w0 g1 g3 m nm' (w.setCell ⟨g3, i, none⟩ v) :=
  ⟨k.rm.other _ _ (by have := k.lt; show g1 ≠ g3; omega), hv, k.bel.setCell (by have := k.lt; show g1 ≤ g3; omega) _, k.lt⟩
theorem NV.row (k : NV w0 g1 g3 m nm w) (nm' : Msg) : NV w0 g1 g3 m nm' (w.setRow g3 (tabv nm'.v 70)) :=
  ⟨k.rm.below (below_setRow (Below.refl g3 w) (Nat.le_refl _) _) k.lt, k.rn.row _ _ rfl, k.bel.trans ((below_setRow (Below.refl g3 w) (Nat.le_refl _) _).mono (Nat.le_of_lt k.lt)), k.lt⟩
end
set_option maxRecDepth 100000 in
set_option maxHeartbeats 40000000 in
theorem rvalidM_1 (m : Msg) (hk1 : m.kind = 1) (w : World) : Calls Try.prog 33 #[.agg (tabv m.v 70)] w fun e w' => e = .returned (.bool (validM m)) ∧ Below w.heap.size w w' := by
  have hk : isU m.kind := by unfold isU; omega
  have HKk := hide hk1
  clear hk1
  have HK : Hid (isU m.kind) := hk
  have HVM : Hid (validM m = (validB m.upd && eqM m (ofU m.upd))) := by show _ = _; unfold validM; rw [if_pos hk]
  obtain ⟨w1, hW1⟩ : ∃ wX, w.alloc (.cells (tabv m.v 70) 25) = wX := ⟨_, rfl⟩
  have r1 : Has w1 w.heap.size 25 m.v 70 := by rw [← hW1]; exact Has.new w 25 m.v 70 _ rfl
  have b1 : Below w.heap.size w w1 := by rw [← hW1]; exact (Below.refl w.heap.size w).alloc (Nat.le_refl _) _
  obtain ⟨w2, w3, hW2, r2, hW3, r3, b3, _⟩ := newM w1 ⟨m.kind, 0, 0, 0, 0, z32, z32, nilB⟩
  have RN := hide r2
  have K3 : Hid (NV w w.heap.size w1.heap.size m ⟨m.kind, 0, 0, 0, 0, z32, z32, nilB⟩ w3) := ⟨r1.below b3 r1.lt, r3, b1.trans (b3.mono b1.size), r1.lt⟩
  have cK : w1.cell? ⟨w.heap.size, 0, none⟩ = some (.int .i64 m.kind) := r1.cell 0 (by omega)
  have cK2 : w2.cell? ⟨w.heap.size, 0, none⟩ = some (.int .i64 m.kind) := by rw [← hW2]; exact (r1.old _).cell 0 (by omega)
  obtain ⟨K, hK⟩ : ∃ K, m.kind = K := ⟨_, rfl⟩
  rw [hK] at K3 cK cK2 hW3
  have HKn := hide hK
  clear r1 b1 r2 r3 b3 hK
  have c0 : w3.cell? ⟨w.heap.size, 0, none⟩ = some (.int .i64 K) := by rw [← HKn.out]; exact K3.out.rm.cell 0 (by omega)
  go_enter Try.func33, Try.ntmps33
  go_upto_region 2 with (first | rw [hW3] | refine wpW_build (by rfl) 25 #[(0, .tmp 7)] rfl [(0, .int .i64 K)] (by first | rfl | (simp [Act.eval, Act.put]; done)) _ (builtMK K) ?_ | refine wpList_storeM rfl _ _ rfl rfl (w1.heap.size) (⟨K, 0, 0, 0, 0, z32, z32, nilB⟩) rfl rfl _ RN.out ?_ | fail)
  try rw [hW3]
  generalize hg1 : w.heap.size = g1 at K3 c0 ⊢
  generalize w1.heap.size = g3 at K3 ⊢
  clear hW1 hW2 hW3 RN cK cK2
  obtain rfl : K = 1 := by rw [← HKn.out]; exact HKk.out
  clear HKn HKk
  go_wp2_with (first | refine wpW_load_at 25 _ rfl (g1) (0) (by rfl) (by rfl) _ 70 _ (K3.out.rm.at_ 0 (by omega) (fun i hi => by rw [Nat.zero_add])) Try.underlying25 rfl infoM ?_ | fail)
  refine (rupdate_any_yes m HK.out _).mono ?_
  rintro e w4 ⟨rfl, hb⟩
  obtain ⟨wn, w5, hWn, rn, hW5, r5, b5, _⟩ := newU2 w4 m.upd
  have RN := hide rn
  have V5 := hide r5
  have K5 := hide ((K3.out.below hb).below b5)
  clear rn r5 b5 hb K3 c0
  go_upto_region 8 with (first | refine wpList_storeU rfl _ _ rfl rfl (w4.heap.size) (m.upd) rfl rfl _ RN.out ?_ | fail)
  try rw [hW5]
  generalize w4.heap.size = g4 at V5 ⊢
  clear hWn hW5 RN
  have VU := hide (fun w : World => rvalid_any m.upd w)
  cases hv : validB m.upd with
  | false =>
    rw [hv] at VU HVM
    go_wp2
    refine wp_region_noPanic ?_
    refine wp_region_held_drew (S := fun wx => Below w5.heap.size w5 wx) (by kernel_rfl) ((Below.refl _ _).drew) (fun hHeld => ?_)
    refine Cu.takeH 0 (some 20) (.agg (tabv m.upd.v 36)) rfl rfl (by kernel_rfl) (by kernel_rfl) (by kernel_rfl) (fun _ _ _ h => h) (by rfl) (fun w hw => run_load_at w 34 _ rfl g4 0 (by rfl) _ 36 _ ((V5.out.below hw V5.out.lt).at_ 0 (by omega) (fun i hi => by rw [Nat.zero_add])) Try.underlying34 rfl infoU) hHeld ?_
    simp only [Act.put, List.setIfInBounds_toArray, List.set_cons_zero, List.set_cons_succ]
    refine wpAnyH_ready (rs := [1]) (by kernel_rfl) (by simp) (AllReadyH.cons rfl (fun K hK => ?_) AllReadyH.nil)
    rw [if_pos (by rfl)]
    go_simp
    refine (VU.out _).mono ?_
    rintro e wA ⟨rfl, hbA⟩
    try go_wp2_with fail
    refine hK.out _ _ (hHeld.trans (hbA.mono hHeld.size)) (fun hH => ?_)
    clear hK K hHeld
    have hHeld := hH
    clear hH
    clear hbA
    refine Cu.takeH 2 (some 22) (.bool false) rfl rfl (by kernel_rfl) (by kernel_rfl) (by kernel_rfl) (fun _ _ _ h => h) (by rfl) (fun w hw => by first | rfl | (go_simp; done) | (go_simp; rfl) | (go_simp; omega)) hHeld ?_
    simp only [Act.put, List.setIfInBounds_toArray, List.set_cons_zero, List.set_cons_succ]
    refine skH 3 (some 23) rfl hHeld ?_
    simp only [Act.put, List.setIfInBounds_toArray, List.set_cons_zero, List.set_cons_succ]
    refine skH 4 (some 24) rfl hHeld ?_
    simp only [Act.put, List.setIfInBounds_toArray, List.set_cons_zero, List.set_cons_succ]
    refine skH 5 (some 25) rfl hHeld ?_
    simp only [Act.put, List.setIfInBounds_toArray, List.set_cons_zero, List.set_cons_succ]
    refine skH 6 (some 26) rfl hHeld ?_
    simp only [Act.put, List.setIfInBounds_toArray, List.set_cons_zero, List.set_cons_succ]
    refine Cu.takeH 7 (some 27) (.bool false) rfl rfl (by kernel_rfl) (by kernel_rfl) (by kernel_rfl) (fun _ _ _ h => h) (by rfl) (fun w hw => by first | rfl | (go_simp; done) | (go_simp; rfl) | (go_simp; omega)) hHeld ?_
    simp only [Act.put, List.setIfInBounds_toArray, List.set_cons_zero, List.set_cons_succ]
    refine Cu.takeH 8 (some 2) (.bool false) rfl rfl (by kernel_rfl) (by kernel_rfl) (by kernel_rfl) (fun _ _ _ h => h) (by rfl) (fun w hw => by first | rfl | (go_simp; done) | (go_simp; rfl) | (go_simp; omega)) hHeld ?_
    simp only [Act.put, List.setIfInBounds_toArray, List.set_cons_zero, List.set_cons_succ]
    refine ⟨by kernel_rfl, ?_⟩
    refine NoPanic.normal ?_
    have gF := K5.out.bel.trans (hHeld.mono (Nat.le_of_lt K5.out.rm.lt))
    try go_wp2
    go_ret
    exact ⟨by rw [HVM.out]; rfl, by first | exact gF | (rw [hg1]; exact gF)⟩
  | true =>
    rw [hv] at VU HVM
    obtain ⟨R, hR⟩ : ∃ R, eqM m (ofU m.upd) = R := ⟨_, rfl⟩
    have HR := hide hR
    rw [hR] at HVM
    clear hR
    go_wp2
    refine wp_region_noPanic ?_
    refine wp_region_held_drew (S := fun wx => Below w5.heap.size w5 wx) (by kernel_rfl) ((Below.refl _ _).drew) (fun hHeld => ?_)
    refine Cu.takeH 0 (some 20) (.agg (tabv m.upd.v 36)) rfl rfl (by kernel_rfl) (by kernel_rfl) (by kernel_rfl) (fun _ _ _ h => h) (by rfl) (fun w hw => run_load_at w 34 _ rfl g4 0 (by rfl) _ 36 _ ((V5.out.below hw V5.out.lt).at_ 0 (by omega) (fun i hi => by rw [Nat.zero_add])) Try.underlying34 rfl infoU) hHeld ?_
    simp only [Act.put, List.setIfInBounds_toArray, List.set_cons_zero, List.set_cons_succ]
    refine wpAnyH_ready (rs := [1]) (by kernel_rfl) (by simp) (AllReadyH.cons rfl (fun K hK => ?_) AllReadyH.nil)
    rw [if_pos (by rfl)]
    go_simp
    refine (VU.out _).mono ?_
    rintro e wA ⟨rfl, hbA⟩
    try go_wp2_with fail
    refine hK.out _ _ (hHeld.trans (hbA.mono hHeld.size)) (fun hH => ?_)
    clear hK K hHeld
    have hHeld := hH
    clear hH
    clear hbA
    refine Cu.takeH 2 (some 22) (.bool true) rfl rfl (by kernel_rfl) (by kernel_rfl) (by kernel_rfl) (fun _ _ _ h => h) (by rfl) (fun w hw => by first | rfl | (go_simp; done) | (go_simp; rfl) | (go_simp; omega)) hHeld ?_
    simp only [Act.put, List.setIfInBounds_toArray, List.set_cons_zero, List.set_cons_succ]
    refine Cu.takeH 3 (some 23) (.agg (tabv m.v 70)) rfl rfl (by kernel_rfl) (by kernel_rfl) (by kernel_rfl) (fun _ _ _ h => h) (by rfl) (fun w hw => run_load_at w 25 _ rfl g1 0 (by rfl) _ 70 _ ((K5.out.rm.below hw K5.out.rm.lt).at_ 0 (by omega) (fun i hi => by rw [Nat.zero_add])) Try.underlying25 rfl infoM) hHeld ?_
    simp only [Act.put, List.setIfInBounds_toArray, List.set_cons_zero, List.set_cons_succ]
    refine Cu.takeH 4 (some 24) (.agg (tabv m.upd.v 36)) rfl rfl (by kernel_rfl) (by kernel_rfl) (by kernel_rfl) (fun _ _ _ h => h) (by rfl) (fun w hw => run_load_at w 34 _ rfl g4 0 (by rfl) _ 36 _ ((V5.out.below hw V5.out.lt).at_ 0 (by omega) (fun i hi => by rw [Nat.zero_add])) Try.underlying34 rfl infoU) hHeld ?_
    simp only [Act.put, List.setIfInBounds_toArray, List.set_cons_zero, List.set_cons_succ]
    refine wpAnyH_ready (rs := [5]) (by kernel_rfl) (by simp) (AllReadyH.cons rfl (fun K hK => ?_) AllReadyH.nil)
    rw [if_pos (by rfl)]
    go_simp
    refine (rof_any m.upd _).mono ?_
    rintro e wB ⟨rfl, hbB⟩
    try go_wp2_with fail
    refine hK.out _ _ (hHeld.trans (hbB.mono hHeld.size)) (fun hH => ?_)
    clear hK K hHeld
    have hHeld := hH
    clear hH
    clear hbB
    refine Cu.takeH 6 (some 26) (.bool R) rfl rfl (by kernel_rfl) (by kernel_rfl) (by kernel_rfl) (fun _ _ _ h => h) (by rfl) (fun w hw => run_eqM w _ _ m (ofU m.upd) R rfl (by rfl) (by rfl) HR.out) hHeld ?_
    simp only [Act.put, List.setIfInBounds_toArray, List.set_cons_zero, List.set_cons_succ]
    refine Cu.takeH 7 (some 27) (.bool R) rfl rfl (by kernel_rfl) (by kernel_rfl) (by kernel_rfl) (fun _ _ _ h => h) (by rfl) (fun w hw => by first | rfl | (go_simp; done) | (go_simp; rfl) | (go_simp; omega)) hHeld ?_
    simp only [Act.put, List.setIfInBounds_toArray, List.set_cons_zero, List.set_cons_succ]
    refine Cu.takeH 8 (some 2) (.bool R) rfl rfl (by kernel_rfl) (by kernel_rfl) (by kernel_rfl) (fun _ _ _ h => h) (by rfl) (fun w hw => by first | rfl | (go_simp; done) | (go_simp; rfl) | (go_simp; omega)) hHeld ?_
    simp only [Act.put, List.setIfInBounds_toArray, List.set_cons_zero, List.set_cons_succ]
    refine ⟨by kernel_rfl, ?_⟩
    refine NoPanic.normal ?_
    have gF := K5.out.bel.trans (hHeld.mono (Nat.le_of_lt K5.out.rm.lt))
    try go_wp2
    go_ret
    exact ⟨by rw [HVM.out]; rfl, by first | exact gF | (rw [hg1]; exact gF)⟩
set_option maxRecDepth 100000 in
set_option maxHeartbeats 40000000 in
theorem rvalidM_2 (m : Msg) (hk1 : m.kind = 2) (w : World) : Calls Try.prog 33 #[.agg (tabv m.v 70)] w fun e w' => e = .returned (.bool (validM m)) ∧ Below w.heap.size w w' := by
  have hk : isU m.kind := by unfold isU; omega
  have HKk := hide hk1
  clear hk1
  have HK : Hid (isU m.kind) := hk
  have HVM : Hid (validM m = (validB m.upd && eqM m (ofU m.upd))) := by show _ = _; unfold validM; rw [if_pos hk]
  obtain ⟨w1, hW1⟩ : ∃ wX, w.alloc (.cells (tabv m.v 70) 25) = wX := ⟨_, rfl⟩
  have r1 : Has w1 w.heap.size 25 m.v 70 := by rw [← hW1]; exact Has.new w 25 m.v 70 _ rfl
  have b1 : Below w.heap.size w w1 := by rw [← hW1]; exact (Below.refl w.heap.size w).alloc (Nat.le_refl _) _
  obtain ⟨w2, w3, hW2, r2, hW3, r3, b3, _⟩ := newM w1 ⟨m.kind, 0, 0, 0, 0, z32, z32, nilB⟩
  have RN := hide r2
  have K3 : Hid (NV w w.heap.size w1.heap.size m ⟨m.kind, 0, 0, 0, 0, z32, z32, nilB⟩ w3) := ⟨r1.below b3 r1.lt, r3, b1.trans (b3.mono b1.size), r1.lt⟩
  have cK : w1.cell? ⟨w.heap.size, 0, none⟩ = some (.int .i64 m.kind) := r1.cell 0 (by omega)
  have cK2 : w2.cell? ⟨w.heap.size, 0, none⟩ = some (.int .i64 m.kind) := by rw [← hW2]; exact (r1.old _).cell 0 (by omega)
  obtain ⟨K, hK⟩ : ∃ K, m.kind = K := ⟨_, rfl⟩
  rw [hK] at K3 cK cK2 hW3
  have HKn := hide hK
  clear r1 b1 r2 r3 b3 hK
  have c0 : w3.cell? ⟨w.heap.size, 0, none⟩ = some (.int .i64 K) := by rw [← HKn.out]; exact K3.out.rm.cell 0 (by omega)
  go_enter Try.func33, Try.ntmps33
  go_upto_region 2 with (first | rw [hW3] | refine wpW_build (by rfl) 25 #[(0, .tmp 7)] rfl [(0, .int .i64 K)] (by first | rfl | (simp [Act.eval, Act.put]; done)) _ (builtMK K) ?_ | refine wpList_storeM rfl _ _ rfl rfl (w1.heap.size) (⟨K, 0, 0, 0, 0, z32, z32, nilB⟩) rfl rfl _ RN.out ?_ | fail)
  try rw [hW3]
  generalize hg1 : w.heap.size = g1 at K3 c0 ⊢
  generalize w1.heap.size = g3 at K3 ⊢
  clear hW1 hW2 hW3 RN cK cK2
  obtain rfl : K = 2 := by rw [← HKn.out]; exact HKk.out
  clear HKn HKk
  go_wp2_with (first | refine wpW_load_at 25 _ rfl (g1) (0) (by rfl) (by rfl) _ 70 _ (K3.out.rm.at_ 0 (by omega) (fun i hi => by rw [Nat.zero_add])) Try.underlying25 rfl infoM ?_ | fail)
  refine (rupdate_any_yes m HK.out _).mono ?_
  rintro e w4 ⟨rfl, hb⟩
  obtain ⟨wn, w5, hWn, rn, hW5, r5, b5, _⟩ := newU2 w4 m.upd
  have RN := hide rn
  have V5 := hide r5
  have K5 := hide ((K3.out.below hb).below b5)
  clear rn r5 b5 hb K3 c0
  go_upto_region 8 with (first | refine wpList_storeU rfl _ _ rfl rfl (w4.heap.size) (m.upd) rfl rfl _ RN.out ?_ | fail)
  try rw [hW5]
  generalize w4.heap.size = g4 at V5 ⊢
  clear hWn hW5 RN
  have VU := hide (fun w : World => rvalid_any m.upd w)
  cases hv : validB m.upd with
  | false =>
    rw [hv] at VU HVM
    go_wp2
    refine wp_region_noPanic ?_
    refine wp_region_held_drew (S := fun wx => Below w5.heap.size w5 wx) (by kernel_rfl) ((Below.refl _ _).drew) (fun hHeld => ?_)
    refine Cu.takeH 0 (some 20) (.agg (tabv m.upd.v 36)) rfl rfl (by kernel_rfl) (by kernel_rfl) (by kernel_rfl) (fun _ _ _ h => h) (by rfl) (fun w hw => run_load_at w 34 _ rfl g4 0 (by rfl) _ 36 _ ((V5.out.below hw V5.out.lt).at_ 0 (by omega) (fun i hi => by rw [Nat.zero_add])) Try.underlying34 rfl infoU) hHeld ?_
    simp only [Act.put, List.setIfInBounds_toArray, List.set_cons_zero, List.set_cons_succ]
    refine wpAnyH_ready (rs := [1]) (by kernel_rfl) (by simp) (AllReadyH.cons rfl (fun K hK => ?_) AllReadyH.nil)
    rw [if_pos (by rfl)]
    go_simp
    refine (VU.out _).mono ?_
    rintro e wA ⟨rfl, hbA⟩
    try go_wp2_with fail
    refine hK.out _ _ (hHeld.trans (hbA.mono hHeld.size)) (fun hH => ?_)
    clear hK K hHeld
    have hHeld := hH
    clear hH
    clear hbA
    refine Cu.takeH 2 (some 22) (.bool false) rfl rfl (by kernel_rfl) (by kernel_rfl) (by kernel_rfl) (fun _ _ _ h => h) (by rfl) (fun w hw => by first | rfl | (go_simp; done) | (go_simp; rfl) | (go_simp; omega)) hHeld ?_
    simp only [Act.put, List.setIfInBounds_toArray, List.set_cons_zero, List.set_cons_succ]
    refine skH 3 (some 23) rfl hHeld ?_
    simp only [Act.put, List.setIfInBounds_toArray, List.set_cons_zero, List.set_cons_succ]
    refine skH 4 (some 24) rfl hHeld ?_
    simp only [Act.put, List.setIfInBounds_toArray, List.set_cons_zero, List.set_cons_succ]
    refine skH 5 (some 25) rfl hHeld ?_
    simp only [Act.put, List.setIfInBounds_toArray, List.set_cons_zero, List.set_cons_succ]
    refine skH 6 (some 26) rfl hHeld ?_
    simp only [Act.put, List.setIfInBounds_toArray, List.set_cons_zero, List.set_cons_succ]
    refine Cu.takeH 7 (some 27) (.bool false) rfl rfl (by kernel_rfl) (by kernel_rfl) (by kernel_rfl) (fun _ _ _ h => h) (by rfl) (fun w hw => by first | rfl | (go_simp; done) | (go_simp; rfl) | (go_simp; omega)) hHeld ?_
    simp only [Act.put, List.setIfInBounds_toArray, List.set_cons_zero, List.set_cons_succ]
    refine Cu.takeH 8 (some 2) (.bool false) rfl rfl (by kernel_rfl) (by kernel_rfl) (by kernel_rfl) (fun _ _ _ h => h) (by rfl) (fun w hw => by first | rfl | (go_simp; done) | (go_simp; rfl) | (go_simp; omega)) hHeld ?_
    simp only [Act.put, List.setIfInBounds_toArray, List.set_cons_zero, List.set_cons_succ]
    refine ⟨by kernel_rfl, ?_⟩
    refine NoPanic.normal ?_
    have gF := K5.out.bel.trans (hHeld.mono (Nat.le_of_lt K5.out.rm.lt))
    try go_wp2
    go_ret
    exact ⟨by rw [HVM.out]; rfl, by first | exact gF | (rw [hg1]; exact gF)⟩
  | true =>
    rw [hv] at VU HVM
    obtain ⟨R, hR⟩ : ∃ R, eqM m (ofU m.upd) = R := ⟨_, rfl⟩
    have HR := hide hR
    rw [hR] at HVM
    clear hR
    go_wp2
    refine wp_region_noPanic ?_
    refine wp_region_held_drew (S := fun wx => Below w5.heap.size w5 wx) (by kernel_rfl) ((Below.refl _ _).drew) (fun hHeld => ?_)
    refine Cu.takeH 0 (some 20) (.agg (tabv m.upd.v 36)) rfl rfl (by kernel_rfl) (by kernel_rfl) (by kernel_rfl) (fun _ _ _ h => h) (by rfl) (fun w hw => run_load_at w 34 _ rfl g4 0 (by rfl) _ 36 _ ((V5.out.below hw V5.out.lt).at_ 0 (by omega) (fun i hi => by rw [Nat.zero_add])) Try.underlying34 rfl infoU) hHeld ?_
    simp only [Act.put, List.setIfInBounds_toArray, List.set_cons_zero, List.set_cons_succ]
    refine wpAnyH_ready (rs := [1]) (by kernel_rfl) (by simp) (AllReadyH.cons rfl (fun K hK => ?_) AllReadyH.nil)
    rw [if_pos (by rfl)]
    go_simp
    refine (VU.out _).mono ?_
    rintro e wA ⟨rfl, hbA⟩
    try go_wp2_with fail
    refine hK.out _ _ (hHeld.trans (hbA.mono hHeld.size)) (fun hH => ?_)
    clear hK K hHeld
    have hHeld := hH
    clear hH
    clear hbA
    refine Cu.takeH 2 (some 22) (.bool true) rfl rfl (by kernel_rfl) (by kernel_rfl) (by kernel_rfl) (fun _ _ _ h => h) (by rfl) (fun w hw => by first | rfl | (go_simp; done) | (go_simp; rfl) | (go_simp; omega)) hHeld ?_
    simp only [Act.put, List.setIfInBounds_toArray, List.set_cons_zero, List.set_cons_succ]
    refine Cu.takeH 3 (some 23) (.agg (tabv m.v 70)) rfl rfl (by kernel_rfl) (by kernel_rfl) (by kernel_rfl) (fun _ _ _ h => h) (by rfl) (fun w hw => run_load_at w 25 _ rfl g1 0 (by rfl) _ 70 _ ((K5.out.rm.below hw K5.out.rm.lt).at_ 0 (by omega) (fun i hi => by rw [Nat.zero_add])) Try.underlying25 rfl infoM) hHeld ?_
    simp only [Act.put, List.setIfInBounds_toArray, List.set_cons_zero, List.set_cons_succ]
    refine Cu.takeH 4 (some 24) (.agg (tabv m.upd.v 36)) rfl rfl (by kernel_rfl) (by kernel_rfl) (by kernel_rfl) (fun _ _ _ h => h) (by rfl) (fun w hw => run_load_at w 34 _ rfl g4 0 (by rfl) _ 36 _ ((V5.out.below hw V5.out.lt).at_ 0 (by omega) (fun i hi => by rw [Nat.zero_add])) Try.underlying34 rfl infoU) hHeld ?_
    simp only [Act.put, List.setIfInBounds_toArray, List.set_cons_zero, List.set_cons_succ]
    refine wpAnyH_ready (rs := [5]) (by kernel_rfl) (by simp) (AllReadyH.cons rfl (fun K hK => ?_) AllReadyH.nil)
    rw [if_pos (by rfl)]
    go_simp
    refine (rof_any m.upd _).mono ?_
    rintro e wB ⟨rfl, hbB⟩
    try go_wp2_with fail
    refine hK.out _ _ (hHeld.trans (hbB.mono hHeld.size)) (fun hH => ?_)
    clear hK K hHeld
    have hHeld := hH
    clear hH
    clear hbB
    refine Cu.takeH 6 (some 26) (.bool R) rfl rfl (by kernel_rfl) (by kernel_rfl) (by kernel_rfl) (fun _ _ _ h => h) (by rfl) (fun w hw => run_eqM w _ _ m (ofU m.upd) R rfl (by rfl) (by rfl) HR.out) hHeld ?_
    simp only [Act.put, List.setIfInBounds_toArray, List.set_cons_zero, List.set_cons_succ]
    refine Cu.takeH 7 (some 27) (.bool R) rfl rfl (by kernel_rfl) (by kernel_rfl) (by kernel_rfl) (fun _ _ _ h => h) (by rfl) (fun w hw => by first | rfl | (go_simp; done) | (go_simp; rfl) | (go_simp; omega)) hHeld ?_
    simp only [Act.put, List.setIfInBounds_toArray, List.set_cons_zero, List.set_cons_succ]
    refine Cu.takeH 8 (some 2) (.bool R) rfl rfl (by kernel_rfl) (by kernel_rfl) (by kernel_rfl) (fun _ _ _ h => h) (by rfl) (fun w hw => by first | rfl | (go_simp; done) | (go_simp; rfl) | (go_simp; omega)) hHeld ?_
    simp only [Act.put, List.setIfInBounds_toArray, List.set_cons_zero, List.set_cons_succ]
    refine ⟨by kernel_rfl, ?_⟩
    refine NoPanic.normal ?_
    have gF := K5.out.bel.trans (hHeld.mono (Nat.le_of_lt K5.out.rm.lt))
    try go_wp2
    go_ret
    exact ⟨by rw [HVM.out]; rfl, by first | exact gF | (rw [hg1]; exact gF)⟩
set_option maxRecDepth 100000 in
set_option maxHeartbeats 40000000 in
theorem rvalidM_3 (m : Msg) (hk1 : m.kind = 3) (w : World) : Calls Try.prog 33 #[.agg (tabv m.v 70)] w fun e w' => e = .returned (.bool (validM m)) ∧ Below w.heap.size w w' := by
  have hk : isU m.kind := by unfold isU; omega
  have HKk := hide hk1
  clear hk1
  have HK : Hid (isU m.kind) := hk
  have HVM : Hid (validM m = (validB m.upd && eqM m (ofU m.upd))) := by show _ = _; unfold validM; rw [if_pos hk]
  obtain ⟨w1, hW1⟩ : ∃ wX, w.alloc (.cells (tabv m.v 70) 25) = wX := ⟨_, rfl⟩
  have r1 : Has w1 w.heap.size 25 m.v 70 := by rw [← hW1]; exact Has.new w 25 m.v 70 _ rfl
  have b1 : Below w.heap.size w w1 := by rw [← hW1]; exact (Below.refl w.heap.size w).alloc (Nat.le_refl _) _
  obtain ⟨w2, w3, hW2, r2, hW3, r3, b3, _⟩ := newM w1 ⟨m.kind, 0, 0, 0, 0, z32, z32, nilB⟩
  have RN := hide r2
  have K3 : Hid (NV w w.heap.size w1.heap.size m ⟨m.kind, 0, 0, 0, 0, z32, z32, nilB⟩ w3) := ⟨r1.below b3 r1.lt, r3, b1.trans (b3.mono b1.size), r1.lt⟩
  have cK : w1.cell? ⟨w.heap.size, 0, none⟩ = some (.int .i64 m.kind) := r1.cell 0 (by omega)
  have cK2 : w2.cell? ⟨w.heap.size, 0, none⟩ = some (.int .i64 m.kind) := by rw [← hW2]; exact (r1.old _).cell 0 (by omega)
  obtain ⟨K, hK⟩ : ∃ K, m.kind = K := ⟨_, rfl⟩
  rw [hK] at K3 cK cK2 hW3
  have HKn := hide hK
  clear r1 b1 r2 r3 b3 hK
  have c0 : w3.cell? ⟨w.heap.size, 0, none⟩ = some (.int .i64 K) := by rw [← HKn.out]; exact K3.out.rm.cell 0 (by omega)
  go_enter Try.func33, Try.ntmps33
  go_upto_region 2 with (first | rw [hW3] | refine wpW_build (by rfl) 25 #[(0, .tmp 7)] rfl [(0, .int .i64 K)] (by first | rfl | (simp [Act.eval, Act.put]; done)) _ (builtMK K) ?_ | refine wpList_storeM rfl _ _ rfl rfl (w1.heap.size) (⟨K, 0, 0, 0, 0, z32, z32, nilB⟩) rfl rfl _ RN.out ?_ | fail)
  try rw [hW3]
  generalize hg1 : w.heap.size = g1 at K3 c0 ⊢
  generalize w1.heap.size = g3 at K3 ⊢
  clear hW1 hW2 hW3 RN cK cK2
  obtain rfl : K = 3 := by rw [← HKn.out]; exact HKk.out
  clear HKn HKk
  go_wp2_with (first | refine wpW_load_at 25 _ rfl (g1) (0) (by rfl) (by rfl) _ 70 _ (K3.out.rm.at_ 0 (by omega) (fun i hi => by rw [Nat.zero_add])) Try.underlying25 rfl infoM ?_ | fail)
  refine (rupdate_any_yes m HK.out _).mono ?_
  rintro e w4 ⟨rfl, hb⟩
  obtain ⟨wn, w5, hWn, rn, hW5, r5, b5, _⟩ := newU2 w4 m.upd
  have RN := hide rn
  have V5 := hide r5
  have K5 := hide ((K3.out.below hb).below b5)
  clear rn r5 b5 hb K3 c0
  go_upto_region 8 with (first | refine wpList_storeU rfl _ _ rfl rfl (w4.heap.size) (m.upd) rfl rfl _ RN.out ?_ | fail)
  try rw [hW5]
  generalize w4.heap.size = g4 at V5 ⊢
  clear hWn hW5 RN
  have VU := hide (fun w : World => rvalid_any m.upd w)
  cases hv : validB m.upd with
  | false =>
    rw [hv] at VU HVM
    go_wp2
    refine wp_region_noPanic ?_
    refine wp_region_held_drew (S := fun wx => Below w5.heap.size w5 wx) (by kernel_rfl) ((Below.refl _ _).drew) (fun hHeld => ?_)
    refine Cu.takeH 0 (some 20) (.agg (tabv m.upd.v 36)) rfl rfl (by kernel_rfl) (by kernel_rfl) (by kernel_rfl) (fun _ _ _ h => h) (by rfl) (fun w hw => run_load_at w 34 _ rfl g4 0 (by rfl) _ 36 _ ((V5.out.below hw V5.out.lt).at_ 0 (by omega) (fun i hi => by rw [Nat.zero_add])) Try.underlying34 rfl infoU) hHeld ?_
    simp only [Act.put, List.setIfInBounds_toArray, List.set_cons_zero, List.set_cons_succ]
    refine wpAnyH_ready (rs := [1]) (by kernel_rfl) (by simp) (AllReadyH.cons rfl (fun K hK => ?_) AllReadyH.nil)
    rw [if_pos (by rfl)]
    go_simp
    refine (VU.out _).mono ?_
    rintro e wA ⟨rfl, hbA⟩
    try go_wp2_with fail
    refine hK.out _ _ (hHeld.trans (hbA.mono hHeld.size)) (fun hH => ?_)
    clear hK K hHeld
    have hHeld := hH
    clear hH
    clear hbA
    refine Cu.takeH 2 (some 22) (.bool false) rfl rfl (by kernel_rfl) (by kernel_rfl) (by kernel_rfl) (fun _ _ _ h => h) (by rfl) (fun w hw => by first | rfl | (go_simp; done) | (go_simp; rfl) | (go_simp; omega)) hHeld ?_
    simp only [Act.put, List.setIfInBounds_toArray, List.set_cons_zero, List.set_cons_succ]
    refine skH 3 (some 23) rfl hHeld ?_
    simp only [Act.put, List.setIfInBounds_toArray, List.set_cons_zero, List.set_cons_succ]
    refine skH 4 (some 24) rfl hHeld ?_
    simp only [Act.put, List.setIfInBounds_toArray, List.set_cons_zero, List.set_cons_succ]
    refine skH 5 (some 25) rfl hHeld ?_
    simp only [Act.put, List.setIfInBounds_toArray, List.set_cons_zero, List.set_cons_succ]
    refine skH 6 (some 26) rfl hHeld ?_
    simp only [Act.put, List.setIfInBounds_toArray, List.set_cons_zero, List.set_cons_succ]
    refine Cu.takeH 7 (some 27) (.bool false) rfl rfl (by kernel_rfl) (by kernel_rfl) (by kernel_rfl) (fun _ _ _ h => h) (by rfl) (fun w hw => by first | rfl | (go_simp; done) | (go_simp; rfl) | (go_simp; omega)) hHeld ?_
    simp only [Act.put, List.setIfInBounds_toArray, List.set_cons_zero, List.set_cons_succ]
    refine Cu.takeH 8 (some 2) (.bool false) rfl rfl (by kernel_rfl) (by kernel_rfl) (by kernel_rfl) (fun _ _ _ h => h) (by rfl) (fun w hw => by first | rfl | (go_simp; done) | (go_simp; rfl) | (go_simp; omega)) hHeld ?_
    simp only [Act.put, List.setIfInBounds_toArray, List.set_cons_zero, List.set_cons_succ]
    refine ⟨by kernel_rfl, ?_⟩
    refine NoPanic.normal ?_
    have gF := K5.out.bel.trans (hHeld.mono (Nat.le_of_lt K5.out.rm.lt))
    try go_wp2
    go_ret
    exact ⟨by rw [HVM.out]; rfl, by first | exact gF | (rw [hg1]; exact gF)⟩
  | true =>
    rw [hv] at VU HVM
    obtain ⟨R, hR⟩ : ∃ R, eqM m (ofU m.upd) = R := ⟨_, rfl⟩
    have HR := hide hR
    rw [hR] at HVM
    clear hR
    go_wp2
    refine wp_region_noPanic ?_
    refine wp_region_held_drew (S := fun wx => Below w5.heap.size w5 wx) (by kernel_rfl) ((Below.refl _ _).drew) (fun hHeld => ?_)
    refine Cu.takeH 0 (some 20) (.agg (tabv m.upd.v 36)) rfl rfl (by kernel_rfl) (by kernel_rfl) (by kernel_rfl) (fun _ _ _ h => h) (by rfl) (fun w hw => run_load_at w 34 _ rfl g4 0 (by rfl) _ 36 _ ((V5.out.below hw V5.out.lt).at_ 0 (by omega) (fun i hi => by rw [Nat.zero_add])) Try.underlying34 rfl infoU) hHeld ?_
    simp only [Act.put, List.setIfInBounds_toArray, List.set_cons_zero, List.set_cons_succ]
    refine wpAnyH_ready (rs := [1]) (by kernel_rfl) (by simp) (AllReadyH.cons rfl (fun K hK => ?_) AllReadyH.nil)
    rw [if_pos (by rfl)]
    go_simp
    refine (VU.out _).mono ?_
    rintro e wA ⟨rfl, hbA⟩
    try go_wp2_with fail
    refine hK.out _ _ (hHeld.trans (hbA.mono hHeld.size)) (fun hH => ?_)
    clear hK K hHeld
    have hHeld := hH
    clear hH
    clear hbA
    refine Cu.takeH 2 (some 22) (.bool true) rfl rfl (by kernel_rfl) (by kernel_rfl) (by kernel_rfl) (fun _ _ _ h => h) (by rfl) (fun w hw => by first | rfl | (go_simp; done) | (go_simp; rfl) | (go_simp; omega)) hHeld ?_
    simp only [Act.put, List.setIfInBounds_toArray, List.set_cons_zero, List.set_cons_succ]
    refine Cu.takeH 3 (some 23) (.agg (tabv m.v 70)) rfl rfl (by kernel_rfl) (by kernel_rfl) (by kernel_rfl) (fun _ _ _ h => h) (by rfl) (fun w hw => run_load_at w 25 _ rfl g1 0 (by rfl) _ 70 _ ((K5.out.rm.below hw K5.out.rm.lt).at_ 0 (by omega) (fun i hi => by rw [Nat.zero_add])) Try.underlying25 rfl infoM) hHeld ?_
    simp only [Act.put, List.setIfInBounds_toArray, List.set_cons_zero, List.set_cons_succ]
    refine Cu.takeH 4 (some 24) (.agg (tabv m.upd.v 36)) rfl rfl (by kernel_rfl) (by kernel_rfl) (by kernel_rfl) (fun _ _ _ h => h) (by rfl) (fun w hw => run_load_at w 34 _ rfl g4 0 (by rfl) _ 36 _ ((V5.out.below hw V5.out.lt).at_ 0 (by omega) (fun i hi => by rw [Nat.zero_add])) Try.underlying34 rfl infoU) hHeld ?_
    simp only [Act.put, List.setIfInBounds_toArray, List.set_cons_zero, List.set_cons_succ]
    refine wpAnyH_ready (rs := [5]) (by kernel_rfl) (by simp) (AllReadyH.cons rfl (fun K hK => ?_) AllReadyH.nil)
    rw [if_pos (by rfl)]
    go_simp
    refine (rof_any m.upd _).mono ?_
    rintro e wB ⟨rfl, hbB⟩
    try go_wp2_with fail
    refine hK.out _ _ (hHeld.trans (hbB.mono hHeld.size)) (fun hH => ?_)
    clear hK K hHeld
    have hHeld := hH
    clear hH
    clear hbB
    refine Cu.takeH 6 (some 26) (.bool R) rfl rfl (by kernel_rfl) (by kernel_rfl) (by kernel_rfl) (fun _ _ _ h => h) (by rfl) (fun w hw => run_eqM w _ _ m (ofU m.upd) R rfl (by rfl) (by rfl) HR.out) hHeld ?_
    simp only [Act.put, List.setIfInBounds_toArray, List.set_cons_zero, List.set_cons_succ]
    refine Cu.takeH 7 (some 27) (.bool R) rfl rfl (by kernel_rfl) (by kernel_rfl) (by kernel_rfl) (fun _ _ _ h => h) (by rfl) (fun w hw => by first | rfl | (go_simp; done) | (go_simp; rfl) | (go_simp; omega)) hHeld ?_
    simp only [Act.put, List.setIfInBounds_toArray, List.set_cons_zero, List.set_cons_succ]
    refine Cu.takeH 8 (some 2) (.bool R) rfl rfl (by kernel_rfl) (by kernel_rfl) (by kernel_rfl) (fun _ _ _ h => h) (by rfl) (fun w hw => by first | rfl | (go_simp; done) | (go_simp; rfl) | (go_simp; omega)) hHeld ?_
    simp only [Act.put, List.setIfInBounds_toArray, List.set_cons_zero, List.set_cons_succ]
    refine ⟨by kernel_rfl, ?_⟩
    refine NoPanic.normal ?_
    have gF := K5.out.bel.trans (hHeld.mono (Nat.le_of_lt K5.out.rm.lt))
    try go_wp2
    go_ret
    exact ⟨by rw [HVM.out]; rfl, by first | exact gF | (rw [hg1]; exact gF)⟩
set_option maxRecDepth 100000 in
set_option maxHeartbeats 40000000 in
theorem rvalidM_4 (m : Msg) (hk1 : m.kind = 4) (w : World) : Calls Try.prog 33 #[.agg (tabv m.v 70)] w fun e w' => e = .returned (.bool (validM m)) ∧ Below w.heap.size w w' := by
  have HVM : Hid (validM m = (eqM m (named m) && (idxB m.idx && idxB m.nxt))) := by show _ = _; unfold validM; rw [if_neg (by unfold isU; omega), if_pos (by unfold isO; omega)]
  have HNM : Hid (named m = ⟨4, 0, 0, m.idx, 0, m.hash, z32, nilB⟩) := by show _ = _; unfold named; simp only [hk1]; rfl
  have HKk := hide hk1
  clear hk1
  obtain ⟨w1, hW1⟩ : ∃ wX, w.alloc (.cells (tabv m.v 70) 25) = wX := ⟨_, rfl⟩
  have r1 : Has w1 w.heap.size 25 m.v 70 := by rw [← hW1]; exact Has.new w 25 m.v 70 _ rfl
  have b1 : Below w.heap.size w w1 := by rw [← hW1]; exact (Below.refl w.heap.size w).alloc (Nat.le_refl _) _
  obtain ⟨w2, w3, hW2, r2, hW3, r3, b3, _⟩ := newM w1 ⟨m.kind, 0, 0, 0, 0, z32, z32, nilB⟩
  have RN := hide r2
  have K3 : Hid (NV w w.heap.size w1.heap.size m ⟨m.kind, 0, 0, 0, 0, z32, z32, nilB⟩ w3) := ⟨r1.below b3 r1.lt, r3, b1.trans (b3.mono b1.size), r1.lt⟩
  have cK : w1.cell? ⟨w.heap.size, 0, none⟩ = some (.int .i64 m.kind) := r1.cell 0 (by omega)
  have cK2 : w2.cell? ⟨w.heap.size, 0, none⟩ = some (.int .i64 m.kind) := by rw [← hW2]; exact (r1.old _).cell 0 (by omega)
  obtain ⟨K, hK⟩ : ∃ K, m.kind = K := ⟨_, rfl⟩
  rw [hK] at K3 cK cK2 hW3
  have HKn := hide hK
  clear r1 b1 r2 r3 b3 hK
  have c0 : w3.cell? ⟨w.heap.size, 0, none⟩ = some (.int .i64 K) := by rw [← HKn.out]; exact K3.out.rm.cell 0 (by omega)
  go_enter Try.func33, Try.ntmps33
  go_upto_region 2 with (first | rw [hW3] | refine wpW_build (by rfl) 25 #[(0, .tmp 7)] rfl [(0, .int .i64 K)] (by first | rfl | (simp [Act.eval, Act.put]; done)) _ (builtMK K) ?_ | refine wpList_storeM rfl _ _ rfl rfl (w1.heap.size) (⟨K, 0, 0, 0, 0, z32, z32, nilB⟩) rfl rfl _ RN.out ?_ | fail)
  try rw [hW3]
  generalize hg1 : w.heap.size = g1 at K3 c0 ⊢
  generalize w1.heap.size = g3 at K3 ⊢
  clear hW1 hW2 hW3 RN cK cK2
  obtain rfl : K = 4 := by rw [← HKn.out]; exact HKk.out
  clear HKn HKk
  go_upto_region 10 with fail
  have cS : w3.cell? ⟨g1, 3, none⟩ = some (.int .i64 m.idx) := K3.out.rm.cell 3 (by omega)
  have cZ : w3.cell? ⟨g3, 3, none⟩ = some (.int .i64 0) := K3.out.rn.cell 3 (by omega)
  have fZ := K3.out.rn.frozen 3
  obtain ⟨w4, hWq⟩ : ∃ z, w3.setCell ⟨g3, 3, none⟩ (.int .i64 m.idx) = z := ⟨_, rfl⟩
  have K4 : Hid (NV w g1 g3 m ⟨4, 0, 0, m.idx, 0, z32, z32, nilB⟩ w4) := by rw [← hWq]; exact K3.out.set 3 _ (K3.out.rn.setIdx _)
  go_upto_region 11 with fail
  try rw [hWq]
  clear hWq cS cZ fZ K3
  obtain ⟨w5, hWq⟩ : ∃ z, w4.setRow g3 (tabv (Msg.v ⟨4, 0, 0, m.idx, 0, m.hash, z32, nilB⟩) 70) = z := ⟨_, rfl⟩
  have K5 : Hid (NV w g1 g3 m ⟨4, 0, 0, m.idx, 0, m.hash, z32, nilB⟩ w5) := by rw [← hWq]; exact K4.out.row _
  go_upto_region 22 with (first | refine wpW_load_at 23 _ rfl (g1) (5) (by rfl) (by rfl) _ 32 _ (K4.out.rm.atHash) Try.underlying23 rfl info26 ?_ | refine wpList_storeMH rfl _ _ rfl rfl g3 ⟨4, 0, 0, m.idx, 0, z32, z32, nilB⟩ m.hash rfl rfl K4.out.rn ?_ | fail)
  try rw [hWq]
  clear hWq K4
  have cI : w5.cell? ⟨g1, 3, none⟩ = some (.int .i64 m.idx) := K5.out.rm.cell 3 (by omega)
  have cN : w5.cell? ⟨g1, 4, none⟩ = some (.int .i64 m.nxt) := K5.out.rm.cell 4 (by omega)
  rw [HNM.out] at HVM
  obtain ⟨R, hR⟩ : ∃ R, eqM m ⟨4, 0, 0, m.idx, 0, m.hash, z32, nilB⟩ = R := ⟨_, rfl⟩
  have HR := hide hR
  rw [hR] at HVM
  have RI := hide (fun w : World => rindex_any m.idx w)
  have RX := hide (fun w : World => rindex_any m.nxt w)
  obtain ⟨A, hA⟩ : ∃ A, idxB m.idx = A := ⟨_, rfl⟩
  obtain ⟨B, hB⟩ : ∃ B, idxB m.nxt = B := ⟨_, rfl⟩
  rw [hA] at HVM RI
  rw [hB] at HVM RX
  clear hR hA hB HNM c0
  cases R with
  | false =>
    go_wp2_with (first | refine wpW_load_at 25 _ rfl (g1) (0) (by rfl) (by rfl) _ 70 _ (K5.out.rm.at_ 0 (by omega) (fun i hi => by rw [Nat.zero_add])) Try.underlying25 rfl infoM ?_ | refine wpW_load_at 25 _ rfl (g3) (0) (by rfl) (by rfl) _ 70 _ (K5.out.rn.at_ 0 (by omega) (fun i hi => by rw [Nat.zero_add])) Try.underlying25 rfl infoM ?_ | refine wpW_eqM (by rfl) (.tmp 63) (.tmp 64) rfl m ⟨4, 0, 0, m.idx, 0, m.hash, z32, nilB⟩ false (by rfl) (by rfl) HR.out ?_ | fail)
    go_ret
    exact ⟨by rw [HVM.out]; rfl, by first | exact K5.out.bel | (rw [hg1]; exact K5.out.bel)⟩
  | true =>
    go_wp2_with (first | refine wpW_load_at 25 _ rfl (g1) (0) (by rfl) (by rfl) _ 70 _ (K5.out.rm.at_ 0 (by omega) (fun i hi => by rw [Nat.zero_add])) Try.underlying25 rfl infoM ?_ | refine wpW_load_at 25 _ rfl (g3) (0) (by rfl) (by rfl) _ 70 _ (K5.out.rn.at_ 0 (by omega) (fun i hi => by rw [Nat.zero_add])) Try.underlying25 rfl infoM ?_ | refine wpW_eqM (by rfl) (.tmp 63) (.tmp 64) rfl m ⟨4, 0, 0, m.idx, 0, m.hash, z32, nilB⟩ true (by rfl) (by rfl) HR.out ?_ | fail)
    refine (RI.out _).mono ?_
    rintro e wv ⟨rfl, rfl⟩
    cases A with
    | false =>
      go_wp2
      go_ret
      exact ⟨by rw [HVM.out]; rfl, by first | exact K5.out.bel | (rw [hg1]; exact K5.out.bel)⟩
    | true =>
      go_wp2_with fail
      refine (RX.out _).mono ?_
      rintro e wv ⟨rfl, rfl⟩
      cases B with
      | false =>
        go_wp2
        go_ret
        exact ⟨by rw [HVM.out]; rfl, by first | exact K5.out.bel | (rw [hg1]; exact K5.out.bel)⟩
      | true =>
        go_wp2
        go_ret
        exact ⟨by rw [HVM.out]; rfl, by first | exact K5.out.bel | (rw [hg1]; exact K5.out.bel)⟩
set_option maxRecDepth 100000 in
set_option maxHeartbeats 40000000 in
theorem rvalidM_5 (m : Msg) (hk1 : m.kind = 5) (w : World) : Calls Try.prog 33 #[.agg (tabv m.v 70)] w fun e w' => e = .returned (.bool (validM m)) ∧ Below w.heap.size w w' := by
  have HVM : Hid (validM m = (eqM m (named m) && (idxB m.idx && idxB m.nxt))) := by show _ = _; unfold validM; rw [if_neg (by unfold isU; omega), if_pos (by unfold isO; omega)]
  have HNM : Hid (named m = ⟨5, 0, 0, m.idx, 0, m.hash, m.sec, nilB⟩) := by show _ = _; unfold named; simp only [hk1]; rfl
  have HKk := hide hk1
  clear hk1
  obtain ⟨w1, hW1⟩ : ∃ wX, w.alloc (.cells (tabv m.v 70) 25) = wX := ⟨_, rfl⟩
  have r1 : Has w1 w.heap.size 25 m.v 70 := by rw [← hW1]; exact Has.new w 25 m.v 70 _ rfl
  have b1 : Below w.heap.size w w1 := by rw [← hW1]; exact (Below.refl w.heap.size w).alloc (Nat.le_refl _) _
  obtain ⟨w2, w3, hW2, r2, hW3, r3, b3, _⟩ := newM w1 ⟨m.kind, 0, 0, 0, 0, z32, z32, nilB⟩
  have RN := hide r2
  have K3 : Hid (NV w w.heap.size w1.heap.size m ⟨m.kind, 0, 0, 0, 0, z32, z32, nilB⟩ w3) := ⟨r1.below b3 r1.lt, r3, b1.trans (b3.mono b1.size), r1.lt⟩
  have cK : w1.cell? ⟨w.heap.size, 0, none⟩ = some (.int .i64 m.kind) := r1.cell 0 (by omega)
  have cK2 : w2.cell? ⟨w.heap.size, 0, none⟩ = some (.int .i64 m.kind) := by rw [← hW2]; exact (r1.old _).cell 0 (by omega)
  obtain ⟨K, hK⟩ : ∃ K, m.kind = K := ⟨_, rfl⟩
  rw [hK] at K3 cK cK2 hW3
  have HKn := hide hK
  clear r1 b1 r2 r3 b3 hK
  have c0 : w3.cell? ⟨w.heap.size, 0, none⟩ = some (.int .i64 K) := by rw [← HKn.out]; exact K3.out.rm.cell 0 (by omega)
  go_enter Try.func33, Try.ntmps33
  go_upto_region 2 with (first | rw [hW3] | refine wpW_build (by rfl) 25 #[(0, .tmp 7)] rfl [(0, .int .i64 K)] (by first | rfl | (simp [Act.eval, Act.put]; done)) _ (builtMK K) ?_ | refine wpList_storeM rfl _ _ rfl rfl (w1.heap.size) (⟨K, 0, 0, 0, 0, z32, z32, nilB⟩) rfl rfl _ RN.out ?_ | fail)
  try rw [hW3]
  generalize hg1 : w.heap.size = g1 at K3 c0 ⊢
  generalize w1.heap.size = g3 at K3 ⊢
  clear hW1 hW2 hW3 RN cK cK2
  obtain rfl : K = 5 := by rw [← HKn.out]; exact HKk.out
  clear HKn HKk
  go_upto_region 13 with fail
  have cS : w3.cell? ⟨g1, 3, none⟩ = some (.int .i64 m.idx) := K3.out.rm.cell 3 (by omega)
  have cZ : w3.cell? ⟨g3, 3, none⟩ = some (.int .i64 0) := K3.out.rn.cell 3 (by omega)
  have fZ := K3.out.rn.frozen 3
  obtain ⟨w4, hWq⟩ : ∃ z, w3.setCell ⟨g3, 3, none⟩ (.int .i64 m.idx) = z := ⟨_, rfl⟩
  have K4 : Hid (NV w g1 g3 m ⟨5, 0, 0, m.idx, 0, z32, z32, nilB⟩ w4) := by rw [← hWq]; exact K3.out.set 3 _ (K3.out.rn.setIdx _)
  go_upto_region 14 with fail
  try rw [hWq]
  clear hWq cS cZ fZ K3
  obtain ⟨w5, hWq⟩ : ∃ z, w4.setRow g3 (tabv (Msg.v ⟨5, 0, 0, m.idx, 0, z32, m.sec, nilB⟩) 70) = z := ⟨_, rfl⟩
  have K5 : Hid (NV w g1 g3 m ⟨5, 0, 0, m.idx, 0, z32, m.sec, nilB⟩ w5) := by rw [← hWq]; exact K4.out.row _
  go_upto_region 15 with (first | refine wpW_load_at 23 _ rfl (g1) (37) (by rfl) (by rfl) _ 32 _ (K4.out.rm.atSec) Try.underlying23 rfl info26 ?_ | refine wpList_storeMS rfl _ _ rfl rfl g3 ⟨5, 0, 0, m.idx, 0, z32, z32, nilB⟩ m.sec rfl rfl K4.out.rn ?_ | fail)
  try rw [hWq]
  clear hWq K4
  obtain ⟨w6, hWq⟩ : ∃ z, w5.setRow g3 (tabv (Msg.v ⟨5, 0, 0, m.idx, 0, m.hash, m.sec, nilB⟩) 70) = z := ⟨_, rfl⟩
  have K6 : Hid (NV w g1 g3 m ⟨5, 0, 0, m.idx, 0, m.hash, m.sec, nilB⟩ w6) := by rw [← hWq]; exact K5.out.row _
  go_upto_region 22 with (first | refine wpW_load_at 23 _ rfl (g1) (5) (by rfl) (by rfl) _ 32 _ (K5.out.rm.atHash) Try.underlying23 rfl info26 ?_ | refine wpList_storeMH rfl _ _ rfl rfl g3 ⟨5, 0, 0, m.idx, 0, z32, m.sec, nilB⟩ m.hash rfl rfl K5.out.rn ?_ | fail)
  try rw [hWq]
  clear hWq K5
  have cI : w6.cell? ⟨g1, 3, none⟩ = some (.int .i64 m.idx) := K6.out.rm.cell 3 (by omega)
  have cN : w6.cell? ⟨g1, 4, none⟩ = some (.int .i64 m.nxt) := K6.out.rm.cell 4 (by omega)
  rw [HNM.out] at HVM
  obtain ⟨R, hR⟩ : ∃ R, eqM m ⟨5, 0, 0, m.idx, 0, m.hash, m.sec, nilB⟩ = R := ⟨_, rfl⟩
  have HR := hide hR
  rw [hR] at HVM
  have RI := hide (fun w : World => rindex_any m.idx w)
  have RX := hide (fun w : World => rindex_any m.nxt w)
  obtain ⟨A, hA⟩ : ∃ A, idxB m.idx = A := ⟨_, rfl⟩
  obtain ⟨B, hB⟩ : ∃ B, idxB m.nxt = B := ⟨_, rfl⟩
  rw [hA] at HVM RI
  rw [hB] at HVM RX
  clear hR hA hB HNM c0
  cases R with
  | false =>
    go_wp2_with (first | refine wpW_load_at 25 _ rfl (g1) (0) (by rfl) (by rfl) _ 70 _ (K6.out.rm.at_ 0 (by omega) (fun i hi => by rw [Nat.zero_add])) Try.underlying25 rfl infoM ?_ | refine wpW_load_at 25 _ rfl (g3) (0) (by rfl) (by rfl) _ 70 _ (K6.out.rn.at_ 0 (by omega) (fun i hi => by rw [Nat.zero_add])) Try.underlying25 rfl infoM ?_ | refine wpW_eqM (by rfl) (.tmp 63) (.tmp 64) rfl m ⟨5, 0, 0, m.idx, 0, m.hash, m.sec, nilB⟩ false (by rfl) (by rfl) HR.out ?_ | fail)
    go_ret
    exact ⟨by rw [HVM.out]; rfl, by first | exact K6.out.bel | (rw [hg1]; exact K6.out.bel)⟩
  | true =>
    go_wp2_with (first | refine wpW_load_at 25 _ rfl (g1) (0) (by rfl) (by rfl) _ 70 _ (K6.out.rm.at_ 0 (by omega) (fun i hi => by rw [Nat.zero_add])) Try.underlying25 rfl infoM ?_ | refine wpW_load_at 25 _ rfl (g3) (0) (by rfl) (by rfl) _ 70 _ (K6.out.rn.at_ 0 (by omega) (fun i hi => by rw [Nat.zero_add])) Try.underlying25 rfl infoM ?_ | refine wpW_eqM (by rfl) (.tmp 63) (.tmp 64) rfl m ⟨5, 0, 0, m.idx, 0, m.hash, m.sec, nilB⟩ true (by rfl) (by rfl) HR.out ?_ | fail)
    refine (RI.out _).mono ?_
    rintro e wv ⟨rfl, rfl⟩
    cases A with
    | false =>
      go_wp2
      go_ret
      exact ⟨by rw [HVM.out]; rfl, by first | exact K6.out.bel | (rw [hg1]; exact K6.out.bel)⟩
    | true =>
      go_wp2_with fail
      refine (RX.out _).mono ?_
      rintro e wv ⟨rfl, rfl⟩
      cases B with
      | false =>
        go_wp2
        go_ret
        exact ⟨by rw [HVM.out]; rfl, by first | exact K6.out.bel | (rw [hg1]; exact K6.out.bel)⟩
      | true =>
        go_wp2
        go_ret
        exact ⟨by rw [HVM.out]; rfl, by first | exact K6.out.bel | (rw [hg1]; exact K6.out.bel)⟩
set_option maxRecDepth 100000 in
set_option maxHeartbeats 40000000 in
theorem rvalidM_6 (m : Msg) (hk1 : m.kind = 6) (w : World) : Calls Try.prog 33 #[.agg (tabv m.v 70)] w fun e w' => e = .returned (.bool (validM m)) ∧ Below w.heap.size w w' := by
  have HVM : Hid (validM m = (eqM m (named m) && (idxB m.idx && idxB m.nxt))) := by show _ = _; unfold validM; rw [if_neg (by unfold isU; omega), if_pos (by unfold isO; omega)]
  have HNM : Hid (named m = ⟨6, 0, 0, m.idx, m.nxt, z32, m.sec, nilB⟩) := by show _ = _; unfold named; simp only [hk1]; rfl
  have HKk := hide hk1
  clear hk1
  obtain ⟨w1, hW1⟩ : ∃ wX, w.alloc (.cells (tabv m.v 70) 25) = wX := ⟨_, rfl⟩
  have r1 : Has w1 w.heap.size 25 m.v 70 := by rw [← hW1]; exact Has.new w 25 m.v 70 _ rfl
  have b1 : Below w.heap.size w w1 := by rw [← hW1]; exact (Below.refl w.heap.size w).alloc (Nat.le_refl _) _
  obtain ⟨w2, w3, hW2, r2, hW3, r3, b3, _⟩ := newM w1 ⟨m.kind, 0, 0, 0, 0, z32, z32, nilB⟩
  have RN := hide r2
  have K3 : Hid (NV w w.heap.size w1.heap.size m ⟨m.kind, 0, 0, 0, 0, z32, z32, nilB⟩ w3) := ⟨r1.below b3 r1.lt, r3, b1.trans (b3.mono b1.size), r1.lt⟩
  have cK : w1.cell? ⟨w.heap.size, 0, none⟩ = some (.int .i64 m.kind) := r1.cell 0 (by omega)
  have cK2 : w2.cell? ⟨w.heap.size, 0, none⟩ = some (.int .i64 m.kind) := by rw [← hW2]; exact (r1.old _).cell 0 (by omega)
  obtain ⟨K, hK⟩ : ∃ K, m.kind = K := ⟨_, rfl⟩
  rw [hK] at K3 cK cK2 hW3
  have HKn := hide hK
  clear r1 b1 r2 r3 b3 hK
  have c0 : w3.cell? ⟨w.heap.size, 0, none⟩ = some (.int .i64 K) := by rw [← HKn.out]; exact K3.out.rm.cell 0 (by omega)
  go_enter Try.func33, Try.ntmps33
  go_upto_region 2 with (first | rw [hW3] | refine wpW_build (by rfl) 25 #[(0, .tmp 7)] rfl [(0, .int .i64 K)] (by first | rfl | (simp [Act.eval, Act.put]; done)) _ (builtMK K) ?_ | refine wpList_storeM rfl _ _ rfl rfl (w1.heap.size) (⟨K, 0, 0, 0, 0, z32, z32, nilB⟩) rfl rfl _ RN.out ?_ | fail)
  try rw [hW3]
  generalize hg1 : w.heap.size = g1 at K3 c0 ⊢
  generalize w1.heap.size = g3 at K3 ⊢
  clear hW1 hW2 hW3 RN cK cK2
  obtain rfl : K = 6 := by rw [← HKn.out]; exact HKk.out
  clear HKn HKk
  go_upto_region 17 with fail
  have cS : w3.cell? ⟨g1, 3, none⟩ = some (.int .i64 m.idx) := K3.out.rm.cell 3 (by omega)
  have cZ : w3.cell? ⟨g3, 3, none⟩ = some (.int .i64 0) := K3.out.rn.cell 3 (by omega)
  have fZ := K3.out.rn.frozen 3
  obtain ⟨w4, hWq⟩ : ∃ z, w3.setCell ⟨g3, 3, none⟩ (.int .i64 m.idx) = z := ⟨_, rfl⟩
  have K4 : Hid (NV w g1 g3 m ⟨6, 0, 0, m.idx, 0, z32, z32, nilB⟩ w4) := by rw [← hWq]; exact K3.out.set 3 _ (K3.out.rn.setIdx _)
  go_upto_region 18 with fail
  try rw [hWq]
  clear hWq cS cZ fZ K3
  have cS : w4.cell? ⟨g1, 4, none⟩ = some (.int .i64 m.nxt) := K4.out.rm.cell 4 (by omega)
  have cZ : w4.cell? ⟨g3, 4, none⟩ = some (.int .i64 0) := K4.out.rn.cell 4 (by omega)
  have fZ := K4.out.rn.frozen 4
  obtain ⟨w5, hWq⟩ : ∃ z, w4.setCell ⟨g3, 4, none⟩ (.int .i64 m.nxt) = z := ⟨_, rfl⟩
  have K5 : Hid (NV w g1 g3 m ⟨6, 0, 0, m.idx, m.nxt, z32, z32, nilB⟩ w5) := by rw [← hWq]; exact K4.out.set 4 _ (K4.out.rn.setNxt _)
  go_upto_region 19 with fail
  try rw [hWq]
  clear hWq cS cZ fZ K4
  obtain ⟨w6, hWq⟩ : ∃ z, w5.setRow g3 (tabv (Msg.v ⟨6, 0, 0, m.idx, m.nxt, z32, m.sec, nilB⟩) 70) = z := ⟨_, rfl⟩
  have K6 : Hid (NV w g1 g3 m ⟨6, 0, 0, m.idx, m.nxt, z32, m.sec, nilB⟩ w6) := by rw [← hWq]; exact K5.out.row _
  go_upto_region 22 with (first | refine wpW_load_at 23 _ rfl (g1) (37) (by rfl) (by rfl) _ 32 _ (K5.out.rm.atSec) Try.underlying23 rfl info26 ?_ | refine wpList_storeMS rfl _ _ rfl rfl g3 ⟨6, 0, 0, m.idx, m.nxt, z32, z32, nilB⟩ m.sec rfl rfl K5.out.rn ?_ | fail)
  try rw [hWq]
  clear hWq K5
  have cI : w6.cell? ⟨g1, 3, none⟩ = some (.int .i64 m.idx) := K6.out.rm.cell 3 (by omega)
  have cN : w6.cell? ⟨g1, 4, none⟩ = some (.int .i64 m.nxt) := K6.out.rm.cell 4 (by omega)
  rw [HNM.out] at HVM
  obtain ⟨R, hR⟩ : ∃ R, eqM m ⟨6, 0, 0, m.idx, m.nxt, z32, m.sec, nilB⟩ = R := ⟨_, rfl⟩
  have HR := hide hR
  rw [hR] at HVM
  have RI := hide (fun w : World => rindex_any m.idx w)
  have RX := hide (fun w : World => rindex_any m.nxt w)
  obtain ⟨A, hA⟩ : ∃ A, idxB m.idx = A := ⟨_, rfl⟩
  obtain ⟨B, hB⟩ : ∃ B, idxB m.nxt = B := ⟨_, rfl⟩
  rw [hA] at HVM RI
  rw [hB] at HVM RX
  clear hR hA hB HNM c0
  cases R with
  | false =>
    go_wp2_with (first | refine wpW_load_at 25 _ rfl (g1) (0) (by rfl) (by rfl) _ 70 _ (K6.out.rm.at_ 0 (by omega) (fun i hi => by rw [Nat.zero_add])) Try.underlying25 rfl infoM ?_ | refine wpW_load_at 25 _ rfl (g3) (0) (by rfl) (by rfl) _ 70 _ (K6.out.rn.at_ 0 (by omega) (fun i hi => by rw [Nat.zero_add])) Try.underlying25 rfl infoM ?_ | refine wpW_eqM (by rfl) (.tmp 63) (.tmp 64) rfl m ⟨6, 0, 0, m.idx, m.nxt, z32, m.sec, nilB⟩ false (by rfl) (by rfl) HR.out ?_ | fail)
    go_ret
    exact ⟨by rw [HVM.out]; rfl, by first | exact K6.out.bel | (rw [hg1]; exact K6.out.bel)⟩
  | true =>
    go_wp2_with (first | refine wpW_load_at 25 _ rfl (g1) (0) (by rfl) (by rfl) _ 70 _ (K6.out.rm.at_ 0 (by omega) (fun i hi => by rw [Nat.zero_add])) Try.underlying25 rfl infoM ?_ | refine wpW_load_at 25 _ rfl (g3) (0) (by rfl) (by rfl) _ 70 _ (K6.out.rn.at_ 0 (by omega) (fun i hi => by rw [Nat.zero_add])) Try.underlying25 rfl infoM ?_ | refine wpW_eqM (by rfl) (.tmp 63) (.tmp 64) rfl m ⟨6, 0, 0, m.idx, m.nxt, z32, m.sec, nilB⟩ true (by rfl) (by rfl) HR.out ?_ | fail)
    refine (RI.out _).mono ?_
    rintro e wv ⟨rfl, rfl⟩
    cases A with
    | false =>
      go_wp2
      go_ret
      exact ⟨by rw [HVM.out]; rfl, by first | exact K6.out.bel | (rw [hg1]; exact K6.out.bel)⟩
    | true =>
      go_wp2_with fail
      refine (RX.out _).mono ?_
      rintro e wv ⟨rfl, rfl⟩
      cases B with
      | false =>
        go_wp2
        go_ret
        exact ⟨by rw [HVM.out]; rfl, by first | exact K6.out.bel | (rw [hg1]; exact K6.out.bel)⟩
      | true =>
        go_wp2
        go_ret
        exact ⟨by rw [HVM.out]; rfl, by first | exact K6.out.bel | (rw [hg1]; exact K6.out.bel)⟩
set_option maxRecDepth 100000 in
set_option maxHeartbeats 40000000 in
theorem rvalidM_7 (m : Msg) (hk1 : m.kind = 7) (w : World) : Calls Try.prog 33 #[.agg (tabv m.v 70)] w fun e w' => e = .returned (.bool (validM m)) ∧ Below w.heap.size w w' := by
  have HVM : Hid (validM m = (eqM m (named m) && (idxB m.idx && idxB m.nxt))) := by show _ = _; unfold validM; rw [if_neg (by unfold isU; omega), if_pos (by unfold isO; omega)]
  have HNM : Hid (named m = ⟨7, 0, 0, m.idx, 0, z32, z32, nilB⟩) := by show _ = _; unfold named; simp only [hk1]; rfl
  have HKk := hide hk1
  clear hk1
  obtain ⟨w1, hW1⟩ : ∃ wX, w.alloc (.cells (tabv m.v 70) 25) = wX := ⟨_, rfl⟩
  have r1 : Has w1 w.heap.size 25 m.v 70 := by rw [← hW1]; exact Has.new w 25 m.v 70 _ rfl
  have b1 : Below w.heap.size w w1 := by rw [← hW1]; exact (Below.refl w.heap.size w).alloc (Nat.le_refl _) _
  obtain ⟨w2, w3, hW2, r2, hW3, r3, b3, _⟩ := newM w1 ⟨m.kind, 0, 0, 0, 0, z32, z32, nilB⟩
  have RN := hide r2
  have K3 : Hid (NV w w.heap.size w1.heap.size m ⟨m.kind, 0, 0, 0, 0, z32, z32, nilB⟩ w3) := ⟨r1.below b3 r1.lt, r3, b1.trans (b3.mono b1.size), r1.lt⟩
  have cK : w1.cell? ⟨w.heap.size, 0, none⟩ = some (.int .i64 m.kind) := r1.cell 0 (by omega)
  have cK2 : w2.cell? ⟨w.heap.size, 0, none⟩ = some (.int .i64 m.kind) := by rw [← hW2]; exact (r1.old _).cell 0 (by omega)
  obtain ⟨K, hK⟩ : ∃ K, m.kind = K := ⟨_, rfl⟩
  rw [hK] at K3 cK cK2 hW3
  have HKn := hide hK
  clear r1 b1 r2 r3 b3 hK
  have c0 : w3.cell? ⟨w.heap.size, 0, none⟩ = some (.int .i64 K) := by rw [← HKn.out]; exact K3.out.rm.cell 0 (by omega)
  go_enter Try.func33, Try.ntmps33
  go_upto_region 2 with (first | rw [hW3] | refine wpW_build (by rfl) 25 #[(0, .tmp 7)] rfl [(0, .int .i64 K)] (by first | rfl | (simp [Act.eval, Act.put]; done)) _ (builtMK K) ?_ | refine wpList_storeM rfl _ _ rfl rfl (w1.heap.size) (⟨K, 0, 0, 0, 0, z32, z32, nilB⟩) rfl rfl _ RN.out ?_ | fail)
  try rw [hW3]
  generalize hg1 : w.heap.size = g1 at K3 c0 ⊢
  generalize w1.heap.size = g3 at K3 ⊢
  clear hW1 hW2 hW3 RN cK cK2
  obtain rfl : K = 7 := by rw [← HKn.out]; exact HKk.out
  clear HKn HKk
  go_upto_region 21 with fail
  have cS : w3.cell? ⟨g1, 3, none⟩ = some (.int .i64 m.idx) := K3.out.rm.cell 3 (by omega)
  have cZ : w3.cell? ⟨g3, 3, none⟩ = some (.int .i64 0) := K3.out.rn.cell 3 (by omega)
  have fZ := K3.out.rn.frozen 3
  obtain ⟨w4, hWq⟩ : ∃ z, w3.setCell ⟨g3, 3, none⟩ (.int .i64 m.idx) = z := ⟨_, rfl⟩
  have K4 : Hid (NV w g1 g3 m ⟨7, 0, 0, m.idx, 0, z32, z32, nilB⟩ w4) := by rw [← hWq]; exact K3.out.set 3 _ (K3.out.rn.setIdx _)
  go_upto_region 22 with fail
  try rw [hWq]
  clear hWq cS cZ fZ K3
  have cI : w4.cell? ⟨g1, 3, none⟩ = some (.int .i64 m.idx) := K4.out.rm.cell 3 (by omega)
  have cN : w4.cell? ⟨g1, 4, none⟩ = some (.int .i64 m.nxt) := K4.out.rm.cell 4 (by omega)
  rw [HNM.out] at HVM
  obtain ⟨R, hR⟩ : ∃ R, eqM m ⟨7, 0, 0, m.idx, 0, z32, z32, nilB⟩ = R := ⟨_, rfl⟩
  have HR := hide hR
  rw [hR] at HVM
  have RI := hide (fun w : World => rindex_any m.idx w)
  have RX := hide (fun w : World => rindex_any m.nxt w)
  obtain ⟨A, hA⟩ : ∃ A, idxB m.idx = A := ⟨_, rfl⟩
  obtain ⟨B, hB⟩ : ∃ B, idxB m.nxt = B := ⟨_, rfl⟩
  rw [hA] at HVM RI
  rw [hB] at HVM RX
  clear hR hA hB HNM c0
  cases R with
  | false =>
    go_wp2_with (first | refine wpW_load_at 25 _ rfl (g1) (0) (by rfl) (by rfl) _ 70 _ (K4.out.rm.at_ 0 (by omega) (fun i hi => by rw [Nat.zero_add])) Try.underlying25 rfl infoM ?_ | refine wpW_load_at 25 _ rfl (g3) (0) (by rfl) (by rfl) _ 70 _ (K4.out.rn.at_ 0 (by omega) (fun i hi => by rw [Nat.zero_add])) Try.underlying25 rfl infoM ?_ | refine wpW_eqM (by rfl) (.tmp 63) (.tmp 64) rfl m ⟨7, 0, 0, m.idx, 0, z32, z32, nilB⟩ false (by rfl) (by rfl) HR.out ?_ | fail)
    go_ret
    exact ⟨by rw [HVM.out]; rfl, by first | exact K4.out.bel | (rw [hg1]; exact K4.out.bel)⟩
  | true =>
    go_wp2_with (first | refine wpW_load_at 25 _ rfl (g1) (0) (by rfl) (by rfl) _ 70 _ (K4.out.rm.at_ 0 (by omega) (fun i hi => by rw [Nat.zero_add])) Try.underlying25 rfl infoM ?_ | refine wpW_load_at 25 _ rfl (g3) (0) (by rfl) (by rfl) _ 70 _ (K4.out.rn.at_ 0 (by omega) (fun i hi => by rw [Nat.zero_add])) Try.underlying25 rfl infoM ?_ | refine wpW_eqM (by rfl) (.tmp 63) (.tmp 64) rfl m ⟨7, 0, 0, m.idx, 0, z32, z32, nilB⟩ true (by rfl) (by rfl) HR.out ?_ | fail)
    refine (RI.out _).mono ?_
    rintro e wv ⟨rfl, rfl⟩
    cases A with
    | false =>
      go_wp2
      go_ret
      exact ⟨by rw [HVM.out]; rfl, by first | exact K4.out.bel | (rw [hg1]; exact K4.out.bel)⟩
    | true =>
      go_wp2_with fail
      refine (RX.out _).mono ?_
      rintro e wv ⟨rfl, rfl⟩
      cases B with
      | false =>
        go_wp2
        go_ret
        exact ⟨by rw [HVM.out]; rfl, by first | exact K4.out.bel | (rw [hg1]; exact K4.out.bel)⟩
      | true =>
        go_wp2
        go_ret
        exact ⟨by rw [HVM.out]; rfl, by first | exact K4.out.bel | (rw [hg1]; exact K4.out.bel)⟩
set_option maxRecDepth 100000 in
set_option maxHeartbeats 40000000 in
theorem rvalidM_0 (m : Msg) (hu : ¬isU m.kind) (ho : ¬isO m.kind) (w : World) : Calls Try.prog 33 #[.agg (tabv m.v 70)] w fun e w' => e = .returned (.bool (validM m)) ∧ Below w.heap.size w w' := by
  have HVM : Hid (validM m = false) := by show _ = _; unfold validM; rw [if_neg hu, if_neg ho]
  have hb1 : (m.kind == 1) = false := beq_false_of_ne (by unfold isU at hu; unfold isO at ho; omega)
  have hb2 : (m.kind == 2) = false := beq_false_of_ne (by unfold isU at hu; unfold isO at ho; omega)
  have hb3 : (m.kind == 3) = false := beq_false_of_ne (by unfold isU at hu; unfold isO at ho; omega)
  have hb4 : (m.kind == 4) = false := beq_false_of_ne (by unfold isU at hu; unfold isO at ho; omega)
  have hb5 : (m.kind == 5) = false := beq_false_of_ne (by unfold isU at hu; unfold isO at ho; omega)
  have hb6 : (m.kind == 6) = false := beq_false_of_ne (by unfold isU at hu; unfold isO at ho; omega)
  have hb7 : (m.kind == 7) = false := beq_false_of_ne (by unfold isU at hu; unfold isO at ho; omega)
  clear hu ho
  obtain ⟨w1, hW1⟩ : ∃ wX, w.alloc (.cells (tabv m.v 70) 25) = wX := ⟨_, rfl⟩
  have r1 : Has w1 w.heap.size 25 m.v 70 := by rw [← hW1]; exact Has.new w 25 m.v 70 _ rfl
  have b1 : Below w.heap.size w w1 := by rw [← hW1]; exact (Below.refl w.heap.size w).alloc (Nat.le_refl _) _
  obtain ⟨w2, w3, hW2, r2, hW3, r3, b3, _⟩ := newM w1 ⟨m.kind, 0, 0, 0, 0, z32, z32, nilB⟩
  have RN := hide r2
  have K3 : Hid (NV w w.heap.size w1.heap.size m ⟨m.kind, 0, 0, 0, 0, z32, z32, nilB⟩ w3) := ⟨r1.below b3 r1.lt, r3, b1.trans (b3.mono b1.size), r1.lt⟩
  have cK : w1.cell? ⟨w.heap.size, 0, none⟩ = some (.int .i64 m.kind) := r1.cell 0 (by omega)
  have cK2 : w2.cell? ⟨w.heap.size, 0, none⟩ = some (.int .i64 m.kind) := by rw [← hW2]; exact (r1.old _).cell 0 (by omega)
  obtain ⟨K, hK⟩ : ∃ K, m.kind = K := ⟨_, rfl⟩
  rw [hK] at K3 cK cK2 hW3
  have HKn := hide hK
  clear r1 b1 r2 r3 b3 hK
  have c0 : w3.cell? ⟨w.heap.size, 0, none⟩ = some (.int .i64 K) := by rw [← HKn.out]; exact K3.out.rm.cell 0 (by omega)
  go_enter Try.func33, Try.ntmps33
  go_upto_region 2 with (first | rw [hW3] | refine wpW_build (by rfl) 25 #[(0, .tmp 7)] rfl [(0, .int .i64 K)] (by first | rfl | (simp [Act.eval, Act.put]; done)) _ (builtMK K) ?_ | refine wpList_storeM rfl _ _ rfl rfl (w1.heap.size) (⟨K, 0, 0, 0, 0, z32, z32, nilB⟩) rfl rfl _ RN.out ?_ | fail)
  try rw [hW3]
  generalize hg1 : w.heap.size = g1 at K3 c0 ⊢
  generalize w1.heap.size = g3 at K3 ⊢
  clear hW1 hW2 hW3 RN cK cK2
  rw [HKn.out] at hb1 hb2 hb3 hb4 hb5 hb6 hb7
  clear HKn
  go_wp2
  go_ret
  exact ⟨by rw [HVM.out]; rfl, by first | exact K3.out.bel | (rw [hg1]; exact K3.out.bel)⟩
theorem rvalidM_any (m : Msg) (w : World) : Calls Try.prog 33 #[.agg (tabv m.v 70)] w fun e w' => e = .returned (.bool (validM m)) ∧ Below w.heap.size w w' := by
  by_cases hu : isU m.kind
  · rcases hu with h | h | h
    · exact rvalidM_1 m h w
    · exact rvalidM_2 m h w
    · exact rvalidM_3 m h w
  · by_cases ho : isO m.kind
    · rcases ho with h | h | h | h
      · exact rvalidM_4 m h w
      · exact rvalidM_5 m h w
      · exact rvalidM_6 m h w
      · exact rvalidM_7 m h w
    · exact rvalidM_0 m hu ho w
end Go.Proofs.Ytfohdolhobooiaa
