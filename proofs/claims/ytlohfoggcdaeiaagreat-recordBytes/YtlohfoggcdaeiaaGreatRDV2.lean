import Derived.Test.YtlohfoggcdaeiaaGreatRDS0
import Derived.Test.YtlohfoggcdaeiaaGreatRDS4
import Derived.Test.YtlohfoggcdaeiaaGreatRDS8
import Derived.Deep.DeepCutAuto
import Derived.Deep.Cut
/-
  The document's Same of two records (printed by gen_r30.py).
-/
namespace Go.Proofs.YtlohfoggcdaeiaaGreat
open Go.RowKit S
set_option linter.unusedVariables false
set_option linter.unusedSimpArgs false
open Cu (nb be hl ofL CW Mw CR Mr RS takeS takeA hOf nil8 doneS)
theorem dsame_any (a b : Rc) (hz : a.upds.n ≤ 140737488351232) (w : World) (hU : a.upds.n = b.upds.n → ∃ l : List Upd, l.length = a.upds.n ∧ Upds w a.upds.ad l ∧ Upds w b.upds.ad l) : Calls Tryz.prog 24 #[.agg (tabv a.v 138), .agg (tabv b.v 138)] w fun e w' => e = .returned (.bool (sameD a b)) ∧ Below w.heap.size w w' := by
  unfold sameD preB
  cases K0 : ((a.kind == b.kind)) with
  | false =>
    have := dsame_0 a b K0 hz w hU
    simpa using this
  | true =>
    cases K1 : (eqU a.upd b.upd) with
    | false =>
      have := dsame_1 a b K0 K1 hz w hU
      simpa using this
    | true =>
      cases K2 : ((a.idx == b.idx)) with
      | false =>
        have := dsame_2 a b K0 K1 K2 hz w hU
        simpa using this
      | true =>
        cases K3 : (((a.co == b.co) && (a.cp == b.cp))) with
        | false =>
          have := dsame_3 a b K0 K1 K2 K3 hz w hU
          simpa using this
        | true =>
          cases K4 : (eqH a.sig b.sig) with
          | false =>
            have := dsame_4 a b K0 K1 K2 K3 K4 hz w hU
            simpa using this
          | true =>
            cases K5 : (eqH a.sec b.sec) with
            | false =>
              have := dsame_5 a b K0 K1 K2 K3 K4 K5 hz w hU
              simpa using this
            | true =>
              cases K6 : (eqH a.pt b.pt) with
              | false =>
                have := dsame_6 a b K0 K1 K2 K3 K4 K5 K6 hz w hU
                simpa using this
              | true =>
                cases K7 : ((a.code == b.code)) with
                | false =>
                  have := dsame_7 a b K0 K1 K2 K3 K4 K5 K6 K7 hz w hU
                  simpa using this
                | true =>
                  have := dsame_8 a b K0 K1 K2 K3 K4 K5 K6 K7 hz w hU
                  simpa using this
end Go.Proofs.YtlohfoggcdaeiaaGreat
/-
  The document's Valid of a record of no kind (printed by gen_r31.py).
-/
namespace Go.Proofs.YtlohfoggcdaeiaaGreat
open Go.RowKit S
set_option linter.unusedVariables false
set_option linter.unusedSimpArgs false
open Cu (nb be hl ofL CW Mw CR Mr RS takeS takeA hOf nil8 doneS)
set_option maxRecDepth 100000 in
set_option maxHeartbeats 40000000 in
theorem dvalid_0 (r : Rc) (l : List Upd) (hk : ¬(1 ≤ r.kind ∧ r.kind ≤ 6)) (w : World) : Calls Tryz.prog 34 #[.agg (tabv r.v 138)] w fun e w' => e = .returned (.bool (validR r l)) ∧ Below w.heap.size w w' := by
  obtain ⟨w1, hW1⟩ : ∃ wX, w.alloc (.cells (tabv r.v 138) 38) = wX := ⟨_, rfl⟩
  have r1 : Has w1 w.heap.size 38 r.v 138 := by rw [← hW1]; exact Has.new w 38 r.v 138 _ rfl
  have b1 : Below w.heap.size w w1 := by rw [← hW1]; exact (Below.refl w.heap.size w).alloc (Nat.le_refl _) _
  obtain ⟨w2, w3, hW2, q2, hW3, q3, b3⟩ := newRc w1 ⟨r.kind, Upd.zero, nilS, 0, 0, 0, z32, z32, z32, 0⟩
  have Q2 := hide q2
  have B3 : Below w.heap.size w w3 := b1.trans (b3.mono b1.size)
  have r3 := r1.below b3 r1.lt
  have c0 : w1.cell? ⟨w.heap.size, 0, none⟩ = some (.int .i64 r.kind) := r1.cell 0 (by omega)
  have cc0 : w3.cell? ⟨w.heap.size, 0, none⟩ = some (.int .i64 r.kind) := r3.cell 0 (by omega)
  have EV : Hid (validR r l = false) := valid_none r l hk
  have e1 : (r.kind == 1) = false := beq_false_of_ne (by omega)
  have e2 : (r.kind == 2) = false := beq_false_of_ne (by omega)
  have e3 : (r.kind == 3) = false := beq_false_of_ne (by omega)
  have e4 : (r.kind == 4) = false := beq_false_of_ne (by omega)
  have e5 : (r.kind == 5) = false := beq_false_of_ne (by omega)
  have e6 : (r.kind == 6) = false := beq_false_of_ne (by omega)
  clear hk
  go_enter Tryz.func34, Tryz.ntmps34
  go_upto_region 2 with (first | rw [hW1] | rw [hW3] | (go_big_may; first | refine wpW_build (by rfl) 38 #[(0, .tmp 6)] rfl [(0, .int .i64 r.kind)] (by first | rfl | (simp [Act.eval, Act.put]; done)) _ (builtRK r.kind) ?_ | refine wpList_storeRc rfl _ _ rfl rfl (w1.heap.size) (⟨r.kind, Upd.zero, nilS, 0, 0, 0, z32, z32, z32, 0⟩) rfl rfl _ Q2.out ?_) | fail)
  try rw [hW3]
  clear hW1 hW2 hW3 Q2
  go_wp2
  go_ret
  exact ⟨by first | (rw [EV.out]; done) | (rw [EV.out]; rfl), B3⟩
end Go.Proofs.YtlohfoggcdaeiaaGreat
/-
  The document's Valid of a record, kind 1 (printed by gen_r31.py).
-/
namespace Go.Proofs.YtlohfoggcdaeiaaGreat
open Go.RowKit S
set_option linter.unusedVariables false
set_option linter.unusedSimpArgs false
open Cu (nb be hl ofL CW Mw CR Mr RS takeS takeA hOf nil8 doneS)
set_option maxRecDepth 100000 in
set_option maxHeartbeats 40000000 in
theorem dvalid_1 (r : Rc) (l : List Upd) (hk : r.kind = 1) (hn0 : l.length = r.upds.n) (hz : r.upds.n ≤ 140737488351232) (w : World) (hS : Upds w r.upds.ad l) : Calls Tryz.prog 34 #[.agg (tabv r.v 138)] w fun e w' => e = .returned (.bool (validR r l)) ∧ Below w.heap.size w w' := by
  obtain ⟨w1, hW1⟩ : ∃ wX, w.alloc (.cells (tabv r.v 138) 38) = wX := ⟨_, rfl⟩
  have r1 : Has w1 w.heap.size 38 r.v 138 := by rw [← hW1]; exact Has.new w 38 r.v 138 _ rfl
  have b1 : Below w.heap.size w w1 := by rw [← hW1]; exact (Below.refl w.heap.size w).alloc (Nat.le_refl _) _
  obtain ⟨w2, w3, hW2, q2, hW3, q3, b3⟩ := newRc w1 ⟨1, Upd.zero, nilS, 0, 0, 0, z32, z32, z32, 0⟩
  have Q2 := hide q2
  have B3 : Below w.heap.size w w3 := b1.trans (b3.mono b1.size)
  have r3 := r1.below b3 r1.lt
  have c0 : w1.cell? ⟨w.heap.size, 0, none⟩ = some (.int .i64 1) := by rw [r1.cell 0 (by omega), ← hk]; rfl
  have cc0 : w3.cell? ⟨w.heap.size, 0, none⟩ = some (.int .i64 1) := by rw [r3.cell 0 (by omega), ← hk]; rfl
  go_enter Tryz.func34, Tryz.ntmps34
  go_upto_region 2 with (first | rw [hW1] | rw [hW3] | (go_big_may; first | refine wpW_build (by rfl) 38 #[(0, .tmp 6)] rfl [(0, .int .i64 1)] (by first | rfl | (simp [Act.eval, Act.put]; done)) _ (builtRK 1) ?_ | refine wpList_storeRc rfl _ _ rfl rfl (w1.heap.size) (⟨1, Upd.zero, nilS, 0, 0, 0, z32, z32, z32, 0⟩) rfl rfl _ Q2.out ?_) | fail)
  try rw [hW3]
  have HS1 : Hid (w.heap.size < w1.heap.size) := r1.lt
  generalize hgx : w.heap.size = g at r3 B3 cc0 HS1 ⊢
  generalize hg3 : w1.heap.size = g3 at q3 HS1 ⊢
  have HGX := hide hgx
  clear hW1 hW2 hW3 Q2 q2 b1 r1 c0 b3 hg3 hgx
  have au := hide (show At w3 g 1 r.upd.v 36 from fun j hj => by rw [r3.cell (1 + j) (by omega)]; exact congrArg some (Rc.v_upd _ j hj))
  have RV := hide (rvalid_any r.upd w3)
  go_wp2_with (first | refine wpW_load_at 36 _ rfl (g) (1) (by rfl) (by rfl) _ 36 _ (au.out) Tryz.underlying36 rfl infoU ?_ | fail)
  refine RV.out.mono ?_
  rintro e w4 ⟨rfl, hb4⟩
  have r4 := r3.below hb4 r3.lt
  have q4 := q3.below hb4 q3.lt
  have B4 : Below g w w4 := B3.trans (hb4.mono (Nat.le_of_lt r3.lt))
  clear RV au r3 q3 B3 hb4 cc0
  cases hv : validB r.upd with
  | false =>
    have EV : Hid (validR r l = false) := by
      show _ = _
      rw [valid_doc r l (by omega), show askD r l = false by unfold askD; rw [hk]; exact hv, Bool.false_and]
    clear hv
    go_wp2
    go_ret
    exact ⟨by first | (rw [EV.out]; done) | (rw [EV.out]; rfl), by rw [HGX.out]; exact B4⟩
  | true =>
    have HV : Hid (validR r l = (sameD r (nam r) && ixB r)) := by
      show _ = _
      rw [valid_doc r l (by omega), show askD r l = true by unfold askD; rw [hk]; exact hv, Bool.true_and]
    have HU : Hid (∀ wx : World, Below g w wx → (r.upds.n = (nam r).upds.n → ∃ l : List Upd, l.length = r.upds.n ∧ Upds wx r.upds.ad l ∧ Upds wx (nam r).upds.ad l)) := fun wx hb hn => ⟨[], by rw [hn]; unfold nam; rw [hk]; rfl, .inl rfl, .inl rfl⟩
    have EN : Hid (nam r = ⟨1, r.upd, nilS, 0, 0, 0, z32, z32, z32, 0⟩) := by show _ = _; unfold nam; rw [hk]; rfl
    have au := hide (show At w4 g 1 r.upd.v 36 from fun j hj => by rw [r4.cell (1 + j) (by omega)]; exact congrArg some (Rc.v_upd _ j hj))
    obtain ⟨w5, hW5⟩ : ∃ y, w4.setRow g3 (tabv (Rc.v ⟨1, r.upd, nilS, 0, 0, 0, z32, z32, z32, 0⟩) 138) = y := ⟨_, rfl⟩
    have Q4 := hide q4
    have B5 : Below g w w5 := by rw [← hW5]; exact below_setRow B4 (Nat.le_of_lt HS1.out) _
    have r5 : Has w5 g 38 r.v 138 := by rw [← hW5]; exact r4.row_other _ _ (Nat.ne_of_lt HS1.out)
    have q5 : Has w5 g3 38 (nam r).v 138 := by rw [← hW5, EN.out]; exact q4.row _ _ rfl
    clear hv q4 r4 B4
    go_upto_region 34 with (first | rw [hW5] | (go_big_may; first | refine wpW_load_at 36 _ rfl (g) (1) (by rfl) (by rfl) _ 36 _ (au.out) Tryz.underlying36 rfl infoU ?_ | refine wpList_store_part rfl 36 _ _ rfl rfl g3 1 (r.upd.v) 36 rfl rfl 38 _ 138 Q4.out (by omega) infoU (fun i _ => oneV _ i) ((⟨1, r.upd, nilS, 0, 0, 0, z32, z32, z32, 0⟩ : Rc)).v (fun i hi => splice_upd _ r.upd i hi) ?_) | fail)
    try rw [hW5]
    clear hW5 Q4 au
    have SD := hide (dsame_any r (nam r) hz w5 (HU.out w5 B5))
    have R1 := hide (r5)
    have R3 := hide (q5)
    go_wp2_with (first | refine wpW_load_at 38 _ rfl (g) (0) (by rfl) (by rfl) _ 138 _ (R1.out.at_ 0 (by omega) (fun i hi => by rw [Nat.zero_add])) Tryz.underlying38 rfl infoRc ?_ | refine wpW_load_at 38 _ rfl (g3) (0) (by rfl) (by rfl) _ 138 _ (R3.out.at_ 0 (by omega) (fun i hi => by rw [Nat.zero_add])) Tryz.underlying38 rfl infoRc ?_ | fail)
    refine SD.out.mono ?_
    rintro e wS ⟨rfl, hbS⟩
    have c38 : wS.cell? ⟨g, 38, none⟩ = some (.int .i64 r.idx) := (R1.out.below hbS R1.out.lt).cell 38 (by omega)
    have BS : Below g w wS := B5.trans (hbS.mono (Nat.le_of_lt R1.out.lt))
    clear SD R1 R3 hbS
    obtain ⟨SB, hSB⟩ : ∃ b, sameD r (nam r) = b := ⟨_, rfl⟩
    rw [hSB] at HV ⊢
    cases SB with
    | false =>
      go_wp2
      go_ret
      exact ⟨by rw [HV.out, Bool.false_and]; rfl, by rw [HGX.out]; exact BS⟩
    | true =>
      by_cases i0 : 0 ≤ r.idx
      · have d0 : decide (0 ≤ r.idx) = true := decide_eq_true i0
        have d0' : decide (r.idx ≥ 0) = true := decide_eq_true i0
        by_cases i1 : r.idx ≤ 281474976710655
        · have d1 : decide (r.idx ≤ 281474976710655) = true := decide_eq_true i1
          have EV : Hid (validR r l = true) := by show _ = _; rw [HV.out]; unfold ixB; rw [d0, d1]; rfl
          clear i0 i1
          go_wp2
          go_ret
          exact ⟨by first | (rw [EV.out]; done) | (rw [EV.out]; rfl), by rw [HGX.out]; exact BS⟩
        · have d1 : decide (r.idx ≤ 281474976710655) = false := decide_eq_false i1
          have EV : Hid (validR r l = false) := by show _ = _; rw [HV.out]; unfold ixB; rw [d0, d1]; rfl
          clear i0 i1
          go_wp2
          go_ret
          exact ⟨by first | (rw [EV.out]; done) | (rw [EV.out]; rfl), by rw [HGX.out]; exact BS⟩
      · have d0 : decide (0 ≤ r.idx) = false := decide_eq_false i0
        have d0' : decide (r.idx ≥ 0) = false := decide_eq_false i0
        have EV : Hid (validR r l = false) := by show _ = _; rw [HV.out]; unfold ixB; rw [d0]; rfl
        clear i0
        go_wp2
        go_ret
        exact ⟨by first | (rw [EV.out]; done) | (rw [EV.out]; rfl), by rw [HGX.out]; exact BS⟩
end Go.Proofs.YtlohfoggcdaeiaaGreat
/-
  The document's Valid of a record, kind 2 (printed by gen_r31.py).
-/
namespace Go.Proofs.YtlohfoggcdaeiaaGreat
open Go.RowKit S
set_option linter.unusedVariables false
set_option linter.unusedSimpArgs false
open Cu (nb be hl ofL CW Mw CR Mr RS takeS takeA hOf nil8 doneS)
set_option maxRecDepth 100000 in
set_option maxHeartbeats 40000000 in
theorem dvalid_2 (r : Rc) (l : List Upd) (hk : r.kind = 2) (hn0 : l.length = r.upds.n) (hz : r.upds.n ≤ 140737488351232) (w : World) (hS : Upds w r.upds.ad l) : Calls Tryz.prog 34 #[.agg (tabv r.v 138)] w fun e w' => e = .returned (.bool (validR r l)) ∧ Below w.heap.size w w' := by
  obtain ⟨w1, hW1⟩ : ∃ wX, w.alloc (.cells (tabv r.v 138) 38) = wX := ⟨_, rfl⟩
  have r1 : Has w1 w.heap.size 38 r.v 138 := by rw [← hW1]; exact Has.new w 38 r.v 138 _ rfl
  have b1 : Below w.heap.size w w1 := by rw [← hW1]; exact (Below.refl w.heap.size w).alloc (Nat.le_refl _) _
  obtain ⟨w2, w3, hW2, q2, hW3, q3, b3⟩ := newRc w1 ⟨2, Upd.zero, nilS, 0, 0, 0, z32, z32, z32, 0⟩
  have Q2 := hide q2
  have B3 : Below w.heap.size w w3 := b1.trans (b3.mono b1.size)
  have r3 := r1.below b3 r1.lt
  have c0 : w1.cell? ⟨w.heap.size, 0, none⟩ = some (.int .i64 2) := by rw [r1.cell 0 (by omega), ← hk]; rfl
  have cc0 : w3.cell? ⟨w.heap.size, 0, none⟩ = some (.int .i64 2) := by rw [r3.cell 0 (by omega), ← hk]; rfl
  go_enter Tryz.func34, Tryz.ntmps34
  go_upto_region 2 with (first | rw [hW1] | rw [hW3] | (go_big_may; first | refine wpW_build (by rfl) 38 #[(0, .tmp 6)] rfl [(0, .int .i64 2)] (by first | rfl | (simp [Act.eval, Act.put]; done)) _ (builtRK 2) ?_ | refine wpList_storeRc rfl _ _ rfl rfl (w1.heap.size) (⟨2, Upd.zero, nilS, 0, 0, 0, z32, z32, z32, 0⟩) rfl rfl _ Q2.out ?_) | fail)
  try rw [hW3]
  have HS1 : Hid (w.heap.size < w1.heap.size) := r1.lt
  generalize hgx : w.heap.size = g at r3 B3 cc0 HS1 ⊢
  generalize hg3 : w1.heap.size = g3 at q3 HS1 ⊢
  have HGX := hide hgx
  clear hW1 hW2 hW3 Q2 q2 b1 r1 c0 b3 hg3 hgx
  have c39 : w3.cell? ⟨g, 39, none⟩ = some (.int .i64 r.co) := r3.cell 39 (by omega)
  have c40 : w3.cell? ⟨g, 40, none⟩ = some (.int .i64 r.cp) := r3.cell 40 (by omega)
  by_cases h0 : r.co < 0
  · have EV : Hid (validR r l = false) := by
      show _ = _
      rw [valid_doc r l (by omega), show askD r l = false by unfold askD; rw [hk]; exact (by show (cntB r.co && cntB r.cp) = false; rw [Bool.eq_false_iff]; intro h; rw [Bool.and_eq_true, cntB_iff, cntB_iff] at h; omega), Bool.false_and]
    have d0 : decide (r.co < 0) = true := decide_eq_true h0
    clear h0
    go_wp2
    go_ret
    exact ⟨by first | (rw [EV.out]; done) | (rw [EV.out]; rfl), by rw [HGX.out]; exact B3⟩
  by_cases h1 : 2048 < r.co
  · have EV : Hid (validR r l = false) := by
      show _ = _
      rw [valid_doc r l (by omega), show askD r l = false by unfold askD; rw [hk]; exact (by show (cntB r.co && cntB r.cp) = false; rw [Bool.eq_false_iff]; intro h; rw [Bool.and_eq_true, cntB_iff, cntB_iff] at h; omega), Bool.false_and]
    have d0 : decide (r.co < 0) = false := decide_eq_false h0
    have d1 : decide (2048 < r.co) = true := decide_eq_true h1
    have d1x : decide (r.co > 2048) = true := decide_eq_true h1
    clear h0 h1
    go_wp2
    go_ret
    exact ⟨by first | (rw [EV.out]; done) | (rw [EV.out]; rfl), by rw [HGX.out]; exact B3⟩
  by_cases h2 : r.cp < 0
  · have EV : Hid (validR r l = false) := by
      show _ = _
      rw [valid_doc r l (by omega), show askD r l = false by unfold askD; rw [hk]; exact (by show (cntB r.co && cntB r.cp) = false; rw [Bool.eq_false_iff]; intro h; rw [Bool.and_eq_true, cntB_iff, cntB_iff] at h; omega), Bool.false_and]
    have d0 : decide (r.co < 0) = false := decide_eq_false h0
    have d1 : decide (2048 < r.co) = false := decide_eq_false h1
    have d1x : decide (r.co > 2048) = false := decide_eq_false h1
    have d2 : decide (r.cp < 0) = true := decide_eq_true h2
    clear h0 h1 h2
    go_wp2
    go_ret
    exact ⟨by first | (rw [EV.out]; done) | (rw [EV.out]; rfl), by rw [HGX.out]; exact B3⟩
  by_cases h3 : 2048 < r.cp
  · have EV : Hid (validR r l = false) := by
      show _ = _
      rw [valid_doc r l (by omega), show askD r l = false by unfold askD; rw [hk]; exact (by show (cntB r.co && cntB r.cp) = false; rw [Bool.eq_false_iff]; intro h; rw [Bool.and_eq_true, cntB_iff, cntB_iff] at h; omega), Bool.false_and]
    have d0 : decide (r.co < 0) = false := decide_eq_false h0
    have d1 : decide (2048 < r.co) = false := decide_eq_false h1
    have d1x : decide (r.co > 2048) = false := decide_eq_false h1
    have d2 : decide (r.cp < 0) = false := decide_eq_false h2
    have d3 : decide (2048 < r.cp) = true := decide_eq_true h3
    have d3x : decide (r.cp > 2048) = true := decide_eq_true h3
    clear h0 h1 h2 h3
    go_wp2
    go_ret
    exact ⟨by first | (rw [EV.out]; done) | (rw [EV.out]; rfl), by rw [HGX.out]; exact B3⟩
  have HV : Hid (validR r l = (sameD r (nam r) && ixB r)) := by
    show _ = _
    rw [valid_doc r l (by omega), show askD r l = true by unfold askD; rw [hk]; exact (by show (cntB r.co && cntB r.cp) = true; rw [Bool.and_eq_true, cntB_iff, cntB_iff]; omega), Bool.true_and]
  have HU : Hid (∀ wx : World, Below g w wx → (r.upds.n = (nam r).upds.n → ∃ l : List Upd, l.length = r.upds.n ∧ Upds wx r.upds.ad l ∧ Upds wx (nam r).upds.ad l)) := fun wx hb hn => ⟨[], by rw [hn]; unfold nam; rw [hk]; rfl, .inl rfl, .inl rfl⟩
  have EN : Hid (nam r = ⟨2, Upd.zero, nilS, r.idx, r.co, r.cp, z32, z32, z32, 0⟩) := by show _ = _; unfold nam; rw [hk]; rfl
  have d0 : decide (r.co < 0) = false := decide_eq_false h0
  have d1 : decide (2048 < r.co) = false := decide_eq_false h1
  have d1x : decide (r.co > 2048) = false := decide_eq_false h1
  have d2 : decide (r.cp < 0) = false := decide_eq_false h2
  have d3 : decide (2048 < r.cp) = false := decide_eq_false h3
  have d3x : decide (r.cp > 2048) = false := decide_eq_false h3
  clear h0 h1 h2 h3
  go_upto_region 11 with fail
  clear c39 c40 d0 d1 d2 d3 d1x d3x
  have ci1 : w3.cell? ⟨g, 38, none⟩ = some (.int .i64 r.idx) := r3.cell 38 (by omega)
  have cj1 : w3.cell? ⟨g3, 38, none⟩ = some (.int .i64 0) := q3.cell 38 (by omega)
  have cf1 := q3.frozen 38
  obtain ⟨u1, hU1⟩ : ∃ y, w3.setCell ⟨g3, 38, none⟩ (.int .i64 r.idx) = y := ⟨_, rfl⟩
  have ru1 : Has u1 g 38 r.v 138 := by rw [← hU1]; exact r3.other _ _ (by show g ≠ g3; exact Nat.ne_of_lt HS1.out)
  have qu1 : Has u1 g3 38 (Rc.v ⟨2, Upd.zero, nilS, r.idx, 0, 0, z32, z32, z32, 0⟩) 138 := by rw [← hU1]; exact q3.rIdx r.idx
  have Bu1 : Below g w u1 := by rw [← hU1]; exact B3.setCell (Nat.le_of_lt HS1.out) _
  go_upto_region 12 with (first | rw [hU1] | fail)
  try rw [hU1]
  clear ci1 cj1 cf1 hU1
  have ac := hide (show At u1 g 39 (ctv r.co r.cp) 2 from fun j hj => by rw [ru1.cell (39 + j) (by omega)]; match j, hj with | 0, _ => rfl | 1, _ => rfl)
  obtain ⟨u2, hU2⟩ : ∃ y, u1.setRow g3 (tabv (Rc.v ⟨2, Upd.zero, nilS, r.idx, r.co, r.cp, z32, z32, z32, 0⟩) 138) = y := ⟨_, rfl⟩
  have Qh := hide qu1
  have ru2 : Has u2 g 38 r.v 138 := by rw [← hU2]; exact ru1.row_other _ _ (Nat.ne_of_lt HS1.out)
  have q9 : Has u2 g3 38 (nam r).v 138 := by rw [← hU2, EN.out]; exact qu1.row _ _ rfl
  have Bu2 : Below g w u2 := by rw [← hU2]; exact below_setRow Bu1 (Nat.le_of_lt HS1.out) _
  go_upto_region 34 with (first | rw [hU2] | (go_big_may; first | refine wpW_load_at 23 _ rfl (g) (39) (by rfl) (by rfl) _ 2 _ (ac.out) Tryz.underlying23 rfl infoC ?_ | refine wpList_store_part rfl 23 _ _ rfl rfl g3 39 (ctv r.co r.cp) 2 rfl rfl 38 _ 138 Qh.out (by omega) infoC (fun i _ => oneC2 _ _ i) ((⟨2, Upd.zero, nilS, r.idx, r.co, r.cp, z32, z32, z32, 0⟩ : Rc)).v (fun i hi => splice_cts _ r.co r.cp i hi) ?_) | fail)
  try rw [hU2]
  clear ac hU2 Qh qu1 ru1 Bu1 r3 q3 B3 cc0
  have SD := hide (dsame_any r (nam r) hz u2 (HU.out u2 Bu2))
  have R1 := hide (ru2)
  have R3 := hide (q9)
  go_wp2_with (first | refine wpW_load_at 38 _ rfl (g) (0) (by rfl) (by rfl) _ 138 _ (R1.out.at_ 0 (by omega) (fun i hi => by rw [Nat.zero_add])) Tryz.underlying38 rfl infoRc ?_ | refine wpW_load_at 38 _ rfl (g3) (0) (by rfl) (by rfl) _ 138 _ (R3.out.at_ 0 (by omega) (fun i hi => by rw [Nat.zero_add])) Tryz.underlying38 rfl infoRc ?_ | fail)
  refine SD.out.mono ?_
  rintro e wS ⟨rfl, hbS⟩
  have c38 : wS.cell? ⟨g, 38, none⟩ = some (.int .i64 r.idx) := (R1.out.below hbS R1.out.lt).cell 38 (by omega)
  have BS : Below g w wS := Bu2.trans (hbS.mono (Nat.le_of_lt R1.out.lt))
  clear SD R1 R3 hbS
  obtain ⟨SB, hSB⟩ : ∃ b, sameD r (nam r) = b := ⟨_, rfl⟩
  rw [hSB] at HV ⊢
  cases SB with
  | false =>
    go_wp2
    go_ret
    exact ⟨by rw [HV.out, Bool.false_and]; rfl, by rw [HGX.out]; exact BS⟩
  | true =>
    by_cases i0 : 0 ≤ r.idx
    · have d0 : decide (0 ≤ r.idx) = true := decide_eq_true i0
      have d0' : decide (r.idx ≥ 0) = true := decide_eq_true i0
      by_cases i1 : r.idx ≤ 281474976710655
      · have d1 : decide (r.idx ≤ 281474976710655) = true := decide_eq_true i1
        have EV : Hid (validR r l = true) := by show _ = _; rw [HV.out]; unfold ixB; rw [d0, d1]; rfl
        clear i0 i1
        go_wp2
        go_ret
        exact ⟨by first | (rw [EV.out]; done) | (rw [EV.out]; rfl), by rw [HGX.out]; exact BS⟩
      · have d1 : decide (r.idx ≤ 281474976710655) = false := decide_eq_false i1
        have EV : Hid (validR r l = false) := by show _ = _; rw [HV.out]; unfold ixB; rw [d0, d1]; rfl
        clear i0 i1
        go_wp2
        go_ret
        exact ⟨by first | (rw [EV.out]; done) | (rw [EV.out]; rfl), by rw [HGX.out]; exact BS⟩
    · have d0 : decide (0 ≤ r.idx) = false := decide_eq_false i0
      have d0' : decide (r.idx ≥ 0) = false := decide_eq_false i0
      have EV : Hid (validR r l = false) := by show _ = _; rw [HV.out]; unfold ixB; rw [d0]; rfl
      clear i0
      go_wp2
      go_ret
      exact ⟨by first | (rw [EV.out]; done) | (rw [EV.out]; rfl), by rw [HGX.out]; exact BS⟩
end Go.Proofs.YtlohfoggcdaeiaaGreat
