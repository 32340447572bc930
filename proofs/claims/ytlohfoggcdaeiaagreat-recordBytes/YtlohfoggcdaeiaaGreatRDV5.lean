import Derived.Test.YtlohfoggcdaeiaaGreatRDV2
import Derived.Deep.DeepCutAuto
import Derived.Deep.Cut
/-
  The document's Valid of a record, kind 3 (printed by gen_r31.py).
-/
namespace Go.Proofs.YtlohfoggcdaeiaaGreat
open Go.RowKit S
set_option linter.unusedVariables false
set_option linter.unusedSimpArgs false
open Cu (nb be hl ofL CW Mw CR Mr RS takeS takeA hOf nil8 doneS)
set_option maxRecDepth 100000 in
set_option maxHeartbeats 40000000 in
theorem dvalid_3 (r : Rc) (l : List Upd) (hk : r.kind = 3) (hn0 : l.length = r.upds.n) (hz : r.upds.n ≤ 140737488351232) (w : World) (hS : Upds w r.upds.ad l) : Calls Tryz.prog 34 #[.agg (tabv r.v 138)] w fun e w' => e = .returned (.bool (validR r l)) ∧ Below w.heap.size w w' := by
  obtain ⟨w1, hW1⟩ : ∃ wX, w.alloc (.cells (tabv r.v 138) 38) = wX := ⟨_, rfl⟩
  have r1 : Has w1 w.heap.size 38 r.v 138 := by rw [← hW1]; exact Has.new w 38 r.v 138 _ rfl
  have b1 : Below w.heap.size w w1 := by rw [← hW1]; exact (Below.refl w.heap.size w).alloc (Nat.le_refl _) _
  obtain ⟨w2, w3, hW2, q2, hW3, q3, b3⟩ := newRc w1 ⟨3, Upd.zero, nilS, 0, 0, 0, z32, z32, z32, 0⟩
  have Q2 := hide q2
  have B3 : Below w.heap.size w w3 := b1.trans (b3.mono b1.size)
  have r3 := r1.below b3 r1.lt
  have c0 : w1.cell? ⟨w.heap.size, 0, none⟩ = some (.int .i64 3) := by rw [r1.cell 0 (by omega), ← hk]; rfl
  have cc0 : w3.cell? ⟨w.heap.size, 0, none⟩ = some (.int .i64 3) := by rw [r3.cell 0 (by omega), ← hk]; rfl
  go_enter Tryz.func34, Tryz.ntmps34
  go_upto_region 2 with (first | rw [hW1] | rw [hW3] | (go_big_may; first | refine wpW_build (by rfl) 38 #[(0, .tmp 6)] rfl [(0, .int .i64 3)] (by first | rfl | (simp [Act.eval, Act.put]; done)) _ (builtRK 3) ?_ | refine wpList_storeRc rfl _ _ rfl rfl (w1.heap.size) (⟨3, Upd.zero, nilS, 0, 0, 0, z32, z32, z32, 0⟩) rfl rfl _ Q2.out ?_) | fail)
  try rw [hW3]
  have HS1 : Hid (w.heap.size < w1.heap.size) := r1.lt
  generalize hgx : w.heap.size = g at r3 B3 cc0 HS1 ⊢
  generalize hg3 : w1.heap.size = g3 at q3 HS1 ⊢
  have HGX := hide hgx
  clear hW1 hW2 hW3 Q2 q2 b1 r1 c0 b3 hg3 hgx
  have cu : w3.cell? ⟨g, 37, none⟩ = some (.slice r.upds.ad r.upds.n r.upds.c) := r3.cell 37 (by omega)
  have hzi : (r.upds.n : Int) ≤ 140737488351232 := by omega
  by_cases h5 : 512 < r.upds.n
  · have EV : Hid (validR r l = false) := by
      show _ = _
      rw [valid_doc r l (by omega), show askD r l = false by unfold askD; rw [hk]; exact (by show (decide (r.upds.n ≤ 512) && l.all validB) = false; rw [decide_eq_false (by omega), Bool.false_and]), Bool.false_and]
    have d5 : decide ((512 : Int) < (r.upds.n : Int)) = true := decide_eq_true (by omega)
    have d5' : decide (512 < r.upds.n) = true := decide_eq_true h5
    have d5x : decide ((r.upds.n : Int) > 512) = true := decide_eq_true (by omega)
    clear h5
    go_wp2
    go_ret
    exact ⟨by first | (rw [EV.out]; done) | (rw [EV.out]; rfl), by rw [HGX.out]; exact B3⟩
  have d5 : decide ((512 : Int) < (r.upds.n : Int)) = false := decide_eq_false (by omega)
  have d5' : decide (512 < r.upds.n) = false := decide_eq_false h5
  have d5x : decide ((r.upds.n : Int) > 512) = false := decide_eq_false (by omega)
  have h512 : r.upds.n ≤ 512 := by omega
  go_upto_region 16 with fail
  clear d5 d5' d5x h5
  go_wp2
  go_loopw [4] (fun i wr => ∃ j : Nat, j ≤ r.upds.n ∧ i = .int .i64 (j : Int) ∧ (∀ u ∈ l.take j, validB u = true) ∧ Below w3.heap.size w3 wr) (fun i _ => r.upds.n - (intOf i).toNat)
  case atStart => exact ⟨0, Nat.zero_le _, rfl, by simp, Below.refl _ _⟩
  case round =>
    obtain ⟨j, hj, rfl, hall, hbr⟩ := hrel
    clear cu cc0
    have Br : Below g w wr := B3.trans (hbr.mono (Nat.le_of_lt r3.lt))
    have rr := r3.below hbr r3.lt
    have qr := q3.below hbr q3.lt
    have cu : wr.cell? ⟨g, 37, none⟩ = some (.slice r.upds.ad r.upds.n r.upds.c) := rr.cell 37 (by omega)
    by_cases hjn : j < r.upds.n
    · have hd : decide ((j : Int) < (r.upds.n : Int)) = true := decide_eq_true (by omega)
      have hd' : decide (j < r.upds.n) = true := decide_eq_true hjn
      obtain ⟨u, hu⟩ : ∃ u, l[j]? = some u := ⟨_, List.getElem?_eq_getElem (by omega)⟩
      obtain ⟨bb, oo, ha, hbb, hA⟩ := (hS.below (by rw [HGX.out]; exact Br)).get j u hu
      have jlt : (j : Int) < (r.upds.n : Int) := by omega
      rw [ha] at cu
      have HA := hide hA
      have RV := hide (rvalid_any u wr)
      have HL := hide hall
      have HUJ := hide hu
      clear hA hall hu ha
      go_wp2_with (first | refine wpW_load_at 36 _ rfl (bb) (oo + j * 36) (by rfl) (by rfl) _ 36 _ (HA.out) Tryz.underlying36 rfl infoU ?_ | fail)
      refine RV.out.mono ?_
      rintro e w4 ⟨rfl, hb4⟩
      have Bw : Below w3.heap.size w3 w4 := hbr.trans (hb4.mono hbr.size)
      have B4 : Below g w w4 := B3.trans (Bw.mono (Nat.le_of_lt r3.lt))
      clear RV HA cu
      cases hv : validB u with
      | false =>
        have EV : Hid (validR r l = false) := by
          show _ = _
          rw [valid_doc r l (by omega), show askD r l = false by unfold askD; rw [hk]; exact (by show (decide (r.upds.n ≤ 512) && l.all validB) = false; rw [show l.all validB = false from (by rw [Bool.eq_false_iff]; intro h; have := List.all_eq_true.1 h u (List.mem_of_getElem? HUJ.out); rw [hv] at this; cases this), Bool.and_false]), Bool.false_and]
        clear hv HL HUJ
        go_wp2
        go_ret
        exact ⟨by first | (rw [EV.out]; done) | (rw [EV.out]; rfl), by rw [HGX.out]; exact B4⟩
      | true =>
        have HN : Hid (∀ x ∈ l.take (j + 1), validB x = true) := fun x hx => by
          rw [List.take_add_one, HUJ.out] at hx
          rcases List.mem_append.1 hx with h | h
          · exact HL.out x h
          · have : x = u := by simpa using h
            rw [this]; exact hv
        clear hv HL HUJ
        go_wp2
        go_roundw
        case rel => exact ⟨j + 1, by omega, by go_num, HN.out, Bw⟩
        case measure => simp [intOf]; omega
    · obtain rfl : r.upds.n = j := by omega
      have hd : decide ((r.upds.n : Int) < (r.upds.n : Int)) = false := decide_eq_false (by omega)
      have hd' : decide (r.upds.n < r.upds.n) = false := decide_eq_false (by omega)
      have hal : l.all validB = true := List.all_eq_true.2 (fun x hx => hall x (by rw [List.take_of_length_le (by omega)]; exact hx))
      have HV : Hid (validR r l = (sameD r (nam r) && ixB r)) := by
        show _ = _
        rw [valid_doc r l (by omega), show askD r l = true by unfold askD; rw [hk]; exact (by show (decide (r.upds.n ≤ 512) && l.all validB) = true; rw [hal, decide_eq_true h512]; rfl), Bool.true_and]
      have HU : Hid (∀ wx : World, Below g w wx → (r.upds.n = (nam r).upds.n → ∃ l : List Upd, l.length = r.upds.n ∧ Upds wx r.upds.ad l ∧ Upds wx (nam r).upds.ad l)) := fun wx hb hn => ⟨l, hn0, hS.below (by rw [HGX.out]; exact hb), by unfold nam; rw [hk]; exact hS.below (by rw [HGX.out]; exact hb)⟩
      have EN : Hid (nam r = ⟨3, Upd.zero, r.upds, r.idx, 0, 0, r.sig, z32, z32, 0⟩) := by show _ = _; unfold nam; rw [hk]; rfl
      clear hal hall hjn hj
      go_upto_region 21 with fail
      clear hd hd' cu
      have ci1 : wr.cell? ⟨g, 38, none⟩ = some (.int .i64 r.idx) := rr.cell 38 (by omega)
      have cj1 : wr.cell? ⟨g3, 38, none⟩ = some (.int .i64 0) := qr.cell 38 (by omega)
      have cf1 := qr.frozen 38
      obtain ⟨u1, hU1⟩ : ∃ y, wr.setCell ⟨g3, 38, none⟩ (.int .i64 r.idx) = y := ⟨_, rfl⟩
      have ru1 : Has u1 g 38 r.v 138 := by rw [← hU1]; exact rr.other _ _ (by show g ≠ g3; exact Nat.ne_of_lt HS1.out)
      have qu1 : Has u1 g3 38 (Rc.v ⟨3, Upd.zero, nilS, r.idx, 0, 0, z32, z32, z32, 0⟩) 138 := by rw [← hU1]; exact qr.rIdx r.idx
      have Bu1 : Below g w u1 := by rw [← hU1]; exact Br.setCell (Nat.le_of_lt HS1.out) _
      go_upto_region 22 with (first | rw [hU1] | fail)
      try rw [hU1]
      clear ci1 cj1 cf1 hU1
      have ci : u1.cell? ⟨g, 37, none⟩ = some (.slice r.upds.ad r.upds.n r.upds.c) := ru1.cell 37 (by omega)
      have cj : u1.cell? ⟨g3, 37, none⟩ = some (.slice none 0 0) := qu1.cell 37 (by omega)
      have cf := qu1.frozen 37
      obtain ⟨u2, hU2⟩ : ∃ y, u1.setCell ⟨g3, 37, none⟩ (.slice r.upds.ad r.upds.n r.upds.c) = y := ⟨_, rfl⟩
      have ru2 : Has u2 g 38 r.v 138 := by rw [← hU2]; exact ru1.other _ _ (by show g ≠ g3; exact Nat.ne_of_lt HS1.out)
      have qu2 : Has u2 g3 38 (Rc.v ⟨3, Upd.zero, r.upds, r.idx, 0, 0, z32, z32, z32, 0⟩) 138 := by rw [← hU2]; exact qu1.rUpds r.upds
      have Bu2 : Below g w u2 := by rw [← hU2]; exact Bu1.setCell (Nat.le_of_lt HS1.out) _
      go_upto_region 23 with (first | rw [hU2] | fail)
      try rw [hU2]
      clear ci cj cf hU2
      have ah3 := hide (show At u2 g 41 (bv r.sig) 32 from fun j hj => by rw [ru2.cell (41 + j) (by omega)]; exact congrArg some (Rc.v_sig _ j hj))
      obtain ⟨u3, hU3⟩ : ∃ y, u2.setRow g3 (tabv (Rc.v ⟨3, Upd.zero, r.upds, r.idx, 0, 0, r.sig, z32, z32, 0⟩) 138) = y := ⟨_, rfl⟩
      have Qh3 := hide (qu2)
      have ru3 : Has u3 g 38 r.v 138 := by rw [← hU3]; exact ru2.row_other _ _ (Nat.ne_of_lt HS1.out)
      have qu3 : Has u3 g3 38 (Rc.v ⟨3, Upd.zero, r.upds, r.idx, 0, 0, r.sig, z32, z32, 0⟩) 138 := by rw [← hU3]; exact (qu2).row _ _ rfl
      have Bu3 : Below g w u3 := by rw [← hU3]; exact below_setRow Bu2 (Nat.le_of_lt HS1.out) _
      go_upto_region 34 with (first | rw [hU3] | (go_big_may; first | refine wpW_load_at 25 _ rfl (g) (41) (by rfl) (by rfl) _ 32 _ (ah3.out) Tryz.underlying25 rfl info26 ?_ | refine wpList_store_part rfl 25 _ _ rfl rfl g3 41 (bv r.sig) 32 rfl rfl 38 _ 138 Qh3.out (by omega) info26 (fun _ _ => rfl) ((⟨3, Upd.zero, r.upds, r.idx, 0, 0, r.sig, z32, z32, 0⟩ : Rc)).v (fun i hi => splice_sig _ r.sig i hi) ?_) | fail)
      try rw [hU3]
      clear ah3 hU3 Qh3
      have q9 : Has u3 g3 38 (nam r).v 138 := by rw [EN.out]; exact qu3
      clear rr qr Br qu1 qu2 qu3 ru1 ru2 Bu1 Bu2 r3 q3 B3 hbr
      have SD := hide (dsame_any r (nam r) hz u3 (HU.out u3 Bu3))
      have R1 := hide (ru3)
      have R3 := hide (q9)
      go_wp2_with (first | refine wpW_load_at 38 _ rfl (g) (0) (by rfl) (by rfl) _ 138 _ (R1.out.at_ 0 (by omega) (fun i hi => by rw [Nat.zero_add])) Tryz.underlying38 rfl infoRc ?_ | refine wpW_load_at 38 _ rfl (g3) (0) (by rfl) (by rfl) _ 138 _ (R3.out.at_ 0 (by omega) (fun i hi => by rw [Nat.zero_add])) Tryz.underlying38 rfl infoRc ?_ | fail)
      refine SD.out.mono ?_
      rintro e wS ⟨rfl, hbS⟩
      have c38 : wS.cell? ⟨g, 38, none⟩ = some (.int .i64 r.idx) := (R1.out.below hbS R1.out.lt).cell 38 (by omega)
      have BS : Below g w wS := Bu3.trans (hbS.mono (Nat.le_of_lt R1.out.lt))
      clear SD R1 R3 hbS
      obtain ⟨SB, hSB⟩ : ∃ b, sameD r (nam r) = b := ⟨_, rfl⟩
      rw [hSB] at HV ⊢
      cases SB with
      | false =>
        go_wp2
        go_ret
        exact ⟨by rw [HV.out, Bool.false_and]; rfl, by rw [HGX.out]; exact BS⟩
      | true =>
        by_cases i0 : 0 ≤ r.idx
        · have d0 : decide (0 ≤ r.idx) = true := decide_eq_true i0
          have d0' : decide (r.idx ≥ 0) = true := decide_eq_true i0
          by_cases i1 : r.idx ≤ 281474976710655
          · have d1 : decide (r.idx ≤ 281474976710655) = true := decide_eq_true i1
            have EV : Hid (validR r l = true) := by show _ = _; rw [HV.out]; unfold ixB; rw [d0, d1]; rfl
            clear i0 i1
            go_wp2
            go_ret
            exact ⟨by first | (rw [EV.out]; done) | (rw [EV.out]; rfl), by rw [HGX.out]; exact BS⟩
          · have d1 : decide (r.idx ≤ 281474976710655) = false := decide_eq_false i1
            have EV : Hid (validR r l = false) := by show _ = _; rw [HV.out]; unfold ixB; rw [d0, d1]; rfl
            clear i0 i1
            go_wp2
            go_ret
            exact ⟨by first | (rw [EV.out]; done) | (rw [EV.out]; rfl), by rw [HGX.out]; exact BS⟩
        · have d0 : decide (0 ≤ r.idx) = false := decide_eq_false i0
          have d0' : decide (r.idx ≥ 0) = false := decide_eq_false i0
          have EV : Hid (validR r l = false) := by show _ = _; rw [HV.out]; unfold ixB; rw [d0]; rfl
          clear i0
          go_wp2
          go_ret
          exact ⟨by first | (rw [EV.out]; done) | (rw [EV.out]; rfl), by rw [HGX.out]; exact BS⟩
end Go.Proofs.YtlohfoggcdaeiaaGreat
/-
  The document's Valid of a record, kind 4 (printed by gen_r31.py).
-/
namespace Go.Proofs.YtlohfoggcdaeiaaGreat
open Go.RowKit S
set_option linter.unusedVariables false
set_option linter.unusedSimpArgs false
open Cu (nb be hl ofL CW Mw CR Mr RS takeS takeA hOf nil8 doneS)
set_option maxRecDepth 100000 in
set_option maxHeartbeats 40000000 in
theorem dvalid_4 (r : Rc) (l : List Upd) (hk : r.kind = 4) (hn0 : l.length = r.upds.n) (hz : r.upds.n ≤ 140737488351232) (w : World) (hS : Upds w r.upds.ad l) : Calls Tryz.prog 34 #[.agg (tabv r.v 138)] w fun e w' => e = .returned (.bool (validR r l)) ∧ Below w.heap.size w w' := by
  obtain ⟨w1, hW1⟩ : ∃ wX, w.alloc (.cells (tabv r.v 138) 38) = wX := ⟨_, rfl⟩
  have r1 : Has w1 w.heap.size 38 r.v 138 := by rw [← hW1]; exact Has.new w 38 r.v 138 _ rfl
  have b1 : Below w.heap.size w w1 := by rw [← hW1]; exact (Below.refl w.heap.size w).alloc (Nat.le_refl _) _
  obtain ⟨w2, w3, hW2, q2, hW3, q3, b3⟩ := newRc w1 ⟨4, Upd.zero, nilS, 0, 0, 0, z32, z32, z32, 0⟩
  have Q2 := hide q2
  have B3 : Below w.heap.size w w3 := b1.trans (b3.mono b1.size)
  have r3 := r1.below b3 r1.lt
  have c0 : w1.cell? ⟨w.heap.size, 0, none⟩ = some (.int .i64 4) := by rw [r1.cell 0 (by omega), ← hk]; rfl
  have cc0 : w3.cell? ⟨w.heap.size, 0, none⟩ = some (.int .i64 4) := by rw [r3.cell 0 (by omega), ← hk]; rfl
  go_enter Tryz.func34, Tryz.ntmps34
  go_upto_region 2 with (first | rw [hW1] | rw [hW3] | (go_big_may; first | refine wpW_build (by rfl) 38 #[(0, .tmp 6)] rfl [(0, .int .i64 4)] (by first | rfl | (simp [Act.eval, Act.put]; done)) _ (builtRK 4) ?_ | refine wpList_storeRc rfl _ _ rfl rfl (w1.heap.size) (⟨4, Upd.zero, nilS, 0, 0, 0, z32, z32, z32, 0⟩) rfl rfl _ Q2.out ?_) | fail)
  try rw [hW3]
  have HS1 : Hid (w.heap.size < w1.heap.size) := r1.lt
  generalize hgx : w.heap.size = g at r3 B3 cc0 HS1 ⊢
  generalize hg3 : w1.heap.size = g3 at q3 HS1 ⊢
  have HGX := hide hgx
  clear hW1 hW2 hW3 Q2 q2 b1 r1 c0 b3 hg3 hgx
  have HV : Hid (validR r l = (sameD r (nam r) && ixB r)) := by
    show _ = _
    rw [valid_doc r l (by omega), show askD r l = true by unfold askD; rw [hk]; exact rfl, Bool.true_and]
  have HU : Hid (∀ wx : World, Below g w wx → (r.upds.n = (nam r).upds.n → ∃ l : List Upd, l.length = r.upds.n ∧ Upds wx r.upds.ad l ∧ Upds wx (nam r).upds.ad l)) := fun wx hb hn => ⟨[], by rw [hn]; unfold nam; rw [hk]; rfl, .inl rfl, .inl rfl⟩
  have EN : Hid (nam r = ⟨4, Upd.zero, nilS, r.idx, 0, 0, z32, r.sec, r.pt, 0⟩) := by show _ = _; unfold nam; rw [hk]; rfl
  have ci1 : w3.cell? ⟨g, 38, none⟩ = some (.int .i64 r.idx) := r3.cell 38 (by omega)
  have cj1 : w3.cell? ⟨g3, 38, none⟩ = some (.int .i64 0) := q3.cell 38 (by omega)
  have cf1 := q3.frozen 38
  obtain ⟨u1, hU1⟩ : ∃ y, w3.setCell ⟨g3, 38, none⟩ (.int .i64 r.idx) = y := ⟨_, rfl⟩
  have ru1 : Has u1 g 38 r.v 138 := by rw [← hU1]; exact r3.other _ _ (by show g ≠ g3; exact Nat.ne_of_lt HS1.out)
  have qu1 : Has u1 g3 38 (Rc.v ⟨4, Upd.zero, nilS, r.idx, 0, 0, z32, z32, z32, 0⟩) 138 := by rw [← hU1]; exact q3.rIdx r.idx
  have Bu1 : Below g w u1 := by rw [← hU1]; exact B3.setCell (Nat.le_of_lt HS1.out) _
  go_upto_region 26 with (first | rw [hU1] | fail)
  try rw [hU1]
  clear ci1 cj1 cf1 hU1
  have ah2 := hide (show At u1 g 73 (bv r.sec) 32 from fun j hj => by rw [ru1.cell (73 + j) (by omega)]; exact congrArg some (Rc.v_sec _ j hj))
  obtain ⟨u2, hU2⟩ : ∃ y, u1.setRow g3 (tabv (Rc.v ⟨4, Upd.zero, nilS, r.idx, 0, 0, z32, r.sec, z32, 0⟩) 138) = y := ⟨_, rfl⟩
  have Qh2 := hide (qu1)
  have ru2 : Has u2 g 38 r.v 138 := by rw [← hU2]; exact ru1.row_other _ _ (Nat.ne_of_lt HS1.out)
  have qu2 : Has u2 g3 38 (Rc.v ⟨4, Upd.zero, nilS, r.idx, 0, 0, z32, r.sec, z32, 0⟩) 138 := by rw [← hU2]; exact (qu1).row _ _ rfl
  have Bu2 : Below g w u2 := by rw [← hU2]; exact below_setRow Bu1 (Nat.le_of_lt HS1.out) _
  go_upto_region 27 with (first | rw [hU2] | (go_big_may; first | refine wpW_load_at 25 _ rfl (g) (73) (by rfl) (by rfl) _ 32 _ (ah2.out) Tryz.underlying25 rfl info26 ?_ | refine wpList_store_part rfl 25 _ _ rfl rfl g3 73 (bv r.sec) 32 rfl rfl 38 _ 138 Qh2.out (by omega) info26 (fun _ _ => rfl) ((⟨4, Upd.zero, nilS, r.idx, 0, 0, z32, r.sec, z32, 0⟩ : Rc)).v (fun i hi => splice_sec _ r.sec i hi) ?_) | fail)
  try rw [hU2]
  clear ah2 hU2 Qh2
  have ah3 := hide (show At u2 g 105 (bv r.pt) 32 from fun j hj => by rw [ru2.cell (105 + j) (by omega)]; exact congrArg some (Rc.v_pt _ j hj))
  obtain ⟨u3, hU3⟩ : ∃ y, u2.setRow g3 (tabv (Rc.v ⟨4, Upd.zero, nilS, r.idx, 0, 0, z32, r.sec, r.pt, 0⟩) 138) = y := ⟨_, rfl⟩
  have Qh3 := hide (qu2)
  have ru3 : Has u3 g 38 r.v 138 := by rw [← hU3]; exact ru2.row_other _ _ (Nat.ne_of_lt HS1.out)
  have qu3 : Has u3 g3 38 (Rc.v ⟨4, Upd.zero, nilS, r.idx, 0, 0, z32, r.sec, r.pt, 0⟩) 138 := by rw [← hU3]; exact (qu2).row _ _ rfl
  have Bu3 : Below g w u3 := by rw [← hU3]; exact below_setRow Bu2 (Nat.le_of_lt HS1.out) _
  go_upto_region 34 with (first | rw [hU3] | (go_big_may; first | refine wpW_load_at 25 _ rfl (g) (105) (by rfl) (by rfl) _ 32 _ (ah3.out) Tryz.underlying25 rfl info26 ?_ | refine wpList_store_part rfl 25 _ _ rfl rfl g3 105 (bv r.pt) 32 rfl rfl 38 _ 138 Qh3.out (by omega) info26 (fun _ _ => rfl) ((⟨4, Upd.zero, nilS, r.idx, 0, 0, z32, r.sec, r.pt, 0⟩ : Rc)).v (fun i hi => splice_pt _ r.pt i hi) ?_) | fail)
  try rw [hU3]
  clear ah3 hU3 Qh3
  have q9 : Has u3 g3 38 (nam r).v 138 := by rw [EN.out]; exact qu3
  clear r3 q3 B3 cc0 qu1 qu2 qu3 ru1 ru2 Bu1 Bu2
  have SD := hide (dsame_any r (nam r) hz u3 (HU.out u3 Bu3))
  have R1 := hide (ru3)
  have R3 := hide (q9)
  go_wp2_with (first | refine wpW_load_at 38 _ rfl (g) (0) (by rfl) (by rfl) _ 138 _ (R1.out.at_ 0 (by omega) (fun i hi => by rw [Nat.zero_add])) Tryz.underlying38 rfl infoRc ?_ | refine wpW_load_at 38 _ rfl (g3) (0) (by rfl) (by rfl) _ 138 _ (R3.out.at_ 0 (by omega) (fun i hi => by rw [Nat.zero_add])) Tryz.underlying38 rfl infoRc ?_ | fail)
  refine SD.out.mono ?_
  rintro e wS ⟨rfl, hbS⟩
  have c38 : wS.cell? ⟨g, 38, none⟩ = some (.int .i64 r.idx) := (R1.out.below hbS R1.out.lt).cell 38 (by omega)
  have BS : Below g w wS := Bu3.trans (hbS.mono (Nat.le_of_lt R1.out.lt))
  clear SD R1 R3 hbS
  obtain ⟨SB, hSB⟩ : ∃ b, sameD r (nam r) = b := ⟨_, rfl⟩
  rw [hSB] at HV ⊢
  cases SB with
  | false =>
    go_wp2
    go_ret
    exact ⟨by rw [HV.out, Bool.false_and]; rfl, by rw [HGX.out]; exact BS⟩
  | true =>
    by_cases i0 : 0 ≤ r.idx
    · have d0 : decide (0 ≤ r.idx) = true := decide_eq_true i0
      have d0' : decide (r.idx ≥ 0) = true := decide_eq_true i0
      by_cases i1 : r.idx ≤ 281474976710655
      · have d1 : decide (r.idx ≤ 281474976710655) = true := decide_eq_true i1
        have EV : Hid (validR r l = true) := by show _ = _; rw [HV.out]; unfold ixB; rw [d0, d1]; rfl
        clear i0 i1
        go_wp2
        go_ret
        exact ⟨by first | (rw [EV.out]; done) | (rw [EV.out]; rfl), by rw [HGX.out]; exact BS⟩
      · have d1 : decide (r.idx ≤ 281474976710655) = false := decide_eq_false i1
        have EV : Hid (validR r l = false) := by show _ = _; rw [HV.out]; unfold ixB; rw [d0, d1]; rfl
        clear i0 i1
        go_wp2
        go_ret
        exact ⟨by first | (rw [EV.out]; done) | (rw [EV.out]; rfl), by rw [HGX.out]; exact BS⟩
    · have d0 : decide (0 ≤ r.idx) = false := decide_eq_false i0
      have d0' : decide (r.idx ≥ 0) = false := decide_eq_false i0
      have EV : Hid (validR r l = false) := by show _ = _; rw [HV.out]; unfold ixB; rw [d0]; rfl
      clear i0
      go_wp2
      go_ret
      exact ⟨by first | (rw [EV.out]; done) | (rw [EV.out]; rfl), by rw [HGX.out]; exact BS⟩
end Go.Proofs.YtlohfoggcdaeiaaGreat
/-
  The document's Valid of a record, kind 5 (printed by gen_r31.py).
-/
namespace Go.Proofs.YtlohfoggcdaeiaaGreat
open Go.RowKit S
set_option linter.unusedVariables false
set_option linter.unusedSimpArgs false
open Cu (nb be hl ofL CW Mw CR Mr RS takeS takeA hOf nil8 doneS)
set_option maxRecDepth 100000 in
set_option maxHeartbeats 40000000 in
theorem dvalid_5 (r : Rc) (l : List Upd) (hk : r.kind = 5) (hn0 : l.length = r.upds.n) (hz : r.upds.n ≤ 140737488351232) (w : World) (hS : Upds w r.upds.ad l) : Calls Tryz.prog 34 #[.agg (tabv r.v 138)] w fun e w' => e = .returned (.bool (validR r l)) ∧ Below w.heap.size w w' := by
  obtain ⟨w1, hW1⟩ : ∃ wX, w.alloc (.cells (tabv r.v 138) 38) = wX := ⟨_, rfl⟩
  have r1 : Has w1 w.heap.size 38 r.v 138 := by rw [← hW1]; exact Has.new w 38 r.v 138 _ rfl
  have b1 : Below w.heap.size w w1 := by rw [← hW1]; exact (Below.refl w.heap.size w).alloc (Nat.le_refl _) _
  obtain ⟨w2, w3, hW2, q2, hW3, q3, b3⟩ := newRc w1 ⟨5, Upd.zero, nilS, 0, 0, 0, z32, z32, z32, 0⟩
  have Q2 := hide q2
  have B3 : Below w.heap.size w w3 := b1.trans (b3.mono b1.size)
  have r3 := r1.below b3 r1.lt
  have c0 : w1.cell? ⟨w.heap.size, 0, none⟩ = some (.int .i64 5) := by rw [r1.cell 0 (by omega), ← hk]; rfl
  have cc0 : w3.cell? ⟨w.heap.size, 0, none⟩ = some (.int .i64 5) := by rw [r3.cell 0 (by omega), ← hk]; rfl
  go_enter Tryz.func34, Tryz.ntmps34
  go_upto_region 2 with (first | rw [hW1] | rw [hW3] | (go_big_may; first | refine wpW_build (by rfl) 38 #[(0, .tmp 6)] rfl [(0, .int .i64 5)] (by first | rfl | (simp [Act.eval, Act.put]; done)) _ (builtRK 5) ?_ | refine wpList_storeRc rfl _ _ rfl rfl (w1.heap.size) (⟨5, Upd.zero, nilS, 0, 0, 0, z32, z32, z32, 0⟩) rfl rfl _ Q2.out ?_) | fail)
  try rw [hW3]
  have HS1 : Hid (w.heap.size < w1.heap.size) := r1.lt
  generalize hgx : w.heap.size = g at r3 B3 cc0 HS1 ⊢
  generalize hg3 : w1.heap.size = g3 at q3 HS1 ⊢
  have HGX := hide hgx
  clear hW1 hW2 hW3 Q2 q2 b1 r1 c0 b3 hg3 hgx
  have c137 : w3.cell? ⟨g, 137, none⟩ = some (.int .i64 r.code) := r3.cell 137 (by omega)
  by_cases h1 : r.code < 1
  · have EV : Hid (validR r l = false) := by
      show _ = _
      rw [valid_doc r l (by omega), show askD r l = false by unfold askD; rw [hk]; exact (by show codB r.code = false; rw [Bool.eq_false_iff]; intro h; have := (codB_iff _).1 h; omega), Bool.false_and]
    have d1 : decide (r.code < 1) = true := decide_eq_true h1
    clear h1
    go_wp2
    go_ret
    exact ⟨by first | (rw [EV.out]; done) | (rw [EV.out]; rfl), by rw [HGX.out]; exact B3⟩
  by_cases h2 : 65535 < r.code
  · have EV : Hid (validR r l = false) := by
      show _ = _
      rw [valid_doc r l (by omega), show askD r l = false by unfold askD; rw [hk]; exact (by show codB r.code = false; rw [Bool.eq_false_iff]; intro h; have := (codB_iff _).1 h; omega), Bool.false_and]
    have d1 : decide (r.code < 1) = false := decide_eq_false h1
    have d2 : decide (65535 < r.code) = true := decide_eq_true h2
    have d2' : decide (r.code > 65535) = true := decide_eq_true h2
    clear h1 h2
    go_wp2
    go_ret
    exact ⟨by first | (rw [EV.out]; done) | (rw [EV.out]; rfl), by rw [HGX.out]; exact B3⟩
  have HV : Hid (validR r l = (sameD r (nam r) && ixB r)) := by
    show _ = _
    rw [valid_doc r l (by omega), show askD r l = true by unfold askD; rw [hk]; exact (codB_iff _).2 ⟨by omega, by omega⟩, Bool.true_and]
  have HU : Hid (∀ wx : World, Below g w wx → (r.upds.n = (nam r).upds.n → ∃ l : List Upd, l.length = r.upds.n ∧ Upds wx r.upds.ad l ∧ Upds wx (nam r).upds.ad l)) := fun wx hb hn => ⟨[], by rw [hn]; unfold nam; rw [hk]; rfl, .inl rfl, .inl rfl⟩
  have EN : Hid (nam r = ⟨5, Upd.zero, nilS, 0, 0, 0, z32, z32, z32, r.code⟩) := by show _ = _; unfold nam; rw [hk]; rfl
  have cj : w3.cell? ⟨g3, 137, none⟩ = some (.int .i64 0) := q3.cell 137 (by omega)
  have cf := q3.frozen 137
  obtain ⟨u1, hU1⟩ : ∃ y, w3.setCell ⟨g3, 137, none⟩ (.int .i64 r.code) = y := ⟨_, rfl⟩
  have ru1 : Has u1 g 38 r.v 138 := by rw [← hU1]; exact r3.other _ _ (by show g ≠ g3; exact Nat.ne_of_lt HS1.out)
  have q9 : Has u1 g3 38 (nam r).v 138 := by rw [← hU1, EN.out]; exact q3.rCode r.code
  have Bu1 : Below g w u1 := by rw [← hU1]; exact B3.setCell (Nat.le_of_lt HS1.out) _
  have d1 : decide (r.code < 1) = false := decide_eq_false (by omega)
  have d2 : decide (65535 < r.code) = false := decide_eq_false (by omega)
  have d2' : decide (r.code > 65535) = false := decide_eq_false (by omega)
  clear h1 h2
  go_upto_region 34 with (first | rw [hU1] | fail)
  try rw [hU1]
  clear r3 q3 B3 cc0 c137 cj cf hU1
  have SD := hide (dsame_any r (nam r) hz u1 (HU.out u1 Bu1))
  have R1 := hide (ru1)
  have R3 := hide (q9)
  go_wp2_with (first | refine wpW_load_at 38 _ rfl (g) (0) (by rfl) (by rfl) _ 138 _ (R1.out.at_ 0 (by omega) (fun i hi => by rw [Nat.zero_add])) Tryz.underlying38 rfl infoRc ?_ | refine wpW_load_at 38 _ rfl (g3) (0) (by rfl) (by rfl) _ 138 _ (R3.out.at_ 0 (by omega) (fun i hi => by rw [Nat.zero_add])) Tryz.underlying38 rfl infoRc ?_ | fail)
  refine SD.out.mono ?_
  rintro e wS ⟨rfl, hbS⟩
  have c38 : wS.cell? ⟨g, 38, none⟩ = some (.int .i64 r.idx) := (R1.out.below hbS R1.out.lt).cell 38 (by omega)
  have BS : Below g w wS := Bu1.trans (hbS.mono (Nat.le_of_lt R1.out.lt))
  clear SD R1 R3 hbS
  obtain ⟨SB, hSB⟩ : ∃ b, sameD r (nam r) = b := ⟨_, rfl⟩
  rw [hSB] at HV ⊢
  cases SB with
  | false =>
    go_wp2
    go_ret
    exact ⟨by rw [HV.out, Bool.false_and]; rfl, by rw [HGX.out]; exact BS⟩
  | true =>
    by_cases i0 : 0 ≤ r.idx
    · have d0 : decide (0 ≤ r.idx) = true := decide_eq_true i0
      have d0' : decide (r.idx ≥ 0) = true := decide_eq_true i0
      by_cases i1 : r.idx ≤ 281474976710655
      · have d1 : decide (r.idx ≤ 281474976710655) = true := decide_eq_true i1
        have EV : Hid (validR r l = true) := by show _ = _; rw [HV.out]; unfold ixB; rw [d0, d1]; rfl
        clear i0 i1
        go_wp2
        go_ret
        exact ⟨by first | (rw [EV.out]; done) | (rw [EV.out]; rfl), by rw [HGX.out]; exact BS⟩
      · have d1 : decide (r.idx ≤ 281474976710655) = false := decide_eq_false i1
        have EV : Hid (validR r l = false) := by show _ = _; rw [HV.out]; unfold ixB; rw [d0, d1]; rfl
        clear i0 i1
        go_wp2
        go_ret
        exact ⟨by first | (rw [EV.out]; done) | (rw [EV.out]; rfl), by rw [HGX.out]; exact BS⟩
    · have d0 : decide (0 ≤ r.idx) = false := decide_eq_false i0
      have d0' : decide (r.idx ≥ 0) = false := decide_eq_false i0
      have EV : Hid (validR r l = false) := by show _ = _; rw [HV.out]; unfold ixB; rw [d0]; rfl
      clear i0
      go_wp2
      go_ret
      exact ⟨by first | (rw [EV.out]; done) | (rw [EV.out]; rfl), by rw [HGX.out]; exact BS⟩
end Go.Proofs.YtlohfoggcdaeiaaGreat
