/-
  The document's side (printed by gen_side.py).
-/
import Derived.Test.YtoomcpehdflolaaGRef
namespace Go.Proofs.Ytoomcpehdflolaa
open Go.RowKit S Go.Shelf Go.Sort
set_option linter.unusedVariables false
set_option linter.unusedSimpArgs false
theorem sort_snoc (l : List Pen) (p : Pen) : sortP (l ++ [p]) = placeP (sortP l) p := by unfold sortP; rw [List.foldl_append]; rfl
theorem TW.keep {S : Nat → Prop} {w w' : World} {g : Nat} {X : Int} (h : TW w g X) (k : Keep S w w') (hS : ¬ S g) : TW w' g X := Has.keep h k hS
theorem keep_row {S : Nat → Prop} (w : World) (g : Nat) (cs : Array Value) (h : S g) : Keep S w (w.setRow g cs) := ⟨rfl, rfl, rfl, by simp, fun k hk hn => setRow_other w g k cs (fun e => hn (by rw [e]; exact h))⟩
theorem resWWS (w : World) (g1 g2 : Nat) (f1 f2 : Nat → Value) (tmps : Array Value) (k : Value) (c1 c2 t : Nat) (h1 : Has w g1 85 f1 2) (h2 : Has w g2 85 f2 2) (p1 : tmps.getD c1 undef = .pointer (some ⟨g1, 0, none⟩)) (p2 : tmps.getD c2 undef = .pointer (some ⟨g2, 0, none⟩)) (q : tmps.getD t undef = k) (fn : Func) (h : fn.results = #[.cell c1 85, .cell c2 85, .tmp t]) :
    (results fn tmps).run Try.prog w = .ok (.tuple #[.agg (tabv f1 2), .agg (tabv f2 2), k]) w := by
  have e1 := run_loadVar_row (P := Try.prog) w g1 85 85 (tabv f1 2) (0, 0) _ h1 Try.underlying85 rfl (by rw [tabv_size]; exact infoW)
  have e2 := run_loadVar_row (P := Try.prog) w g2 85 85 (tabv f2 2) (0, 0) _ h2 Try.underlying85 rfl (by rw [tabv_size]; exact infoW)
  have p1' : tmps[c1]?.getD undef = .pointer (some ⟨g1, 0, none⟩) := by simpa using p1
  have p2' : tmps[c2]?.getD undef = .pointer (some ⟨g2, 0, none⟩) := by simpa using p2
  have q' : tmps[t]?.getD undef = k := by simpa using q
  simp [results, h, p1', p2', q', asAddr, e1, e2]
set_option maxRecDepth 100000 in
theorem builtPen2 (o : Bool) (s : Upd) : Try.prog.built 42 [(0, .bool o), (1, .int .i64 s.id), (2, .int .i64 s.amt), (3, .agg (tabv (bv s.hash) 32))] = some (tabv (penOf o s).v 35) := by kernel_rfl
set_option maxRecDepth 100000 in
set_option maxHeartbeats 4000000 in
theorem rside_any (X Y : Int) (a1 a2 : Option Addr) (n1 cp1 n2 cp2 : Nat) (mine others : List Upd) (hn1 : mine.length = n1) (hn2 : others.length = n2) (z1 : n1 ≤ 1955000000000) (z2 : n2 ≤ 1955000000000) (ours : Bool) (hv : mine.all validB = true) (w : World) (hS1 : Upds w a1 mine) (hS2 : Upds w a2 others) (bX : BX X) (bY : BX Y) :
    Calls Try.prog 48 #[.agg (tabv (totv X) 2), .agg (tabv (totv Y) 2), .slice a1 n1 cp1, .slice a2 n2 cp2, .bool ours] w fun e w' => (∃ v, e = .returned (.tuple #[.agg (tabv (totv (X - sumIf (lostB others) mine)) 2), .agg (tabv (totv (Y + sumIf (wonB others) mine)) 2), v]) ∧ OwnP w.heap.size w' v (sortP (opensL ours others mine))) ∧ Below w.heap.size w w' := by
  obtain ⟨XF, hXF⟩ : ∃ Z, X - sumIf (lostB others) mine = Z := ⟨_, rfl⟩
  obtain ⟨YF, hYF⟩ : ∃ Z, Y + sumIf (wonB others) mine = Z := ⟨_, rfl⟩
  obtain ⟨LF, hLF⟩ : ∃ Z, sortP (opensL ours others mine) = Z := ⟨_, rfl⟩
  rw [hXF, hYF, hLF]
  have HF := hide (And.intro hXF (And.intro hYF hLF))
  clear hXF hYF hLF
  obtain ⟨V1, hV1⟩ : ∃ z, w.alloc (.cells (tabv (totv X) 2) 85) = z := ⟨_, rfl⟩
  obtain ⟨V2, hV2⟩ : ∃ z, V1.alloc (.cells (tabv (totv Y) 2) 85) = z := ⟨_, rfl⟩
  obtain ⟨V3, hV3⟩ : ∃ z, V2.alloc (.cells #[.int .i64 0, .int .i64 0] 85) = z := ⟨_, rfl⟩
  obtain ⟨V4, hV4⟩ : ∃ z, V3.alloc (.cells #[.int .i64 0, .int .i64 0] 85) = z := ⟨_, rfl⟩
  have k1 : TW V1 w.heap.size X := by rw [← hV1]; exact Has.new w 85 _ 2 _ rfl
  have k2 : TW V2 V1.heap.size Y := by rw [← hV2]; exact Has.new V1 85 _ 2 _ rfl
  have k3 : TW V3 V2.heap.size 0 := by rw [← hV3]; exact Has.new V2 85 _ 2 _ rfl
  have k4 : TW V4 V3.heap.size 0 := by rw [← hV4]; exact Has.new V3 85 _ 2 _ rfl
  have b1 : Below w.heap.size w V1 := by rw [← hV1]; exact (Below.refl _ _).alloc (Nat.le_refl _) _
  have b2 : Below V1.heap.size V1 V2 := by rw [← hV2]; exact (Below.refl _ _).alloc (Nat.le_refl _) _
  have b3 : Below V2.heap.size V2 V3 := by rw [← hV3]; exact (Below.refl _ _).alloc (Nat.le_refl _) _
  have b4 : Below V3.heap.size V3 V4 := by rw [← hV4]; exact (Below.refl _ _).alloc (Nat.le_refl _) _
  have l1 : w.heap.size < V1.heap.size := Has.lt k1
  have l2 : V1.heap.size < V2.heap.size := Has.lt k2
  have l3 : V2.heap.size < V3.heap.size := Has.lt k3
  have l4 : V3.heap.size < V4.heap.size := Has.lt k4
  have q1 := ((k1.below b2).below b3).below b4
  have q2 := (k2.below b3).below b4
  have q3 := k3.below b4
  have gb4 : Below w.heap.size w V4 := ((b1.trans (b2.mono b1.size)).trans (b3.mono (by omega))).trans (b4.mono (by omega))
  obtain ⟨g5, hg5⟩ : ∃ g, w.heap.size = g := ⟨_, rfl⟩
  obtain ⟨g6, hg6⟩ : ∃ g, V1.heap.size = g := ⟨_, rfl⟩
  obtain ⟨gA, hgA⟩ : ∃ g, V2.heap.size = g := ⟨_, rfl⟩
  obtain ⟨gB, hgB⟩ : ∃ g, V3.heap.size = g := ⟨_, rfl⟩
  rw [hg5] at q1
  rw [hg6] at q2
  rw [hgA] at q3
  rw [hgB] at k4
  have NE : Hid (g5 < g6 ∧ g6 < gA ∧ gA < gB ∧ gB < V4.heap.size ∧ g5 = w.heap.size) := by show _ ∧ _; omega
  have QA := hide q3
  have QB := hide k4
  have RMK := hide (fun (id : Int) (v : World) (hS : Below w.heap.size w v) => rremoved_any a2 n2 cp2 others hn2 (by omega) id v (hS2.below hS))
  have N1 := hide hn1
  have N2 := hide hn2
  have HV := hide hv
  have HZ : Hid (n1 ≤ 1955000000000 ∧ n2 ≤ 1955000000000) := ⟨z1, z2⟩
  have HBX : Hid (BX X ∧ BX Y) := ⟨bX, bY⟩
  have hni1 : (n1 : Int) ≤ 140737488351232 := by omega
  have tt0 : TW V4 g5 (X - sumIf (lostB others) (mine.take 0)) := by rw [List.take_zero]; simp only [sumIf, Int.sub_zero]; exact q1
  have tt1 : TW V4 g6 (Y + sumIf (wonB others) (mine.take 0)) := by rw [List.take_zero]; simp only [sumIf, Int.add_zero]; exact q2
  clear k1 k2 k3 k4 b1 b2 b3 b4 l1 l2 l3 l4 q1 q2 q3 hn1 hn2 z1 z2 hv bX bY
  go_enter Try.func48, Try.ntmps48
  go_wp2
  go_loopw [14, 13] (fun i v wr => ∃ j : Nat, j ≤ n1 ∧ i = .int .i64 (j : Int) ∧ TW wr g5 (X - sumIf (lostB others) (mine.take j)) ∧ TW wr g6 (Y + sumIf (wonB others) (mine.take j)) ∧ OwnP V4.heap.size wr v (sortP (opensL ours others (mine.take j))) ∧ Keep (fun k => k = g5 ∨ k = g6) V4 wr) (fun i _ _ => n1 - (intOf i).toNat)
  case atStart => exact ⟨0, Nat.zero_le _, rfl, tt0, tt1, OwnP.nil _ _, Keep.refl _ _⟩
  case round =>
    clear tt0 tt1
    obtain ⟨j, hj, rfl, t5, t6, ho, kp⟩ := hrel
    have gb : Below w.heap.size w wr := gb4.trans (kp.below gb4.size (fun k hk e => by have := NE.out; omega))
    by_cases hlt : j < n1
    · have hd : decide ((j : Int) < (n1 : Int)) = true := decide_eq_true (by omega)
      have hd2 : decide (j < n1) = true := decide_eq_true hlt
      have hk0 : (0 : Int) ≤ (j : Int) := by omega
      have hk1 : (j : Int) < (n1 : Int) := by omega
      obtain ⟨s, hs⟩ : ∃ s, mine[j]? = some s := ⟨_, List.getElem?_eq_getElem (by rw [N1.out]; exact hlt)⟩
      obtain ⟨b, o, rfl, hb1, hA⟩ := (hS1.below gb).get j s hs
      have HS := hide hs
      have HA := hide hA
      obtain ⟨w6, w7, hW6, q1, hW7, r1, rb⟩ := newU wr s
      have Q1 := hide q1
      have R7 := hide r1
      have c0 : w7.cell? ⟨wr.heap.size, 0, none⟩ = some (.int .i64 s.kind) := r1.cell 0 (by omega)
      have c1 : w7.cell? ⟨wr.heap.size, 1, none⟩ = some (.int .i64 s.id) := r1.cell 1 (by omega)
      have c2 : w7.cell? ⟨wr.heap.size, 2, none⟩ = some (.int .i64 s.amt) := r1.cell 2 (by omega)
      clear hs hA hb1 q1 r1
      have NXL := hide (sumIf_next (p := lostB others) HS.out)
      have NXW := hide (sumIf_next (p := wonB others) HS.out)
      have NXO := hide (opens_next (o := ours) (b := others) HS.out)
      have hvs : validB s = true := List.all_eq_true.1 HV.out s (List.mem_of_getElem? HS.out)
      obtain ⟨Xj, hXj⟩ : ∃ Z, X - sumIf (lostB others) (mine.take j) = Z := ⟨_, rfl⟩
      obtain ⟨Yj, hYj⟩ : ∃ Z, Y + sumIf (wonB others) (mine.take j) = Z := ⟨_, rfl⟩
      have BDX : Hid (Bd Xj ∧ Bd Yj) := by
        have e1 := sumIf_bd (lost_add others) (mine.take j)
        have e3 := sumIf_bd (won_add others) (mine.take j)
        have e2 := List.length_take_le j mine
        have e4 := HBX.out
        unfold BX at e4
        have e5 := N1.out
        have e6 := HZ.out
        have e7 : ((mine.take j).length : Int) ≤ 1955000000000 := by omega
        show Bd Xj ∧ Bd Yj
        unfold Bd
        omega
      rw [hXj] at t5
      rw [hYj] at t6
      have EX := hide hXj
      have EY := hide hYj
      have t57 := t5.below rb
      have t67 := t6.below rb
      have o7 := ho.below rb
      have kp7 : Keep (fun k => k = g5 ∨ k = g6) V4 w7 := kp.then_ (rb.mono kp.size)
      have gb7 := gb.trans (rb.mono gb.size)
      have hgs := kp.size
      generalize hgU : wr.heap.size = gU at Q1 R7 c0 c1 c2 hW7 hgs
      have hov := fun k (hk : _) => o7.lt k hk
      clear hXj hYj t5 t6 ho
      cases h1 : (s.kind != 1) with
      | true =>
        have ha : addB s = false := by unfold addB; rw [show (s.kind == 1) = false by simpa using h1]; rfl
        go_wp2_with (first | refine wpW_load_at 39 _ rfl (b) (o + j * 36) (by rfl) (by rfl) _ 36 _ (HA.out) Try.underlying39 rfl infoU ?_ | refine wpList_storeU rfl _ _ rfl rfl (gU) (s) rfl rfl _ Q1.out ?_)
        go_roundw
        case rel => exact ⟨j + 1, by omega, by go_num, by rw [NXL.out, if_neg (by unfold lostB; rw [ha]; simp)]; have e := EX.out; rw [show X - (sumIf (lostB others) (mine.take j) + 0) = Xj by omega]; exact t57, by rw [NXW.out, if_neg (by unfold wonB; rw [ha]; simp)]; have e := EY.out; rw [show Y + (sumIf (wonB others) (mine.take j) + 0) = Yj by omega]; exact t67, by rw [NXO.out, if_neg (by unfold openB; rw [ha]; simp), List.append_nil]; exact o7, kp7⟩
        case measure => simp [intOf]; omega
      | false =>
        have hk1' : (s.kind == 1) = true := by simpa using h1
        have ha : addB s = true := addB_of hk1' hvs
        have HA0 := hide (add_amt ha).1
        have HA1 := hide (add_amt ha).2
        obtain ⟨R, hR⟩ : ∃ R, remK others s.id = R := ⟨_, rfl⟩
        have hRM : Calls Try.prog 43 #[.slice a2 n2 cp2, .int .i64 s.id] w7 fun e w' => e = .returned (.int .i64 R) ∧ Below w7.heap.size w7 w' := by have h := RMK.out s.id w7 gb7; rw [hR] at h; exact h
        have RM := hide hRM
        have HR := hide hR
        have R3 := @remK_of others s.id
        rw [hR] at R3
        clear hRM hR
        rcases R3 with rfl | rfl | rfl
        · obtain ⟨adO, cO, hvO, _, _, _, _⟩ := o7.pens
          obtain ⟨nO, hnO⟩ : ∃ n, (sortP (opensL ours others (mine.take j))).length = n := ⟨_, rfl⟩
          rw [hnO] at hvO
          subst hvO
          have HNO : Hid (nO ≤ 3909999999990) := by show _ ≤ _; rw [← hnO, sortP_length]; have e1 := opens_len ours others (mine.take j); have e2 := List.length_take_le j mine; have := N1.out; have := HZ.out; omega
          have BP := builtPen2 ours s
          go_wp2_with (first | rw [hWA] | refine wpW_load_at 39 _ rfl (b) (o + j * 36) (by rfl) (by rfl) _ 36 _ (HA.out) Try.underlying39 rfl infoU ?_ | refine wpList_storeU rfl _ _ rfl rfl (gU) (s) rfl rfl _ Q1.out ?_ | (go_at_call 43; go_must (refine RM.out.mono ?_); rintro e w8 ⟨rfl, hb8⟩; have T5 := t57.below hb8; have T6 := t67.below hb8; have d1 := (hb8.cell (p := ⟨gU, 1, none⟩) R7.out.lt).trans c1; have d2 := (hb8.cell (p := ⟨gU, 2, none⟩) R7.out.lt).trans c2) | refine wpW_load_at 85 _ rfl g5 0 (by rfl) (by rfl) _ 2 _ (T5.at_) Try.underlying85 rfl infoW ?_ | (go_at_call 44; go_must (refine (rminus_any Xj s.amt w8 (by have := HA0.out; omega) HA1.out BDX.out.1).mono ?_); rintro e w9 ⟨rfl, hb9⟩; have T59 := T5.below hb9; have T69 := T6.below hb9; obtain ⟨wA, hWA⟩ : ∃ z, w9.setRow g5 (tabv (totv (Xj - s.amt)) 2) = z := ⟨_, rfl⟩; have kxA : Keep (· = g5) w9 wA := (by rw [← hWA]; exact keep_row _ _ _ rfl); have T5A : TW wA g5 (Xj - s.amt) := (by rw [← hWA]; exact T59.put _); have T6A := T69.keep kxA (fun e => by have := NE.out; omega); have RA := hide ((R7.out.below (hb8.trans (hb9.mono hb8.size)) R7.out.lt).keep kxA (fun e => by have := NE.out; omega)); have a1 : wA.cell? ⟨gU, 1, none⟩ = some (.int .i64 s.id) := RA.out.cell 1 (by omega); have a2' : wA.cell? ⟨gU, 2, none⟩ = some (.int .i64 s.amt) := RA.out.cell 2 (by omega); have oA := ((o7.below hb8).below hb9).keep kxA (fun k hk e => by have := (hov k hk).1; have := NE.out; omega); have kpA : Keep (fun k => k = g5 ∨ k = g6) V4 wA := ((kp7.then_ (hb8.mono kp7.size)).then_ (hb9.mono (Nat.le_trans kp7.size hb8.size))).transR kxA (fun k hk e => .inl e); obtain ⟨adQ, cQ, hvQ, hpA, hpx, _, _⟩ := oA.pens; rw [hnO] at hvQ; cases hvQ) | refine wpList_storeW rfl _ _ rfl rfl g5 (Xj - s.amt) rfl rfl _ T59 ?_ | refine wpW_load_at 37 _ rfl gU 3 (by rfl) (by rfl) (bv s.hash) 32 _ (RA.out.at_hash) Try.underlying37 rfl info26 ?_ | refine wpW_build (by rfl) 42 #[(0, .tmp 50), (1, .tmp 52), (2, .tmp 54), (3, .tmp 56)] rfl [(0, .bool ours), (1, .int .i64 s.id), (2, .int .i64 s.amt), (3, .agg (tabv (bv s.hash) 32))] (by simp [Act.eval, Act.put]) _ BP ?_ | (go_at_call 54; go_must (refine (rplaced_any adO nO cO (sortP (opensL ours others (mine.take j))) (penOf ours s) hnO HNO.out wA (fun x hx => (hpx x hx).1) hpA).mono ?_); rintro e wB ⟨⟨v', rfl, oB⟩, hbB⟩))
          go_roundw
          case rel => exact ⟨j + 1, by omega, by go_num, by rw [NXL.out, if_pos (by unfold lostB; rw [ha, HR.out]; rfl)]; have e := EX.out; rw [show X - (sumIf (lostB others) (mine.take j) + s.amt) = Xj - s.amt by omega]; exact T5A.below hbB, by rw [NXW.out, if_neg (by unfold wonB; rw [HR.out]; simp)]; have e := EY.out; rw [show Y + (sumIf (wonB others) (mine.take j) + 0) = Yj by omega]; exact T6A.below hbB, by rw [NXO.out, if_pos (by unfold openB; rw [ha, HR.out]; rfl), sort_snoc]; exact oB.mono kpA.size, kpA.then_ (hbB.mono kpA.size)⟩
          case measure => simp [intOf]; omega
        · go_wp2_with (first | rw [hWA] | refine wpW_load_at 39 _ rfl (b) (o + j * 36) (by rfl) (by rfl) _ 36 _ (HA.out) Try.underlying39 rfl infoU ?_ | refine wpList_storeU rfl _ _ rfl rfl (gU) (s) rfl rfl _ Q1.out ?_ | (go_at_call 43; go_must (refine RM.out.mono ?_); rintro e w8 ⟨rfl, hb8⟩; have T5 := t57.below hb8; have T6 := t67.below hb8; have d1 := (hb8.cell (p := ⟨gU, 1, none⟩) R7.out.lt).trans c1; have d2 := (hb8.cell (p := ⟨gU, 2, none⟩) R7.out.lt).trans c2) | refine wpW_load_at 85 _ rfl g5 0 (by rfl) (by rfl) _ 2 _ (T5.at_) Try.underlying85 rfl infoW ?_ | (go_at_call 44; go_must (refine (rminus_any Xj s.amt w8 (by have := HA0.out; omega) HA1.out BDX.out.1).mono ?_); rintro e w9 ⟨rfl, hb9⟩; have T59 := T5.below hb9; have T69 := T6.below hb9; obtain ⟨wA, hWA⟩ : ∃ z, w9.setRow g5 (tabv (totv (Xj - s.amt)) 2) = z := ⟨_, rfl⟩; have kxA : Keep (· = g5) w9 wA := (by rw [← hWA]; exact keep_row _ _ _ rfl); have T5A : TW wA g5 (Xj - s.amt) := (by rw [← hWA]; exact T59.put _); have T6A := T69.keep kxA (fun e => by have := NE.out; omega); have RA := hide ((R7.out.below (hb8.trans (hb9.mono hb8.size)) R7.out.lt).keep kxA (fun e => by have := NE.out; omega)); have a1 : wA.cell? ⟨gU, 1, none⟩ = some (.int .i64 s.id) := RA.out.cell 1 (by omega); have a2' : wA.cell? ⟨gU, 2, none⟩ = some (.int .i64 s.amt) := RA.out.cell 2 (by omega); have oA := ((o7.below hb8).below hb9).keep kxA (fun k hk e => by have := (hov k hk).1; have := NE.out; omega); have kpA : Keep (fun k => k = g5 ∨ k = g6) V4 wA := ((kp7.then_ (hb8.mono kp7.size)).then_ (hb9.mono (Nat.le_trans kp7.size hb8.size))).transR kxA (fun k hk e => .inl e)) | refine wpList_storeW rfl _ _ rfl rfl g5 (Xj - s.amt) rfl rfl _ T59 ?_ | refine wpW_load_at 85 _ rfl g6 0 (by rfl) (by rfl) _ 2 _ (T6A.at_) Try.underlying85 rfl infoW ?_ | (go_at_call 41; go_must (refine (rplus_any Yj s.amt wA (by have := HA0.out; omega) HA1.out BDX.out.2).mono ?_); rintro e wB ⟨rfl, hbB⟩; have T6B := T6A.below hbB) | refine wpList_storeW rfl _ _ rfl rfl g6 (Yj + s.amt) rfl rfl _ T6B ?_)
          have kxC : Keep (· = g6) wB (wB.setRow g6 (tabv (totv (Yj + s.amt)) 2)) := keep_row _ _ _ rfl
          go_roundw
          case rel => exact ⟨j + 1, by omega, by go_num, by rw [NXL.out, if_pos (by unfold lostB; rw [ha, HR.out]; rfl)]; have e := EX.out; rw [show X - (sumIf (lostB others) (mine.take j) + s.amt) = Xj - s.amt by omega]; exact (T5A.below hbB).keep kxC (fun e => by have := NE.out; omega), by rw [NXW.out, if_pos (by unfold wonB; rw [ha, HR.out]; rfl)]; have e := EY.out; rw [show Y + (sumIf (wonB others) (mine.take j) + s.amt) = Yj + s.amt by omega]; exact T6B.put _, by rw [NXO.out, if_neg (by unfold openB; rw [HR.out]; simp), List.append_nil]; exact (oA.below hbB).keep kxC (fun k hk e => by have := (hov k hk).1; have := NE.out; omega), (kpA.then_ (hbB.mono kpA.size)).transR kxC (fun k hk e => .inr e)⟩
          case measure => simp [intOf]; omega
        · go_wp2_with (first | refine wpW_load_at 39 _ rfl (b) (o + j * 36) (by rfl) (by rfl) _ 36 _ (HA.out) Try.underlying39 rfl infoU ?_ | refine wpList_storeU rfl _ _ rfl rfl (gU) (s) rfl rfl _ Q1.out ?_ | (go_at_call 43; go_must (refine RM.out.mono ?_); rintro e w8 ⟨rfl, hb8⟩; have T5 := t57.below hb8; have T6 := t67.below hb8; have d1 := (hb8.cell (p := ⟨gU, 1, none⟩) R7.out.lt).trans c1; have d2 := (hb8.cell (p := ⟨gU, 2, none⟩) R7.out.lt).trans c2))
          go_roundw
          case rel => exact ⟨j + 1, by omega, by go_num, by rw [NXL.out, if_neg (by unfold lostB; rw [HR.out]; simp)]; have e := EX.out; rw [show X - (sumIf (lostB others) (mine.take j) + 0) = Xj by omega]; exact T5, by rw [NXW.out, if_neg (by unfold wonB; rw [HR.out]; simp)]; have e := EY.out; rw [show Y + (sumIf (wonB others) (mine.take j) + 0) = Yj by omega]; exact T6, by rw [NXO.out, if_neg (by unfold openB; rw [HR.out]; simp), List.append_nil]; exact o7.below hb8, kp7.then_ (hb8.mono kp7.size)⟩
          case measure => simp [intOf]; omega
    · have hjn : n1 = j := by omega
      subst hjn
      have hd : decide ((n1 : Int) < (n1 : Int)) = false := decide_eq_false (by omega)
      have hd2 : decide (n1 < n1) = false := decide_eq_false (by omega)
      rw [show mine.take n1 = mine by rw [← N1.out, List.take_length]] at t5 t6 ho
      rw [HF.out.1] at t5
      rw [HF.out.2.1] at t6
      rw [HF.out.2.2] at ho
      have qA := QA.out.keep kp (fun e => by have := NE.out; omega)
      have qB := QB.out.keep kp (fun e => by have := NE.out; omega)
      have oneV := ho.one
      have HO := hide ho
      have oneV := ho.one
      have T5F := hide t5
      have T6F := hide t6
      have QAF := hide qA
      have QBF := hide qB
      clear t5 t6 qA qB ho
      obtain ⟨adv, nv, cv, rfl⟩ := HO.out.form
      go_wp2
      refine wp_region_noPanic ?_
      refine wp_region_held_drew (S := fun wx => (TW wx g5 XF ∧ TW wx g6 YF) ∧ OwnP V4.heap.size wx (.slice adv nv cv) LF ∧ Below w.heap.size w wx) (by kernel_rfl) (⟨⟨T5F.out, T6F.out⟩, HO.out, gb.drew⟩) (fun hHeld => ?_)
      refine takeH 0 (some 59) (.agg (tabv (totv XF) 2)) rfl rfl (by kernel_rfl) (by kernel_rfl) (by kernel_rfl) (fun _ _ _ h => h) (by rfl) (fun w hw => run_load_at w 85 _ rfl g5 0 (by rfl) _ 2 _ (hw.1.1.at_) Try.underlying85 rfl infoW) hHeld ?_
      simp only [Act.put, List.setIfInBounds_toArray, List.set_cons_zero, List.set_cons_succ]
      refine takeH 1 (some 60) (.agg (tabv (totv YF) 2)) rfl rfl (by kernel_rfl) (by kernel_rfl) (by kernel_rfl) (fun _ _ _ h => h) (by rfl) (fun w hw => run_load_at w 85 _ rfl g6 0 (by rfl) _ 2 _ (hw.1.2.at_) Try.underlying85 rfl infoW) hHeld ?_
      simp only [Act.put, List.setIfInBounds_toArray, List.set_cons_zero, List.set_cons_succ]
      refine takeH 2 (some 61) (.slice adv nv cv) rfl rfl (by kernel_rfl) (by kernel_rfl) (by kernel_rfl) (fun _ _ _ h => h) (by rfl) (fun w hw => by first | rfl | (go_simp; done) | (go_simp; rfl) | (go_simp; omega)) hHeld ?_
      simp only [Act.put, List.setIfInBounds_toArray, List.set_cons_zero, List.set_cons_succ]
      refine wpAnyH_ready (rs := [3]) (by kernel_rfl) (by simp) (AllReadyH.cons rfl (fun K hK => ?_) AllReadyH.nil)
      rw [if_pos (by rfl)]
      refine wp_store_part 85 _ _ rfl rfl gA 0 (totv XF) 2 rfl rfl 85 (totv 0) 2 QAF.out (by omega) infoW (fun i _ => oneW _ i) (totv XF) (fun i hi => by unfold splice; rw [if_pos (by omega), Nat.sub_zero]) ?_
      have kA : Keep (· = gA) wr.drew (wr.drew.setRow gA (tabv (totv XF) 2)) := keep_row _ _ _ rfl
      have sA : (TW (wr.drew.setRow gA (tabv (totv XF) 2)) g5 XF ∧ TW (wr.drew.setRow gA (tabv (totv XF) 2)) g6 YF) ∧ OwnP V4.heap.size (wr.drew.setRow gA (tabv (totv XF) 2)) (.slice adv nv cv) LF ∧ Below w.heap.size w (wr.drew.setRow gA (tabv (totv XF) 2)) :=
        ⟨⟨hHeld.1.1.keep kA (fun e => by have := NE.out; omega), hHeld.1.2.keep kA (fun e => by have := NE.out; omega)⟩, hHeld.2.1.keep kA (fun k hk e => by have := (hHeld.2.1.lt k hk).1; have := NE.out; omega), below_setRow hHeld.2.2 (by have := NE.out; omega) _⟩
      refine hK.out _ _ sA (fun hH => ?_)
      have qA2 : Has (wr.drew.setRow gA (tabv (totv XF) 2)) gA 85 (totv XF) 2 := Has.row (w := wr.drew) QAF.out _ _ rfl
      have qB2 : Has (wr.drew.setRow gA (tabv (totv XF) 2)) gB 85 (totv 0) 2 := Has.keep (w := wr.drew) QBF.out kA (fun e => by have := NE.out; omega)
      generalize wr.drew.setRow gA (tabv (totv XF) 2) = wP at hH qA2 qB2 ⊢
      clear hK K hHeld kA sA
      have hHeld := hH
      clear hH
      refine wpAnyH_ready (rs := [4]) (by kernel_rfl) (by simp) (AllReadyH.cons rfl (fun K hK => ?_) AllReadyH.nil)
      rw [if_pos (by rfl)]
      refine wp_store_part 85 _ _ rfl rfl gB 0 (totv YF) 2 rfl rfl 85 (totv 0) 2 qB2 (by omega) infoW (fun i _ => oneW _ i) (totv YF) (fun i hi => by unfold splice; rw [if_pos (by omega), Nat.sub_zero]) ?_
      have kB : Keep (· = gB) wP (wP.setRow gB (tabv (totv YF) 2)) := keep_row _ _ _ rfl
      have sB : (TW (wP.setRow gB (tabv (totv YF) 2)) g5 XF ∧ TW (wP.setRow gB (tabv (totv YF) 2)) g6 YF) ∧ OwnP V4.heap.size (wP.setRow gB (tabv (totv YF) 2)) (.slice adv nv cv) LF ∧ Below w.heap.size w (wP.setRow gB (tabv (totv YF) 2)) :=
        ⟨⟨hHeld.1.1.keep kB (fun e => by have := NE.out; omega), hHeld.1.2.keep kB (fun e => by have := NE.out; omega)⟩, hHeld.2.1.keep kB (fun k hk e => by have := (hHeld.2.1.lt k hk).1; have := NE.out; omega), below_setRow hHeld.2.2 (by have := NE.out; omega) _⟩
      refine hK.out _ _ sB (fun hH => ?_)
      have qA3 := qA2.keep kB (fun e => by have := NE.out; omega)
      have qB3 : Has (wP.setRow gB (tabv (totv YF) 2)) gB 85 (totv YF) 2 := qB2.row _ _ rfl
      generalize wP.setRow gB (tabv (totv YF) 2) = wQ at hH qA3 qB3 ⊢
      clear hK K hHeld kB sB
      have hHeld := hH
      clear hH
      refine takeH 5 (some 12) (.slice adv nv cv) rfl rfl (by kernel_rfl) (by kernel_rfl) (by kernel_rfl) (fun _ _ _ h => h) (by rfl) (fun w hw => by first | rfl | (go_simp; done) | (go_simp; rfl) | (go_simp; omega)) hHeld ?_
      simp only [Act.put, List.setIfInBounds_toArray, List.set_cons_zero, List.set_cons_succ]
      refine ⟨by kernel_rfl, ?_⟩
      refine NoPanic.normal ?_
      try go_wp2
      exact bodyPost_ret (resWWS _ gA gB _ _ _ _ 10 11 12 qA3 qB3 rfl rfl rfl _ rfl) rfl ⟨⟨_, rfl, hHeld.2.1.mono gb4.size⟩, hHeld.2.2⟩
end Go.Proofs.Ytoomcpehdflolaa
