/-
  follows, sound (printed by gen_c1.py).
-/
import Derived.Test.YtmmcoedgoekhgaaGreatDoorCMath
namespace Go.Proofs.YtmmcoedgoekhgaaGreatDoor
set_option maxRecDepth 20000
open Go.RowKit S
set_option linter.unusedVariables false
set_option linter.unusedSimpArgs false
open Cu (nb be hl ofL CW Mw Mr)
set_option maxRecDepth 100000 in
set_option maxHeartbeats 4000000 in
theorem follows_anyC (q p : Pen) (w : World) : Calls Tryz.prog 189 #[.agg (tabv q.v 35), .agg (tabv p.v 35)] w fun e w' => e = .returned (.bool (foll q p)) ∧ Below w.heap.size w w' := by
  obtain ⟨wa, hWa⟩ : ∃ wX, w.alloc (.cells (tabv q.v 35) 186) = wX := ⟨_, rfl⟩
  have ra : Has wa w.heap.size 186 q.v 35 := by rw [← hWa]; exact Has.new w 186 q.v 35 _ rfl
  have ba : Below w.heap.size w wa := by rw [← hWa]; exact (Below.refl w.heap.size w).alloc (Nat.le_refl _) _
  obtain ⟨wb, hWb⟩ : ∃ wX, wa.alloc (.cells (tabv p.v 35) 186) = wX := ⟨_, rfl⟩
  have rb : Has wb wa.heap.size 186 p.v 35 := by rw [← hWb]; exact Has.new wa 186 p.v 35 _ rfl
  have bb : Below wa.heap.size wa wb := by rw [← hWb]; exact (Below.refl wa.heap.size wa).alloc (Nat.le_refl _) _
  have ra2 := ra.below bb ra.lt
  have gb : Below w.heap.size w wb := ba.trans (bb.mono ba.size)
  have c0 : wb.cell? ⟨w.heap.size, 0, none⟩ = some (.bool q.ours) := ra2.cell 0 (by omega)
  have c1 : wb.cell? ⟨w.heap.size, 1, none⟩ = some (.int .i64 q.id) := ra2.cell 1 (by omega)
  have e0 : wb.cell? ⟨wa.heap.size, 0, none⟩ = some (.bool p.ours) := rb.cell 0 (by omega)
  have e1 : wb.cell? ⟨wa.heap.size, 1, none⟩ = some (.int .i64 p.id) := rb.cell 1 (by omega)
  obtain ⟨R, hR⟩ : ∃ R, foll q p = R := ⟨_, rfl⟩
  have HR := hide hR
  rw [hR]
  clear hR ra rb ra2 ba bb
  obtain ⟨qo, hqo⟩ : ∃ x, q.ours = x := ⟨_, rfl⟩
  obtain ⟨po, hpo⟩ : ∃ x, p.ours = x := ⟨_, rfl⟩
  rw [hqo] at c0
  rw [hpo] at e0
  have HQ := hide hqo
  have HP := hide hpo
  clear hqo hpo
  obtain ⟨dd, hdd⟩ : ∃ d, decide (q.id < p.id) = d := ⟨_, rfl⟩
  have HD := hide hdd
  go_enter Tryz.func189, Tryz.ntmps189
  cases qo <;> cases po
  all_goals (go_wp2; go_ret; exact ⟨by rw [← HR.out]; unfold foll; simp [HQ.out, HP.out, HD.out], gb⟩)
set_option maxRecDepth 100000 in
set_option maxHeartbeats 4000000 in
theorem sound_any (x y : Int) (ad : Option Addr) (n cap : Nat) (l : List Pen) (hn : l.length = n) (hz : n ≤ 3910000000000) (w : World) (hS : Pens w ad l) : Calls Tryz.prog 146 #[.agg (tabv (ledv x y (.slice ad n cap)) 3)] w fun e w' => ∃ R, e = .returned (.bool R) ∧ (R = true ↔ Snd x y l) ∧ Below w.heap.size w w' := by
  obtain ⟨w1, hW1⟩ : ∃ wX, w.alloc (.cells (tabv (ledv x y (.slice ad n cap)) 3) 143) = wX := ⟨_, rfl⟩
  have r1 : Has w1 w.heap.size 143 (ledv x y (.slice ad n cap)) 3 := by rw [← hW1]; exact Has.new w 143 (ledv x y (.slice ad n cap)) 3 _ rfl
  have gb : Below w.heap.size w w1 := by rw [← hW1]; exact (Below.refl w.heap.size w).alloc (Nat.le_refl _) _
  have c0 : w1.cell? ⟨w.heap.size, 0, none⟩ = some (.int .i64 x) := r1.cell 0 (by omega)
  have c1 : w1.cell? ⟨w.heap.size, 1, none⟩ = some (.int .i64 y) := r1.cell 1 (by omega)
  have c2 : w1.cell? ⟨w.heap.size, 2, none⟩ = some (.slice ad n cap) := r1.cell 2 (by omega)
  have HS1 := hide (hS.below gb)
  have HN := hide hn
  have R1 := hide r1
  have hni : (n : Int) ≤ 3910000000000 := by omega
  clear r1 hn hz hS
  go_enter Tryz.func146, Tryz.ntmps146
  go_upto_region 1 with fail
  generalize hg : w.heap.size = g at c0 c1 c2 R1 ⊢
  have HGW := hide hg
  by_cases d1 : decide (x < 0) = true
  · skip
    go_wp2
    go_ret
    exact ⟨false, rfl, ⟨(fun h => by cases h), fun h => by have := h.1; unfold amB at this; simp [d1] at this⟩, gb⟩
  rw [Bool.not_eq_true] at d1
  by_cases d2 : decide (1152921504606846976 < x) = true
  · skip
    go_wp2
    go_ret
    exact ⟨false, rfl, ⟨(fun h => by cases h), fun h => by have := h.1; unfold amB at this; simp [d1, d2] at this⟩, gb⟩
  rw [Bool.not_eq_true] at d2
  by_cases d3 : decide (y < 0) = true
  · skip
    go_wp2
    go_ret
    exact ⟨false, rfl, ⟨(fun h => by cases h), fun h => by have := h.1; unfold amB at this; simp [d1, d2, d3] at this⟩, gb⟩
  rw [Bool.not_eq_true] at d3
  by_cases d4 : decide (1152921504606846976 < y) = true
  · skip
    go_wp2
    go_ret
    exact ⟨false, rfl, ⟨(fun h => by cases h), fun h => by have := h.1; unfold amB at this; simp [d1, d2, d3, d4] at this⟩, gb⟩
  rw [Bool.not_eq_true] at d4
  have HXY : Hid (amB x = true ∧ amB y = true) := by unfold amB; rw [d1, d2, d3, d4]; exact ⟨rfl, rfl⟩
  clear hW1
  go_wp2
  clear d1 d2 d3 d4 c0 c1
  go_loopw [3, 27] (fun c ix wr => ∃ j : Nat, j ≤ n ∧ ix = .int .i64 (j : Int) ∧ c = .int .i64 (cntP true (l.take j) : Int) ∧ Hid (∀ i, i < j → goodAt l i) ∧ Below w1.heap.size w1 wr) (fun _ ix _ => n - (intOf ix).toNat)
  case atStart => exact ⟨0, Nat.zero_le _, rfl, rfl, (fun i hi => absurd hi (by omega)), Below.refl _ _⟩
  case round =>
    obtain ⟨j, hj, rfl, rfl, HG, gbr⟩ := hrel
    obtain ⟨K, hK⟩ : ∃ K, cntP true (l.take j) = K := ⟨_, rfl⟩
    have hKj : K ≤ j := by rw [← hK]; exact Nat.le_trans (cnt_le _ _) (by rw [List.length_take]; omega)
    have HK := hide hK
    rw [hK]
    have hKb : (K : Int) ≤ 3910000000000 := by omega
    have hK0 : (0 : Int) ≤ (K : Int) := by omega
    have HKJ := hide hKj
    clear hK hKj
    have cL : wr.cell? ⟨g, 2, none⟩ = some (.slice ad n cap) := (gbr.cell (World.block_lt_of_cell? _ _ c2)).trans c2
    by_cases hlt : j < n
    · have hd : decide ((j : Int) < (n : Int)) = true := decide_eq_true (by omega)
      have hd2 : decide (j < n) = true := decide_eq_true hlt
      have hk0 : (0 : Int) ≤ (j : Int) := by omega
      have hk1 : (j : Int) < (n : Int) := by omega
      obtain ⟨s, hs⟩ : ∃ s, l[j]? = some s := ⟨_, List.getElem?_eq_getElem (by rw [HN.out]; exact hlt)⟩
      obtain ⟨b, o, rfl, hb1, hA⟩ := (HS1.out.below gbr).get j s hs
      have HS := hide hs
      have HA := hide hA
      have HJ := hide hlt
      obtain ⟨w6, w7, hW6, q1, hW7, r7, rb⟩ := newP wr s
      have Q1 := hide q1
      have R7 := hide r7
      have c0 : w7.cell? ⟨wr.heap.size, 0, none⟩ = some (.bool s.ours) := r7.cell 0 (by omega)
      have e1 : w7.cell? ⟨wr.heap.size, 1, none⟩ = some (.int .i64 s.id) := r7.cell 1 (by omega)
      have e2 : w7.cell? ⟨wr.heap.size, 2, none⟩ = some (.int .i64 s.amt) := r7.cell 2 (by omega)
      have gb7 := gbr.trans (rb.mono gbr.size)
      have gbw7 : Below w.heap.size w w7 := gb.trans (gb7.mono gb.size)
      have HB7 : Hid (b < w7.heap.size) := Nat.lt_of_lt_of_le hb1 rb.size
      have cL7 : w7.cell? ⟨g, 2, none⟩ = some (.slice (some ⟨b, o, none⟩) n cap) := (rb.cell (World.block_lt_of_cell? _ _ cL)).trans cL
      clear hs hA q1 r7
      go_upto_region 7 with (first | refine wpW_load_at 186 _ rfl (b) (o + j * 35) (by rfl) (by rfl) _ 35 _ (HA.out) Tryz.underlying186 rfl infoP ?_ | refine wpList_storeP rfl _ _ rfl rfl (wr.heap.size) (s) rfl rfl _ Q1.out ?_)
      try rw [hW7]
      generalize hgP : wr.heap.size = gP at Q1 R7 c0 e1 e2 hW7 ⊢
      clear hgP hW6 hW7 Q1
      by_cases f1 : decide (s.id < 0) = true
      · skip
        go_wp2
        go_ret
        exact ⟨false, rfl, ⟨(fun h => by cases h), fun h => absurd (h.2.1 j (by rw [HN.out]; exact HJ.out) s HS.out) (fun hh => by have := hh.1; unfold okP at this; simp [f1] at this)⟩, gbw7⟩
      rw [Bool.not_eq_true] at f1
      by_cases f2 : decide (s.amt < 1) = true
      · skip
        go_wp2
        go_ret
        exact ⟨false, rfl, ⟨(fun h => by cases h), fun h => absurd (h.2.1 j (by rw [HN.out]; exact HJ.out) s HS.out) (fun hh => by have := hh.1; unfold okP at this; simp [f1, f2] at this)⟩, gbw7⟩
      rw [Bool.not_eq_true] at f2
      by_cases f3 : decide (1152921504606846976 < s.amt) = true
      · skip
        go_wp2
        go_ret
        exact ⟨false, rfl, ⟨(fun h => by cases h), fun h => absurd (h.2.1 j (by rw [HN.out]; exact HJ.out) s HS.out) (fun hh => by have := hh.1; unfold okP at this; simp [f1, f2, f3] at this)⟩, gbw7⟩
      rw [Bool.not_eq_true] at f3
      have HOK : Hid (okP s = true) := by unfold okP; rw [f1, f2, f3]; rfl
      go_wp2
      clear f1 f2 f3 e1 e2 cL
      have cL := cL7
      clear cL7
      by_cases hj0 : j = 0
      · have hg : decide (0 < (j : Int)) = false := decide_eq_false (by omega)
        have hg2 : decide (0 < j) = false := decide_eq_false (by omega)
        have HJ0 := hide hj0
        clear hj0
        refine wp_region_noPanic ?_
        refine wp_region_held_drew (S := fun wx => Below w7.heap.size w7 wx) (by kernel_rfl) ((Below.refl _ _).drew) (fun hHeld => ?_)
        refine takeH 0 (some 45) (.int .i64 (j : Int)) rfl rfl (by kernel_rfl) (by kernel_rfl) (by kernel_rfl) (fun _ _ _ h => h) (by rfl) (fun w hw => by first | rfl | (go_simp; done) | (go_simp; rfl) | (go_simp; omega)) hHeld ?_
        simp only [Act.put, List.setIfInBounds_toArray, List.set_cons_zero, List.set_cons_succ]
        refine takeH 1 (some 46) (.bool false) rfl rfl (by kernel_rfl) (by kernel_rfl) (by kernel_rfl) (fun _ _ _ h => h) (by rfl) (fun w hw => by have z := hg; have z2 := hg2; first | rfl | (go_simp; done) | (go_simp; rfl) | (go_simp; omega)) hHeld ?_
        simp only [Act.put, List.setIfInBounds_toArray, List.set_cons_zero, List.set_cons_succ]
        refine takeH 2 (some 47) (.bool false) rfl rfl (by kernel_rfl) (by kernel_rfl) (by kernel_rfl) (fun _ _ _ h => h) (by rfl) (fun w hw => by first | rfl | (go_simp; done) | (go_simp; rfl) | (go_simp; omega)) hHeld ?_
        simp only [Act.put, List.setIfInBounds_toArray, List.set_cons_zero, List.set_cons_succ]
        refine skH 3 (some 48) rfl hHeld ?_
        simp only [Act.put, List.setIfInBounds_toArray, List.set_cons_zero, List.set_cons_succ]
        refine skH 4 (some 49) rfl hHeld ?_
        simp only [Act.put, List.setIfInBounds_toArray, List.set_cons_zero, List.set_cons_succ]
        refine skH 5 (some 50) rfl hHeld ?_
        simp only [Act.put, List.setIfInBounds_toArray, List.set_cons_zero, List.set_cons_succ]
        refine skH 6 (some 51) rfl hHeld ?_
        simp only [Act.put, List.setIfInBounds_toArray, List.set_cons_zero, List.set_cons_succ]
        refine skH 7 (some 52) rfl hHeld ?_
        simp only [Act.put, List.setIfInBounds_toArray, List.set_cons_zero, List.set_cons_succ]
        refine skH 8 (some 53) rfl hHeld ?_
        simp only [Act.put, List.setIfInBounds_toArray, List.set_cons_zero, List.set_cons_succ]
        refine skH 9 (some 54) rfl hHeld ?_
        simp only [Act.put, List.setIfInBounds_toArray, List.set_cons_zero, List.set_cons_succ]
        refine skH 10 (some 55) rfl hHeld ?_
        simp only [Act.put, List.setIfInBounds_toArray, List.set_cons_zero, List.set_cons_succ]
        refine skH 11 (some 56) rfl hHeld ?_
        simp only [Act.put, List.setIfInBounds_toArray, List.set_cons_zero, List.set_cons_succ]
        refine takeH 12 (some 57) (.bool false) rfl rfl (by kernel_rfl) (by kernel_rfl) (by kernel_rfl) (fun _ _ _ h => h) (by rfl) (fun w hw => by first | rfl | (go_simp; done) | (go_simp; rfl) | (go_simp; omega)) hHeld ?_
        simp only [Act.put, List.setIfInBounds_toArray, List.set_cons_zero, List.set_cons_succ]
        refine ⟨by kernel_rfl, ?_⟩
        refine NoPanic.normal ?_
        have gb8 := gb7.trans (hHeld.mono gb7.size)
        have c70 := (hHeld.cell (World.block_lt_of_cell? _ _ c0)).trans c0
        clear hHeld c0
        cases ho : s.ours with
        | false =>
          rw [ho] at c70
          go_wp2
          go_roundw
          case rel => exact ⟨j + 1, by have := HJ.out; omega, by go_num, by rw [cnt_next HS.out, ho]; simp [HK.out], (fun i hi => by rcases Nat.lt_succ_iff_lt_or_eq.1 hi with h | rfl; exact HG.out i h; exact fun p hp => by rw [HS.out] at hp; obtain rfl := Option.some.inj hp; exact ⟨HOK.out, fun q h0 _ => absurd h0 (by have := HJ0.out; omega)⟩), gb8⟩
          case measure => have := HJ.out; simp [intOf]; omega
        | true =>
          rw [ho] at c70
          go_wp2
          go_roundw
          case rel => exact ⟨j + 1, by have := HJ.out; omega, by go_num, by rw [cnt_next HS.out, ho, HK.out]; exact int_eq (by simp), (fun i hi => by rcases Nat.lt_succ_iff_lt_or_eq.1 hi with h | rfl; exact HG.out i h; exact fun p hp => by rw [HS.out] at hp; obtain rfl := Option.some.inj hp; exact ⟨HOK.out, fun q h0 _ => absurd h0 (by have := HJ0.out; omega)⟩), gb8⟩
          case measure => have := HJ.out; simp [intOf]; omega
      · obtain ⟨jp, hjp⟩ : ∃ jp, j = jp + 1 := ⟨j - 1, by omega⟩
        have hg : decide (0 < (j : Int)) = true := decide_eq_true (by omega)
        have hg2 : decide (0 < j) = true := decide_eq_true (by omega)
        have zj : IntKind.i64.wrap ((j : Int) - 1) = (jp : Int) := by rw [IntKind.wrap_i64]; omega
        have HJP : Hid ((jp : Int) < (n : Int)) := by show _ < _; omega
        obtain ⟨q, hq⟩ : ∃ q, l[jp]? = some q := ⟨_, List.getElem?_eq_getElem (by rw [HN.out]; omega)⟩
        obtain ⟨b', o', hbo, hb2, hAq⟩ := (HS1.out.below gb7).get jp q hq
        obtain ⟨rfl, rfl⟩ : b = b' ∧ o = o' := by simpa using hbo
        have HAq := hide hAq
        have HQJ : Hid (l[j - 1]? = some q) := by show _ = _; rw [show j - 1 = jp by omega]; exact hq
        obtain ⟨FF, hFF⟩ : ∃ x, foll q s = x := ⟨_, rfl⟩
        have HFF := hide hFF
        clear hq hAq hbo hb2 hFF hjp hj0
        refine wp_region_noPanic ?_
        refine wp_region_held_drew (S := fun wx => Below w7.heap.size w7 wx) (by kernel_rfl) ((Below.refl _ _).drew) (fun hHeld => ?_)
        refine takeH 0 (some 45) (.int .i64 (j : Int)) rfl rfl (by kernel_rfl) (by kernel_rfl) (by kernel_rfl) (fun _ _ _ h => h) (by rfl) (fun w hw => by first | rfl | (go_simp; done) | (go_simp; rfl) | (go_simp; omega)) hHeld ?_
        simp only [Act.put, List.setIfInBounds_toArray, List.set_cons_zero, List.set_cons_succ]
        refine takeH 1 (some 46) (.bool true) rfl rfl (by kernel_rfl) (by kernel_rfl) (by kernel_rfl) (fun _ _ _ h => h) (by rfl) (fun w hw => by have z := hg; have z2 := hg2; first | rfl | (go_simp; done) | (go_simp; rfl) | (go_simp; omega)) hHeld ?_
        simp only [Act.put, List.setIfInBounds_toArray, List.set_cons_zero, List.set_cons_succ]
        refine takeH 2 (some 47) (.bool true) rfl rfl (by kernel_rfl) (by kernel_rfl) (by kernel_rfl) (fun _ _ _ h => h) (by rfl) (fun w hw => by first | rfl | (go_simp; done) | (go_simp; rfl) | (go_simp; omega)) hHeld ?_
        simp only [Act.put, List.setIfInBounds_toArray, List.set_cons_zero, List.set_cons_succ]
        refine takeH 3 (some 48) (.pointer (some ⟨g, 2, none⟩)) rfl rfl (by kernel_rfl) (by kernel_rfl) (by kernel_rfl) (fun _ _ _ h => h) (by rfl) (fun w hw => by first | rfl | (go_simp; done) | (go_simp; rfl) | (go_simp; omega)) hHeld ?_
        simp only [Act.put, List.setIfInBounds_toArray, List.set_cons_zero, List.set_cons_succ]
        refine takeH 4 (some 49) (.slice (some ⟨b, o, none⟩) n cap) rfl rfl (by kernel_rfl) (by kernel_rfl) (by kernel_rfl) (fun _ _ _ h => h) (by rfl) (fun w hw => by have c : w.cell? ⟨g, 2, none⟩ = some (.slice (some ⟨b, o, none⟩) n cap) := (hw.cell (World.block_lt_of_cell? _ _ cL)).trans cL; first | (go_simp; done) | (go_simp; rfl)) hHeld ?_
        simp only [Act.put, List.setIfInBounds_toArray, List.set_cons_zero, List.set_cons_succ]
        refine takeH 5 (some 50) (.int .i64 (j : Int)) rfl rfl (by kernel_rfl) (by kernel_rfl) (by kernel_rfl) (fun _ _ _ h => h) (by rfl) (fun w hw => by first | rfl | (go_simp; done) | (go_simp; rfl) | (go_simp; omega)) hHeld ?_
        simp only [Act.put, List.setIfInBounds_toArray, List.set_cons_zero, List.set_cons_succ]
        refine takeH 6 (some 51) (.int .i64 (jp : Int)) rfl rfl (by kernel_rfl) (by kernel_rfl) (by kernel_rfl) (fun _ _ _ h => h) (by rfl) (fun w hw => by have z := zj; first | rfl | (go_simp; done) | (go_simp; rfl) | (go_simp; omega)) hHeld ?_
        simp only [Act.put, List.setIfInBounds_toArray, List.set_cons_zero, List.set_cons_succ]
        refine takeH 7 (some 52) (.pointer (some ⟨b, o + jp * 35, none⟩)) rfl rfl (by kernel_rfl) (by kernel_rfl) (by kernel_rfl) (fun _ _ _ h => h) (by rfl) (fun w hw => by have p0 : (0 : Int) ≤ (jp : Int) := (by omega); have p1 : (jp : Int) < (n : Int) := HJP.out; first | rfl | (go_simp; done) | (go_simp; rfl) | (go_simp; omega)) hHeld ?_
        simp only [Act.put, List.setIfInBounds_toArray, List.set_cons_zero, List.set_cons_succ]
        refine takeH 8 (some 53) (.agg (tabv q.v 35)) rfl rfl (by kernel_rfl) (by kernel_rfl) (by kernel_rfl) (fun _ _ _ h => h) (by rfl) (fun w hw => run_load_at w 186 _ rfl b (o + jp * 35) (by rfl) _ 35 _ (HAq.out.below hw (HB7.out)) Tryz.underlying186 rfl infoP) hHeld ?_
        simp only [Act.put, List.setIfInBounds_toArray, List.set_cons_zero, List.set_cons_succ]
        refine takeH 9 (some 54) (.agg (tabv s.v 35)) rfl rfl (by kernel_rfl) (by kernel_rfl) (by kernel_rfl) (fun _ _ _ h => h) (by rfl) (fun w hw => run_load_at w 186 _ rfl gP 0 (by rfl) _ 35 _ ((R7.out.below hw R7.out.lt).at_ 0 (by omega) (fun i hi => by rw [Nat.zero_add])) Tryz.underlying186 rfl infoP) hHeld ?_
        simp only [Act.put, List.setIfInBounds_toArray, List.set_cons_zero, List.set_cons_succ]
        refine wpAnyH_ready (rs := [10]) (by kernel_rfl) (by simp) (AllReadyH.cons rfl (fun K hK => ?_) AllReadyH.nil)
        rw [if_pos (by rfl)]
        go_simp
        refine (follows_anyC q s _).mono ?_
        rintro e wz ⟨rfl, hbz⟩
        try go_wp2_with fail
        rw [HFF.out]
        refine hK.out _ _ (hHeld.trans (hbz.mono hHeld.size)) (fun hH => ?_)
        clear hK hHeld
        have hHeld := hH
        clear hH
        refine takeH 11 (some 56) (.bool (!FF)) rfl rfl (by kernel_rfl) (by kernel_rfl) (by kernel_rfl) (fun _ _ _ h => h) (by rfl) (fun w hw => by first | rfl | (go_simp; done) | (go_simp; rfl) | (go_simp; omega)) hHeld ?_
        simp only [Act.put, List.setIfInBounds_toArray, List.set_cons_zero, List.set_cons_succ]
        refine takeH 12 (some 57) (.bool (!FF)) rfl rfl (by kernel_rfl) (by kernel_rfl) (by kernel_rfl) (fun _ _ _ h => h) (by rfl) (fun w hw => by first | rfl | (go_simp; done) | (go_simp; rfl) | (go_simp; omega)) hHeld ?_
        simp only [Act.put, List.setIfInBounds_toArray, List.set_cons_zero, List.set_cons_succ]
        refine ⟨by kernel_rfl, ?_⟩
        refine NoPanic.normal ?_
        cases FF with
        | true =>
          have gb8 := gb7.trans (hHeld.mono gb7.size)
          have c70 := (hHeld.cell (World.block_lt_of_cell? _ _ c0)).trans c0
          clear hHeld c0
          cases ho : s.ours with
          | false =>
            rw [ho] at c70
            go_wp2
            go_roundw
            case rel => exact ⟨j + 1, by have := HJ.out; omega, by go_num, by rw [cnt_next HS.out, ho]; simp [HK.out], (fun i hi => by rcases Nat.lt_succ_iff_lt_or_eq.1 hi with h | rfl; exact HG.out i h; exact fun p hp => by rw [HS.out] at hp; obtain rfl := Option.some.inj hp; exact ⟨HOK.out, fun q2 h0 hq2 => by rw [HQJ.out] at hq2; obtain rfl := Option.some.inj hq2; exact HFF.out⟩), gb8⟩
            case measure => have := HJ.out; simp [intOf]; omega
          | true =>
            rw [ho] at c70
            go_wp2
            go_roundw
            case rel => exact ⟨j + 1, by have := HJ.out; omega, by go_num, by rw [cnt_next HS.out, ho, HK.out]; exact int_eq (by simp), (fun i hi => by rcases Nat.lt_succ_iff_lt_or_eq.1 hi with h | rfl; exact HG.out i h; exact fun p hp => by rw [HS.out] at hp; obtain rfl := Option.some.inj hp; exact ⟨HOK.out, fun q2 h0 hq2 => by rw [HQJ.out] at hq2; obtain rfl := Option.some.inj hq2; exact HFF.out⟩), gb8⟩
            case measure => have := HJ.out; simp [intOf]; omega
        | false =>
          have gb8 : Below w.heap.size w _ := gbw7.trans (hHeld.mono gbw7.size)
          have HJ1 : Hid (0 < j) := by show 0 < j; have : decide (0 < (j : Int)) = true := hg; simpa using this
          go_wp2
          go_ret
          exact ⟨false, rfl, ⟨(fun h => by cases h), fun h => absurd (h.2.1 j (by rw [HN.out]; exact HJ.out) s HS.out) (fun hh => by have := hh.2 q HJ1.out HQJ.out; rw [HFF.out] at this; cases this)⟩, gb8⟩
    · have hjn : j = n := by omega
      subst hjn
      have hd : decide ((j : Int) < (j : Int)) = false := decide_eq_false (by omega)
      have hd2 : decide (j < j) = false := decide_eq_false (by omega)
      have zk : IntKind.i64.wrap ((j : Int) - (K : Int)) = (j : Int) - (K : Int) := by rw [IntKind.wrap_i64]; omega
      have gbz : Below w.heap.size w wr := gb.trans (gbr.mono gb.size)
      have et : l.take j = l := by rw [← HN.out]; exact List.take_length
      have HKt : Hid (cntP true l = K ∧ cntP false l + K = j) := by
        have h1 := HK.out
        rw [et] at h1
        have := cnt_both l
        rw [h1, HN.out] at this
        exact ⟨h1, by omega⟩
      have HGl : Hid (∀ i, i < l.length → goodAt l i) := fun i hi => HG.out i (by rw [HN.out] at hi; exact hi)
      clear et
      cases k1 : decide ((K : Int) ≤ 483) with
      | false =>
        go_wp2
        go_ret
        exact ⟨false, rfl, ⟨(fun h => by cases h), fun h => by have := h.2.2.1; rw [HKt.out.1] at this; have := of_decide_eq_false k1; omega⟩, gbz⟩
      | true =>
        cases k2 : decide ((j : Int) - (K : Int) ≤ 483) with
        | false =>
          go_wp2
          go_ret
          exact ⟨false, rfl, ⟨(fun h => by cases h), fun h => by have := h.2.2.2; have := HKt.out; have := of_decide_eq_false k2; omega⟩, gbz⟩
        | true =>
          go_wp2
          go_ret
          exact ⟨true, rfl, ⟨fun _ => ⟨HXY.out, HGl.out, by have := HKt.out; have := of_decide_eq_true k1; omega, by have := HKt.out; have := of_decide_eq_true k2; omega⟩, fun _ => rfl⟩, gbz⟩
end Go.Proofs.YtmmcoedgoekhgaaGreatDoor
