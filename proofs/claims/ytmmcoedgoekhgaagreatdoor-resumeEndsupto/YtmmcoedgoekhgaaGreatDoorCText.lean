/-
  lay, Text (printed by gen_c2.py).
-/
import Derived.Test.YtmmcoedgoekhgaaGreatDoorLast
import Derived.Test.YtmmcoedgoekhgaaGreatDoorCSound
namespace Go.Proofs.YtmmcoedgoekhgaaGreatDoor
set_option maxRecDepth 20000
open Go.RowKit S
set_option linter.unusedVariables false
set_option linter.unusedSimpArgs false
open Cu (nb be hl ofL CW Mw Mr)
theorem Has.mw2 {w w' : World} {g p m : Nat} {t : TypeId} {f : Nat → Value} {v v' : Value} (h : Has w g t f m) (hM : Mw p w v w' v') (hg : g ≠ p) (hn : v.ownBlock ≠ some g) : Has w' g t f m := by
  unfold Has
  rw [hM.block g h.lt hg hn]
  exact h
theorem own_ne {w w' : World} {g p : Nat} {v v' : Value} (hM : Mw p w v w' v') (hg : g < w.heap.size) (hn : v.ownBlock ≠ some g) : v'.ownBlock ≠ some g := fun e => (hM.own g e).elim hn (fun h => by omega)
theorem Has.at_hashP {w : World} {g : Nat} {p : Pen} (h : Has w g 186 p.v 35) : At w g 3 (bv p.hash) 32 := fun j hj => by
  rw [h.cell (3 + j) (by omega), Pen.v_hash p j hj]
-- stands in another text: below_mw
set_option maxRecDepth 100000 in
set_option maxHeartbeats 4000000 in
theorem lay1 (p : Pen) (ho : p.ours = true) (q : Nat) (v : Value) (L1 : List UInt8) (w : World) (h : CW w q v (some L1)) (hl : L1.length + 49 ≤ 140737488355328) : Calls Tryz.prog 152 #[.pointer (some ⟨q, 0, none⟩), .agg (tabv p.v 35)] w fun e w' => e = .returned (.tuple #[]) ∧ ∃ v', CW w' q v' (some (L1 ++ penB p)) ∧ Mw q w v w' v' := by
  obtain ⟨w1, hW1⟩ : ∃ wX, w.alloc (.cells (tabv p.v 35) 186) = wX := ⟨_, rfl⟩
  have r1 : Has w1 w.heap.size 186 p.v 35 := by rw [← hW1]; exact Has.new w 186 p.v 35 _ rfl
  have b1 : Below w.heap.size w w1 := by rw [← hW1]; exact (Below.refl w.heap.size w).alloc (Nat.le_refl _) _
  have hC1 := h.below b1
  have M1 : Mw q w v w1 v := Mw.of_below b1
  have hq : w.heap.size ≠ q := by have := h.lt; omega
  have hn1 : v.ownBlock ≠ some w.heap.size := fun e => by have := h.own _ e; omega
  have c0 : w1.cell? ⟨w.heap.size, 0, none⟩ = some (.bool true) := by rw [← ho]; exact r1.cell 0 (by omega)
  have HO := hide ho
  have G1 := hide r1
  have HL1 : Hid (L1.length + 49 ≤ 140737488355328) := hl
  have e1 : Hid (L1 = L1) := rfl
  clear r1 b1 h hl ho
  go_enter Tryz.func152, Tryz.ntmps152
  go_upto_region 2 with fail
  generalize hg : w.heap.size = g at hq hn1 c0 G1 ⊢
  clear hg hW1
  go_wp2_with fail
  refine (Cu.wU8 1 1 (by omega) rfl q v (some L1) _ hC1 (fun l e => by cases e; have := HL1.out; omega)).mono ?_
  rintro e w2 ⟨rfl, v2, hC2, hM2⟩
  have hC2 : CW w2 q v2 (some (L1 ++ nb 1 1)) := hC2
  have M2 := M1.trans hM2
  have G2 := hide (G1.out.mw2 hM2 hq hn1)
  have hn2 := own_ne hM2 G1.out.lt hn1
  obtain ⟨L2, hL2⟩ : ∃ x, L1 ++ nb 1 1 = x := ⟨_, rfl⟩
  rw [hL2] at hC2
  have HL2 : Hid (L2.length + 48 ≤ 140737488355328) := by show _ ≤ _; rw [← hL2, List.length_append]; have := HL1.out; simp only [Cu.nb_length, Cu.hl_length]; omega
  have E2 := hide hL2
  clear hC1 hM2 M1 hn1 G1 hL2 c0
  have c2 : w2.cell? ⟨g, 1, none⟩ = some (.int .i64 p.id) := G2.out.cell 1 (by omega)
  go_wp2_with fail
  refine (Cu.wI64 p.id (u64 p.id) (u64_wrap _) q v2 (some L2) _ hC2 (fun l e => by cases e; have := HL2.out; omega)).mono ?_
  rintro e w3 ⟨rfl, v3, hC3, hM3⟩
  have hC3 : CW w3 q v3 (some (L2 ++ nb (u64 p.id) 8)) := hC3
  have M3 := M2.trans hM3
  have G3 := hide (G2.out.mw2 hM3 hq hn2)
  have hn3 := own_ne hM3 G2.out.lt hn2
  obtain ⟨L3, hL3⟩ : ∃ x, L2 ++ nb (u64 p.id) 8 = x := ⟨_, rfl⟩
  rw [hL3] at hC3
  have HL3 : Hid (L3.length + 40 ≤ 140737488355328) := by show _ ≤ _; rw [← hL3, List.length_append]; have := HL2.out; simp only [Cu.nb_length, Cu.hl_length]; omega
  have E3 := hide hL3
  clear hC2 hM3 M2 hn2 G2 hL3 c2
  have c3 : w3.cell? ⟨g, 2, none⟩ = some (.int .i64 p.amt) := G3.out.cell 2 (by omega)
  go_wp2_with fail
  refine (Cu.wI64 p.amt (u64 p.amt) (u64_wrap _) q v3 (some L3) _ hC3 (fun l e => by cases e; have := HL3.out; omega)).mono ?_
  rintro e w4 ⟨rfl, v4, hC4, hM4⟩
  have hC4 : CW w4 q v4 (some (L3 ++ nb (u64 p.amt) 8)) := hC4
  have M4 := M3.trans hM4
  have G4 := hide (G3.out.mw2 hM4 hq hn3)
  have hn4 := own_ne hM4 G3.out.lt hn3
  obtain ⟨L4, hL4⟩ : ∃ x, L3 ++ nb (u64 p.amt) 8 = x := ⟨_, rfl⟩
  rw [hL4] at hC4
  have HL4 : Hid (L4.length + 32 ≤ 140737488355328) := by show _ ≤ _; rw [← hL4, List.length_append]; have := HL3.out; simp only [Cu.nb_length, Cu.hl_length]; omega
  have E4 := hide hL4
  clear hC3 hM4 M3 hn3 G3 hL4 c3
  have A4 := hide G4.out.at_hashP
  go_wp2_with (first | refine wpW_load_at 23 _ rfl (g) (3) (by rfl) (by rfl) _ 32 _ (A4.out) Tryz.underlying23 rfl info26 ?_ | fail)
  refine (Cu.wHash p.hash q v4 (some L4) _ hC4 (fun l e => by cases e; have := HL4.out; omega)).mono ?_
  rintro e w5 ⟨rfl, v5, hC5, hM5⟩
  have hC5 : CW w5 q v5 (some (L4 ++ hl p.hash)) := hC5
  have M5 := M4.trans hM5
  have G5 := hide (G4.out.mw2 hM5 hq hn4)
  have hn5 := own_ne hM5 G4.out.lt hn4
  obtain ⟨L5, hL5⟩ : ∃ x, L4 ++ hl p.hash = x := ⟨_, rfl⟩
  rw [hL5] at hC5
  have HL5 : Hid (L5.length + 0 ≤ 140737488355328) := by show _ ≤ _; rw [← hL5, List.length_append]; have := HL4.out; simp only [Cu.nb_length, Cu.hl_length]; omega
  have E5 := hide hL5
  clear hC4 hM5 M4 hn4 G4 hL5
  go_wp2
  go_end0
  refine ⟨rfl, v5, ?_, M5⟩
  have e : L1 ++ penB p = L5 := by
    rw [← E5.out, ← E4.out, ← E3.out, ← E2.out]
    unfold penB
    rw [HO.out]
    simp
  rw [e]
  exact hC5
set_option maxRecDepth 100000 in
set_option maxHeartbeats 4000000 in
theorem lay0 (p : Pen) (ho : p.ours = false) (q : Nat) (v : Value) (L1 : List UInt8) (w : World) (h : CW w q v (some L1)) (hl : L1.length + 49 ≤ 140737488355328) : Calls Tryz.prog 152 #[.pointer (some ⟨q, 0, none⟩), .agg (tabv p.v 35)] w fun e w' => e = .returned (.tuple #[]) ∧ ∃ v', CW w' q v' (some (L1 ++ penB p)) ∧ Mw q w v w' v' := by
  obtain ⟨w1, hW1⟩ : ∃ wX, w.alloc (.cells (tabv p.v 35) 186) = wX := ⟨_, rfl⟩
  have r1 : Has w1 w.heap.size 186 p.v 35 := by rw [← hW1]; exact Has.new w 186 p.v 35 _ rfl
  have b1 : Below w.heap.size w w1 := by rw [← hW1]; exact (Below.refl w.heap.size w).alloc (Nat.le_refl _) _
  have hC1 := h.below b1
  have M1 : Mw q w v w1 v := Mw.of_below b1
  have hq : w.heap.size ≠ q := by have := h.lt; omega
  have hn1 : v.ownBlock ≠ some w.heap.size := fun e => by have := h.own _ e; omega
  have c0 : w1.cell? ⟨w.heap.size, 0, none⟩ = some (.bool false) := by rw [← ho]; exact r1.cell 0 (by omega)
  have HO := hide ho
  have G1 := hide r1
  have HL1 : Hid (L1.length + 49 ≤ 140737488355328) := hl
  have e1 : Hid (L1 = L1) := rfl
  clear r1 b1 h hl ho
  go_enter Tryz.func152, Tryz.ntmps152
  go_upto_region 2 with fail
  generalize hg : w.heap.size = g at hq hn1 c0 G1 ⊢
  clear hg hW1
  go_wp2_with fail
  refine (Cu.wU8 0 0 (by omega) rfl q v (some L1) _ hC1 (fun l e => by cases e; have := HL1.out; omega)).mono ?_
  rintro e w2 ⟨rfl, v2, hC2, hM2⟩
  have hC2 : CW w2 q v2 (some (L1 ++ nb 0 1)) := hC2
  have M2 := M1.trans hM2
  have G2 := hide (G1.out.mw2 hM2 hq hn1)
  have hn2 := own_ne hM2 G1.out.lt hn1
  obtain ⟨L2, hL2⟩ : ∃ x, L1 ++ nb 0 1 = x := ⟨_, rfl⟩
  rw [hL2] at hC2
  have HL2 : Hid (L2.length + 48 ≤ 140737488355328) := by show _ ≤ _; rw [← hL2, List.length_append]; have := HL1.out; simp only [Cu.nb_length, Cu.hl_length]; omega
  have E2 := hide hL2
  clear hC1 hM2 M1 hn1 G1 hL2 c0
  have c2 : w2.cell? ⟨g, 1, none⟩ = some (.int .i64 p.id) := G2.out.cell 1 (by omega)
  go_wp2_with fail
  refine (Cu.wI64 p.id (u64 p.id) (u64_wrap _) q v2 (some L2) _ hC2 (fun l e => by cases e; have := HL2.out; omega)).mono ?_
  rintro e w3 ⟨rfl, v3, hC3, hM3⟩
  have hC3 : CW w3 q v3 (some (L2 ++ nb (u64 p.id) 8)) := hC3
  have M3 := M2.trans hM3
  have G3 := hide (G2.out.mw2 hM3 hq hn2)
  have hn3 := own_ne hM3 G2.out.lt hn2
  obtain ⟨L3, hL3⟩ : ∃ x, L2 ++ nb (u64 p.id) 8 = x := ⟨_, rfl⟩
  rw [hL3] at hC3
  have HL3 : Hid (L3.length + 40 ≤ 140737488355328) := by show _ ≤ _; rw [← hL3, List.length_append]; have := HL2.out; simp only [Cu.nb_length, Cu.hl_length]; omega
  have E3 := hide hL3
  clear hC2 hM3 M2 hn2 G2 hL3 c2
  have c3 : w3.cell? ⟨g, 2, none⟩ = some (.int .i64 p.amt) := G3.out.cell 2 (by omega)
  go_wp2_with fail
  refine (Cu.wI64 p.amt (u64 p.amt) (u64_wrap _) q v3 (some L3) _ hC3 (fun l e => by cases e; have := HL3.out; omega)).mono ?_
  rintro e w4 ⟨rfl, v4, hC4, hM4⟩
  have hC4 : CW w4 q v4 (some (L3 ++ nb (u64 p.amt) 8)) := hC4
  have M4 := M3.trans hM4
  have G4 := hide (G3.out.mw2 hM4 hq hn3)
  have hn4 := own_ne hM4 G3.out.lt hn3
  obtain ⟨L4, hL4⟩ : ∃ x, L3 ++ nb (u64 p.amt) 8 = x := ⟨_, rfl⟩
  rw [hL4] at hC4
  have HL4 : Hid (L4.length + 32 ≤ 140737488355328) := by show _ ≤ _; rw [← hL4, List.length_append]; have := HL3.out; simp only [Cu.nb_length, Cu.hl_length]; omega
  have E4 := hide hL4
  clear hC3 hM4 M3 hn3 G3 hL4 c3
  have A4 := hide G4.out.at_hashP
  go_wp2_with (first | refine wpW_load_at 23 _ rfl (g) (3) (by rfl) (by rfl) _ 32 _ (A4.out) Tryz.underlying23 rfl info26 ?_ | fail)
  refine (Cu.wHash p.hash q v4 (some L4) _ hC4 (fun l e => by cases e; have := HL4.out; omega)).mono ?_
  rintro e w5 ⟨rfl, v5, hC5, hM5⟩
  have hC5 : CW w5 q v5 (some (L4 ++ hl p.hash)) := hC5
  have M5 := M4.trans hM5
  have G5 := hide (G4.out.mw2 hM5 hq hn4)
  have hn5 := own_ne hM5 G4.out.lt hn4
  obtain ⟨L5, hL5⟩ : ∃ x, L4 ++ hl p.hash = x := ⟨_, rfl⟩
  rw [hL5] at hC5
  have HL5 : Hid (L5.length + 0 ≤ 140737488355328) := by show _ ≤ _; rw [← hL5, List.length_append]; have := HL4.out; simp only [Cu.nb_length, Cu.hl_length]; omega
  have E5 := hide hL5
  clear hC4 hM5 M4 hn4 G4 hL5
  go_wp2
  go_end0
  refine ⟨rfl, v5, ?_, M5⟩
  have e : L1 ++ penB p = L5 := by
    rw [← E5.out, ← E4.out, ← E3.out, ← E2.out]
    unfold penB
    rw [HO.out]
    simp
  rw [e]
  exact hC5
theorem lay_any (p : Pen) (q : Nat) (v : Value) (L : List UInt8) (w : World) (h : CW w q v (some L)) (hl : L.length + 49 ≤ 140737488355328) : Calls Tryz.prog 152 #[.pointer (some ⟨q, 0, none⟩), .agg (tabv p.v 35)] w fun e w' => e = .returned (.tuple #[]) ∧ ∃ v', CW w' q v' (some (L ++ penB p)) ∧ Mw q w v w' v' := by
  cases ho : p.ours
  · exact lay0 p ho q v L w h hl
  · exact lay1 p ho q v L w h hl
theorem Pens.mw {w w' : World} {p : Nat} {v v' : Value} {s : Option (List UInt8)} {ad : Option Addr} {l : List Pen} (h : Pens w ad l) (hM : Mw p w v w' v') (hC : CW w p v s) (hb : ∀ a, ad = some a → l.length ≠ 0 → a.block < p) : Pens w' ad l := by
  rcases h with rfl | ⟨b, o, h1, h2, h3⟩
  · exact .inl rfl
  · by_cases h0 : l.length = 0
    · exact .inl (List.length_eq_zero_iff.1 h0)
    · have hbp : b < p := hb _ h1 h0
      refine .inr ⟨b, o, h1, Nat.lt_of_lt_of_le h2 hM.size, fun i s hs j hj => ?_⟩
      have e := hM.block b h2 (by omega) (fun e => by have := hC.own _ e; omega)
      have := h3 i s hs j hj
      rw [← this]
      unfold World.cell?
      rw [e]
set_option maxRecDepth 100000 in
set_option maxHeartbeats 4000000 in
theorem text_any (oo nn : Int) (h : Nat → UInt8) (x y : Int) (ad : Option Addr) (n cap : Nat) (l : List Pen) (hn : l.length = n) (hz : n ≤ 3910000000000) (w : World) (hS : Pens w ad l) : Calls Tryz.prog 101 #[.int .i64 oo, .int .i64 nn, .agg (tabv (bv h) 32), .agg (tabv (ledv x y (.slice ad n cap)) 3)] w fun e w' => ∃ b c, e = .returned (.tuple #[.string b, .int .i64 c]) ∧ TA oo nn h x y l b c ∧ Below w.heap.size w w' := by
  obtain ⟨wa, hWa⟩ : ∃ wX, w.alloc (.cells (tabv (bv h) 32) 23) = wX := ⟨_, rfl⟩
  have ra : Has wa w.heap.size 23 (bv h) 32 := by rw [← hWa]; exact Has.new w 23 (bv h) 32 _ rfl
  have ba : Below w.heap.size w wa := by rw [← hWa]; exact (Below.refl w.heap.size w).alloc (Nat.le_refl _) _
  obtain ⟨w1, hW1⟩ : ∃ wX, wa.alloc (.cells (tabv (ledv x y (.slice ad n cap)) 3) 143) = wX := ⟨_, rfl⟩
  have r1 : Has w1 wa.heap.size 143 (ledv x y (.slice ad n cap)) 3 := by rw [← hW1]; exact Has.new wa 143 (ledv x y (.slice ad n cap)) 3 _ rfl
  have b1 : Below wa.heap.size wa w1 := by rw [← hW1]; exact (Below.refl wa.heap.size wa).alloc (Nat.le_refl _) _
  have ra1 := ra.below b1 ra.lt
  have gb : Below w.heap.size w w1 := ba.trans (b1.mono ba.size)
  have hgg : w.heap.size < wa.heap.size := ra.lt
  have HS1 := hide (hS.below gb)
  have HN := hide hn
  have R1 := hide r1
  have RA := hide ra1
  have hni : (n : Int) ≤ 3910000000000 := by omega
  have HZ := hide hz
  clear r1 ra ra1 hS hn hz ba b1
  go_enter Tryz.func101, Tryz.ntmps101
  go_upto_region 1 with fail
  generalize hg : wa.heap.size = g at R1 hgg ⊢
  generalize hgh : w.heap.size = gh at RA hgg gb ⊢
  have HGG := hide hgg
  clear hg hWa hW1 hgg
  by_cases d1 : decide (oo < 0) = true
  · skip
    go_wp2
    go_ret2
    exact ⟨nilB, 1, rfl, ⟨fun _ => ⟨rfl, rfl⟩, fun h => absurd h (fun h => by unfold Arg at h; have := of_decide_eq_true d1; omega), fun h => absurd h (fun h => by unfold Arg at h; have := of_decide_eq_true d1; omega)⟩, (by rw [hgh]; exact gb)⟩
  rw [Bool.not_eq_true] at d1
  by_cases d2 : decide (1 < oo) = true
  · skip
    go_wp2
    go_ret2
    exact ⟨nilB, 1, rfl, ⟨fun _ => ⟨rfl, rfl⟩, fun h => absurd h (fun h => by unfold Arg at h; have := of_decide_eq_true d2; omega), fun h => absurd h (fun h => by unfold Arg at h; have := of_decide_eq_true d2; omega)⟩, (by rw [hgh]; exact gb)⟩
  rw [Bool.not_eq_true] at d2
  by_cases d3 : decide (nn < 0) = true
  · skip
    go_wp2
    go_ret2
    exact ⟨nilB, 1, rfl, ⟨fun _ => ⟨rfl, rfl⟩, fun h => absurd h (fun h => by unfold Arg at h; have := of_decide_eq_true d3; omega), fun h => absurd h (fun h => by unfold Arg at h; have := of_decide_eq_true d3; omega)⟩, (by rw [hgh]; exact gb)⟩
  rw [Bool.not_eq_true] at d3
  by_cases d4 : decide (281474976710655 < nn) = true
  · skip
    go_wp2
    go_ret2
    exact ⟨nilB, 1, rfl, ⟨fun _ => ⟨rfl, rfl⟩, fun h => absurd h (fun h => by unfold Arg at h; have := of_decide_eq_true d4; omega), fun h => absurd h (fun h => by unfold Arg at h; have := of_decide_eq_true d4; omega)⟩, (by rw [hgh]; exact gb)⟩
  rw [Bool.not_eq_true] at d4
  have HA : Hid (Arg oo nn) := by have := of_decide_eq_false d1; have := of_decide_eq_false d2; have := of_decide_eq_false d3; have := of_decide_eq_false d4; exact ⟨by omega, by omega, by omega, by omega⟩
  go_wp2_with (first | refine wpW_load_at 143 _ rfl (g) (0) (by rfl) (by rfl) _ 3 _ (R1.out.at_ 0 (by omega) (fun i hi => by rw [Nat.zero_add])) Tryz.underlying143 rfl infoL ?_ | fail)
  refine (sound_any x y ad n cap l HN.out HZ.out _ HS1.out).mono ?_
  rintro e w2 ⟨R, rfl, hR, hb2⟩
  have gb2 : Below gh w w2 := gb.trans (hb2.mono (by have := RA.out.lt; omega))
  have R2 := hide (R1.out.below hb2 R1.out.lt)
  have RA2 := hide (RA.out.below hb2 RA.out.lt)
  have HS2 := hide (HS1.out.below hb2)
  have HR := hide hR
  clear hb2 R1 RA HS1 hR d1 d2 d3 d4 gb
  cases R with
  | false =>
    go_wp2
    go_ret2
    exact ⟨nilB, 4, rfl, ⟨fun h => absurd HA.out h, fun _ _ => ⟨rfl, rfl⟩, fun _ h => by have := HR.out.2 h; cases this⟩, (by rw [hgh]; exact gb2)⟩
  | true =>
    have HSD := hide (HR.out.1 rfl)
    have hn9 : n ≤ 966 := by rw [← HN.out]; exact HSD.out.len
    have hn9i : (n : Int) ≤ 966 := by omega
    have HN9 := hide hn9
    have K1 : Hid (∀ w : World, (convert 3 5 (.int .i64 oo)).run Tryz.prog w = .ok (.int .u8 oo) w) := fun w => by
      have h := run_convert_int (P := Tryz.prog) (w := w) 3 5 .i64 oo (by kernel_rfl) (by kernel_rfl)
      rw [show Tryz.prog.intKind 5 = .u8 by kernel_rfl, show IntKind.u8.wrap oo = oo by have := HA.out; unfold Arg at this; simp [IntKind.wrap, IntKind.bits, IntKind.signed]; omega] at h
      exact h
    have K2 : Hid (∀ w : World, (convert 3 184 (.int .i64 (n : Int))).run Tryz.prog w = .ok (.int .u16 (n : Int)) w) := fun w => by
      have h := run_convert_int (P := Tryz.prog) (w := w) 3 184 .i64 (n : Int) (by kernel_rfl) (by kernel_rfl)
      rw [show Tryz.prog.intKind 184 = .u16 by kernel_rfl, show IntKind.u16.wrap (n : Int) = (n : Int) by simp [IntKind.wrap, IntKind.bits, IntKind.signed]; omega] at h
      exact h
    have HOO : Hid (oo = (oo.toNat : Int) ∧ oo.toNat < 256) := by have := HA.out; unfold Arg at this; exact ⟨by omega, by omega⟩
    have e0 : Hid (([] : List UInt8).length = 0) := rfl
    clear hn9
    go_wp2_with fail
    refine (Cu.wNew _).mono ?_
    rintro e w3 ⟨rfl, hN3⟩
    obtain ⟨hC3, hb3, hs3⟩ := hN3
    have hp : g < w2.heap.size := R2.out.lt
    have gb3 : Below gh w w3 := gb2.trans (hb3.mono (by have := HGG.out; omega))
    have G3 := hide (R2.out.below hb3 R2.out.lt)
    have I3 := hide (RA2.out.below hb3 RA2.out.lt)
    have HS3 := hide (HS2.out.below hb3)
    have HB0 : Hid (∀ a, ad = some a → n ≠ 0 → a.block < w2.heap.size) := fun a ha h0 => by
      rcases HS2.out with h | ⟨b, o, h1, h2, _⟩
      · exact absurd (by rw [← HN.out, h]; rfl) h0
      · rw [h1] at ha; cases ha; exact h2
    generalize w2.heap.size = p at hC3 hp hs3 HB0 ⊢
    have HP : Hid (g < p ∧ gh < p) := ⟨hp, by have := HGG.out; omega⟩
    obtain ⟨L3, hL3⟩ : ∃ x : List UInt8, [] = x := ⟨_, rfl⟩
    rw [hL3] at hC3
    have E3 := hide hL3
    have HL3 : Hid (L3.length = 0) := by show _ = _; rw [← hL3]; rfl
    clear hb3 hs3 hp hL3 gb2 R2 RA2 HS2
    go_wp2_with (first | refine Cu.wpList_conv rfl _ _ _ rfl .i64 .u8 oo oo (by rfl) (K1.out _) ?_ | fail)
    refine (Cu.wU8 oo oo.toNat HOO.out.2 HOO.out.1 p _ (some L3) _ hC3 (fun l e => by cases e; have := HL3.out; omega)).mono ?_
    rintro e w4 ⟨rfl, v4, hC4, hM4⟩
    have hC4 : CW w4 p v4 (some (L3 ++ nb oo.toNat 1)) := hC4
    have G4 := hide (G3.out.mw2 hM4 (by have := HP.out; omega) (fun e => by have := hC3.own _ e; have := HP.out; omega))
    have I4 := hide (I3.out.mw2 hM4 (by have := HP.out; omega) (fun e => by have := hC3.own _ e; have := HP.out; omega))
    have HS4 := hide (HS3.out.mw hM4 hC3 (by rw [HN.out]; exact HB0.out))
    have gb4 := below_mw gb3 hM4 (by have := HP.out; omega) (by have := I3.out.lt; omega) hC3
    obtain ⟨L4, hL4⟩ : ∃ Lx, L3 ++ nb oo.toNat 1 = Lx := ⟨_, rfl⟩
    rw [hL4] at hC4
    have HL4 : Hid (L4.length = 1) := by show _ = _; rw [← hL4, List.length_append, HL3.out]; simp only [Cu.nb_length, Cu.hl_length]
    have E4 := hide hL4
    clear hC3 hM4 gb3 hL4 G3 I3 HS3
    go_wp2_with fail
    refine (Cu.wI64 nn (u64 nn) (u64_wrap _) p v4 (some L4) _ hC4 (fun l e => by cases e; have := HL4.out; omega)).mono ?_
    rintro e w5 ⟨rfl, v5, hC5, hM5⟩
    have hC5 : CW w5 p v5 (some (L4 ++ nb (u64 nn) 8)) := hC5
    have G5 := hide (G4.out.mw2 hM5 (by have := HP.out; omega) (fun e => by have := hC4.own _ e; have := HP.out; omega))
    have I5 := hide (I4.out.mw2 hM5 (by have := HP.out; omega) (fun e => by have := hC4.own _ e; have := HP.out; omega))
    have HS5 := hide (HS4.out.mw hM5 hC4 (by rw [HN.out]; exact HB0.out))
    have gb5 := below_mw gb4 hM5 (by have := HP.out; omega) (by have := I4.out.lt; omega) hC4
    obtain ⟨L5, hL5⟩ : ∃ Lx, L4 ++ nb (u64 nn) 8 = Lx := ⟨_, rfl⟩
    rw [hL5] at hC5
    have HL5 : Hid (L5.length = 9) := by show _ = _; rw [← hL5, List.length_append, HL4.out]; simp only [Cu.nb_length, Cu.hl_length]
    have E5 := hide hL5
    clear hC4 hM5 gb4 hL5 G4 I4 HS4
    go_wp2_with (first | refine wpW_load_at 23 _ rfl (gh) (0) (by rfl) (by rfl) _ 32 _ (I5.out.at_ 0 (by omega) (fun i hi => by rw [Nat.zero_add])) Tryz.underlying23 rfl info26 ?_ | fail)
    refine (Cu.wHash h p v5 (some L5) _ hC5 (fun l e => by cases e; have := HL5.out; omega)).mono ?_
    rintro e w6 ⟨rfl, v6, hC6, hM6⟩
    have hC6 : CW w6 p v6 (some (L5 ++ hl h)) := hC6
    have G6 := hide (G5.out.mw2 hM6 (by have := HP.out; omega) (fun e => by have := hC5.own _ e; have := HP.out; omega))
    have I6 := hide (I5.out.mw2 hM6 (by have := HP.out; omega) (fun e => by have := hC5.own _ e; have := HP.out; omega))
    have HS6 := hide (HS5.out.mw hM6 hC5 (by rw [HN.out]; exact HB0.out))
    have gb6 := below_mw gb5 hM6 (by have := HP.out; omega) (by have := I5.out.lt; omega) hC5
    obtain ⟨L6, hL6⟩ : ∃ Lx, L5 ++ hl h = Lx := ⟨_, rfl⟩
    rw [hL6] at hC6
    have HL6 : Hid (L6.length = 41) := by show _ = _; rw [← hL6, List.length_append, HL5.out]; simp only [Cu.nb_length, Cu.hl_length]
    have E6 := hide hL6
    clear hC5 hM6 gb5 hL6 G5 I5 HS5
    have c6 : w6.cell? ⟨g, 0, none⟩ = some (.int .i64 x) := G6.out.cell 0 (by omega)
    go_wp2_with fail
    refine (Cu.wI64 x (u64 x) (u64_wrap _) p v6 (some L6) _ hC6 (fun l e => by cases e; have := HL6.out; omega)).mono ?_
    rintro e w7 ⟨rfl, v7, hC7, hM7⟩
    have hC7 : CW w7 p v7 (some (L6 ++ nb (u64 x) 8)) := hC7
    have G7 := hide (G6.out.mw2 hM7 (by have := HP.out; omega) (fun e => by have := hC6.own _ e; have := HP.out; omega))
    have I7 := hide (I6.out.mw2 hM7 (by have := HP.out; omega) (fun e => by have := hC6.own _ e; have := HP.out; omega))
    have HS7 := hide (HS6.out.mw hM7 hC6 (by rw [HN.out]; exact HB0.out))
    have gb7 := below_mw gb6 hM7 (by have := HP.out; omega) (by have := I6.out.lt; omega) hC6
    obtain ⟨L7, hL7⟩ : ∃ Lx, L6 ++ nb (u64 x) 8 = Lx := ⟨_, rfl⟩
    rw [hL7] at hC7
    have HL7 : Hid (L7.length = 49) := by show _ = _; rw [← hL7, List.length_append, HL6.out]; simp only [Cu.nb_length, Cu.hl_length]
    have E7 := hide hL7
    clear hC6 hM7 gb6 hL7 G6 I6 HS6 c6
    have c7 : w7.cell? ⟨g, 1, none⟩ = some (.int .i64 y) := G7.out.cell 1 (by omega)
    go_wp2_with fail
    refine (Cu.wI64 y (u64 y) (u64_wrap _) p v7 (some L7) _ hC7 (fun l e => by cases e; have := HL7.out; omega)).mono ?_
    rintro e w8 ⟨rfl, v8, hC8, hM8⟩
    have hC8 : CW w8 p v8 (some (L7 ++ nb (u64 y) 8)) := hC8
    have G8 := hide (G7.out.mw2 hM8 (by have := HP.out; omega) (fun e => by have := hC7.own _ e; have := HP.out; omega))
    have I8 := hide (I7.out.mw2 hM8 (by have := HP.out; omega) (fun e => by have := hC7.own _ e; have := HP.out; omega))
    have HS8 := hide (HS7.out.mw hM8 hC7 (by rw [HN.out]; exact HB0.out))
    have gb8 := below_mw gb7 hM8 (by have := HP.out; omega) (by have := I7.out.lt; omega) hC7
    obtain ⟨L8, hL8⟩ : ∃ Lx, L7 ++ nb (u64 y) 8 = Lx := ⟨_, rfl⟩
    rw [hL8] at hC8
    have HL8 : Hid (L8.length = 57) := by show _ = _; rw [← hL8, List.length_append, HL7.out]; simp only [Cu.nb_length, Cu.hl_length]
    have E8 := hide hL8
    clear hC7 hM8 gb7 hL8 G7 I7 HS7 c7
    have c8 : w8.cell? ⟨g, 2, none⟩ = some (.slice ad n cap) := G8.out.cell 2 (by omega)
    go_wp2_with (first | refine Cu.wpList_conv rfl _ _ _ rfl .i64 .u16 (n : Int) (n : Int) (by rfl) (K2.out _) ?_ | fail)
    refine (Cu.wU16 (n : Int) n rfl p v8 (some L8) _ hC8 (fun l e => by cases e; have := HL8.out; omega)).mono ?_
    rintro e w9 ⟨rfl, v9, hC9, hM9⟩
    have hC9 : CW w9 p v9 (some (L8 ++ nb n 2)) := hC9
    have G9 := hide (G8.out.mw2 hM9 (by have := HP.out; omega) (fun e => by have := hC8.own _ e; have := HP.out; omega))
    have I9 := hide (I8.out.mw2 hM9 (by have := HP.out; omega) (fun e => by have := hC8.own _ e; have := HP.out; omega))
    have HS9 := hide (HS8.out.mw hM9 hC8 (by rw [HN.out]; exact HB0.out))
    have gb9 := below_mw gb8 hM9 (by have := HP.out; omega) (by have := I8.out.lt; omega) hC8
    obtain ⟨L9, hL9⟩ : ∃ Lx, L8 ++ nb n 2 = Lx := ⟨_, rfl⟩
    rw [hL9] at hC9
    have HL9 : Hid (L9.length = 59) := by show _ = _; rw [← hL9, List.length_append, HL8.out]; simp only [Cu.nb_length, Cu.hl_length]
    have E9 := hide hL9
    clear hC8 hM9 gb8 hL9 G8 I8 HS8 c8
    have EH : Hid (L9 = headB oo nn h x y n) := by
      show _ = _
      rw [← E9.out, ← E8.out, ← E7.out, ← E6.out, ← E5.out, ← E4.out, ← E3.out]
      unfold headB
      simp
    clear E3 E4 E5 E6 E7 E8 E9 I9
    have c9 : w9.cell? ⟨g, 2, none⟩ = some (.slice ad n cap) := G9.out.cell 2 (by omega)
    go_wp2
    clear c9
    go_loopw [58] (fun ix wr => ∃ (j : Nat) (vr : Value) (Lr : List UInt8), j ≤ n ∧ ix = .int .i64 (j : Int) ∧ Hid (Lr = L9 ++ opensB (l.take j)) ∧ CW wr p vr (some Lr) ∧ Hid (Pens wr ad l) ∧ Below gh w wr ∧ Hid (gh ≤ wr.heap.size)) (fun ix _ => n - (intOf ix).toNat)
    case atStart => exact ⟨0, v9, L9, Nat.zero_le _, rfl, (by show _ = _; simp [opensB]), hC9, HS9.out, gb9, (by show _ ≤ _; have := hC9.lt; have := HP.out; omega)⟩
    case round =>
      obtain ⟨j, vr, Lr, hj, rfl, ELr, hCr, hSr, gbr, hsr⟩ := hrel
      clear gb9 hC9 HS9 G9
      have hlr : Hid (Lr.length ≤ 59 + 49 * n) := by
        show _ ≤ _
        rw [ELr.out, List.length_append, HL9.out, opensB_length, List.length_take]
        have : min j l.length ≤ n := by rw [HN.out]; omega
        omega
      by_cases hlt : j < n
      · have hd : decide ((j : Int) < (n : Int)) = true := decide_eq_true (by omega)
        have hd2 : decide (j < n) = true := decide_eq_true hlt
        have hk0 : (0 : Int) ≤ (j : Int) := by omega
        have hk1 : (j : Int) < (n : Int) := by omega
        obtain ⟨s, hs⟩ : ∃ s, l[j]? = some s := ⟨_, List.getElem?_eq_getElem (by rw [HN.out]; exact hlt)⟩
        obtain ⟨b, o, rfl, hb1, hA⟩ := hSr.out.get j s hs
        have HS := hide hs
        have HA := hide hA
        have HJ := hide hlt
        have hbp := HB0.out ⟨b, o, none⟩ rfl (by omega)
        obtain ⟨w6, w7, hW6, q1, hW7, r7, rb⟩ := newP wr s
        have Q1 := hide q1
        have R7 := hide r7
        have hC7 := hCr.below rb
        have gb7 : Below gh w w7 := gbr.trans (rb.mono hsr.out)
        have hS7 := hide (hSr.out.below rb)
        clear hs hA q1 r7 hb1
        go_wp2_with (first | (rw [hW7]; refine wpW_load_at 186 _ rfl (wr.heap.size) (0) (by rfl) (by rfl) _ 35 _ (R7.out.at_ 0 (by omega) (fun i hi => by rw [Nat.zero_add])) Tryz.underlying186 rfl infoP ?_) | refine wpW_load_at 186 _ rfl (b) (o + j * 35) (by rfl) (by rfl) _ 35 _ (HA.out) Tryz.underlying186 rfl infoP ?_ | refine wpList_storeP rfl _ _ rfl rfl (wr.heap.size) (s) rfl rfl _ Q1.out ?_ | fail)
        refine (lay_any s p vr Lr _ hC7 (by have := hlr.out; omega)).mono ?_
        rintro e w8 ⟨rfl, v8, hC8, hM8⟩
        have hsz7 : gh ≤ w7.heap.size := Nat.le_trans hsr.out rb.size
        have gb8 := below_mw gb7 hM8 (by have := HP.out; omega) hsz7 hC7
        have hS8 := hS7.out.mw hM8 hC7 (fun a ha _ => by cases ha; exact hbp)
        have hsz8 : gh ≤ w8.heap.size := Nat.le_trans hsz7 hM8.size
        clear hM8 hC7 gb7 hS7 hsz7 hW6 hW7 Q1 R7 rb
        go_wp2
        go_roundw
        case rel => exact ⟨j + 1, v8, _, by have := HJ.out; omega, by go_num, (by show _ = _; rw [opensB_next HS.out, ELr.out, List.append_assoc]), hC8, hS8, gb8, hsz8⟩
        case measure => have := HJ.out; simp [intOf]; omega
      · have hjn : j = n := by omega
        subst hjn
        have hd : decide ((j : Int) < (j : Int)) = false := decide_eq_false (by omega)
        have hd2 : decide (j < j) = false := decide_eq_false (by omega)
        go_wp2_with fail
        refine (Cu.wOut p vr (some Lr) _ hCr).mono ?_
        rintro e w20 ⟨rfl, hb20⟩
        have gb20 := gbr.trans (hb20.mono hsr.out)
        have et : l.take j = l := by rw [← HN.out]; exact List.take_length
        have eo : Cu.outS (some Lr) = ofL (textB oo nn h x y l) := by
          have h1 := ELr.out
          rw [et, EH.out] at h1
          unfold textB
          rw [HN.out, ← h1]
          simp [Cu.outS, ofL]
        have ee : Cu.outE (some Lr) = 0 := rfl
        rw [eo, ee]
        clear eo ee hb20 et
        go_wp2
        go_ret2
        exact ⟨_, _, rfl, ⟨fun h => absurd HA.out h, fun _ h => absurd HSD.out h, fun _ _ => ⟨rfl, rfl⟩⟩, (by rw [hgh]; exact gb20)⟩
end Go.Proofs.YtmmcoedgoekhgaaGreatDoor
