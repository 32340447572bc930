/-
  The walk of CursorReads.
-/
import Derived.Test.YtmcnempkddahcaaReadsStep
import Derived.Test.YtmcnempkddahcaaHead
namespace Go.Proofs.Ytmcnempkddahcaa
open Go.RowKit
set_option linter.unusedVariables false
def four4 (a b c d : Nat) : Nat → Nat := fun i => if i = 0 then a else if i = 1 then b else if i = 2 then c else d
def vnil4 : Nat → Value := fun _ => .slice none 0 0
theorem cell_kept4 {w0 wr : World} {P : Nat → Nat} {v : Nat → Value} (h : Inv w0 P wr v) (g i : Nat) (hg : g < w0.heap.size) (hn : ∀ i, i < 4 → g ≠ P i) (x : Value) (hc : w0.cell? ⟨g, i, none⟩ = some x) : wr.cell? ⟨g, i, none⟩ = some x := by
  rw [World.cell?_of_block (w := w0) (h.block g hg hn)]; exact hc
structure StR (w0 : World) (P : Nat → Nat) (wr : World) (st : Nat → RS) : Prop where
  inv : Inv w0 P wr vnil4
  code : ∀ i, i < 2 → CR wr (P i) (st i)
  ref : ∀ i, i < 2 → RR wr (P (i + 2)) (st i)
  sz : ∀ i, i < 2 → (st i).1.size ≤ 281474976710656
theorem StR.below {w0 wr w1 : World} {P : Nat → Nat} {st : Nat → RS} (h : StR w0 P wr st) (hb : Below wr.heap.size wr w1) : StR w0 P w1 st :=
  ⟨h.inv.below hb, fun i hi => (h.code i hi).below hb, fun i hi => (h.ref i hi).below hb, h.sz⟩
theorem StR.step {w0 wr w1 : World} {P : Nat → Nat} {st : Nat → RS} {s' : RS} (hP : Pts w0 P) (h : StR w0 P wr st) (i : Nat) (hi : i < 2) (hM : Mq (P i) (P (i + 2)) wr w1) (hC : CR w1 (P i) s') (hR : RR w1 (P (i + 2)) s') (hz : s'.1.size ≤ 281474976710656) : StR w0 P w1 (upd st i s') := by
  have hs := h.inv.size
  refine ⟨⟨hM.os.trans h.inv.os, hM.tape.trans h.inv.tape, hM.output.trans h.inv.output, Nat.le_trans h.inv.size hM.size, fun j _ k hk => by simp [vnil4, Value.ownBlock] at hk, fun a b _ _ _ k hk => by simp [vnil4, Value.ownBlock] at hk, fun k hk hn => (hM.block k (by omega) (hn i (by omega)) (hn (i + 2) (by omega))).trans (h.inv.block k hk hn)⟩, fun j hj => ?_, fun j hj => ?_, fun j hj => ?_⟩
  · by_cases e : j = i
    · subst e; rw [upd_same]; exact hC
    · rw [upd_ne _ _ _ _ e]
      have hl := hP.lt j (by omega)
      exact (h.code j hj).same (hM.block (P j) (by omega) (hP.inj j i (by omega) (by omega) e) (hP.inj j (i + 2) (by omega) (by omega) (by omega)))
  · by_cases e : j = i
    · subst e; rw [upd_same]; exact hR
    · rw [upd_ne _ _ _ _ e]
      have hl := hP.lt (j + 2) (by omega)
      exact (h.ref j hj).same (hM.block (P (j + 2)) (by omega) (hP.inj (j + 2) i (by omega) (by omega) (by omega)) (hP.inj (j + 2) (i + 2) (by omega) (by omega) (by omega)))
  · by_cases e : j = i
    · subst e; rw [upd_same]; exact hz
    · rw [upd_ne _ _ _ _ e]; exact h.sz j hj
attribute [local go_sem ↓] Go.wp_at_zero Go.wp_at_succ
set_option maxRecDepth 5000 in
set_option maxHeartbeats 32000000 in
theorem reads_num (one two : ByteArray) (h1s : one.size ≤ 140737488351232) (h2s : two.size ≤ 140737488351232) (ad : Option Addr) (c : Nat) (os : List OL) (w : World) (hst : Ops w ad os) (hn : os.length ≤ 140737488351232) :
    Calls Try.prog 8 #[.string one, .string two, .slice ad os.length c] w fun e w' => e = .returned (.bool true) ∧ Below w.heap.size w w' := by
  have HST := hide hst
  have HS1 := hide h1s
  have HS2 := hide h2s
  clear hst h1s h2s
  go_enter Try.func8, Try.ntmps8
  go_wp2_with fail
  refine (head_any _).mono ?_
  rintro e w1 ⟨rfl, hb1⟩
  obtain ⟨n0, hn0⟩ : ∃ n0, w1.heap.size = n0 := ⟨_, rfl⟩
  have hw0 : w.heap.size ≤ n0 := by have := hb1.size; omega
  go_wp2_with fail
  refine (rOpen one _).mono ?_
  rintro e w2 ⟨rfl, hC0, hb2, hz2⟩
  rw [hn0] at hC0 hb2 hz2 ⊢
  go_wp2_with fail
  refine (rOpen two _).mono ?_
  rintro e w3 ⟨rfl, hC1, hb3, hz3⟩
  rw [hz2] at hC1 hb3 hz3 ⊢
  go_wp2_with fail
  refine (xOpen one _).mono ?_
  rintro e w4 ⟨rfl, hR0, hb4, hz4⟩
  have hA3 : (w3.alloc (.cells #[.pointer (some ⟨n0, 0, none⟩), .pointer (some ⟨n0 + 1, 0, none⟩)] 72)).heap.size = n0 + 1 + 1 + 1 := by simp; omega
  have cA : ∀ i : Nat, i < 2 → (w3.alloc (.cells #[.pointer (some ⟨n0, 0, none⟩), .pointer (some ⟨n0 + 1, 0, none⟩)] 72)).cell? ⟨n0 + 1 + 1, i, none⟩ = some (.pointer (some ⟨n0 + i, 0, none⟩)) := fun i hi => by
    have := cell_of_row (w3.alloc (.cells #[.pointer (some ⟨n0, 0, none⟩), .pointer (some ⟨n0 + 1, 0, none⟩)] 72)) (n0 + 1 + 1) i _ 72 (0, 0) (by rw [← hz3]; exact heap_alloc_new w3 _)
    rw [this]
    rcases (show i = 0 ∨ i = 1 by omega) with rfl | rfl <;> rfl
  have hC0' := (hC0.below (w' := w3) (by rw [hz2]; exact hb3)).below (w' := w3.alloc (.cells #[.pointer (some ⟨n0, 0, none⟩), .pointer (some ⟨n0 + 1, 0, none⟩)] 72)) ((Below.refl _ _).alloc (Nat.le_refl _) _)
  have hC1' := hC1.below (w' := w3.alloc (.cells #[.pointer (some ⟨n0, 0, none⟩), .pointer (some ⟨n0 + 1, 0, none⟩)] 72)) ((Below.refl _ _).alloc (Nat.le_refl _) _)
  have hb3' : Below n0 w1 (w3.alloc (.cells #[.pointer (some ⟨n0, 0, none⟩), .pointer (some ⟨n0 + 1, 0, none⟩)] 72)) := (hb2.trans (hb3.mono (by omega))).alloc (by omega) _
  generalize hW3 : w3.alloc (.cells #[.pointer (some ⟨n0, 0, none⟩), .pointer (some ⟨n0 + 1, 0, none⟩)] 72) = w3' at hC0' hC1' hb3' cA hA3 hR0 hb4 hz4 ⊢
  clear hW3 hC0 hC1 hb2 hb3
  rw [hA3] at hR0 hb4 hz4 ⊢
  have cA4 : ∀ i : Nat, i < 2 → w4.cell? ⟨n0 + 1 + 1, i, none⟩ = some (.pointer (some ⟨n0 + i, 0, none⟩)) := fun i hi => (hb4.cell (p := ⟨n0 + 1 + 1, i, none⟩) (by show n0 + 1 + 1 < _; omega)).trans (cA i hi)
  have hC0'' := hC0'.below (by rw [hA3]; exact hb4)
  have hC1'' := hC1'.below (by rw [hA3]; exact hb4)
  have hb4' := hb3'.trans (hb4.mono (by omega))
  clear hC0' hC1' cA hb4 hb3'
  go_wp2_with fail
  refine (xOpen two _).mono ?_
  rintro e w5 ⟨rfl, hR1, hb5, hz5⟩
  rw [hz4] at hR1 hb5 hz5 ⊢
  have e5 : Below w4.heap.size w4 w5 := by rw [hz4]; exact hb5
  have cA5 : ∀ i : Nat, i < 2 → w5.cell? ⟨n0 + 1 + 1, i, none⟩ = some (.pointer (some ⟨n0 + i, 0, none⟩)) := fun i hi => (hb5.cell (p := ⟨n0 + 1 + 1, i, none⟩) (by show n0 + 1 + 1 < _; omega)).trans (cA4 i hi)
  have hC0 := hC0''.below e5
  have hC1 := hC1''.below e5
  have hR0 := hR0.below e5
  have hb5' := hb4'.trans (hb5.mono (by omega))
  clear hC0'' hC1'' cA4 e5 hb4' hb5
  have fin : ∀ W0 : World, W0 = w5.alloc (.cells #[.pointer (some ⟨n0 + 1 + 1 + 1, 0, none⟩), .pointer (some ⟨n0 + 1 + 1 + 1 + 1, 0, none⟩)] 75) → W0.heap.size = n0 + 6 ∧ (∀ i : Nat, i < 2 → W0.cell? ⟨n0 + 1 + 1, i, none⟩ = some (.pointer (some ⟨n0 + i, 0, none⟩))) ∧ (∀ i : Nat, i < 2 → W0.cell? ⟨n0 + 1 + 1 + 1 + 1 + 1, i, none⟩ = some (.pointer (some ⟨n0 + 3 + i, 0, none⟩))) ∧ Below n0 w1 W0 ∧ StR W0 (four4 n0 (n0 + 1) (n0 + 1 + 1 + 1) (n0 + 1 + 1 + 1 + 1)) W0 (fun i => if i = 0 then (one, 0) else (two, 0)) := fun W0 hW => by
    have hb6 : Below w5.heap.size w5 W0 := by rw [hW]; exact (Below.refl _ _).alloc (Nat.le_refl _) _
    have hsz : W0.heap.size = n0 + 6 := by rw [hW]; simp; omega
    refine ⟨hsz, fun i hi => (hb6.cell (p := ⟨n0 + 1 + 1, i, none⟩) (by show n0 + 1 + 1 < _; omega)).trans (cA5 i hi), fun i hi => ?_, hb5'.trans (hb6.mono (by omega)), ?_⟩
    · have := cell_of_row W0 (n0 + 1 + 1 + 1 + 1 + 1) i _ 75 (0, 0) (by rw [hW, ← hz5]; exact heap_alloc_new w5 _)
      rw [this]
      rcases (show i = 0 ∨ i = 1 by omega) with rfl | rfl <;> rfl
    · refine ⟨⟨rfl, rfl, rfl, Nat.le_refl _, fun i _ k hk => by simp [vnil4, Value.ownBlock] at hk, fun i j _ _ _ k hk => by simp [vnil4, Value.ownBlock] at hk, fun _ _ _ => rfl⟩, fun i hi => ?_, fun i hi => ?_, fun i hi => ?_⟩
      · rcases (show i = 0 ∨ i = 1 by omega) with rfl | rfl
        · exact hC0.below hb6
        · exact hC1.below hb6
      · rcases (show i = 0 ∨ i = 1 by omega) with rfl | rfl
        · exact hR0.below hb6
        · exact hR1.below hb6
      · rcases (show i = 0 ∨ i = 1 by omega) with rfl | rfl
        · show one.size ≤ _; have := HS1.out; omega
        · show two.size ≤ _; have := HS2.out; omega
  have FIN := hide fin
  clear fin hC0 hC1 hR0 hR1 cA5 hb5' hz2 hz3 hz4 hA3 hn0
  obtain ⟨W0, hW0⟩ : ∃ W0, W0 = w5.alloc (.cells #[.pointer (some ⟨n0 + 1 + 1 + 1, 0, none⟩), .pointer (some ⟨n0 + 1 + 1 + 1 + 1, 0, none⟩)] 75) := ⟨_, rfl⟩
  obtain ⟨f1, f2, f3, f4, f5⟩ := FIN.out W0 hW0
  have g0 := f2 0 (by omega)
  have g1 := f2 1 (by omega)
  rw [hW0] at g0 g1
  go_wp2
  rw [← hW0]
  have kb0 : Below w.heap.size w W0 := hb1.trans (f4.mono hw0)
  have KB0 := hide kb0
  have HPT : Hid (Pts W0 (four4 n0 (n0 + 1) (n0 + 1 + 1 + 1) (n0 + 1 + 1 + 1 + 1))) := ⟨fun i hi => by rw [f1]; unfold four4; (repeat' split) <;> omega, fun i j hi hj hij => by unfold four4; (repeat' split) <;> omega⟩
  have HPN : Hid (∀ i, i < 4 → w.heap.size ≤ four4 n0 (n0 + 1) (n0 + 1 + 1 + 1) (n0 + 1 + 1 + 1 + 1) i) := fun i hi => by unfold four4; (repeat' split) <;> omega
  have HAA : Hid (∀ (wr : World) (v : Nat → Value) (i : Nat), i < 2 → Inv W0 (four4 n0 (n0 + 1) (n0 + 1 + 1 + 1) (n0 + 1 + 1 + 1 + 1)) wr v → wr.cell? ⟨n0 + 1 + 1, i, none⟩ = some (.pointer (some ⟨n0 + i, 0, none⟩))) := fun wr v i hi hI => cell_kept4 hI (n0 + 1 + 1) i (by omega) (fun i hi => by unfold four4; (repeat' split) <;> omega) _ (f2 i hi)
  have HBB : Hid (∀ (wr : World) (v : Nat → Value) (i : Nat), i < 2 → Inv W0 (four4 n0 (n0 + 1) (n0 + 1 + 1 + 1) (n0 + 1 + 1 + 1 + 1)) wr v → wr.cell? ⟨n0 + 1 + 1 + 1 + 1 + 1, i, none⟩ = some (.pointer (some ⟨n0 + 3 + i, 0, none⟩))) := fun wr v i hi hI => cell_kept4 hI (n0 + 1 + 1 + 1 + 1 + 1) i (by omega) (fun i hi => by unfold four4; (repeat' split) <;> omega) _ (f3 i hi)
  clear f1 f2 f3 f4 kb0 hW0 FIN g0 g1 hb1 hw0 hz5
  obtain ⟨P, hP⟩ : ∃ P, four4 n0 (n0 + 1) (n0 + 1 + 1 + 1) (n0 + 1 + 1 + 1 + 1) = P := ⟨_, rfl⟩
  have HP0 : Hid (n0 = P 0) := by rw [← hP]; rfl
  have HP1 : Hid (n0 + 1 = P 1) := by rw [← hP]; rfl
  have HP2 : Hid (n0 + 3 = P 2) := by rw [← hP]; rfl
  have HP3 : Hid (n0 + 3 + 1 = P 3) := by rw [← hP]; rfl
  rw [hP] at f5 HPT HPN HAA HBB
  obtain ⟨A, hA⟩ : ∃ A, n0 + 1 + 1 = A := ⟨_, rfl⟩
  obtain ⟨B, hB⟩ : ∃ B, n0 + 1 + 1 + 1 + 1 + 1 = B := ⟨_, rfl⟩
  rw [hB] at HBB ⊢
  rw [hA] at HAA ⊢
  clear hA hB hP
  go_loopw [9] (fun i wr => ∃ k : Nat, k ≤ os.length ∧ i = .int .i64 (k : Int) ∧ ∃ st, StR W0 P wr st) (fun i _ => os.length - (intOf i).toNat)
  case atStart => exact ⟨0, by omega, rfl, _, f5⟩
  case round =>
    clear f5
    obtain ⟨k, hk, rfl, st, hS⟩ := hrel
    by_cases hlt : k < os.length
    · have hd : decide ((k : Int) < (os.length : Int)) = true := decide_eq_true (by omega)
      obtain ⟨b, o, rfl, hbl, hat⟩ := HST.out.get k hlt
      have hk0 : (0 : Int) ≤ (k : Int) := by omega
      have hk1 : (k : Int) < (os.length : Int) := by omega
      obtain ⟨O, hO⟩ : ∃ O, os[k] = O := ⟨_, rfl⟩
      rw [hO] at hat
      have HARG : Hid (∀ (wr : World) (v : Nat → Value), Inv W0 P wr v → At wr b (o + k * 40) (ov O) 40) := fun wr v hI => hat.below (hI.old KB0.out HPN.out) hbl
      have c2 := op_two (HARG.out wr _ hS.inv)
      clear hat hO
      rcases htw : O.two with _ | _
      · have CAT : Hid (∀ (wr : World) (v : Nat → Value), Inv W0 P wr v → wr.cell? ⟨A, 0, none⟩ = some (.pointer (some ⟨P 0, 0, none⟩))) := fun wr v hI => by
          have := HAA.out wr v 0 (by omega) hI
          rw [show n0 + 0 = P 0 from HP0.out] at this
          exact this
        have CBT : Hid (∀ (wr : World) (v : Nat → Value), Inv W0 P wr v → wr.cell? ⟨B, 0, none⟩ = some (.pointer (some ⟨P 2, 0, none⟩))) := fun wr v hI => by
          have := HBB.out wr v 0 (by omega) hI
          rw [show n0 + 3 + 0 = P 2 from HP2.out] at this
          exact this
        rw [htw] at c2
        have hSd : StR W0 P wr.drew st := hS.below (Below.refl wr.heap.size wr).drew
        have HNE := hide (HPT.out.inj 0 (0 + 2) (by omega) (by omega) (by omega))
        go_wp2
        refine wp_region_noPanic ?_
        refine wp_region_held_drew (S := fun wx => wx.cell? ⟨A, 0, none⟩ = some (.pointer (some ⟨P 0, 0, none⟩)) ∧ wx.cell? ⟨B, 0, none⟩ = some (.pointer (some ⟨P 2, 0, none⟩)) ∧ At wx b (o + k * 40) (ov O) 40) (by kernel_rfl) ⟨CAT.out _ _ hSd.inv, CBT.out _ _ hSd.inv, HARG.out _ _ hSd.inv⟩ (fun hHeld => ?_)
        refine takeH 0 (some 43) (.int .i64 0) rfl rfl (by kernel_rfl) (by kernel_rfl) (by kernel_rfl) (fun _ _ _ h => h) (by rfl) (fun w hw => by first | rfl | (go_simp; done) | (go_simp; rfl)) hHeld ?_
        simp only [Act.put, List.setIfInBounds_toArray, List.set_cons_zero, List.set_cons_succ]
        refine takeH 1 (some 44) (.pointer (some ⟨A, 0, none⟩)) rfl rfl (by kernel_rfl) (by kernel_rfl) (by kernel_rfl) (fun _ _ _ h => h) (by rfl) (fun w hw => by first | rfl | (go_simp; done) | (go_simp; rfl)) hHeld ?_
        simp only [Act.put, List.setIfInBounds_toArray, List.set_cons_zero, List.set_cons_succ]
        refine takeH 2 (some 45) (.pointer (some ⟨P 0, 0, none⟩)) rfl rfl (by kernel_rfl) (by kernel_rfl) (by kernel_rfl) (fun _ _ _ h => h) (by rfl) (fun w hw => by have hd := hw.1; first | (go_simp; done) | (go_simp; rfl)) hHeld ?_
        simp only [Act.put, List.setIfInBounds_toArray, List.set_cons_zero, List.set_cons_succ]
        refine takeH 3 (some 46) (.int .i64 0) rfl rfl (by kernel_rfl) (by kernel_rfl) (by kernel_rfl) (fun _ _ _ h => h) (by rfl) (fun w hw => by first | rfl | (go_simp; done) | (go_simp; rfl)) hHeld ?_
        simp only [Act.put, List.setIfInBounds_toArray, List.set_cons_zero, List.set_cons_succ]
        refine takeH 4 (some 47) (.pointer (some ⟨B, 0, none⟩)) rfl rfl (by kernel_rfl) (by kernel_rfl) (by kernel_rfl) (fun _ _ _ h => h) (by rfl) (fun w hw => by first | rfl | (go_simp; done) | (go_simp; rfl)) hHeld ?_
        simp only [Act.put, List.setIfInBounds_toArray, List.set_cons_zero, List.set_cons_succ]
        refine takeH 5 (some 48) (.pointer (some ⟨P 2, 0, none⟩)) rfl rfl (by kernel_rfl) (by kernel_rfl) (by kernel_rfl) (fun _ _ _ h => h) (by rfl) (fun w hw => by have hd := hw.2.1; first | (go_simp; done) | (go_simp; rfl)) hHeld ?_
        simp only [Act.put, List.setIfInBounds_toArray, List.set_cons_zero, List.set_cons_succ]
        refine takeH 6 (some 49) (.slice (some ⟨b, o, none⟩) os.length c) rfl rfl (by kernel_rfl) (by kernel_rfl) (by kernel_rfl) (fun _ _ _ h => h) (by rfl) (fun w hw => by first | rfl | (go_simp; done) | (go_simp; rfl)) hHeld ?_
        simp only [Act.put, List.setIfInBounds_toArray, List.set_cons_zero, List.set_cons_succ]
        refine takeH 7 (some 50) (.int .i64 (k : Int)) rfl rfl (by kernel_rfl) (by kernel_rfl) (by kernel_rfl) (fun _ _ _ h => h) (by rfl) (fun w hw => by first | rfl | (go_simp; done) | (go_simp; rfl)) hHeld ?_
        simp only [Act.put, List.setIfInBounds_toArray, List.set_cons_zero, List.set_cons_succ]
        refine takeH 8 (some 51) (.pointer (some ⟨b, o + k * 40, none⟩)) rfl rfl (by kernel_rfl) (by kernel_rfl) (by kernel_rfl) (fun _ _ _ h => h) (by rfl) (fun w hw => by first | rfl | (go_simp; done) | (go_simp; rfl)) hHeld ?_
        simp only [Act.put, List.setIfInBounds_toArray, List.set_cons_zero, List.set_cons_succ]
        refine takeH 9 (some 52) (.agg (tabv (ov O) 40)) rfl rfl (by kernel_rfl) (by kernel_rfl) (by kernel_rfl) (fun _ _ _ h => h) (by rfl) (fun w hw => run_load_at w 69 _ rfl b (o + k * 40) (by rfl) _ 40 _ hw.2.2 Try.underlying69 rfl info69) hHeld ?_
        simp only [Act.put, List.setIfInBounds_toArray, List.set_cons_zero, List.set_cons_succ]
        refine wpAnyH_ready (rs := [10]) (by kernel_rfl) (by simp) (AllReadyH.cons rfl (fun K hK => ?_) AllReadyH.nil)
        rw [if_pos (by rfl)]
        go_simp
        refine (reads_any O (P 0) (P 2) HNE.out (st 0) wr.drew (hSd.code 0 (by omega)) (hSd.ref 0 (by omega)) (hSd.sz 0 (by omega))).mono ?_
        rintro e w6 ⟨rfl, hC6, hR6, hM6⟩
        have h6 := hSd.step HPT.out 0 (by omega) hM6 hC6 hR6 (Nat.le_trans (rdS_size _ _ _) (hSd.sz 0 (by omega)))
        try go_wp2_with fail
        refine hK.out _ _ ⟨CAT.out _ _ h6.inv, CBT.out _ _ h6.inv, HARG.out _ _ h6.inv⟩ (fun hHeld => ?_)
        clear hK K
        refine takeH 11 (some 54) (.bool false) rfl rfl (by kernel_rfl) (by kernel_rfl) (by kernel_rfl) (fun _ _ _ h => h) (by rfl) (fun w hw => by first | rfl | (go_simp; done) | (go_simp; rfl)) hHeld ?_
        simp only [Act.put, List.setIfInBounds_toArray, List.set_cons_zero, List.set_cons_succ]
        refine ⟨by kernel_rfl, ?_⟩
        refine NoPanic.normal ?_
        clear hS hSd hM6 hC6 hR6 c2 CAT CBT HARG HNE
        generalize upd st 0 (rdS O.K O.N (st 0)) = sn at h6
        go_wp2
        go_loopw [11] (fun i wr => ∃ j : Nat, j ≤ 2 ∧ i = .int .i64 (j : Int) ∧ StR W0 P wr sn) (fun i _ => 2 - (intOf i).toNat)
        case atStart => exact ⟨0, by omega, rfl, h6⟩
        case round =>
          clear h6
          obtain ⟨j, hj, rfl, hS⟩ := hrel
          rcases (show j = 0 ∨ j = 1 ∨ j = 2 by omega) with rfl | rfl | rfl
          · have CA : Hid (∀ (wr : World) (v : Nat → Value), Inv W0 P wr v → wr.cell? ⟨A, 0, none⟩ = some (.pointer (some ⟨P 0, 0, none⟩))) := fun wr v hI => by
              have := HAA.out wr v 0 (by omega) hI
              rw [show n0 + 0 = P 0 from HP0.out] at this
              exact this
            have CB : Hid (∀ (wr : World) (v : Nat → Value), Inv W0 P wr v → wr.cell? ⟨B, 0, none⟩ = some (.pointer (some ⟨P 2, 0, none⟩))) := fun wr v hI => by
              have := HBB.out wr v 0 (by omega) hI
              rw [show n0 + 3 + 0 = P 2 from HP2.out] at this
              exact this
            have h9 : StR W0 P wr.drew sn := hS.below (Below.refl wr.heap.size wr).drew
            obtain ⟨EE, hEE⟩ : ∃ EE : Int, (sn 0).2 = EE := ⟨_, rfl⟩
            obtain ⟨SS, hSS⟩ : ∃ SS, (sn 0).1 = SS := ⟨_, rfl⟩
            obtain ⟨DD, hDD⟩ : ∃ DD : Int, doneS (sn 0) = DD := ⟨_, rfl⟩
            have HE1 := hide (rErr (P 0) _ _ (h9.code 0 (by omega)))
            have HE2 := hide (xErr (P 2) _ _ (h9.ref 0 (by omega)))
            have HR1 := hide (rRest (P 0) _ _ (h9.code 0 (by omega)) (h9.sz 0 (by omega)))
            have HR2 := hide (fun (w : World) (h : StR W0 P w sn) => xRest (P 2) _ w (h.ref 0 (by omega)))
            have HD1 := hide (fun (w : World) (h : StR W0 P w sn) => rDone (P 0) _ w (h.code 0 (by omega)))
            have HD2 := hide (fun (w : World) (h : StR W0 P w sn) => xDone (P 2) _ w (h.ref 0 (by omega)))
            rw [hEE] at HE1 HE2
            rw [hSS] at HR1 HR2
            rw [hDD] at HD1 HD2
            clear hS hEE hSS hDD
            go_wp2
            refine wp_region_noPanic ?_
            refine wp_region_held_drew (S := fun wx => wx.cell? ⟨A, 0, none⟩ = some (.pointer (some ⟨P 0, 0, none⟩)) ∧ wx.cell? ⟨B, 0, none⟩ = some (.pointer (some ⟨P 2, 0, none⟩))) (by kernel_rfl) ⟨CA.out _ _ h9.inv, CB.out _ _ h9.inv⟩ (fun hHeld => ?_)
            refine takeH 0 (some 59) (.int .i64 0) rfl rfl (by kernel_rfl) (by kernel_rfl) (by kernel_rfl) (fun _ _ _ h => h) (by rfl) (fun w hw => by first | rfl | (go_simp; done) | (go_simp; rfl)) hHeld ?_
            simp only [Act.put, List.setIfInBounds_toArray, List.set_cons_zero, List.set_cons_succ]
            refine takeH 1 (some 60) (.pointer (some ⟨A, 0, none⟩)) rfl rfl (by kernel_rfl) (by kernel_rfl) (by kernel_rfl) (fun _ _ _ h => h) (by rfl) (fun w hw => by first | rfl | (go_simp; done) | (go_simp; rfl)) hHeld ?_
            simp only [Act.put, List.setIfInBounds_toArray, List.set_cons_zero, List.set_cons_succ]
            refine takeH 2 (some 61) (.pointer (some ⟨P 0, 0, none⟩)) rfl rfl (by kernel_rfl) (by kernel_rfl) (by kernel_rfl) (fun _ _ _ h => h) (by rfl) (fun w hw => by have hd := hw.1; first | (go_simp; done) | (go_simp; rfl)) hHeld ?_
            simp only [Act.put, List.setIfInBounds_toArray, List.set_cons_zero, List.set_cons_succ]
            refine takeH 4 (some 63) (.int .i64 0) rfl rfl (by kernel_rfl) (by kernel_rfl) (by kernel_rfl) (fun _ _ _ h => h) (by rfl) (fun w hw => by first | rfl | (go_simp; done) | (go_simp; rfl)) hHeld ?_
            simp only [Act.put, List.setIfInBounds_toArray, List.set_cons_zero, List.set_cons_succ]
            refine takeH 5 (some 64) (.pointer (some ⟨B, 0, none⟩)) rfl rfl (by kernel_rfl) (by kernel_rfl) (by kernel_rfl) (fun _ _ _ h => h) (by rfl) (fun w hw => by first | rfl | (go_simp; done) | (go_simp; rfl)) hHeld ?_
            simp only [Act.put, List.setIfInBounds_toArray, List.set_cons_zero, List.set_cons_succ]
            refine takeH 6 (some 65) (.pointer (some ⟨P 2, 0, none⟩)) rfl rfl (by kernel_rfl) (by kernel_rfl) (by kernel_rfl) (fun _ _ _ h => h) (by rfl) (fun w hw => by have hd := hw.2; first | (go_simp; done) | (go_simp; rfl)) hHeld ?_
            simp only [Act.put, List.setIfInBounds_toArray, List.set_cons_zero, List.set_cons_succ]
            refine wpAnyH_ready (rs := [3]) (by kernel_rfl) (by simp) (AllReadyH.cons rfl (fun K hK => ?_) AllReadyH.nil)
            rw [if_pos (by rfl)]
            go_simp
            refine (HE1.out).mono ?_
            rintro e wx ⟨rfl, rfl⟩
            try go_wp2_with fail
            refine hK.out _ _ ⟨CA.out _ _ h9.inv, CB.out _ _ h9.inv⟩ (fun hHeld => ?_)
            clear hK K
            refine wpAnyH_ready (rs := [7]) (by kernel_rfl) (by simp) (AllReadyH.cons rfl (fun K hK => ?_) AllReadyH.nil)
            rw [if_pos (by rfl)]
            go_simp
            refine (HE2.out).mono ?_
            rintro e wx ⟨rfl, rfl⟩
            try go_wp2_with fail
            refine hK.out _ _ ⟨CA.out _ _ h9.inv, CB.out _ _ h9.inv⟩ (fun hHeld => ?_)
            clear hK K
            refine takeH 8 (some 67) (.bool false) rfl rfl (by kernel_rfl) (by kernel_rfl) (by kernel_rfl) (fun _ _ _ h => h) (by rfl) (fun w hw => by first | rfl | (go_simp; done) | (go_simp; rfl)) hHeld ?_
            simp only [Act.put, List.setIfInBounds_toArray, List.set_cons_zero, List.set_cons_succ]
            refine takeH 9 (some 68) (.bool false) rfl rfl (by kernel_rfl) (by kernel_rfl) (by kernel_rfl) (fun _ _ _ h => h) (by rfl) (fun w hw => by first | rfl | (go_simp; done) | (go_simp; rfl)) hHeld ?_
            simp only [Act.put, List.setIfInBounds_toArray, List.set_cons_zero, List.set_cons_succ]
            refine takeH 10 (some 69) (.int .i64 0) rfl rfl (by kernel_rfl) (by kernel_rfl) (by kernel_rfl) (fun _ _ _ h => h) (by rfl) (fun w hw => by first | rfl | (go_simp; done) | (go_simp; rfl)) hHeld ?_
            simp only [Act.put, List.setIfInBounds_toArray, List.set_cons_zero, List.set_cons_succ]
            refine takeH 11 (some 70) (.pointer (some ⟨A, 0, none⟩)) rfl rfl (by kernel_rfl) (by kernel_rfl) (by kernel_rfl) (fun _ _ _ h => h) (by rfl) (fun w hw => by first | rfl | (go_simp; done) | (go_simp; rfl)) hHeld ?_
            simp only [Act.put, List.setIfInBounds_toArray, List.set_cons_zero, List.set_cons_succ]
            refine takeH 12 (some 71) (.pointer (some ⟨P 0, 0, none⟩)) rfl rfl (by kernel_rfl) (by kernel_rfl) (by kernel_rfl) (fun _ _ _ h => h) (by rfl) (fun w hw => by have hd := hw.1; first | (go_simp; done) | (go_simp; rfl)) hHeld ?_
            simp only [Act.put, List.setIfInBounds_toArray, List.set_cons_zero, List.set_cons_succ]
            refine takeH 14 (some 73) (.int .i64 0) rfl rfl (by kernel_rfl) (by kernel_rfl) (by kernel_rfl) (fun _ _ _ h => h) (by rfl) (fun w hw => by first | rfl | (go_simp; done) | (go_simp; rfl)) hHeld ?_
            simp only [Act.put, List.setIfInBounds_toArray, List.set_cons_zero, List.set_cons_succ]
            refine takeH 15 (some 74) (.pointer (some ⟨B, 0, none⟩)) rfl rfl (by kernel_rfl) (by kernel_rfl) (by kernel_rfl) (fun _ _ _ h => h) (by rfl) (fun w hw => by first | rfl | (go_simp; done) | (go_simp; rfl)) hHeld ?_
            simp only [Act.put, List.setIfInBounds_toArray, List.set_cons_zero, List.set_cons_succ]
            refine takeH 16 (some 75) (.pointer (some ⟨P 2, 0, none⟩)) rfl rfl (by kernel_rfl) (by kernel_rfl) (by kernel_rfl) (fun _ _ _ h => h) (by rfl) (fun w hw => by have hd := hw.2; first | (go_simp; done) | (go_simp; rfl)) hHeld ?_
            simp only [Act.put, List.setIfInBounds_toArray, List.set_cons_zero, List.set_cons_succ]
            refine wpAnyH_ready (rs := [13]) (by kernel_rfl) (by simp) (AllReadyH.cons rfl (fun K hK => ?_) AllReadyH.nil)
            rw [if_pos (by rfl)]
            go_simp
            refine (HR1.out).mono ?_
            rintro e w10 ⟨rfl, hb10⟩
            have h10 := h9.below hb10
            try go_wp2_with fail
            refine hK.out _ _ ⟨CA.out _ _ h10.inv, CB.out _ _ h10.inv⟩ (fun hHeld => ?_)
            clear hK K
            refine wpAnyH_ready (rs := [17]) (by kernel_rfl) (by simp) (AllReadyH.cons rfl (fun K hK => ?_) AllReadyH.nil)
            rw [if_pos (by rfl)]
            go_simp
            refine (HR2.out _ h10).mono ?_
            rintro e wx ⟨rfl, rfl⟩
            try go_wp2_with fail
            refine hK.out _ _ ⟨CA.out _ _ h10.inv, CB.out _ _ h10.inv⟩ (fun hHeld => ?_)
            clear hK K
            refine takeH 18 (some 77) (.bool false) rfl rfl (by kernel_rfl) (by kernel_rfl) (by kernel_rfl) (fun _ _ _ h => h) (by rfl) (fun w hw => by first | rfl | (go_simp; done) | (go_simp; rfl)) hHeld ?_
            simp only [Act.put, List.setIfInBounds_toArray, List.set_cons_zero, List.set_cons_succ]
            refine takeH 19 (some 78) (.bool false) rfl rfl (by kernel_rfl) (by kernel_rfl) (by kernel_rfl) (fun _ _ _ h => h) (by rfl) (fun w hw => by first | rfl | (go_simp; done) | (go_simp; rfl)) hHeld ?_
            simp only [Act.put, List.setIfInBounds_toArray, List.set_cons_zero, List.set_cons_succ]
            refine takeH 20 (some 79) (.bool false) rfl rfl (by kernel_rfl) (by kernel_rfl) (by kernel_rfl) (fun _ _ _ h => h) (by rfl) (fun w hw => by first | rfl | (go_simp; done) | (go_simp; rfl)) hHeld ?_
            simp only [Act.put, List.setIfInBounds_toArray, List.set_cons_zero, List.set_cons_succ]
            refine takeH 21 (some 80) (.int .i64 0) rfl rfl (by kernel_rfl) (by kernel_rfl) (by kernel_rfl) (fun _ _ _ h => h) (by rfl) (fun w hw => by first | rfl | (go_simp; done) | (go_simp; rfl)) hHeld ?_
            simp only [Act.put, List.setIfInBounds_toArray, List.set_cons_zero, List.set_cons_succ]
            refine takeH 22 (some 81) (.pointer (some ⟨A, 0, none⟩)) rfl rfl (by kernel_rfl) (by kernel_rfl) (by kernel_rfl) (fun _ _ _ h => h) (by rfl) (fun w hw => by first | rfl | (go_simp; done) | (go_simp; rfl)) hHeld ?_
            simp only [Act.put, List.setIfInBounds_toArray, List.set_cons_zero, List.set_cons_succ]
            refine takeH 23 (some 82) (.pointer (some ⟨P 0, 0, none⟩)) rfl rfl (by kernel_rfl) (by kernel_rfl) (by kernel_rfl) (fun _ _ _ h => h) (by rfl) (fun w hw => by have hd := hw.1; first | (go_simp; done) | (go_simp; rfl)) hHeld ?_
            simp only [Act.put, List.setIfInBounds_toArray, List.set_cons_zero, List.set_cons_succ]
            refine takeH 25 (some 84) (.int .i64 0) rfl rfl (by kernel_rfl) (by kernel_rfl) (by kernel_rfl) (fun _ _ _ h => h) (by rfl) (fun w hw => by first | rfl | (go_simp; done) | (go_simp; rfl)) hHeld ?_
            simp only [Act.put, List.setIfInBounds_toArray, List.set_cons_zero, List.set_cons_succ]
            refine takeH 26 (some 85) (.pointer (some ⟨B, 0, none⟩)) rfl rfl (by kernel_rfl) (by kernel_rfl) (by kernel_rfl) (fun _ _ _ h => h) (by rfl) (fun w hw => by first | rfl | (go_simp; done) | (go_simp; rfl)) hHeld ?_
            simp only [Act.put, List.setIfInBounds_toArray, List.set_cons_zero, List.set_cons_succ]
            refine takeH 27 (some 86) (.pointer (some ⟨P 2, 0, none⟩)) rfl rfl (by kernel_rfl) (by kernel_rfl) (by kernel_rfl) (fun _ _ _ h => h) (by rfl) (fun w hw => by have hd := hw.2; first | (go_simp; done) | (go_simp; rfl)) hHeld ?_
            simp only [Act.put, List.setIfInBounds_toArray, List.set_cons_zero, List.set_cons_succ]
            refine wpAnyH_ready (rs := [24]) (by kernel_rfl) (by simp) (AllReadyH.cons rfl (fun K hK => ?_) AllReadyH.nil)
            rw [if_pos (by rfl)]
            go_simp
            refine (HD1.out _ h10).mono ?_
            rintro e wx ⟨rfl, rfl⟩
            try go_wp2_with fail
            refine hK.out _ _ ⟨CA.out _ _ h10.inv, CB.out _ _ h10.inv⟩ (fun hHeld => ?_)
            clear hK K
            refine wpAnyH_ready (rs := [28]) (by kernel_rfl) (by simp) (AllReadyH.cons rfl (fun K hK => ?_) AllReadyH.nil)
            rw [if_pos (by rfl)]
            go_simp
            refine (HD2.out _ h10).mono ?_
            rintro e wx ⟨rfl, rfl⟩
            try go_wp2_with fail
            refine hK.out _ _ ⟨CA.out _ _ h10.inv, CB.out _ _ h10.inv⟩ (fun hHeld => ?_)
            clear hK K
            refine takeH 29 (some 88) (.bool false) rfl rfl (by kernel_rfl) (by kernel_rfl) (by kernel_rfl) (fun _ _ _ h => h) (by rfl) (fun w hw => by first | rfl | (go_simp; done) | (go_simp; rfl)) hHeld ?_
            simp only [Act.put, List.setIfInBounds_toArray, List.set_cons_zero, List.set_cons_succ]
            refine takeH 30 (some 89) (.bool false) rfl rfl (by kernel_rfl) (by kernel_rfl) (by kernel_rfl) (fun _ _ _ h => h) (by rfl) (fun w hw => by first | rfl | (go_simp; done) | (go_simp; rfl)) hHeld ?_
            simp only [Act.put, List.setIfInBounds_toArray, List.set_cons_zero, List.set_cons_succ]
            refine ⟨by kernel_rfl, ?_⟩
            refine NoPanic.normal ?_
            go_wp2
            go_roundw
            case rel => exact ⟨0 + 1, by omega, by first | rfl | go_num, h10⟩
            case measure => simp [intOf]
          · have CA : Hid (∀ (wr : World) (v : Nat → Value), Inv W0 P wr v → wr.cell? ⟨A, 1, none⟩ = some (.pointer (some ⟨P 1, 0, none⟩))) := fun wr v hI => by
              have := HAA.out wr v 1 (by omega) hI
              rw [show n0 + 1 = P 1 from HP1.out] at this
              exact this
            have CB : Hid (∀ (wr : World) (v : Nat → Value), Inv W0 P wr v → wr.cell? ⟨B, 1, none⟩ = some (.pointer (some ⟨P 3, 0, none⟩))) := fun wr v hI => by
              have := HBB.out wr v 1 (by omega) hI
              rw [show n0 + 3 + 1 = P 3 from HP3.out] at this
              exact this
            have h9 : StR W0 P wr.drew sn := hS.below (Below.refl wr.heap.size wr).drew
            obtain ⟨EE, hEE⟩ : ∃ EE : Int, (sn 1).2 = EE := ⟨_, rfl⟩
            obtain ⟨SS, hSS⟩ : ∃ SS, (sn 1).1 = SS := ⟨_, rfl⟩
            obtain ⟨DD, hDD⟩ : ∃ DD : Int, doneS (sn 1) = DD := ⟨_, rfl⟩
            have HE1 := hide (rErr (P 1) _ _ (h9.code 1 (by omega)))
            have HE2 := hide (xErr (P 3) _ _ (h9.ref 1 (by omega)))
            have HR1 := hide (rRest (P 1) _ _ (h9.code 1 (by omega)) (h9.sz 1 (by omega)))
            have HR2 := hide (fun (w : World) (h : StR W0 P w sn) => xRest (P 3) _ w (h.ref 1 (by omega)))
            have HD1 := hide (fun (w : World) (h : StR W0 P w sn) => rDone (P 1) _ w (h.code 1 (by omega)))
            have HD2 := hide (fun (w : World) (h : StR W0 P w sn) => xDone (P 3) _ w (h.ref 1 (by omega)))
            rw [hEE] at HE1 HE2
            rw [hSS] at HR1 HR2
            rw [hDD] at HD1 HD2
            clear hS hEE hSS hDD
            go_wp2
            refine wp_region_noPanic ?_
            refine wp_region_held_drew (S := fun wx => wx.cell? ⟨A, 1, none⟩ = some (.pointer (some ⟨P 1, 0, none⟩)) ∧ wx.cell? ⟨B, 1, none⟩ = some (.pointer (some ⟨P 3, 0, none⟩))) (by kernel_rfl) ⟨CA.out _ _ h9.inv, CB.out _ _ h9.inv⟩ (fun hHeld => ?_)
            refine takeH 0 (some 59) (.int .i64 1) rfl rfl (by kernel_rfl) (by kernel_rfl) (by kernel_rfl) (fun _ _ _ h => h) (by rfl) (fun w hw => by first | rfl | (go_simp; done) | (go_simp; rfl)) hHeld ?_
            simp only [Act.put, List.setIfInBounds_toArray, List.set_cons_zero, List.set_cons_succ]
            refine takeH 1 (some 60) (.pointer (some ⟨A, 1, none⟩)) rfl rfl (by kernel_rfl) (by kernel_rfl) (by kernel_rfl) (fun _ _ _ h => h) (by rfl) (fun w hw => by first | rfl | (go_simp; done) | (go_simp; rfl)) hHeld ?_
            simp only [Act.put, List.setIfInBounds_toArray, List.set_cons_zero, List.set_cons_succ]
            refine takeH 2 (some 61) (.pointer (some ⟨P 1, 0, none⟩)) rfl rfl (by kernel_rfl) (by kernel_rfl) (by kernel_rfl) (fun _ _ _ h => h) (by rfl) (fun w hw => by have hd := hw.1; first | (go_simp; done) | (go_simp; rfl)) hHeld ?_
            simp only [Act.put, List.setIfInBounds_toArray, List.set_cons_zero, List.set_cons_succ]
            refine takeH 4 (some 63) (.int .i64 1) rfl rfl (by kernel_rfl) (by kernel_rfl) (by kernel_rfl) (fun _ _ _ h => h) (by rfl) (fun w hw => by first | rfl | (go_simp; done) | (go_simp; rfl)) hHeld ?_
            simp only [Act.put, List.setIfInBounds_toArray, List.set_cons_zero, List.set_cons_succ]
            refine takeH 5 (some 64) (.pointer (some ⟨B, 1, none⟩)) rfl rfl (by kernel_rfl) (by kernel_rfl) (by kernel_rfl) (fun _ _ _ h => h) (by rfl) (fun w hw => by first | rfl | (go_simp; done) | (go_simp; rfl)) hHeld ?_
            simp only [Act.put, List.setIfInBounds_toArray, List.set_cons_zero, List.set_cons_succ]
            refine takeH 6 (some 65) (.pointer (some ⟨P 3, 0, none⟩)) rfl rfl (by kernel_rfl) (by kernel_rfl) (by kernel_rfl) (fun _ _ _ h => h) (by rfl) (fun w hw => by have hd := hw.2; first | (go_simp; done) | (go_simp; rfl)) hHeld ?_
            simp only [Act.put, List.setIfInBounds_toArray, List.set_cons_zero, List.set_cons_succ]
            refine wpAnyH_ready (rs := [3]) (by kernel_rfl) (by simp) (AllReadyH.cons rfl (fun K hK => ?_) AllReadyH.nil)
            rw [if_pos (by rfl)]
            go_simp
            refine (HE1.out).mono ?_
            rintro e wx ⟨rfl, rfl⟩
            try go_wp2_with fail
            refine hK.out _ _ ⟨CA.out _ _ h9.inv, CB.out _ _ h9.inv⟩ (fun hHeld => ?_)
            clear hK K
            refine wpAnyH_ready (rs := [7]) (by kernel_rfl) (by simp) (AllReadyH.cons rfl (fun K hK => ?_) AllReadyH.nil)
            rw [if_pos (by rfl)]
            go_simp
            refine (HE2.out).mono ?_
            rintro e wx ⟨rfl, rfl⟩
            try go_wp2_with fail
            refine hK.out _ _ ⟨CA.out _ _ h9.inv, CB.out _ _ h9.inv⟩ (fun hHeld => ?_)
            clear hK K
            refine takeH 8 (some 67) (.bool false) rfl rfl (by kernel_rfl) (by kernel_rfl) (by kernel_rfl) (fun _ _ _ h => h) (by rfl) (fun w hw => by first | rfl | (go_simp; done) | (go_simp; rfl)) hHeld ?_
            simp only [Act.put, List.setIfInBounds_toArray, List.set_cons_zero, List.set_cons_succ]
            refine takeH 9 (some 68) (.bool false) rfl rfl (by kernel_rfl) (by kernel_rfl) (by kernel_rfl) (fun _ _ _ h => h) (by rfl) (fun w hw => by first | rfl | (go_simp; done) | (go_simp; rfl)) hHeld ?_
            simp only [Act.put, List.setIfInBounds_toArray, List.set_cons_zero, List.set_cons_succ]
            refine takeH 10 (some 69) (.int .i64 1) rfl rfl (by kernel_rfl) (by kernel_rfl) (by kernel_rfl) (fun _ _ _ h => h) (by rfl) (fun w hw => by first | rfl | (go_simp; done) | (go_simp; rfl)) hHeld ?_
            simp only [Act.put, List.setIfInBounds_toArray, List.set_cons_zero, List.set_cons_succ]
            refine takeH 11 (some 70) (.pointer (some ⟨A, 1, none⟩)) rfl rfl (by kernel_rfl) (by kernel_rfl) (by kernel_rfl) (fun _ _ _ h => h) (by rfl) (fun w hw => by first | rfl | (go_simp; done) | (go_simp; rfl)) hHeld ?_
            simp only [Act.put, List.setIfInBounds_toArray, List.set_cons_zero, List.set_cons_succ]
            refine takeH 12 (some 71) (.pointer (some ⟨P 1, 0, none⟩)) rfl rfl (by kernel_rfl) (by kernel_rfl) (by kernel_rfl) (fun _ _ _ h => h) (by rfl) (fun w hw => by have hd := hw.1; first | (go_simp; done) | (go_simp; rfl)) hHeld ?_
            simp only [Act.put, List.setIfInBounds_toArray, List.set_cons_zero, List.set_cons_succ]
            refine takeH 14 (some 73) (.int .i64 1) rfl rfl (by kernel_rfl) (by kernel_rfl) (by kernel_rfl) (fun _ _ _ h => h) (by rfl) (fun w hw => by first | rfl | (go_simp; done) | (go_simp; rfl)) hHeld ?_
            simp only [Act.put, List.setIfInBounds_toArray, List.set_cons_zero, List.set_cons_succ]
            refine takeH 15 (some 74) (.pointer (some ⟨B, 1, none⟩)) rfl rfl (by kernel_rfl) (by kernel_rfl) (by kernel_rfl) (fun _ _ _ h => h) (by rfl) (fun w hw => by first | rfl | (go_simp; done) | (go_simp; rfl)) hHeld ?_
            simp only [Act.put, List.setIfInBounds_toArray, List.set_cons_zero, List.set_cons_succ]
            refine takeH 16 (some 75) (.pointer (some ⟨P 3, 0, none⟩)) rfl rfl (by kernel_rfl) (by kernel_rfl) (by kernel_rfl) (fun _ _ _ h => h) (by rfl) (fun w hw => by have hd := hw.2; first | (go_simp; done) | (go_simp; rfl)) hHeld ?_
            simp only [Act.put, List.setIfInBounds_toArray, List.set_cons_zero, List.set_cons_succ]
            refine wpAnyH_ready (rs := [13]) (by kernel_rfl) (by simp) (AllReadyH.cons rfl (fun K hK => ?_) AllReadyH.nil)
            rw [if_pos (by rfl)]
            go_simp
            refine (HR1.out).mono ?_
            rintro e w10 ⟨rfl, hb10⟩
            have h10 := h9.below hb10
            try go_wp2_with fail
            refine hK.out _ _ ⟨CA.out _ _ h10.inv, CB.out _ _ h10.inv⟩ (fun hHeld => ?_)
            clear hK K
            refine wpAnyH_ready (rs := [17]) (by kernel_rfl) (by simp) (AllReadyH.cons rfl (fun K hK => ?_) AllReadyH.nil)
            rw [if_pos (by rfl)]
            go_simp
            refine (HR2.out _ h10).mono ?_
            rintro e wx ⟨rfl, rfl⟩
            try go_wp2_with fail
            refine hK.out _ _ ⟨CA.out _ _ h10.inv, CB.out _ _ h10.inv⟩ (fun hHeld => ?_)
            clear hK K
            refine takeH 18 (some 77) (.bool false) rfl rfl (by kernel_rfl) (by kernel_rfl) (by kernel_rfl) (fun _ _ _ h => h) (by rfl) (fun w hw => by first | rfl | (go_simp; done) | (go_simp; rfl)) hHeld ?_
            simp only [Act.put, List.setIfInBounds_toArray, List.set_cons_zero, List.set_cons_succ]
            refine takeH 19 (some 78) (.bool false) rfl rfl (by kernel_rfl) (by kernel_rfl) (by kernel_rfl) (fun _ _ _ h => h) (by rfl) (fun w hw => by first | rfl | (go_simp; done) | (go_simp; rfl)) hHeld ?_
            simp only [Act.put, List.setIfInBounds_toArray, List.set_cons_zero, List.set_cons_succ]
            refine takeH 20 (some 79) (.bool false) rfl rfl (by kernel_rfl) (by kernel_rfl) (by kernel_rfl) (fun _ _ _ h => h) (by rfl) (fun w hw => by first | rfl | (go_simp; done) | (go_simp; rfl)) hHeld ?_
            simp only [Act.put, List.setIfInBounds_toArray, List.set_cons_zero, List.set_cons_succ]
            refine takeH 21 (some 80) (.int .i64 1) rfl rfl (by kernel_rfl) (by kernel_rfl) (by kernel_rfl) (fun _ _ _ h => h) (by rfl) (fun w hw => by first | rfl | (go_simp; done) | (go_simp; rfl)) hHeld ?_
            simp only [Act.put, List.setIfInBounds_toArray, List.set_cons_zero, List.set_cons_succ]
            refine takeH 22 (some 81) (.pointer (some ⟨A, 1, none⟩)) rfl rfl (by kernel_rfl) (by kernel_rfl) (by kernel_rfl) (fun _ _ _ h => h) (by rfl) (fun w hw => by first | rfl | (go_simp; done) | (go_simp; rfl)) hHeld ?_
            simp only [Act.put, List.setIfInBounds_toArray, List.set_cons_zero, List.set_cons_succ]
            refine takeH 23 (some 82) (.pointer (some ⟨P 1, 0, none⟩)) rfl rfl (by kernel_rfl) (by kernel_rfl) (by kernel_rfl) (fun _ _ _ h => h) (by rfl) (fun w hw => by have hd := hw.1; first | (go_simp; done) | (go_simp; rfl)) hHeld ?_
            simp only [Act.put, List.setIfInBounds_toArray, List.set_cons_zero, List.set_cons_succ]
            refine takeH 25 (some 84) (.int .i64 1) rfl rfl (by kernel_rfl) (by kernel_rfl) (by kernel_rfl) (fun _ _ _ h => h) (by rfl) (fun w hw => by first | rfl | (go_simp; done) | (go_simp; rfl)) hHeld ?_
            simp only [Act.put, List.setIfInBounds_toArray, List.set_cons_zero, List.set_cons_succ]
            refine takeH 26 (some 85) (.pointer (some ⟨B, 1, none⟩)) rfl rfl (by kernel_rfl) (by kernel_rfl) (by kernel_rfl) (fun _ _ _ h => h) (by rfl) (fun w hw => by first | rfl | (go_simp; done) | (go_simp; rfl)) hHeld ?_
            simp only [Act.put, List.setIfInBounds_toArray, List.set_cons_zero, List.set_cons_succ]
            refine takeH 27 (some 86) (.pointer (some ⟨P 3, 0, none⟩)) rfl rfl (by kernel_rfl) (by kernel_rfl) (by kernel_rfl) (fun _ _ _ h => h) (by rfl) (fun w hw => by have hd := hw.2; first | (go_simp; done) | (go_simp; rfl)) hHeld ?_
            simp only [Act.put, List.setIfInBounds_toArray, List.set_cons_zero, List.set_cons_succ]
            refine wpAnyH_ready (rs := [24]) (by kernel_rfl) (by simp) (AllReadyH.cons rfl (fun K hK => ?_) AllReadyH.nil)
            rw [if_pos (by rfl)]
            go_simp
            refine (HD1.out _ h10).mono ?_
            rintro e wx ⟨rfl, rfl⟩
            try go_wp2_with fail
            refine hK.out _ _ ⟨CA.out _ _ h10.inv, CB.out _ _ h10.inv⟩ (fun hHeld => ?_)
            clear hK K
            refine wpAnyH_ready (rs := [28]) (by kernel_rfl) (by simp) (AllReadyH.cons rfl (fun K hK => ?_) AllReadyH.nil)
            rw [if_pos (by rfl)]
            go_simp
            refine (HD2.out _ h10).mono ?_
            rintro e wx ⟨rfl, rfl⟩
            try go_wp2_with fail
            refine hK.out _ _ ⟨CA.out _ _ h10.inv, CB.out _ _ h10.inv⟩ (fun hHeld => ?_)
            clear hK K
            refine takeH 29 (some 88) (.bool false) rfl rfl (by kernel_rfl) (by kernel_rfl) (by kernel_rfl) (fun _ _ _ h => h) (by rfl) (fun w hw => by first | rfl | (go_simp; done) | (go_simp; rfl)) hHeld ?_
            simp only [Act.put, List.setIfInBounds_toArray, List.set_cons_zero, List.set_cons_succ]
            refine takeH 30 (some 89) (.bool false) rfl rfl (by kernel_rfl) (by kernel_rfl) (by kernel_rfl) (fun _ _ _ h => h) (by rfl) (fun w hw => by first | rfl | (go_simp; done) | (go_simp; rfl)) hHeld ?_
            simp only [Act.put, List.setIfInBounds_toArray, List.set_cons_zero, List.set_cons_succ]
            refine ⟨by kernel_rfl, ?_⟩
            refine NoPanic.normal ?_
            go_wp2
            go_roundw
            case rel => exact ⟨1 + 1, by omega, by first | rfl | go_num, h10⟩
            case measure => simp [intOf]
          · go_wp2
            go_roundw
            case rel => exact ⟨k + 1, by omega, by go_num, sn, hS⟩
            case measure => simp [intOf]; omega
      · have CAT : Hid (∀ (wr : World) (v : Nat → Value), Inv W0 P wr v → wr.cell? ⟨A, 1, none⟩ = some (.pointer (some ⟨P 1, 0, none⟩))) := fun wr v hI => by
          have := HAA.out wr v 1 (by omega) hI
          rw [show n0 + 1 = P 1 from HP1.out] at this
          exact this
        have CBT : Hid (∀ (wr : World) (v : Nat → Value), Inv W0 P wr v → wr.cell? ⟨B, 1, none⟩ = some (.pointer (some ⟨P 3, 0, none⟩))) := fun wr v hI => by
          have := HBB.out wr v 1 (by omega) hI
          rw [show n0 + 3 + 1 = P 3 from HP3.out] at this
          exact this
        rw [htw] at c2
        have hSd : StR W0 P wr.drew st := hS.below (Below.refl wr.heap.size wr).drew
        have HNE := hide (HPT.out.inj 1 (1 + 2) (by omega) (by omega) (by omega))
        go_wp2
        refine wp_region_noPanic ?_
        refine wp_region_held_drew (S := fun wx => wx.cell? ⟨A, 1, none⟩ = some (.pointer (some ⟨P 1, 0, none⟩)) ∧ wx.cell? ⟨B, 1, none⟩ = some (.pointer (some ⟨P 3, 0, none⟩)) ∧ At wx b (o + k * 40) (ov O) 40) (by kernel_rfl) ⟨CAT.out _ _ hSd.inv, CBT.out _ _ hSd.inv, HARG.out _ _ hSd.inv⟩ (fun hHeld => ?_)
        refine takeH 0 (some 43) (.int .i64 1) rfl rfl (by kernel_rfl) (by kernel_rfl) (by kernel_rfl) (fun _ _ _ h => h) (by rfl) (fun w hw => by first | rfl | (go_simp; done) | (go_simp; rfl)) hHeld ?_
        simp only [Act.put, List.setIfInBounds_toArray, List.set_cons_zero, List.set_cons_succ]
        refine takeH 1 (some 44) (.pointer (some ⟨A, 1, none⟩)) rfl rfl (by kernel_rfl) (by kernel_rfl) (by kernel_rfl) (fun _ _ _ h => h) (by rfl) (fun w hw => by first | rfl | (go_simp; done) | (go_simp; rfl)) hHeld ?_
        simp only [Act.put, List.setIfInBounds_toArray, List.set_cons_zero, List.set_cons_succ]
        refine takeH 2 (some 45) (.pointer (some ⟨P 1, 0, none⟩)) rfl rfl (by kernel_rfl) (by kernel_rfl) (by kernel_rfl) (fun _ _ _ h => h) (by rfl) (fun w hw => by have hd := hw.1; first | (go_simp; done) | (go_simp; rfl)) hHeld ?_
        simp only [Act.put, List.setIfInBounds_toArray, List.set_cons_zero, List.set_cons_succ]
        refine takeH 3 (some 46) (.int .i64 1) rfl rfl (by kernel_rfl) (by kernel_rfl) (by kernel_rfl) (fun _ _ _ h => h) (by rfl) (fun w hw => by first | rfl | (go_simp; done) | (go_simp; rfl)) hHeld ?_
        simp only [Act.put, List.setIfInBounds_toArray, List.set_cons_zero, List.set_cons_succ]
        refine takeH 4 (some 47) (.pointer (some ⟨B, 1, none⟩)) rfl rfl (by kernel_rfl) (by kernel_rfl) (by kernel_rfl) (fun _ _ _ h => h) (by rfl) (fun w hw => by first | rfl | (go_simp; done) | (go_simp; rfl)) hHeld ?_
        simp only [Act.put, List.setIfInBounds_toArray, List.set_cons_zero, List.set_cons_succ]
        refine takeH 5 (some 48) (.pointer (some ⟨P 3, 0, none⟩)) rfl rfl (by kernel_rfl) (by kernel_rfl) (by kernel_rfl) (fun _ _ _ h => h) (by rfl) (fun w hw => by have hd := hw.2.1; first | (go_simp; done) | (go_simp; rfl)) hHeld ?_
        simp only [Act.put, List.setIfInBounds_toArray, List.set_cons_zero, List.set_cons_succ]
        refine takeH 6 (some 49) (.slice (some ⟨b, o, none⟩) os.length c) rfl rfl (by kernel_rfl) (by kernel_rfl) (by kernel_rfl) (fun _ _ _ h => h) (by rfl) (fun w hw => by first | rfl | (go_simp; done) | (go_simp; rfl)) hHeld ?_
        simp only [Act.put, List.setIfInBounds_toArray, List.set_cons_zero, List.set_cons_succ]
        refine takeH 7 (some 50) (.int .i64 (k : Int)) rfl rfl (by kernel_rfl) (by kernel_rfl) (by kernel_rfl) (fun _ _ _ h => h) (by rfl) (fun w hw => by first | rfl | (go_simp; done) | (go_simp; rfl)) hHeld ?_
        simp only [Act.put, List.setIfInBounds_toArray, List.set_cons_zero, List.set_cons_succ]
        refine takeH 8 (some 51) (.pointer (some ⟨b, o + k * 40, none⟩)) rfl rfl (by kernel_rfl) (by kernel_rfl) (by kernel_rfl) (fun _ _ _ h => h) (by rfl) (fun w hw => by first | rfl | (go_simp; done) | (go_simp; rfl)) hHeld ?_
        simp only [Act.put, List.setIfInBounds_toArray, List.set_cons_zero, List.set_cons_succ]
        refine takeH 9 (some 52) (.agg (tabv (ov O) 40)) rfl rfl (by kernel_rfl) (by kernel_rfl) (by kernel_rfl) (fun _ _ _ h => h) (by rfl) (fun w hw => run_load_at w 69 _ rfl b (o + k * 40) (by rfl) _ 40 _ hw.2.2 Try.underlying69 rfl info69) hHeld ?_
        simp only [Act.put, List.setIfInBounds_toArray, List.set_cons_zero, List.set_cons_succ]
        refine wpAnyH_ready (rs := [10]) (by kernel_rfl) (by simp) (AllReadyH.cons rfl (fun K hK => ?_) AllReadyH.nil)
        rw [if_pos (by rfl)]
        go_simp
        refine (reads_any O (P 1) (P 3) HNE.out (st 1) wr.drew (hSd.code 1 (by omega)) (hSd.ref 1 (by omega)) (hSd.sz 1 (by omega))).mono ?_
        rintro e w6 ⟨rfl, hC6, hR6, hM6⟩
        have h6 := hSd.step HPT.out 1 (by omega) hM6 hC6 hR6 (Nat.le_trans (rdS_size _ _ _) (hSd.sz 1 (by omega)))
        try go_wp2_with fail
        refine hK.out _ _ ⟨CAT.out _ _ h6.inv, CBT.out _ _ h6.inv, HARG.out _ _ h6.inv⟩ (fun hHeld => ?_)
        clear hK K
        refine takeH 11 (some 54) (.bool false) rfl rfl (by kernel_rfl) (by kernel_rfl) (by kernel_rfl) (fun _ _ _ h => h) (by rfl) (fun w hw => by first | rfl | (go_simp; done) | (go_simp; rfl)) hHeld ?_
        simp only [Act.put, List.setIfInBounds_toArray, List.set_cons_zero, List.set_cons_succ]
        refine ⟨by kernel_rfl, ?_⟩
        refine NoPanic.normal ?_
        clear hS hSd hM6 hC6 hR6 c2 CAT CBT HARG HNE
        generalize upd st 1 (rdS O.K O.N (st 1)) = sn at h6
        go_wp2
        go_loopw [11] (fun i wr => ∃ j : Nat, j ≤ 2 ∧ i = .int .i64 (j : Int) ∧ StR W0 P wr sn) (fun i _ => 2 - (intOf i).toNat)
        case atStart => exact ⟨0, by omega, rfl, h6⟩
        case round =>
          clear h6
          obtain ⟨j, hj, rfl, hS⟩ := hrel
          rcases (show j = 0 ∨ j = 1 ∨ j = 2 by omega) with rfl | rfl | rfl
          · have CA : Hid (∀ (wr : World) (v : Nat → Value), Inv W0 P wr v → wr.cell? ⟨A, 0, none⟩ = some (.pointer (some ⟨P 0, 0, none⟩))) := fun wr v hI => by
              have := HAA.out wr v 0 (by omega) hI
              rw [show n0 + 0 = P 0 from HP0.out] at this
              exact this
            have CB : Hid (∀ (wr : World) (v : Nat → Value), Inv W0 P wr v → wr.cell? ⟨B, 0, none⟩ = some (.pointer (some ⟨P 2, 0, none⟩))) := fun wr v hI => by
              have := HBB.out wr v 0 (by omega) hI
              rw [show n0 + 3 + 0 = P 2 from HP2.out] at this
              exact this
            have h9 : StR W0 P wr.drew sn := hS.below (Below.refl wr.heap.size wr).drew
            obtain ⟨EE, hEE⟩ : ∃ EE : Int, (sn 0).2 = EE := ⟨_, rfl⟩
            obtain ⟨SS, hSS⟩ : ∃ SS, (sn 0).1 = SS := ⟨_, rfl⟩
            obtain ⟨DD, hDD⟩ : ∃ DD : Int, doneS (sn 0) = DD := ⟨_, rfl⟩
            have HE1 := hide (rErr (P 0) _ _ (h9.code 0 (by omega)))
            have HE2 := hide (xErr (P 2) _ _ (h9.ref 0 (by omega)))
            have HR1 := hide (rRest (P 0) _ _ (h9.code 0 (by omega)) (h9.sz 0 (by omega)))
            have HR2 := hide (fun (w : World) (h : StR W0 P w sn) => xRest (P 2) _ w (h.ref 0 (by omega)))
            have HD1 := hide (fun (w : World) (h : StR W0 P w sn) => rDone (P 0) _ w (h.code 0 (by omega)))
            have HD2 := hide (fun (w : World) (h : StR W0 P w sn) => xDone (P 2) _ w (h.ref 0 (by omega)))
            rw [hEE] at HE1 HE2
            rw [hSS] at HR1 HR2
            rw [hDD] at HD1 HD2
            clear hS hEE hSS hDD
            go_wp2
            refine wp_region_noPanic ?_
            refine wp_region_held_drew (S := fun wx => wx.cell? ⟨A, 0, none⟩ = some (.pointer (some ⟨P 0, 0, none⟩)) ∧ wx.cell? ⟨B, 0, none⟩ = some (.pointer (some ⟨P 2, 0, none⟩))) (by kernel_rfl) ⟨CA.out _ _ h9.inv, CB.out _ _ h9.inv⟩ (fun hHeld => ?_)
            refine takeH 0 (some 59) (.int .i64 0) rfl rfl (by kernel_rfl) (by kernel_rfl) (by kernel_rfl) (fun _ _ _ h => h) (by rfl) (fun w hw => by first | rfl | (go_simp; done) | (go_simp; rfl)) hHeld ?_
            simp only [Act.put, List.setIfInBounds_toArray, List.set_cons_zero, List.set_cons_succ]
            refine takeH 1 (some 60) (.pointer (some ⟨A, 0, none⟩)) rfl rfl (by kernel_rfl) (by kernel_rfl) (by kernel_rfl) (fun _ _ _ h => h) (by rfl) (fun w hw => by first | rfl | (go_simp; done) | (go_simp; rfl)) hHeld ?_
            simp only [Act.put, List.setIfInBounds_toArray, List.set_cons_zero, List.set_cons_succ]
            refine takeH 2 (some 61) (.pointer (some ⟨P 0, 0, none⟩)) rfl rfl (by kernel_rfl) (by kernel_rfl) (by kernel_rfl) (fun _ _ _ h => h) (by rfl) (fun w hw => by have hd := hw.1; first | (go_simp; done) | (go_simp; rfl)) hHeld ?_
            simp only [Act.put, List.setIfInBounds_toArray, List.set_cons_zero, List.set_cons_succ]
            refine takeH 4 (some 63) (.int .i64 0) rfl rfl (by kernel_rfl) (by kernel_rfl) (by kernel_rfl) (fun _ _ _ h => h) (by rfl) (fun w hw => by first | rfl | (go_simp; done) | (go_simp; rfl)) hHeld ?_
            simp only [Act.put, List.setIfInBounds_toArray, List.set_cons_zero, List.set_cons_succ]
            refine takeH 5 (some 64) (.pointer (some ⟨B, 0, none⟩)) rfl rfl (by kernel_rfl) (by kernel_rfl) (by kernel_rfl) (fun _ _ _ h => h) (by rfl) (fun w hw => by first | rfl | (go_simp; done) | (go_simp; rfl)) hHeld ?_
            simp only [Act.put, List.setIfInBounds_toArray, List.set_cons_zero, List.set_cons_succ]
            refine takeH 6 (some 65) (.pointer (some ⟨P 2, 0, none⟩)) rfl rfl (by kernel_rfl) (by kernel_rfl) (by kernel_rfl) (fun _ _ _ h => h) (by rfl) (fun w hw => by have hd := hw.2; first | (go_simp; done) | (go_simp; rfl)) hHeld ?_
            simp only [Act.put, List.setIfInBounds_toArray, List.set_cons_zero, List.set_cons_succ]
            refine wpAnyH_ready (rs := [3]) (by kernel_rfl) (by simp) (AllReadyH.cons rfl (fun K hK => ?_) AllReadyH.nil)
            rw [if_pos (by rfl)]
            go_simp
            refine (HE1.out).mono ?_
            rintro e wx ⟨rfl, rfl⟩
            try go_wp2_with fail
            refine hK.out _ _ ⟨CA.out _ _ h9.inv, CB.out _ _ h9.inv⟩ (fun hHeld => ?_)
            clear hK K
            refine wpAnyH_ready (rs := [7]) (by kernel_rfl) (by simp) (AllReadyH.cons rfl (fun K hK => ?_) AllReadyH.nil)
            rw [if_pos (by rfl)]
            go_simp
            refine (HE2.out).mono ?_
            rintro e wx ⟨rfl, rfl⟩
            try go_wp2_with fail
            refine hK.out _ _ ⟨CA.out _ _ h9.inv, CB.out _ _ h9.inv⟩ (fun hHeld => ?_)
            clear hK K
            refine takeH 8 (some 67) (.bool false) rfl rfl (by kernel_rfl) (by kernel_rfl) (by kernel_rfl) (fun _ _ _ h => h) (by rfl) (fun w hw => by first | rfl | (go_simp; done) | (go_simp; rfl)) hHeld ?_
            simp only [Act.put, List.setIfInBounds_toArray, List.set_cons_zero, List.set_cons_succ]
            refine takeH 9 (some 68) (.bool false) rfl rfl (by kernel_rfl) (by kernel_rfl) (by kernel_rfl) (fun _ _ _ h => h) (by rfl) (fun w hw => by first | rfl | (go_simp; done) | (go_simp; rfl)) hHeld ?_
            simp only [Act.put, List.setIfInBounds_toArray, List.set_cons_zero, List.set_cons_succ]
            refine takeH 10 (some 69) (.int .i64 0) rfl rfl (by kernel_rfl) (by kernel_rfl) (by kernel_rfl) (fun _ _ _ h => h) (by rfl) (fun w hw => by first | rfl | (go_simp; done) | (go_simp; rfl)) hHeld ?_
            simp only [Act.put, List.setIfInBounds_toArray, List.set_cons_zero, List.set_cons_succ]
            refine takeH 11 (some 70) (.pointer (some ⟨A, 0, none⟩)) rfl rfl (by kernel_rfl) (by kernel_rfl) (by kernel_rfl) (fun _ _ _ h => h) (by rfl) (fun w hw => by first | rfl | (go_simp; done) | (go_simp; rfl)) hHeld ?_
            simp only [Act.put, List.setIfInBounds_toArray, List.set_cons_zero, List.set_cons_succ]
            refine takeH 12 (some 71) (.pointer (some ⟨P 0, 0, none⟩)) rfl rfl (by kernel_rfl) (by kernel_rfl) (by kernel_rfl) (fun _ _ _ h => h) (by rfl) (fun w hw => by have hd := hw.1; first | (go_simp; done) | (go_simp; rfl)) hHeld ?_
            simp only [Act.put, List.setIfInBounds_toArray, List.set_cons_zero, List.set_cons_succ]
            refine takeH 14 (some 73) (.int .i64 0) rfl rfl (by kernel_rfl) (by kernel_rfl) (by kernel_rfl) (fun _ _ _ h => h) (by rfl) (fun w hw => by first | rfl | (go_simp; done) | (go_simp; rfl)) hHeld ?_
            simp only [Act.put, List.setIfInBounds_toArray, List.set_cons_zero, List.set_cons_succ]
            refine takeH 15 (some 74) (.pointer (some ⟨B, 0, none⟩)) rfl rfl (by kernel_rfl) (by kernel_rfl) (by kernel_rfl) (fun _ _ _ h => h) (by rfl) (fun w hw => by first | rfl | (go_simp; done) | (go_simp; rfl)) hHeld ?_
            simp only [Act.put, List.setIfInBounds_toArray, List.set_cons_zero, List.set_cons_succ]
            refine takeH 16 (some 75) (.pointer (some ⟨P 2, 0, none⟩)) rfl rfl (by kernel_rfl) (by kernel_rfl) (by kernel_rfl) (fun _ _ _ h => h) (by rfl) (fun w hw => by have hd := hw.2; first | (go_simp; done) | (go_simp; rfl)) hHeld ?_
            simp only [Act.put, List.setIfInBounds_toArray, List.set_cons_zero, List.set_cons_succ]
            refine wpAnyH_ready (rs := [13]) (by kernel_rfl) (by simp) (AllReadyH.cons rfl (fun K hK => ?_) AllReadyH.nil)
            rw [if_pos (by rfl)]
            go_simp
            refine (HR1.out).mono ?_
            rintro e w10 ⟨rfl, hb10⟩
            have h10 := h9.below hb10
            try go_wp2_with fail
            refine hK.out _ _ ⟨CA.out _ _ h10.inv, CB.out _ _ h10.inv⟩ (fun hHeld => ?_)
            clear hK K
            refine wpAnyH_ready (rs := [17]) (by kernel_rfl) (by simp) (AllReadyH.cons rfl (fun K hK => ?_) AllReadyH.nil)
            rw [if_pos (by rfl)]
            go_simp
            refine (HR2.out _ h10).mono ?_
            rintro e wx ⟨rfl, rfl⟩
            try go_wp2_with fail
            refine hK.out _ _ ⟨CA.out _ _ h10.inv, CB.out _ _ h10.inv⟩ (fun hHeld => ?_)
            clear hK K
            refine takeH 18 (some 77) (.bool false) rfl rfl (by kernel_rfl) (by kernel_rfl) (by kernel_rfl) (fun _ _ _ h => h) (by rfl) (fun w hw => by first | rfl | (go_simp; done) | (go_simp; rfl)) hHeld ?_
            simp only [Act.put, List.setIfInBounds_toArray, List.set_cons_zero, List.set_cons_succ]
            refine takeH 19 (some 78) (.bool false) rfl rfl (by kernel_rfl) (by kernel_rfl) (by kernel_rfl) (fun _ _ _ h => h) (by rfl) (fun w hw => by first | rfl | (go_simp; done) | (go_simp; rfl)) hHeld ?_
            simp only [Act.put, List.setIfInBounds_toArray, List.set_cons_zero, List.set_cons_succ]
            refine takeH 20 (some 79) (.bool false) rfl rfl (by kernel_rfl) (by kernel_rfl) (by kernel_rfl) (fun _ _ _ h => h) (by rfl) (fun w hw => by first | rfl | (go_simp; done) | (go_simp; rfl)) hHeld ?_
            simp only [Act.put, List.setIfInBounds_toArray, List.set_cons_zero, List.set_cons_succ]
            refine takeH 21 (some 80) (.int .i64 0) rfl rfl (by kernel_rfl) (by kernel_rfl) (by kernel_rfl) (fun _ _ _ h => h) (by rfl) (fun w hw => by first | rfl | (go_simp; done) | (go_simp; rfl)) hHeld ?_
            simp only [Act.put, List.setIfInBounds_toArray, List.set_cons_zero, List.set_cons_succ]
            refine takeH 22 (some 81) (.pointer (some ⟨A, 0, none⟩)) rfl rfl (by kernel_rfl) (by kernel_rfl) (by kernel_rfl) (fun _ _ _ h => h) (by rfl) (fun w hw => by first | rfl | (go_simp; done) | (go_simp; rfl)) hHeld ?_
            simp only [Act.put, List.setIfInBounds_toArray, List.set_cons_zero, List.set_cons_succ]
            refine takeH 23 (some 82) (.pointer (some ⟨P 0, 0, none⟩)) rfl rfl (by kernel_rfl) (by kernel_rfl) (by kernel_rfl) (fun _ _ _ h => h) (by rfl) (fun w hw => by have hd := hw.1; first | (go_simp; done) | (go_simp; rfl)) hHeld ?_
            simp only [Act.put, List.setIfInBounds_toArray, List.set_cons_zero, List.set_cons_succ]
            refine takeH 25 (some 84) (.int .i64 0) rfl rfl (by kernel_rfl) (by kernel_rfl) (by kernel_rfl) (fun _ _ _ h => h) (by rfl) (fun w hw => by first | rfl | (go_simp; done) | (go_simp; rfl)) hHeld ?_
            simp only [Act.put, List.setIfInBounds_toArray, List.set_cons_zero, List.set_cons_succ]
            refine takeH 26 (some 85) (.pointer (some ⟨B, 0, none⟩)) rfl rfl (by kernel_rfl) (by kernel_rfl) (by kernel_rfl) (fun _ _ _ h => h) (by rfl) (fun w hw => by first | rfl | (go_simp; done) | (go_simp; rfl)) hHeld ?_
            simp only [Act.put, List.setIfInBounds_toArray, List.set_cons_zero, List.set_cons_succ]
            refine takeH 27 (some 86) (.pointer (some ⟨P 2, 0, none⟩)) rfl rfl (by kernel_rfl) (by kernel_rfl) (by kernel_rfl) (fun _ _ _ h => h) (by rfl) (fun w hw => by have hd := hw.2; first | (go_simp; done) | (go_simp; rfl)) hHeld ?_
            simp only [Act.put, List.setIfInBounds_toArray, List.set_cons_zero, List.set_cons_succ]
            refine wpAnyH_ready (rs := [24]) (by kernel_rfl) (by simp) (AllReadyH.cons rfl (fun K hK => ?_) AllReadyH.nil)
            rw [if_pos (by rfl)]
            go_simp
            refine (HD1.out _ h10).mono ?_
            rintro e wx ⟨rfl, rfl⟩
            try go_wp2_with fail
            refine hK.out _ _ ⟨CA.out _ _ h10.inv, CB.out _ _ h10.inv⟩ (fun hHeld => ?_)
            clear hK K
            refine wpAnyH_ready (rs := [28]) (by kernel_rfl) (by simp) (AllReadyH.cons rfl (fun K hK => ?_) AllReadyH.nil)
            rw [if_pos (by rfl)]
            go_simp
            refine (HD2.out _ h10).mono ?_
            rintro e wx ⟨rfl, rfl⟩
            try go_wp2_with fail
            refine hK.out _ _ ⟨CA.out _ _ h10.inv, CB.out _ _ h10.inv⟩ (fun hHeld => ?_)
            clear hK K
            refine takeH 29 (some 88) (.bool false) rfl rfl (by kernel_rfl) (by kernel_rfl) (by kernel_rfl) (fun _ _ _ h => h) (by rfl) (fun w hw => by first | rfl | (go_simp; done) | (go_simp; rfl)) hHeld ?_
            simp only [Act.put, List.setIfInBounds_toArray, List.set_cons_zero, List.set_cons_succ]
            refine takeH 30 (some 89) (.bool false) rfl rfl (by kernel_rfl) (by kernel_rfl) (by kernel_rfl) (fun _ _ _ h => h) (by rfl) (fun w hw => by first | rfl | (go_simp; done) | (go_simp; rfl)) hHeld ?_
            simp only [Act.put, List.setIfInBounds_toArray, List.set_cons_zero, List.set_cons_succ]
            refine ⟨by kernel_rfl, ?_⟩
            refine NoPanic.normal ?_
            go_wp2
            go_roundw
            case rel => exact ⟨0 + 1, by omega, by first | rfl | go_num, h10⟩
            case measure => simp [intOf]
          · have CA : Hid (∀ (wr : World) (v : Nat → Value), Inv W0 P wr v → wr.cell? ⟨A, 1, none⟩ = some (.pointer (some ⟨P 1, 0, none⟩))) := fun wr v hI => by
              have := HAA.out wr v 1 (by omega) hI
              rw [show n0 + 1 = P 1 from HP1.out] at this
              exact this
            have CB : Hid (∀ (wr : World) (v : Nat → Value), Inv W0 P wr v → wr.cell? ⟨B, 1, none⟩ = some (.pointer (some ⟨P 3, 0, none⟩))) := fun wr v hI => by
              have := HBB.out wr v 1 (by omega) hI
              rw [show n0 + 3 + 1 = P 3 from HP3.out] at this
              exact this
            have h9 : StR W0 P wr.drew sn := hS.below (Below.refl wr.heap.size wr).drew
            obtain ⟨EE, hEE⟩ : ∃ EE : Int, (sn 1).2 = EE := ⟨_, rfl⟩
            obtain ⟨SS, hSS⟩ : ∃ SS, (sn 1).1 = SS := ⟨_, rfl⟩
            obtain ⟨DD, hDD⟩ : ∃ DD : Int, doneS (sn 1) = DD := ⟨_, rfl⟩
            have HE1 := hide (rErr (P 1) _ _ (h9.code 1 (by omega)))
            have HE2 := hide (xErr (P 3) _ _ (h9.ref 1 (by omega)))
            have HR1 := hide (rRest (P 1) _ _ (h9.code 1 (by omega)) (h9.sz 1 (by omega)))
            have HR2 := hide (fun (w : World) (h : StR W0 P w sn) => xRest (P 3) _ w (h.ref 1 (by omega)))
            have HD1 := hide (fun (w : World) (h : StR W0 P w sn) => rDone (P 1) _ w (h.code 1 (by omega)))
            have HD2 := hide (fun (w : World) (h : StR W0 P w sn) => xDone (P 3) _ w (h.ref 1 (by omega)))
            rw [hEE] at HE1 HE2
            rw [hSS] at HR1 HR2
            rw [hDD] at HD1 HD2
            clear hS hEE hSS hDD
            go_wp2
            refine wp_region_noPanic ?_
            refine wp_region_held_drew (S := fun wx => wx.cell? ⟨A, 1, none⟩ = some (.pointer (some ⟨P 1, 0, none⟩)) ∧ wx.cell? ⟨B, 1, none⟩ = some (.pointer (some ⟨P 3, 0, none⟩))) (by kernel_rfl) ⟨CA.out _ _ h9.inv, CB.out _ _ h9.inv⟩ (fun hHeld => ?_)
            refine takeH 0 (some 59) (.int .i64 1) rfl rfl (by kernel_rfl) (by kernel_rfl) (by kernel_rfl) (fun _ _ _ h => h) (by rfl) (fun w hw => by first | rfl | (go_simp; done) | (go_simp; rfl)) hHeld ?_
            simp only [Act.put, List.setIfInBounds_toArray, List.set_cons_zero, List.set_cons_succ]
            refine takeH 1 (some 60) (.pointer (some ⟨A, 1, none⟩)) rfl rfl (by kernel_rfl) (by kernel_rfl) (by kernel_rfl) (fun _ _ _ h => h) (by rfl) (fun w hw => by first | rfl | (go_simp; done) | (go_simp; rfl)) hHeld ?_
            simp only [Act.put, List.setIfInBounds_toArray, List.set_cons_zero, List.set_cons_succ]
            refine takeH 2 (some 61) (.pointer (some ⟨P 1, 0, none⟩)) rfl rfl (by kernel_rfl) (by kernel_rfl) (by kernel_rfl) (fun _ _ _ h => h) (by rfl) (fun w hw => by have hd := hw.1; first | (go_simp; done) | (go_simp; rfl)) hHeld ?_
            simp only [Act.put, List.setIfInBounds_toArray, List.set_cons_zero, List.set_cons_succ]
            refine takeH 4 (some 63) (.int .i64 1) rfl rfl (by kernel_rfl) (by kernel_rfl) (by kernel_rfl) (fun _ _ _ h => h) (by rfl) (fun w hw => by first | rfl | (go_simp; done) | (go_simp; rfl)) hHeld ?_
            simp only [Act.put, List.setIfInBounds_toArray, List.set_cons_zero, List.set_cons_succ]
            refine takeH 5 (some 64) (.pointer (some ⟨B, 1, none⟩)) rfl rfl (by kernel_rfl) (by kernel_rfl) (by kernel_rfl) (fun _ _ _ h => h) (by rfl) (fun w hw => by first | rfl | (go_simp; done) | (go_simp; rfl)) hHeld ?_
            simp only [Act.put, List.setIfInBounds_toArray, List.set_cons_zero, List.set_cons_succ]
            refine takeH 6 (some 65) (.pointer (some ⟨P 3, 0, none⟩)) rfl rfl (by kernel_rfl) (by kernel_rfl) (by kernel_rfl) (fun _ _ _ h => h) (by rfl) (fun w hw => by have hd := hw.2; first | (go_simp; done) | (go_simp; rfl)) hHeld ?_
            simp only [Act.put, List.setIfInBounds_toArray, List.set_cons_zero, List.set_cons_succ]
            refine wpAnyH_ready (rs := [3]) (by kernel_rfl) (by simp) (AllReadyH.cons rfl (fun K hK => ?_) AllReadyH.nil)
            rw [if_pos (by rfl)]
            go_simp
            refine (HE1.out).mono ?_
            rintro e wx ⟨rfl, rfl⟩
            try go_wp2_with fail
            refine hK.out _ _ ⟨CA.out _ _ h9.inv, CB.out _ _ h9.inv⟩ (fun hHeld => ?_)
            clear hK K
            refine wpAnyH_ready (rs := [7]) (by kernel_rfl) (by simp) (AllReadyH.cons rfl (fun K hK => ?_) AllReadyH.nil)
            rw [if_pos (by rfl)]
            go_simp
            refine (HE2.out).mono ?_
            rintro e wx ⟨rfl, rfl⟩
            try go_wp2_with fail
            refine hK.out _ _ ⟨CA.out _ _ h9.inv, CB.out _ _ h9.inv⟩ (fun hHeld => ?_)
            clear hK K
            refine takeH 8 (some 67) (.bool false) rfl rfl (by kernel_rfl) (by kernel_rfl) (by kernel_rfl) (fun _ _ _ h => h) (by rfl) (fun w hw => by first | rfl | (go_simp; done) | (go_simp; rfl)) hHeld ?_
            simp only [Act.put, List.setIfInBounds_toArray, List.set_cons_zero, List.set_cons_succ]
            refine takeH 9 (some 68) (.bool false) rfl rfl (by kernel_rfl) (by kernel_rfl) (by kernel_rfl) (fun _ _ _ h => h) (by rfl) (fun w hw => by first | rfl | (go_simp; done) | (go_simp; rfl)) hHeld ?_
            simp only [Act.put, List.setIfInBounds_toArray, List.set_cons_zero, List.set_cons_succ]
            refine takeH 10 (some 69) (.int .i64 1) rfl rfl (by kernel_rfl) (by kernel_rfl) (by kernel_rfl) (fun _ _ _ h => h) (by rfl) (fun w hw => by first | rfl | (go_simp; done) | (go_simp; rfl)) hHeld ?_
            simp only [Act.put, List.setIfInBounds_toArray, List.set_cons_zero, List.set_cons_succ]
            refine takeH 11 (some 70) (.pointer (some ⟨A, 1, none⟩)) rfl rfl (by kernel_rfl) (by kernel_rfl) (by kernel_rfl) (fun _ _ _ h => h) (by rfl) (fun w hw => by first | rfl | (go_simp; done) | (go_simp; rfl)) hHeld ?_
            simp only [Act.put, List.setIfInBounds_toArray, List.set_cons_zero, List.set_cons_succ]
            refine takeH 12 (some 71) (.pointer (some ⟨P 1, 0, none⟩)) rfl rfl (by kernel_rfl) (by kernel_rfl) (by kernel_rfl) (fun _ _ _ h => h) (by rfl) (fun w hw => by have hd := hw.1; first | (go_simp; done) | (go_simp; rfl)) hHeld ?_
            simp only [Act.put, List.setIfInBounds_toArray, List.set_cons_zero, List.set_cons_succ]
            refine takeH 14 (some 73) (.int .i64 1) rfl rfl (by kernel_rfl) (by kernel_rfl) (by kernel_rfl) (fun _ _ _ h => h) (by rfl) (fun w hw => by first | rfl | (go_simp; done) | (go_simp; rfl)) hHeld ?_
            simp only [Act.put, List.setIfInBounds_toArray, List.set_cons_zero, List.set_cons_succ]
            refine takeH 15 (some 74) (.pointer (some ⟨B, 1, none⟩)) rfl rfl (by kernel_rfl) (by kernel_rfl) (by kernel_rfl) (fun _ _ _ h => h) (by rfl) (fun w hw => by first | rfl | (go_simp; done) | (go_simp; rfl)) hHeld ?_
            simp only [Act.put, List.setIfInBounds_toArray, List.set_cons_zero, List.set_cons_succ]
            refine takeH 16 (some 75) (.pointer (some ⟨P 3, 0, none⟩)) rfl rfl (by kernel_rfl) (by kernel_rfl) (by kernel_rfl) (fun _ _ _ h => h) (by rfl) (fun w hw => by have hd := hw.2; first | (go_simp; done) | (go_simp; rfl)) hHeld ?_
            simp only [Act.put, List.setIfInBounds_toArray, List.set_cons_zero, List.set_cons_succ]
            refine wpAnyH_ready (rs := [13]) (by kernel_rfl) (by simp) (AllReadyH.cons rfl (fun K hK => ?_) AllReadyH.nil)
            rw [if_pos (by rfl)]
            go_simp
            refine (HR1.out).mono ?_
            rintro e w10 ⟨rfl, hb10⟩
            have h10 := h9.below hb10
            try go_wp2_with fail
            refine hK.out _ _ ⟨CA.out _ _ h10.inv, CB.out _ _ h10.inv⟩ (fun hHeld => ?_)
            clear hK K
            refine wpAnyH_ready (rs := [17]) (by kernel_rfl) (by simp) (AllReadyH.cons rfl (fun K hK => ?_) AllReadyH.nil)
            rw [if_pos (by rfl)]
            go_simp
            refine (HR2.out _ h10).mono ?_
            rintro e wx ⟨rfl, rfl⟩
            try go_wp2_with fail
            refine hK.out _ _ ⟨CA.out _ _ h10.inv, CB.out _ _ h10.inv⟩ (fun hHeld => ?_)
            clear hK K
            refine takeH 18 (some 77) (.bool false) rfl rfl (by kernel_rfl) (by kernel_rfl) (by kernel_rfl) (fun _ _ _ h => h) (by rfl) (fun w hw => by first | rfl | (go_simp; done) | (go_simp; rfl)) hHeld ?_
            simp only [Act.put, List.setIfInBounds_toArray, List.set_cons_zero, List.set_cons_succ]
            refine takeH 19 (some 78) (.bool false) rfl rfl (by kernel_rfl) (by kernel_rfl) (by kernel_rfl) (fun _ _ _ h => h) (by rfl) (fun w hw => by first | rfl | (go_simp; done) | (go_simp; rfl)) hHeld ?_
            simp only [Act.put, List.setIfInBounds_toArray, List.set_cons_zero, List.set_cons_succ]
            refine takeH 20 (some 79) (.bool false) rfl rfl (by kernel_rfl) (by kernel_rfl) (by kernel_rfl) (fun _ _ _ h => h) (by rfl) (fun w hw => by first | rfl | (go_simp; done) | (go_simp; rfl)) hHeld ?_
            simp only [Act.put, List.setIfInBounds_toArray, List.set_cons_zero, List.set_cons_succ]
            refine takeH 21 (some 80) (.int .i64 1) rfl rfl (by kernel_rfl) (by kernel_rfl) (by kernel_rfl) (fun _ _ _ h => h) (by rfl) (fun w hw => by first | rfl | (go_simp; done) | (go_simp; rfl)) hHeld ?_
            simp only [Act.put, List.setIfInBounds_toArray, List.set_cons_zero, List.set_cons_succ]
            refine takeH 22 (some 81) (.pointer (some ⟨A, 1, none⟩)) rfl rfl (by kernel_rfl) (by kernel_rfl) (by kernel_rfl) (fun _ _ _ h => h) (by rfl) (fun w hw => by first | rfl | (go_simp; done) | (go_simp; rfl)) hHeld ?_
            simp only [Act.put, List.setIfInBounds_toArray, List.set_cons_zero, List.set_cons_succ]
            refine takeH 23 (some 82) (.pointer (some ⟨P 1, 0, none⟩)) rfl rfl (by kernel_rfl) (by kernel_rfl) (by kernel_rfl) (fun _ _ _ h => h) (by rfl) (fun w hw => by have hd := hw.1; first | (go_simp; done) | (go_simp; rfl)) hHeld ?_
            simp only [Act.put, List.setIfInBounds_toArray, List.set_cons_zero, List.set_cons_succ]
            refine takeH 25 (some 84) (.int .i64 1) rfl rfl (by kernel_rfl) (by kernel_rfl) (by kernel_rfl) (fun _ _ _ h => h) (by rfl) (fun w hw => by first | rfl | (go_simp; done) | (go_simp; rfl)) hHeld ?_
            simp only [Act.put, List.setIfInBounds_toArray, List.set_cons_zero, List.set_cons_succ]
            refine takeH 26 (some 85) (.pointer (some ⟨B, 1, none⟩)) rfl rfl (by kernel_rfl) (by kernel_rfl) (by kernel_rfl) (fun _ _ _ h => h) (by rfl) (fun w hw => by first | rfl | (go_simp; done) | (go_simp; rfl)) hHeld ?_
            simp only [Act.put, List.setIfInBounds_toArray, List.set_cons_zero, List.set_cons_succ]
            refine takeH 27 (some 86) (.pointer (some ⟨P 3, 0, none⟩)) rfl rfl (by kernel_rfl) (by kernel_rfl) (by kernel_rfl) (fun _ _ _ h => h) (by rfl) (fun w hw => by have hd := hw.2; first | (go_simp; done) | (go_simp; rfl)) hHeld ?_
            simp only [Act.put, List.setIfInBounds_toArray, List.set_cons_zero, List.set_cons_succ]
            refine wpAnyH_ready (rs := [24]) (by kernel_rfl) (by simp) (AllReadyH.cons rfl (fun K hK => ?_) AllReadyH.nil)
            rw [if_pos (by rfl)]
            go_simp
            refine (HD1.out _ h10).mono ?_
            rintro e wx ⟨rfl, rfl⟩
            try go_wp2_with fail
            refine hK.out _ _ ⟨CA.out _ _ h10.inv, CB.out _ _ h10.inv⟩ (fun hHeld => ?_)
            clear hK K
            refine wpAnyH_ready (rs := [28]) (by kernel_rfl) (by simp) (AllReadyH.cons rfl (fun K hK => ?_) AllReadyH.nil)
            rw [if_pos (by rfl)]
            go_simp
            refine (HD2.out _ h10).mono ?_
            rintro e wx ⟨rfl, rfl⟩
            try go_wp2_with fail
            refine hK.out _ _ ⟨CA.out _ _ h10.inv, CB.out _ _ h10.inv⟩ (fun hHeld => ?_)
            clear hK K
            refine takeH 29 (some 88) (.bool false) rfl rfl (by kernel_rfl) (by kernel_rfl) (by kernel_rfl) (fun _ _ _ h => h) (by rfl) (fun w hw => by first | rfl | (go_simp; done) | (go_simp; rfl)) hHeld ?_
            simp only [Act.put, List.setIfInBounds_toArray, List.set_cons_zero, List.set_cons_succ]
            refine takeH 30 (some 89) (.bool false) rfl rfl (by kernel_rfl) (by kernel_rfl) (by kernel_rfl) (fun _ _ _ h => h) (by rfl) (fun w hw => by first | rfl | (go_simp; done) | (go_simp; rfl)) hHeld ?_
            simp only [Act.put, List.setIfInBounds_toArray, List.set_cons_zero, List.set_cons_succ]
            refine ⟨by kernel_rfl, ?_⟩
            refine NoPanic.normal ?_
            go_wp2
            go_roundw
            case rel => exact ⟨1 + 1, by omega, by first | rfl | go_num, h10⟩
            case measure => simp [intOf]
          · go_wp2
            go_roundw
            case rel => exact ⟨k + 1, by omega, by go_num, sn, hS⟩
            case measure => simp [intOf]; omega
    · have hkn : k = os.length := by omega
      subst hkn
      have hd : decide ((os.length : Int) < (os.length : Int)) = false := by simp
      go_wp2
      go_ret
      exact ⟨rfl, hS.inv.old KB0.out HPN.out⟩
end Go.Proofs.Ytmcnempkddahcaa
