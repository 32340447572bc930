/-
  The walk of CursorWrites.
-/
import Derived.Test.YtmcnempkddahcaaFour
import Derived.Test.YtmcnempkddahcaaHead
import Derived.Deep.DrawnRows
namespace Go.Proofs.Ytmcnempkddahcaa
open Go.RowKit
set_option linter.unusedVariables false
def four (a b c d : Nat) : Nat → Nat := fun i => if i = 0 then a else if i = 1 then b else if i = 2 then c else d
def vnil : Nat → Value := fun _ => .slice none 0 0
theorem cell_kept {w0 wr : World} {P : Nat → Nat} {v : Nat → Value} (h : Inv w0 P wr v) (g i : Nat) (hg : g < w0.heap.size) (hn : ∀ i, i < 4 → g ≠ P i) (x : Value) (hc : w0.cell? ⟨g, i, none⟩ = some x) : wr.cell? ⟨g, i, none⟩ = some x := by
  rw [World.cell?_of_block (w := w0) (h.block g hg hn)]; exact hc
attribute [local go_sem ↓] Go.wp_at_zero Go.wp_at_succ
set_option maxRecDepth 5000 in
set_option maxHeartbeats 16000000 in
theorem writes_num (ad : Option Addr) (c : Nat) (os : List OL) (w : World) (hst : Ops w ad os) (hok : ∀ O ∈ os, O.V.ok (xo O.V)) (hn : os.length ≤ 1048576) :
    Calls Try.prog 7 #[.slice ad os.length c] w fun e w' => e = .returned (.bool true) ∧ Below w.heap.size w w' := by
  have HST := hide hst
  have HOK := hide hok
  clear hst hok
  go_enter Try.func7, Try.ntmps7
  go_wp2_with fail
  refine (head_any _).mono ?_
  rintro e w1 ⟨rfl, hb1⟩
  obtain ⟨n0, hn0⟩ : ∃ n0, w1.heap.size = n0 := ⟨_, rfl⟩
  have hw0 : w.heap.size ≤ n0 := by have := hb1.size; omega
  go_wp2_with fail
  refine (wNew _).mono ?_
  rintro e w2 ⟨rfl, hC0, hb2, hz2⟩
  rw [hn0] at hC0 hb2 hz2 ⊢
  go_wp2_with fail
  refine (wNew _).mono ?_
  rintro e w3 ⟨rfl, hC1, hb3, hz3⟩
  rw [hz2] at hC1 hb3 hz3 ⊢
  go_wp2_with fail
  refine (qNew _).mono ?_
  rintro e w4 ⟨rfl, hR0, hb4, hz4⟩
  have hA3 : (w3.alloc (.cells #[.pointer (some ⟨n0, 0, none⟩), .pointer (some ⟨n0 + 1, 0, none⟩)] 64)).heap.size = n0 + 1 + 1 + 1 := by simp; omega
  have cA : ∀ i : Nat, i < 2 → (w3.alloc (.cells #[.pointer (some ⟨n0, 0, none⟩), .pointer (some ⟨n0 + 1, 0, none⟩)] 64)).cell? ⟨n0 + 1 + 1, i, none⟩ = some (.pointer (some ⟨n0 + i, 0, none⟩)) := fun i hi => by
    have := cell_of_row (w3.alloc (.cells #[.pointer (some ⟨n0, 0, none⟩), .pointer (some ⟨n0 + 1, 0, none⟩)] 64)) (n0 + 1 + 1) i _ 64 (0, 0) (by rw [← hz3]; exact heap_alloc_new w3 _)
    rw [this]
    rcases (show i = 0 ∨ i = 1 by omega) with rfl | rfl <;> rfl
  have hC0' := (hC0.below (w' := w3) (by rw [hz2]; exact hb3)).below (w' := w3.alloc (.cells #[.pointer (some ⟨n0, 0, none⟩), .pointer (some ⟨n0 + 1, 0, none⟩)] 64)) ((Below.refl _ _).alloc (Nat.le_refl _) _)
  have hC1' := hC1.below (w' := w3.alloc (.cells #[.pointer (some ⟨n0, 0, none⟩), .pointer (some ⟨n0 + 1, 0, none⟩)] 64)) ((Below.refl _ _).alloc (Nat.le_refl _) _)
  have hb3' : Below n0 w1 (w3.alloc (.cells #[.pointer (some ⟨n0, 0, none⟩), .pointer (some ⟨n0 + 1, 0, none⟩)] 64)) := (hb2.trans (hb3.mono (by omega))).alloc (by omega) _
  generalize hW3 : w3.alloc (.cells #[.pointer (some ⟨n0, 0, none⟩), .pointer (some ⟨n0 + 1, 0, none⟩)] 64) = w3' at hC0' hC1' hb3' cA hA3 hR0 hb4 hz4 ⊢
  clear hW3 hC0 hC1 hb2 hb3
  rw [hA3] at hR0 hb4 hz4 ⊢
  have cA4 : ∀ i : Nat, i < 2 → w4.cell? ⟨n0 + 1 + 1, i, none⟩ = some (.pointer (some ⟨n0 + i, 0, none⟩)) := fun i hi => (hb4.cell (p := ⟨n0 + 1 + 1, i, none⟩) (by show n0 + 1 + 1 < _; omega)).trans (cA i hi)
  have hC0'' := hC0'.below (by rw [hA3]; exact hb4)
  have hC1'' := hC1'.below (by rw [hA3]; exact hb4)
  have hb4' := hb3'.trans (hb4.mono (by omega))
  clear hC0' hC1' cA hb4 hb3'
  go_wp2_with fail
  refine (qNew _).mono ?_
  rintro e w5 ⟨rfl, hR1, hb5, hz5⟩
  rw [hz4] at hR1 hb5 hz5 ⊢
  have e5 : Below w4.heap.size w4 w5 := by rw [hz4]; exact hb5
  have cA5 : ∀ i : Nat, i < 2 → w5.cell? ⟨n0 + 1 + 1, i, none⟩ = some (.pointer (some ⟨n0 + i, 0, none⟩)) := fun i hi => (hb5.cell (p := ⟨n0 + 1 + 1, i, none⟩) (by show n0 + 1 + 1 < _; omega)).trans (cA4 i hi)
  have hC0 := hC0''.below e5
  have hC1 := hC1''.below e5
  have hR0 := hR0.below e5
  have hb5' := hb4'.trans (hb5.mono (by omega))
  clear hC0'' hC1'' cA4 e5 hb4' hb5
  -- the second array
  have fin : ∀ W0 : World, W0 = w5.alloc (.cells #[.pointer (some ⟨n0 + 1 + 1 + 1, 0, none⟩), .pointer (some ⟨n0 + 1 + 1 + 1 + 1, 0, none⟩)] 67) → W0.heap.size = n0 + 6 ∧ (∀ i : Nat, i < 2 → W0.cell? ⟨n0 + 1 + 1, i, none⟩ = some (.pointer (some ⟨n0 + i, 0, none⟩))) ∧ (∀ i : Nat, i < 2 → W0.cell? ⟨n0 + 1 + 1 + 1 + 1 + 1, i, none⟩ = some (.pointer (some ⟨n0 + 3 + i, 0, none⟩))) ∧ Below n0 w1 W0 ∧ St2 W0 (four n0 (n0 + 1) (n0 + 1 + 1 + 1) (n0 + 1 + 1 + 1 + 1)) W0 vnil (fun _ => some []) (fun _ => some []) := fun W0 hW => by
    have hb6 : Below w5.heap.size w5 W0 := by rw [hW]; exact (Below.refl _ _).alloc (Nat.le_refl _) _
    have hsz : W0.heap.size = n0 + 6 := by rw [hW]; simp; omega
    refine ⟨hsz, fun i hi => (hb6.cell (p := ⟨n0 + 1 + 1, i, none⟩) (by show n0 + 1 + 1 < _; omega)).trans (cA5 i hi), fun i hi => ?_, hb5'.trans (hb6.mono (by omega)), ?_⟩
    · have := cell_of_row W0 (n0 + 1 + 1 + 1 + 1 + 1) i _ 67 (0, 0) (by rw [hW, ← hz5]; exact heap_alloc_new w5 _)
      rw [this]
      rcases (show i = 0 ∨ i = 1 by omega) with rfl | rfl <;> rfl
    · refine ⟨⟨rfl, rfl, rfl, Nat.le_refl _, fun i _ k hk => by simp [vnil, Value.ownBlock] at hk, fun i j _ _ _ k hk => by simp [vnil, Value.ownBlock] at hk, fun _ _ _ => rfl⟩, fun i hi => ?_, fun i hi => ?_⟩
      · rcases (show i = 0 ∨ i = 1 by omega) with rfl | rfl
        · exact hC0.below hb6
        · exact hC1.below hb6
      · rcases (show i = 0 ∨ i = 1 by omega) with rfl | rfl
        · exact hR0.below hb6
        · exact hR1.below hb6
  have FIN := hide fin
  clear fin hC0 hC1 hR0 hR1 cA5 hb5' hz2 hz3 hz4 hA3 hn0
  obtain ⟨W0, hW0⟩ : ∃ W0, W0 = w5.alloc (.cells #[.pointer (some ⟨n0 + 1 + 1 + 1, 0, none⟩), .pointer (some ⟨n0 + 1 + 1 + 1 + 1, 0, none⟩)] 67) := ⟨_, rfl⟩
  obtain ⟨f1, f2, f3, f4, f5⟩ := FIN.out W0 hW0
  have g0 := f2 0 (by omega)
  have g1 := f2 1 (by omega)
  rw [hW0] at g0 g1
  go_wp2
  rw [← hW0]
  have kb0 : Below w.heap.size w W0 := hb1.trans (f4.mono hw0)
  have HF1 := hide f1
  have HF2 := hide f2
  have HF3 := hide f3
  have KB0 := hide kb0
  have HPT : Hid (Pts W0 (four n0 (n0 + 1) (n0 + 1 + 1 + 1) (n0 + 1 + 1 + 1 + 1))) := ⟨fun i hi => by rw [f1]; unfold four; (repeat' split) <;> omega, fun i j hi hj hij => by unfold four; (repeat' split) <;> omega⟩
  have HPN : Hid (∀ i, i < 4 → w.heap.size ≤ four n0 (n0 + 1) (n0 + 1 + 1 + 1) (n0 + 1 + 1 + 1 + 1) i) := fun i hi => by unfold four; (repeat' split) <;> omega
  have HAA : Hid (∀ (wr : World) (v : Nat → Value) (i : Nat), i < 2 → Inv W0 (four n0 (n0 + 1) (n0 + 1 + 1 + 1) (n0 + 1 + 1 + 1 + 1)) wr v → wr.cell? ⟨n0 + 1 + 1, i, none⟩ = some (.pointer (some ⟨n0 + i, 0, none⟩))) := fun wr v i hi hI => cell_kept hI (n0 + 1 + 1) i (by omega) (fun i hi => by unfold four; (repeat' split) <;> omega) _ (f2 i hi)
  have HBB : Hid (∀ (wr : World) (v : Nat → Value) (i : Nat), i < 2 → Inv W0 (four n0 (n0 + 1) (n0 + 1 + 1 + 1) (n0 + 1 + 1 + 1 + 1)) wr v → wr.cell? ⟨n0 + 1 + 1 + 1 + 1 + 1, i, none⟩ = some (.pointer (some ⟨n0 + 3 + i, 0, none⟩))) := fun wr v i hi hI => cell_kept hI (n0 + 1 + 1 + 1 + 1 + 1) i (by omega) (fun i hi => by unfold four; (repeat' split) <;> omega) _ (f3 i hi)
  clear f1 f2 f3 f4 kb0 hW0 FIN g0 g1 hb1 hw0 hz5
  obtain ⟨P, hP⟩ : ∃ P, four n0 (n0 + 1) (n0 + 1 + 1 + 1) (n0 + 1 + 1 + 1 + 1) = P := ⟨_, rfl⟩
  have HP0 : Hid (n0 = P 0) := by rw [← hP]; rfl
  have HP1 : Hid (n0 + 1 = P 1) := by rw [← hP]; rfl
  have HP2 : Hid (n0 + 3 = P 2) := by rw [← hP]; rfl
  have HP3 : Hid (n0 + 3 + 1 = P 3) := by rw [← hP]; rfl
  rw [hP] at f5 HPT HPN HAA HBB
  obtain ⟨A, hA⟩ : ∃ A, n0 + 1 + 1 = A := ⟨_, rfl⟩
  obtain ⟨B, hB⟩ : ∃ B, n0 + 1 + 1 + 1 + 1 + 1 = B := ⟨_, rfl⟩
  rw [hB] at HBB ⊢
  rw [hA] at HAA ⊢
  clear hA hB hP
  go_loopw [5] (fun i wr => ∃ k : Nat, k ≤ os.length ∧ i = .int .i64 (k : Int) ∧ ∃ v s, St2 W0 P wr v s s ∧ ∀ i, i < 2 → ∀ l, s i = some l → l.length ≤ k * 2097152) (fun i _ => os.length - (intOf i).toNat)
  case atStart => exact ⟨0, by omega, rfl, _, _, f5, fun i _ l e => by cases e; exact Nat.le_refl _⟩
  case round =>
    clear f5
    obtain ⟨k, hk, rfl, v, s, hS, hlen⟩ := hrel
    by_cases hlt : k < os.length
    · have hd : decide ((k : Int) < (os.length : Int)) = true := decide_eq_true (by omega)
      obtain ⟨b, o, rfl, hbl, hat⟩ := HST.out.get k hlt
      have hk0 : (0 : Int) ≤ (k : Int) := by omega
      have hk1 : (k : Int) < (os.length : Int) := by omega
      obtain ⟨O, hO⟩ : ∃ O, os[k] = O := ⟨_, rfl⟩
      have hVok : O.V.ok (xo O.V) := HOK.out O (by rw [← hO]; exact List.getElem_mem hlt)
      rw [hO] at hat
      have HARG : Hid (∀ (wr : World) (v : Nat → Value), Inv W0 P wr v → At wr b (o + k * 40) (ov O) 40) := fun wr v hI => hat.below (hI.old KB0.out HPN.out) hbl
      have c2 := op_two (HARG.out wr v hS.inv)
      obtain ⟨V, hV⟩ : ∃ V, O.V = V := ⟨_, rfl⟩
      rw [hV] at hVok
      have HVAL : Hid (∀ (wr : World) (v : Nat → Value), Inv W0 P wr v → At wr b (o + k * 40 + 1) (vv V) 37) := fun wr v hI => by rw [← hV]; exact op_val (HARG.out wr v hI)
      have HLN : Hid (∀ i, i < 2 → ∀ l, s i = some l → l.length + 2097152 ≤ 140737488355328) := fun i hi l e => by
        have := hlen i hi l e
        have : k * 2097152 ≤ 1048576 * 2097152 := Nat.mul_le_mul_right _ (by omega)
        omega
      have HNX : Hid (∀ (t : Nat), t < 2 → ∀ i, i < 2 → ∀ l, upd s t (layS V (xo V) (s t)) i = some l → l.length ≤ (k + 1) * 2097152) := fun t ht i hi l e => by
        by_cases h : i = t
        · subst h
          rw [upd_same] at e
          unfold layS at e
          split at e
          · cases e
          · cases hs : s i with
            | none => rw [hs] at e; cases e
            | some l0 =>
              rw [hs] at e
              simp only [Option.map_some, Option.some.injEq] at e
              have h1 := hlen i hi l0 hs
              have h2 := vb_length V (xo V) hVok.s
              rw [← e, List.length_append]
              omega
        · rw [upd_ne _ _ _ _ h] at e
          have h1 := hlen i hi l e
          exact Nat.le_trans h1 (Nat.mul_le_mul_right _ (by omega))
      clear hat hO HARG hlen
      rcases htw : O.two with _ | _
      · have CAT : Hid (∀ (wr : World) (v : Nat → Value), Inv W0 P wr v → wr.cell? ⟨A, 0, none⟩ = some (.pointer (some ⟨P 0, 0, none⟩))) := fun wr v hI => by
          have := HAA.out wr v 0 (by omega) hI
          rw [show n0 + 0 = P 0 from HP0.out] at this
          exact this
        have CBT : Hid (∀ (wr : World) (v : Nat → Value), Inv W0 P wr v → wr.cell? ⟨B, 0, none⟩ = some (.pointer (some ⟨P 2, 0, none⟩))) := fun wr v hI => by
          have := HBB.out wr v 0 (by omega) hI
          rw [show n0 + 3 + 0 = P 2 from HP2.out] at this
          exact this
        rw [htw] at c2
        have hSd : St2 W0 P wr.drew v s s := hS.below (Below.refl wr.heap.size wr).drew
        go_wp2
        refine wp_region_noPanic ?_
        refine wp_region_held_drew (S := fun wx => wx.cell? ⟨A, 0, none⟩ = some (.pointer (some ⟨P 0, 0, none⟩)) ∧ At wx b (o + k * 40 + 1) (vv V) 37) (by kernel_rfl) ⟨CAT.out _ _ hSd.inv, HVAL.out _ _ hSd.inv⟩ (fun hHeld => ?_)
        refine takeH 0 (some 39) (.int .i64 0) rfl rfl (by kernel_rfl) (by kernel_rfl) (by kernel_rfl) (fun _ _ _ h => h) (by rfl) (fun w hw => by first | rfl | (go_simp; done) | (go_simp; rfl)) hHeld ?_
        simp only [Act.put, List.setIfInBounds_toArray, List.set_cons_zero, List.set_cons_succ]
        refine takeH 1 (some 40) (.pointer (some ⟨A, 0, none⟩)) rfl rfl (by kernel_rfl) (by kernel_rfl) (by kernel_rfl) (fun _ _ _ h => h) (by rfl) (fun w hw => by first | rfl | (go_simp; done) | (go_simp; rfl)) hHeld ?_
        simp only [Act.put, List.setIfInBounds_toArray, List.set_cons_zero, List.set_cons_succ]
        refine takeH 2 (some 41) (.pointer (some ⟨P 0, 0, none⟩)) rfl rfl (by kernel_rfl) (by kernel_rfl) (by kernel_rfl) (fun _ _ _ h => h) (by rfl) (fun w hw => by have hd := hw.1; first | (go_simp; done) | (go_simp; rfl)) hHeld ?_
        simp only [Act.put, List.setIfInBounds_toArray, List.set_cons_zero, List.set_cons_succ]
        refine takeH 3 (some 42) (.slice (some ⟨b, o, none⟩) os.length c) rfl rfl (by kernel_rfl) (by kernel_rfl) (by kernel_rfl) (fun _ _ _ h => h) (by rfl) (fun w hw => by first | rfl | (go_simp; done) | (go_simp; rfl)) hHeld ?_
        simp only [Act.put, List.setIfInBounds_toArray, List.set_cons_zero, List.set_cons_succ]
        refine takeH 4 (some 43) (.int .i64 (k : Int)) rfl rfl (by kernel_rfl) (by kernel_rfl) (by kernel_rfl) (fun _ _ _ h => h) (by rfl) (fun w hw => by first | rfl | (go_simp; done) | (go_simp; rfl)) hHeld ?_
        simp only [Act.put, List.setIfInBounds_toArray, List.set_cons_zero, List.set_cons_succ]
        refine takeH 5 (some 44) (.pointer (some ⟨b, o + k * 40, none⟩)) rfl rfl (by kernel_rfl) (by kernel_rfl) (by kernel_rfl) (fun _ _ _ h => h) (by rfl) (fun w hw => by first | rfl | (go_simp; done) | (go_simp; rfl)) hHeld ?_
        simp only [Act.put, List.setIfInBounds_toArray, List.set_cons_zero, List.set_cons_succ]
        refine takeH 6 (some 45) (.pointer (some ⟨b, o + k * 40 + 1, none⟩)) rfl rfl (by kernel_rfl) (by kernel_rfl) (by kernel_rfl) (fun _ _ _ h => h) (by rfl) (fun w hw => by first | rfl | (go_simp; done) | (go_simp; rfl)) hHeld ?_
        simp only [Act.put, List.setIfInBounds_toArray, List.set_cons_zero, List.set_cons_succ]
        refine takeH 7 (some 46) (.agg (tabv (vv V) 37)) rfl rfl (by kernel_rfl) (by kernel_rfl) (by kernel_rfl) (fun _ _ _ h => h) (by rfl) (fun w hw => run_load_at w 56 _ rfl b (o + k * 40 + 1) (by rfl) _ 37 _ hw.2 Try.underlying56 rfl info56) hHeld ?_
        simp only [Act.put, List.setIfInBounds_toArray, List.set_cons_zero, List.set_cons_succ]
        refine wpAnyH_ready (rs := [8]) (by kernel_rfl) (by simp) (AllReadyH.cons rfl (fun K hK => ?_) AllReadyH.nil)
        rw [if_pos (by rfl)]
        go_simp
        refine (lays_any V (xo V) hVok (P 0) (v 0) (s 0) wr.drew (hSd.code 0 (by omega)) (HLN.out 0 (by omega))).mono ?_
        rintro e w6 ⟨rfl, v6, hC6, hM6⟩
        have h6 := hSd.stepC HPT.out 0 (by omega) hM6 hC6
        try go_wp2_with fail
        refine hK.out _ _ ⟨CAT.out _ _ h6.inv, HVAL.out _ _ h6.inv⟩ (fun hHeld => ?_)
        clear hK K
        refine ⟨by kernel_rfl, ?_⟩
        refine NoPanic.normal ?_
        clear hS hSd hM6 hC6 c2
        have h6d : St2 W0 P w6.drew (upd v 0 v6) (upd s 0 (layS V (xo V) (s 0))) s := h6.below (Below.refl w6.heap.size w6).drew
        have hR6 : RW w6.drew (P 2) (v (0 + 2)) (s 0) := by
          have := h6d.ref 0 (by omega)
          rw [upd_ne _ _ _ _ (by omega)] at this
          exact this
        go_wp2
        refine wp_region_noPanic ?_
        refine wp_region_held_drew (S := fun wx => wx.cell? ⟨B, 0, none⟩ = some (.pointer (some ⟨P 2, 0, none⟩)) ∧ At wx b (o + k * 40 + 1) (vv V) 37) (by kernel_rfl) ⟨CBT.out _ _ h6d.inv, HVAL.out _ _ h6d.inv⟩ (fun hHeld => ?_)
        refine takeH 0 (some 48) (.int .i64 0) rfl rfl (by kernel_rfl) (by kernel_rfl) (by kernel_rfl) (fun _ _ _ h => h) (by rfl) (fun w hw => by first | rfl | (go_simp; done) | (go_simp; rfl)) hHeld ?_
        simp only [Act.put, List.setIfInBounds_toArray, List.set_cons_zero, List.set_cons_succ]
        refine takeH 1 (some 49) (.pointer (some ⟨B, 0, none⟩)) rfl rfl (by kernel_rfl) (by kernel_rfl) (by kernel_rfl) (fun _ _ _ h => h) (by rfl) (fun w hw => by first | rfl | (go_simp; done) | (go_simp; rfl)) hHeld ?_
        simp only [Act.put, List.setIfInBounds_toArray, List.set_cons_zero, List.set_cons_succ]
        refine takeH 2 (some 50) (.pointer (some ⟨P 2, 0, none⟩)) rfl rfl (by kernel_rfl) (by kernel_rfl) (by kernel_rfl) (fun _ _ _ h => h) (by rfl) (fun w hw => by have hd := hw.1; first | (go_simp; done) | (go_simp; rfl)) hHeld ?_
        simp only [Act.put, List.setIfInBounds_toArray, List.set_cons_zero, List.set_cons_succ]
        refine takeH 3 (some 51) (.slice (some ⟨b, o, none⟩) os.length c) rfl rfl (by kernel_rfl) (by kernel_rfl) (by kernel_rfl) (fun _ _ _ h => h) (by rfl) (fun w hw => by first | rfl | (go_simp; done) | (go_simp; rfl)) hHeld ?_
        simp only [Act.put, List.setIfInBounds_toArray, List.set_cons_zero, List.set_cons_succ]
        refine takeH 4 (some 52) (.int .i64 (k : Int)) rfl rfl (by kernel_rfl) (by kernel_rfl) (by kernel_rfl) (fun _ _ _ h => h) (by rfl) (fun w hw => by first | rfl | (go_simp; done) | (go_simp; rfl)) hHeld ?_
        simp only [Act.put, List.setIfInBounds_toArray, List.set_cons_zero, List.set_cons_succ]
        refine takeH 5 (some 53) (.pointer (some ⟨b, o + k * 40, none⟩)) rfl rfl (by kernel_rfl) (by kernel_rfl) (by kernel_rfl) (fun _ _ _ h => h) (by rfl) (fun w hw => by first | rfl | (go_simp; done) | (go_simp; rfl)) hHeld ?_
        simp only [Act.put, List.setIfInBounds_toArray, List.set_cons_zero, List.set_cons_succ]
        refine takeH 6 (some 54) (.pointer (some ⟨b, o + k * 40 + 1, none⟩)) rfl rfl (by kernel_rfl) (by kernel_rfl) (by kernel_rfl) (fun _ _ _ h => h) (by rfl) (fun w hw => by first | rfl | (go_simp; done) | (go_simp; rfl)) hHeld ?_
        simp only [Act.put, List.setIfInBounds_toArray, List.set_cons_zero, List.set_cons_succ]
        refine takeH 7 (some 55) (.agg (tabv (vv V) 37)) rfl rfl (by kernel_rfl) (by kernel_rfl) (by kernel_rfl) (fun _ _ _ h => h) (by rfl) (fun w hw => run_load_at w 56 _ rfl b (o + k * 40 + 1) (by rfl) _ 37 _ hw.2 Try.underlying56 rfl info56) hHeld ?_
        simp only [Act.put, List.setIfInBounds_toArray, List.set_cons_zero, List.set_cons_succ]
        refine wpAnyH_ready (rs := [8]) (by kernel_rfl) (by simp) (AllReadyH.cons rfl (fun K hK => ?_) AllReadyH.nil)
        rw [if_pos (by rfl)]
        go_simp
        refine (wants_any V (xo V) hVok (P 2) (v (0 + 2)) (s 0) w6.drew hR6 (HLN.out 0 (by omega))).mono ?_
        rintro e w7 ⟨rfl, v7, hC7, hM7⟩
        have h7 := h6d.stepR HPT.out 0 (by omega) (by rw [upd_ne _ _ _ _ (by omega)]; exact hM7) hC7
        try go_wp2_with fail
        refine hK.out _ _ ⟨CBT.out _ _ h7.inv, HVAL.out _ _ h7.inv⟩ (fun hHeld => ?_)
        clear hK K
        refine ⟨by kernel_rfl, ?_⟩
        refine NoPanic.normal ?_
        clear h6 h6d hR6 hM7 hC7 CAT CBT
        have hnx := HNX.out 0 (by omega)
        have HNX2 := hide hnx
        clear hnx HNX HLN HVAL
        generalize upd (upd v 0 v6) (0 + 2) v7 = vn at h7
        generalize upd s 0 (layS V (xo V) (s 0)) = sn at h7 HNX2
        go_wp2
        go_loopw [7] (fun i wr => ∃ j : Nat, j ≤ 2 ∧ i = .int .i64 (j : Int) ∧ St2 W0 P wr vn sn sn) (fun i _ => 2 - (intOf i).toNat)
        case atStart => exact ⟨0, by omega, rfl, h7⟩
        case round =>
          clear h7
          obtain ⟨j, hj, rfl, hS⟩ := hrel
          rcases (show j = 0 ∨ j = 1 ∨ j = 2 by omega) with rfl | rfl | rfl
          · have CA : Hid (∀ (wr : World) (v : Nat → Value), Inv W0 P wr v → wr.cell? ⟨A, 0, none⟩ = some (.pointer (some ⟨P 0, 0, none⟩))) := fun wr v hI => by
              have := HAA.out wr v 0 (by omega) hI
              rw [show n0 + 0 = P 0 from HP0.out] at this
              exact this
            have CB : Hid (∀ (wr : World) (v : Nat → Value), Inv W0 P wr v → wr.cell? ⟨B, 0, none⟩ = some (.pointer (some ⟨P 2, 0, none⟩))) := fun wr v hI => by
              have := HBB.out wr v 0 (by omega) hI
              rw [show n0 + 3 + 0 = P 2 from HP2.out] at this
              exact this
            have ca := CA.out _ _ hS.inv
            go_wp2_with fail
            refine (wOut (P 0) _ _ _ (hS.code 0 (by omega))).mono ?_
            rintro e w8 ⟨rfl, hb8⟩
            have h8 := hS.below hb8
            have cb := CB.out _ _ h8.inv
            obtain ⟨SS, hSS⟩ : ∃ SS, outS (sn 0) = SS := ⟨_, rfl⟩
            obtain ⟨EE, hEE⟩ : ∃ EE, outE (sn 0) = EE := ⟨_, rfl⟩
            obtain ⟨LL, hLL⟩ : ∃ LL : Int, (((sn 0).getD []).length : Int) = LL := ⟨_, rfl⟩
            rw [hSS, hEE]
            clear ca hS
            go_wp2_with fail
            refine (qOut (P 2) _ _ _ (h8.ref 0 (by omega))).mono ?_
            rintro e w9 ⟨rfl, hb9⟩
            rw [hSS, hEE]
            have h9 := h8.below hb9
            have h9d : St2 W0 P w9.drew vn sn sn := h9.below (Below.refl w9.heap.size w9).drew
            have HL1 := hide (wLen (P 0) _ _ w9.drew (h9d.code 0 (by omega)))
            have HL2 := hide (qLen (P 2) _ _ w9.drew (h9d.ref 0 (by omega)))
            rw [hLL] at HL1 HL2
            clear hSS hEE hLL h8 hb8 hb9 cb
            go_wp2
            refine wp_region_noPanic ?_
            refine wp_region_held_drew (S := fun wx => wx.cell? ⟨A, 0, none⟩ = some (.pointer (some ⟨P 0, 0, none⟩)) ∧ wx.cell? ⟨B, 0, none⟩ = some (.pointer (some ⟨P 2, 0, none⟩))) (by kernel_rfl) ⟨CA.out _ _ h9d.inv, CB.out _ _ h9d.inv⟩ (fun hHeld => ?_)
            refine takeH 0 (some 75) (.string SS) rfl rfl (by kernel_rfl) (by kernel_rfl) (by kernel_rfl) (fun _ _ _ h => h) (by rfl) (fun w hw => by first | rfl | (go_simp; done) | (go_simp; rfl)) hHeld ?_
            simp only [Act.put, List.setIfInBounds_toArray, List.set_cons_zero, List.set_cons_succ]
            refine takeH 1 (some 76) (.string SS) rfl rfl (by kernel_rfl) (by kernel_rfl) (by kernel_rfl) (fun _ _ _ h => h) (by rfl) (fun w hw => by first | rfl | (go_simp; done) | (go_simp; rfl)) hHeld ?_
            simp only [Act.put, List.setIfInBounds_toArray, List.set_cons_zero, List.set_cons_succ]
            refine takeH 2 (some 77) (.bool false) rfl rfl (by kernel_rfl) (by kernel_rfl) (by kernel_rfl) (fun _ _ _ h => h) (by rfl) (fun w hw => by first | rfl | (go_simp; done) | (go_simp; rfl)) hHeld ?_
            simp only [Act.put, List.setIfInBounds_toArray, List.set_cons_zero, List.set_cons_succ]
            refine takeH 3 (some 78) (.bool false) rfl rfl (by kernel_rfl) (by kernel_rfl) (by kernel_rfl) (fun _ _ _ h => h) (by rfl) (fun w hw => by first | rfl | (go_simp; done) | (go_simp; rfl)) hHeld ?_
            simp only [Act.put, List.setIfInBounds_toArray, List.set_cons_zero, List.set_cons_succ]
            refine takeH 4 (some 79) (.int .i64 EE) rfl rfl (by kernel_rfl) (by kernel_rfl) (by kernel_rfl) (fun _ _ _ h => h) (by rfl) (fun w hw => by first | rfl | (go_simp; done) | (go_simp; rfl)) hHeld ?_
            simp only [Act.put, List.setIfInBounds_toArray, List.set_cons_zero, List.set_cons_succ]
            refine takeH 5 (some 80) (.int .i64 EE) rfl rfl (by kernel_rfl) (by kernel_rfl) (by kernel_rfl) (fun _ _ _ h => h) (by rfl) (fun w hw => by first | rfl | (go_simp; done) | (go_simp; rfl)) hHeld ?_
            simp only [Act.put, List.setIfInBounds_toArray, List.set_cons_zero, List.set_cons_succ]
            refine takeH 6 (some 81) (.bool false) rfl rfl (by kernel_rfl) (by kernel_rfl) (by kernel_rfl) (fun _ _ _ h => h) (by rfl) (fun w hw => by first | rfl | (go_simp; done) | (go_simp; rfl)) hHeld ?_
            simp only [Act.put, List.setIfInBounds_toArray, List.set_cons_zero, List.set_cons_succ]
            refine takeH 7 (some 82) (.bool false) rfl rfl (by kernel_rfl) (by kernel_rfl) (by kernel_rfl) (fun _ _ _ h => h) (by rfl) (fun w hw => by first | rfl | (go_simp; done) | (go_simp; rfl)) hHeld ?_
            simp only [Act.put, List.setIfInBounds_toArray, List.set_cons_zero, List.set_cons_succ]
            refine takeH 8 (some 83) (.bool false) rfl rfl (by kernel_rfl) (by kernel_rfl) (by kernel_rfl) (fun _ _ _ h => h) (by rfl) (fun w hw => by first | rfl | (go_simp; done) | (go_simp; rfl)) hHeld ?_
            simp only [Act.put, List.setIfInBounds_toArray, List.set_cons_zero, List.set_cons_succ]
            refine takeH 9 (some 84) (.int .i64 0) rfl rfl (by kernel_rfl) (by kernel_rfl) (by kernel_rfl) (fun _ _ _ h => h) (by rfl) (fun w hw => by first | rfl | (go_simp; done) | (go_simp; rfl)) hHeld ?_
            simp only [Act.put, List.setIfInBounds_toArray, List.set_cons_zero, List.set_cons_succ]
            refine takeH 10 (some 85) (.pointer (some ⟨A, 0, none⟩)) rfl rfl (by kernel_rfl) (by kernel_rfl) (by kernel_rfl) (fun _ _ _ h => h) (by rfl) (fun w hw => by first | rfl | (go_simp; done) | (go_simp; rfl)) hHeld ?_
            simp only [Act.put, List.setIfInBounds_toArray, List.set_cons_zero, List.set_cons_succ]
            refine takeH 11 (some 86) (.pointer (some ⟨P 0, 0, none⟩)) rfl rfl (by kernel_rfl) (by kernel_rfl) (by kernel_rfl) (fun _ _ _ h => h) (by rfl) (fun w hw => by have hd := hw.1; first | (go_simp; done) | (go_simp; rfl)) hHeld ?_
            simp only [Act.put, List.setIfInBounds_toArray, List.set_cons_zero, List.set_cons_succ]
            refine takeH 13 (some 88) (.int .i64 0) rfl rfl (by kernel_rfl) (by kernel_rfl) (by kernel_rfl) (fun _ _ _ h => h) (by rfl) (fun w hw => by first | rfl | (go_simp; done) | (go_simp; rfl)) hHeld ?_
            simp only [Act.put, List.setIfInBounds_toArray, List.set_cons_zero, List.set_cons_succ]
            refine takeH 14 (some 89) (.pointer (some ⟨B, 0, none⟩)) rfl rfl (by kernel_rfl) (by kernel_rfl) (by kernel_rfl) (fun _ _ _ h => h) (by rfl) (fun w hw => by first | rfl | (go_simp; done) | (go_simp; rfl)) hHeld ?_
            simp only [Act.put, List.setIfInBounds_toArray, List.set_cons_zero, List.set_cons_succ]
            refine takeH 15 (some 90) (.pointer (some ⟨P 2, 0, none⟩)) rfl rfl (by kernel_rfl) (by kernel_rfl) (by kernel_rfl) (fun _ _ _ h => h) (by rfl) (fun w hw => by have hd := hw.2; first | (go_simp; done) | (go_simp; rfl)) hHeld ?_
            simp only [Act.put, List.setIfInBounds_toArray, List.set_cons_zero, List.set_cons_succ]
            refine wpAnyH_ready (rs := [12]) (by kernel_rfl) (by simp) (AllReadyH.cons rfl (fun K hK => ?_) AllReadyH.nil)
            rw [if_pos (by rfl)]
            go_simp
            refine (HL1.out).mono ?_
            rintro e w10 ⟨rfl, rfl⟩
            try go_wp2_with fail
            refine hK.out _ _ ⟨CA.out _ _ h9d.inv, CB.out _ _ h9d.inv⟩ (fun hHeld => ?_)
            clear hK K
            refine wpAnyH_ready (rs := [16]) (by kernel_rfl) (by simp) (AllReadyH.cons rfl (fun K hK => ?_) AllReadyH.nil)
            rw [if_pos (by rfl)]
            go_simp
            refine (HL2.out).mono ?_
            rintro e w11 ⟨rfl, rfl⟩
            try go_wp2_with fail
            refine hK.out _ _ ⟨CA.out _ _ h9d.inv, CB.out _ _ h9d.inv⟩ (fun hHeld => ?_)
            clear hK K
            refine takeH 17 (some 92) (.bool false) rfl rfl (by kernel_rfl) (by kernel_rfl) (by kernel_rfl) (fun _ _ _ h => h) (by rfl) (fun w hw => by first | rfl | (go_simp; done) | (go_simp; rfl)) hHeld ?_
            simp only [Act.put, List.setIfInBounds_toArray, List.set_cons_zero, List.set_cons_succ]
            refine takeH 18 (some 93) (.bool false) rfl rfl (by kernel_rfl) (by kernel_rfl) (by kernel_rfl) (fun _ _ _ h => h) (by rfl) (fun w hw => by first | rfl | (go_simp; done) | (go_simp; rfl)) hHeld ?_
            simp only [Act.put, List.setIfInBounds_toArray, List.set_cons_zero, List.set_cons_succ]
            refine ⟨by kernel_rfl, ?_⟩
            refine NoPanic.normal ?_
            go_wp2
            go_roundw
            case rel => exact ⟨0 + 1, by omega, by first | rfl | go_num, h9d⟩
            case measure => simp [intOf]
          · have CA : Hid (∀ (wr : World) (v : Nat → Value), Inv W0 P wr v → wr.cell? ⟨A, 1, none⟩ = some (.pointer (some ⟨P 1, 0, none⟩))) := fun wr v hI => by
              have := HAA.out wr v 1 (by omega) hI
              rw [show n0 + 1 = P 1 from HP1.out] at this
              exact this
            have CB : Hid (∀ (wr : World) (v : Nat → Value), Inv W0 P wr v → wr.cell? ⟨B, 1, none⟩ = some (.pointer (some ⟨P 3, 0, none⟩))) := fun wr v hI => by
              have := HBB.out wr v 1 (by omega) hI
              rw [show n0 + 3 + 1 = P 3 from HP3.out] at this
              exact this
            have ca := CA.out _ _ hS.inv
            go_wp2_with fail
            refine (wOut (P 1) _ _ _ (hS.code 1 (by omega))).mono ?_
            rintro e w8 ⟨rfl, hb8⟩
            have h8 := hS.below hb8
            have cb := CB.out _ _ h8.inv
            obtain ⟨SS, hSS⟩ : ∃ SS, outS (sn 1) = SS := ⟨_, rfl⟩
            obtain ⟨EE, hEE⟩ : ∃ EE, outE (sn 1) = EE := ⟨_, rfl⟩
            obtain ⟨LL, hLL⟩ : ∃ LL : Int, (((sn 1).getD []).length : Int) = LL := ⟨_, rfl⟩
            rw [hSS, hEE]
            clear ca hS
            go_wp2_with fail
            refine (qOut (P 3) _ _ _ (h8.ref 1 (by omega))).mono ?_
            rintro e w9 ⟨rfl, hb9⟩
            rw [hSS, hEE]
            have h9 := h8.below hb9
            have h9d : St2 W0 P w9.drew vn sn sn := h9.below (Below.refl w9.heap.size w9).drew
            have HL1 := hide (wLen (P 1) _ _ w9.drew (h9d.code 1 (by omega)))
            have HL2 := hide (qLen (P 3) _ _ w9.drew (h9d.ref 1 (by omega)))
            rw [hLL] at HL1 HL2
            clear hSS hEE hLL h8 hb8 hb9 cb
            go_wp2
            refine wp_region_noPanic ?_
            refine wp_region_held_drew (S := fun wx => wx.cell? ⟨A, 1, none⟩ = some (.pointer (some ⟨P 1, 0, none⟩)) ∧ wx.cell? ⟨B, 1, none⟩ = some (.pointer (some ⟨P 3, 0, none⟩))) (by kernel_rfl) ⟨CA.out _ _ h9d.inv, CB.out _ _ h9d.inv⟩ (fun hHeld => ?_)
            refine takeH 0 (some 75) (.string SS) rfl rfl (by kernel_rfl) (by kernel_rfl) (by kernel_rfl) (fun _ _ _ h => h) (by rfl) (fun w hw => by first | rfl | (go_simp; done) | (go_simp; rfl)) hHeld ?_
            simp only [Act.put, List.setIfInBounds_toArray, List.set_cons_zero, List.set_cons_succ]
            refine takeH 1 (some 76) (.string SS) rfl rfl (by kernel_rfl) (by kernel_rfl) (by kernel_rfl) (fun _ _ _ h => h) (by rfl) (fun w hw => by first | rfl | (go_simp; done) | (go_simp; rfl)) hHeld ?_
            simp only [Act.put, List.setIfInBounds_toArray, List.set_cons_zero, List.set_cons_succ]
            refine takeH 2 (some 77) (.bool false) rfl rfl (by kernel_rfl) (by kernel_rfl) (by kernel_rfl) (fun _ _ _ h => h) (by rfl) (fun w hw => by first | rfl | (go_simp; done) | (go_simp; rfl)) hHeld ?_
            simp only [Act.put, List.setIfInBounds_toArray, List.set_cons_zero, List.set_cons_succ]
            refine takeH 3 (some 78) (.bool false) rfl rfl (by kernel_rfl) (by kernel_rfl) (by kernel_rfl) (fun _ _ _ h => h) (by rfl) (fun w hw => by first | rfl | (go_simp; done) | (go_simp; rfl)) hHeld ?_
            simp only [Act.put, List.setIfInBounds_toArray, List.set_cons_zero, List.set_cons_succ]
            refine takeH 4 (some 79) (.int .i64 EE) rfl rfl (by kernel_rfl) (by kernel_rfl) (by kernel_rfl) (fun _ _ _ h => h) (by rfl) (fun w hw => by first | rfl | (go_simp; done) | (go_simp; rfl)) hHeld ?_
            simp only [Act.put, List.setIfInBounds_toArray, List.set_cons_zero, List.set_cons_succ]
            refine takeH 5 (some 80) (.int .i64 EE) rfl rfl (by kernel_rfl) (by kernel_rfl) (by kernel_rfl) (fun _ _ _ h => h) (by rfl) (fun w hw => by first | rfl | (go_simp; done) | (go_simp; rfl)) hHeld ?_
            simp only [Act.put, List.setIfInBounds_toArray, List.set_cons_zero, List.set_cons_succ]
            refine takeH 6 (some 81) (.bool false) rfl rfl (by kernel_rfl) (by kernel_rfl) (by kernel_rfl) (fun _ _ _ h => h) (by rfl) (fun w hw => by first | rfl | (go_simp; done) | (go_simp; rfl)) hHeld ?_
            simp only [Act.put, List.setIfInBounds_toArray, List.set_cons_zero, List.set_cons_succ]
            refine takeH 7 (some 82) (.bool false) rfl rfl (by kernel_rfl) (by kernel_rfl) (by kernel_rfl) (fun _ _ _ h => h) (by rfl) (fun w hw => by first | rfl | (go_simp; done) | (go_simp; rfl)) hHeld ?_
            simp only [Act.put, List.setIfInBounds_toArray, List.set_cons_zero, List.set_cons_succ]
            refine takeH 8 (some 83) (.bool false) rfl rfl (by kernel_rfl) (by kernel_rfl) (by kernel_rfl) (fun _ _ _ h => h) (by rfl) (fun w hw => by first | rfl | (go_simp; done) | (go_simp; rfl)) hHeld ?_
            simp only [Act.put, List.setIfInBounds_toArray, List.set_cons_zero, List.set_cons_succ]
            refine takeH 9 (some 84) (.int .i64 1) rfl rfl (by kernel_rfl) (by kernel_rfl) (by kernel_rfl) (fun _ _ _ h => h) (by rfl) (fun w hw => by first | rfl | (go_simp; done) | (go_simp; rfl)) hHeld ?_
            simp only [Act.put, List.setIfInBounds_toArray, List.set_cons_zero, List.set_cons_succ]
            refine takeH 10 (some 85) (.pointer (some ⟨A, 1, none⟩)) rfl rfl (by kernel_rfl) (by kernel_rfl) (by kernel_rfl) (fun _ _ _ h => h) (by rfl) (fun w hw => by first | rfl | (go_simp; done) | (go_simp; rfl)) hHeld ?_
            simp only [Act.put, List.setIfInBounds_toArray, List.set_cons_zero, List.set_cons_succ]
            refine takeH 11 (some 86) (.pointer (some ⟨P 1, 0, none⟩)) rfl rfl (by kernel_rfl) (by kernel_rfl) (by kernel_rfl) (fun _ _ _ h => h) (by rfl) (fun w hw => by have hd := hw.1; first | (go_simp; done) | (go_simp; rfl)) hHeld ?_
            simp only [Act.put, List.setIfInBounds_toArray, List.set_cons_zero, List.set_cons_succ]
            refine takeH 13 (some 88) (.int .i64 1) rfl rfl (by kernel_rfl) (by kernel_rfl) (by kernel_rfl) (fun _ _ _ h => h) (by rfl) (fun w hw => by first | rfl | (go_simp; done) | (go_simp; rfl)) hHeld ?_
            simp only [Act.put, List.setIfInBounds_toArray, List.set_cons_zero, List.set_cons_succ]
            refine takeH 14 (some 89) (.pointer (some ⟨B, 1, none⟩)) rfl rfl (by kernel_rfl) (by kernel_rfl) (by kernel_rfl) (fun _ _ _ h => h) (by rfl) (fun w hw => by first | rfl | (go_simp; done) | (go_simp; rfl)) hHeld ?_
            simp only [Act.put, List.setIfInBounds_toArray, List.set_cons_zero, List.set_cons_succ]
            refine takeH 15 (some 90) (.pointer (some ⟨P 3, 0, none⟩)) rfl rfl (by kernel_rfl) (by kernel_rfl) (by kernel_rfl) (fun _ _ _ h => h) (by rfl) (fun w hw => by have hd := hw.2; first | (go_simp; done) | (go_simp; rfl)) hHeld ?_
            simp only [Act.put, List.setIfInBounds_toArray, List.set_cons_zero, List.set_cons_succ]
            refine wpAnyH_ready (rs := [12]) (by kernel_rfl) (by simp) (AllReadyH.cons rfl (fun K hK => ?_) AllReadyH.nil)
            rw [if_pos (by rfl)]
            go_simp
            refine (HL1.out).mono ?_
            rintro e w10 ⟨rfl, rfl⟩
            try go_wp2_with fail
            refine hK.out _ _ ⟨CA.out _ _ h9d.inv, CB.out _ _ h9d.inv⟩ (fun hHeld => ?_)
            clear hK K
            refine wpAnyH_ready (rs := [16]) (by kernel_rfl) (by simp) (AllReadyH.cons rfl (fun K hK => ?_) AllReadyH.nil)
            rw [if_pos (by rfl)]
            go_simp
            refine (HL2.out).mono ?_
            rintro e w11 ⟨rfl, rfl⟩
            try go_wp2_with fail
            refine hK.out _ _ ⟨CA.out _ _ h9d.inv, CB.out _ _ h9d.inv⟩ (fun hHeld => ?_)
            clear hK K
            refine takeH 17 (some 92) (.bool false) rfl rfl (by kernel_rfl) (by kernel_rfl) (by kernel_rfl) (fun _ _ _ h => h) (by rfl) (fun w hw => by first | rfl | (go_simp; done) | (go_simp; rfl)) hHeld ?_
            simp only [Act.put, List.setIfInBounds_toArray, List.set_cons_zero, List.set_cons_succ]
            refine takeH 18 (some 93) (.bool false) rfl rfl (by kernel_rfl) (by kernel_rfl) (by kernel_rfl) (fun _ _ _ h => h) (by rfl) (fun w hw => by first | rfl | (go_simp; done) | (go_simp; rfl)) hHeld ?_
            simp only [Act.put, List.setIfInBounds_toArray, List.set_cons_zero, List.set_cons_succ]
            refine ⟨by kernel_rfl, ?_⟩
            refine NoPanic.normal ?_
            go_wp2
            go_roundw
            case rel => exact ⟨1 + 1, by omega, by first | rfl | go_num, h9d⟩
            case measure => simp [intOf]
          · go_wp2
            go_roundw
            case rel => exact ⟨k + 1, by omega, by go_num, vn, sn, hS, HNX2.out⟩
            case measure => simp [intOf]; omega
      · have CAT : Hid (∀ (wr : World) (v : Nat → Value), Inv W0 P wr v → wr.cell? ⟨A, 1, none⟩ = some (.pointer (some ⟨P 1, 0, none⟩))) := fun wr v hI => by
          have := HAA.out wr v 1 (by omega) hI
          rw [show n0 + 1 = P 1 from HP1.out] at this
          exact this
        have CBT : Hid (∀ (wr : World) (v : Nat → Value), Inv W0 P wr v → wr.cell? ⟨B, 1, none⟩ = some (.pointer (some ⟨P 3, 0, none⟩))) := fun wr v hI => by
          have := HBB.out wr v 1 (by omega) hI
          rw [show n0 + 3 + 1 = P 3 from HP3.out] at this
          exact this
        rw [htw] at c2
        have hSd : St2 W0 P wr.drew v s s := hS.below (Below.refl wr.heap.size wr).drew
        go_wp2
        refine wp_region_noPanic ?_
        refine wp_region_held_drew (S := fun wx => wx.cell? ⟨A, 1, none⟩ = some (.pointer (some ⟨P 1, 0, none⟩)) ∧ At wx b (o + k * 40 + 1) (vv V) 37) (by kernel_rfl) ⟨CAT.out _ _ hSd.inv, HVAL.out _ _ hSd.inv⟩ (fun hHeld => ?_)
        refine takeH 0 (some 39) (.int .i64 1) rfl rfl (by kernel_rfl) (by kernel_rfl) (by kernel_rfl) (fun _ _ _ h => h) (by rfl) (fun w hw => by first | rfl | (go_simp; done) | (go_simp; rfl)) hHeld ?_
        simp only [Act.put, List.setIfInBounds_toArray, List.set_cons_zero, List.set_cons_succ]
        refine takeH 1 (some 40) (.pointer (some ⟨A, 1, none⟩)) rfl rfl (by kernel_rfl) (by kernel_rfl) (by kernel_rfl) (fun _ _ _ h => h) (by rfl) (fun w hw => by first | rfl | (go_simp; done) | (go_simp; rfl)) hHeld ?_
        simp only [Act.put, List.setIfInBounds_toArray, List.set_cons_zero, List.set_cons_succ]
        refine takeH 2 (some 41) (.pointer (some ⟨P 1, 0, none⟩)) rfl rfl (by kernel_rfl) (by kernel_rfl) (by kernel_rfl) (fun _ _ _ h => h) (by rfl) (fun w hw => by have hd := hw.1; first | (go_simp; done) | (go_simp; rfl)) hHeld ?_
        simp only [Act.put, List.setIfInBounds_toArray, List.set_cons_zero, List.set_cons_succ]
        refine takeH 3 (some 42) (.slice (some ⟨b, o, none⟩) os.length c) rfl rfl (by kernel_rfl) (by kernel_rfl) (by kernel_rfl) (fun _ _ _ h => h) (by rfl) (fun w hw => by first | rfl | (go_simp; done) | (go_simp; rfl)) hHeld ?_
        simp only [Act.put, List.setIfInBounds_toArray, List.set_cons_zero, List.set_cons_succ]
        refine takeH 4 (some 43) (.int .i64 (k : Int)) rfl rfl (by kernel_rfl) (by kernel_rfl) (by kernel_rfl) (fun _ _ _ h => h) (by rfl) (fun w hw => by first | rfl | (go_simp; done) | (go_simp; rfl)) hHeld ?_
        simp only [Act.put, List.setIfInBounds_toArray, List.set_cons_zero, List.set_cons_succ]
        refine takeH 5 (some 44) (.pointer (some ⟨b, o + k * 40, none⟩)) rfl rfl (by kernel_rfl) (by kernel_rfl) (by kernel_rfl) (fun _ _ _ h => h) (by rfl) (fun w hw => by first | rfl | (go_simp; done) | (go_simp; rfl)) hHeld ?_
        simp only [Act.put, List.setIfInBounds_toArray, List.set_cons_zero, List.set_cons_succ]
        refine takeH 6 (some 45) (.pointer (some ⟨b, o + k * 40 + 1, none⟩)) rfl rfl (by kernel_rfl) (by kernel_rfl) (by kernel_rfl) (fun _ _ _ h => h) (by rfl) (fun w hw => by first | rfl | (go_simp; done) | (go_simp; rfl)) hHeld ?_
        simp only [Act.put, List.setIfInBounds_toArray, List.set_cons_zero, List.set_cons_succ]
        refine takeH 7 (some 46) (.agg (tabv (vv V) 37)) rfl rfl (by kernel_rfl) (by kernel_rfl) (by kernel_rfl) (fun _ _ _ h => h) (by rfl) (fun w hw => run_load_at w 56 _ rfl b (o + k * 40 + 1) (by rfl) _ 37 _ hw.2 Try.underlying56 rfl info56) hHeld ?_
        simp only [Act.put, List.setIfInBounds_toArray, List.set_cons_zero, List.set_cons_succ]
        refine wpAnyH_ready (rs := [8]) (by kernel_rfl) (by simp) (AllReadyH.cons rfl (fun K hK => ?_) AllReadyH.nil)
        rw [if_pos (by rfl)]
        go_simp
        refine (lays_any V (xo V) hVok (P 1) (v 1) (s 1) wr.drew (hSd.code 1 (by omega)) (HLN.out 1 (by omega))).mono ?_
        rintro e w6 ⟨rfl, v6, hC6, hM6⟩
        have h6 := hSd.stepC HPT.out 1 (by omega) hM6 hC6
        try go_wp2_with fail
        refine hK.out _ _ ⟨CAT.out _ _ h6.inv, HVAL.out _ _ h6.inv⟩ (fun hHeld => ?_)
        clear hK K
        refine ⟨by kernel_rfl, ?_⟩
        refine NoPanic.normal ?_
        clear hS hSd hM6 hC6 c2
        have h6d : St2 W0 P w6.drew (upd v 1 v6) (upd s 1 (layS V (xo V) (s 1))) s := h6.below (Below.refl w6.heap.size w6).drew
        have hR6 : RW w6.drew (P 3) (v (1 + 2)) (s 1) := by
          have := h6d.ref 1 (by omega)
          rw [upd_ne _ _ _ _ (by omega)] at this
          exact this
        go_wp2
        refine wp_region_noPanic ?_
        refine wp_region_held_drew (S := fun wx => wx.cell? ⟨B, 1, none⟩ = some (.pointer (some ⟨P 3, 0, none⟩)) ∧ At wx b (o + k * 40 + 1) (vv V) 37) (by kernel_rfl) ⟨CBT.out _ _ h6d.inv, HVAL.out _ _ h6d.inv⟩ (fun hHeld => ?_)
        refine takeH 0 (some 48) (.int .i64 1) rfl rfl (by kernel_rfl) (by kernel_rfl) (by kernel_rfl) (fun _ _ _ h => h) (by rfl) (fun w hw => by first | rfl | (go_simp; done) | (go_simp; rfl)) hHeld ?_
        simp only [Act.put, List.setIfInBounds_toArray, List.set_cons_zero, List.set_cons_succ]
        refine takeH 1 (some 49) (.pointer (some ⟨B, 1, none⟩)) rfl rfl (by kernel_rfl) (by kernel_rfl) (by kernel_rfl) (fun _ _ _ h => h) (by rfl) (fun w hw => by first | rfl | (go_simp; done) | (go_simp; rfl)) hHeld ?_
        simp only [Act.put, List.setIfInBounds_toArray, List.set_cons_zero, List.set_cons_succ]
        refine takeH 2 (some 50) (.pointer (some ⟨P 3, 0, none⟩)) rfl rfl (by kernel_rfl) (by kernel_rfl) (by kernel_rfl) (fun _ _ _ h => h) (by rfl) (fun w hw => by have hd := hw.1; first | (go_simp; done) | (go_simp; rfl)) hHeld ?_
        simp only [Act.put, List.setIfInBounds_toArray, List.set_cons_zero, List.set_cons_succ]
        refine takeH 3 (some 51) (.slice (some ⟨b, o, none⟩) os.length c) rfl rfl (by kernel_rfl) (by kernel_rfl) (by kernel_rfl) (fun _ _ _ h => h) (by rfl) (fun w hw => by first | rfl | (go_simp; done) | (go_simp; rfl)) hHeld ?_
        simp only [Act.put, List.setIfInBounds_toArray, List.set_cons_zero, List.set_cons_succ]
        refine takeH 4 (some 52) (.int .i64 (k : Int)) rfl rfl (by kernel_rfl) (by kernel_rfl) (by kernel_rfl) (fun _ _ _ h => h) (by rfl) (fun w hw => by first | rfl | (go_simp; done) | (go_simp; rfl)) hHeld ?_
        simp only [Act.put, List.setIfInBounds_toArray, List.set_cons_zero, List.set_cons_succ]
        refine takeH 5 (some 53) (.pointer (some ⟨b, o + k * 40, none⟩)) rfl rfl (by kernel_rfl) (by kernel_rfl) (by kernel_rfl) (fun _ _ _ h => h) (by rfl) (fun w hw => by first | rfl | (go_simp; done) | (go_simp; rfl)) hHeld ?_
        simp only [Act.put, List.setIfInBounds_toArray, List.set_cons_zero, List.set_cons_succ]
        refine takeH 6 (some 54) (.pointer (some ⟨b, o + k * 40 + 1, none⟩)) rfl rfl (by kernel_rfl) (by kernel_rfl) (by kernel_rfl) (fun _ _ _ h => h) (by rfl) (fun w hw => by first | rfl | (go_simp; done) | (go_simp; rfl)) hHeld ?_
        simp only [Act.put, List.setIfInBounds_toArray, List.set_cons_zero, List.set_cons_succ]
        refine takeH 7 (some 55) (.agg (tabv (vv V) 37)) rfl rfl (by kernel_rfl) (by kernel_rfl) (by kernel_rfl) (fun _ _ _ h => h) (by rfl) (fun w hw => run_load_at w 56 _ rfl b (o + k * 40 + 1) (by rfl) _ 37 _ hw.2 Try.underlying56 rfl info56) hHeld ?_
        simp only [Act.put, List.setIfInBounds_toArray, List.set_cons_zero, List.set_cons_succ]
        refine wpAnyH_ready (rs := [8]) (by kernel_rfl) (by simp) (AllReadyH.cons rfl (fun K hK => ?_) AllReadyH.nil)
        rw [if_pos (by rfl)]
        go_simp
        refine (wants_any V (xo V) hVok (P 3) (v (1 + 2)) (s 1) w6.drew hR6 (HLN.out 1 (by omega))).mono ?_
        rintro e w7 ⟨rfl, v7, hC7, hM7⟩
        have h7 := h6d.stepR HPT.out 1 (by omega) (by rw [upd_ne _ _ _ _ (by omega)]; exact hM7) hC7
        try go_wp2_with fail
        refine hK.out _ _ ⟨CBT.out _ _ h7.inv, HVAL.out _ _ h7.inv⟩ (fun hHeld => ?_)
        clear hK K
        refine ⟨by kernel_rfl, ?_⟩
        refine NoPanic.normal ?_
        clear h6 h6d hR6 hM7 hC7 CAT CBT
        have hnx := HNX.out 1 (by omega)
        have HNX2 := hide hnx
        clear hnx HNX HLN HVAL
        generalize upd (upd v 1 v6) (1 + 2) v7 = vn at h7
        generalize upd s 1 (layS V (xo V) (s 1)) = sn at h7 HNX2
        go_wp2
        go_loopw [7] (fun i wr => ∃ j : Nat, j ≤ 2 ∧ i = .int .i64 (j : Int) ∧ St2 W0 P wr vn sn sn) (fun i _ => 2 - (intOf i).toNat)
        case atStart => exact ⟨0, by omega, rfl, h7⟩
        case round =>
          clear h7
          obtain ⟨j, hj, rfl, hS⟩ := hrel
          rcases (show j = 0 ∨ j = 1 ∨ j = 2 by omega) with rfl | rfl | rfl
          · have CA : Hid (∀ (wr : World) (v : Nat → Value), Inv W0 P wr v → wr.cell? ⟨A, 0, none⟩ = some (.pointer (some ⟨P 0, 0, none⟩))) := fun wr v hI => by
              have := HAA.out wr v 0 (by omega) hI
              rw [show n0 + 0 = P 0 from HP0.out] at this
              exact this
            have CB : Hid (∀ (wr : World) (v : Nat → Value), Inv W0 P wr v → wr.cell? ⟨B, 0, none⟩ = some (.pointer (some ⟨P 2, 0, none⟩))) := fun wr v hI => by
              have := HBB.out wr v 0 (by omega) hI
              rw [show n0 + 3 + 0 = P 2 from HP2.out] at this
              exact this
            have ca := CA.out _ _ hS.inv
            go_wp2_with fail
            refine (wOut (P 0) _ _ _ (hS.code 0 (by omega))).mono ?_
            rintro e w8 ⟨rfl, hb8⟩
            have h8 := hS.below hb8
            have cb := CB.out _ _ h8.inv
            obtain ⟨SS, hSS⟩ : ∃ SS, outS (sn 0) = SS := ⟨_, rfl⟩
            obtain ⟨EE, hEE⟩ : ∃ EE, outE (sn 0) = EE := ⟨_, rfl⟩
            obtain ⟨LL, hLL⟩ : ∃ LL : Int, (((sn 0).getD []).length : Int) = LL := ⟨_, rfl⟩
            rw [hSS, hEE]
            clear ca hS
            go_wp2_with fail
            refine (qOut (P 2) _ _ _ (h8.ref 0 (by omega))).mono ?_
            rintro e w9 ⟨rfl, hb9⟩
            rw [hSS, hEE]
            have h9 := h8.below hb9
            have h9d : St2 W0 P w9.drew vn sn sn := h9.below (Below.refl w9.heap.size w9).drew
            have HL1 := hide (wLen (P 0) _ _ w9.drew (h9d.code 0 (by omega)))
            have HL2 := hide (qLen (P 2) _ _ w9.drew (h9d.ref 0 (by omega)))
            rw [hLL] at HL1 HL2
            clear hSS hEE hLL h8 hb8 hb9 cb
            go_wp2
            refine wp_region_noPanic ?_
            refine wp_region_held_drew (S := fun wx => wx.cell? ⟨A, 0, none⟩ = some (.pointer (some ⟨P 0, 0, none⟩)) ∧ wx.cell? ⟨B, 0, none⟩ = some (.pointer (some ⟨P 2, 0, none⟩))) (by kernel_rfl) ⟨CA.out _ _ h9d.inv, CB.out _ _ h9d.inv⟩ (fun hHeld => ?_)
            refine takeH 0 (some 75) (.string SS) rfl rfl (by kernel_rfl) (by kernel_rfl) (by kernel_rfl) (fun _ _ _ h => h) (by rfl) (fun w hw => by first | rfl | (go_simp; done) | (go_simp; rfl)) hHeld ?_
            simp only [Act.put, List.setIfInBounds_toArray, List.set_cons_zero, List.set_cons_succ]
            refine takeH 1 (some 76) (.string SS) rfl rfl (by kernel_rfl) (by kernel_rfl) (by kernel_rfl) (fun _ _ _ h => h) (by rfl) (fun w hw => by first | rfl | (go_simp; done) | (go_simp; rfl)) hHeld ?_
            simp only [Act.put, List.setIfInBounds_toArray, List.set_cons_zero, List.set_cons_succ]
            refine takeH 2 (some 77) (.bool false) rfl rfl (by kernel_rfl) (by kernel_rfl) (by kernel_rfl) (fun _ _ _ h => h) (by rfl) (fun w hw => by first | rfl | (go_simp; done) | (go_simp; rfl)) hHeld ?_
            simp only [Act.put, List.setIfInBounds_toArray, List.set_cons_zero, List.set_cons_succ]
            refine takeH 3 (some 78) (.bool false) rfl rfl (by kernel_rfl) (by kernel_rfl) (by kernel_rfl) (fun _ _ _ h => h) (by rfl) (fun w hw => by first | rfl | (go_simp; done) | (go_simp; rfl)) hHeld ?_
            simp only [Act.put, List.setIfInBounds_toArray, List.set_cons_zero, List.set_cons_succ]
            refine takeH 4 (some 79) (.int .i64 EE) rfl rfl (by kernel_rfl) (by kernel_rfl) (by kernel_rfl) (fun _ _ _ h => h) (by rfl) (fun w hw => by first | rfl | (go_simp; done) | (go_simp; rfl)) hHeld ?_
            simp only [Act.put, List.setIfInBounds_toArray, List.set_cons_zero, List.set_cons_succ]
            refine takeH 5 (some 80) (.int .i64 EE) rfl rfl (by kernel_rfl) (by kernel_rfl) (by kernel_rfl) (fun _ _ _ h => h) (by rfl) (fun w hw => by first | rfl | (go_simp; done) | (go_simp; rfl)) hHeld ?_
            simp only [Act.put, List.setIfInBounds_toArray, List.set_cons_zero, List.set_cons_succ]
            refine takeH 6 (some 81) (.bool false) rfl rfl (by kernel_rfl) (by kernel_rfl) (by kernel_rfl) (fun _ _ _ h => h) (by rfl) (fun w hw => by first | rfl | (go_simp; done) | (go_simp; rfl)) hHeld ?_
            simp only [Act.put, List.setIfInBounds_toArray, List.set_cons_zero, List.set_cons_succ]
            refine takeH 7 (some 82) (.bool false) rfl rfl (by kernel_rfl) (by kernel_rfl) (by kernel_rfl) (fun _ _ _ h => h) (by rfl) (fun w hw => by first | rfl | (go_simp; done) | (go_simp; rfl)) hHeld ?_
            simp only [Act.put, List.setIfInBounds_toArray, List.set_cons_zero, List.set_cons_succ]
            refine takeH 8 (some 83) (.bool false) rfl rfl (by kernel_rfl) (by kernel_rfl) (by kernel_rfl) (fun _ _ _ h => h) (by rfl) (fun w hw => by first | rfl | (go_simp; done) | (go_simp; rfl)) hHeld ?_
            simp only [Act.put, List.setIfInBounds_toArray, List.set_cons_zero, List.set_cons_succ]
            refine takeH 9 (some 84) (.int .i64 0) rfl rfl (by kernel_rfl) (by kernel_rfl) (by kernel_rfl) (fun _ _ _ h => h) (by rfl) (fun w hw => by first | rfl | (go_simp; done) | (go_simp; rfl)) hHeld ?_
            simp only [Act.put, List.setIfInBounds_toArray, List.set_cons_zero, List.set_cons_succ]
            refine takeH 10 (some 85) (.pointer (some ⟨A, 0, none⟩)) rfl rfl (by kernel_rfl) (by kernel_rfl) (by kernel_rfl) (fun _ _ _ h => h) (by rfl) (fun w hw => by first | rfl | (go_simp; done) | (go_simp; rfl)) hHeld ?_
            simp only [Act.put, List.setIfInBounds_toArray, List.set_cons_zero, List.set_cons_succ]
            refine takeH 11 (some 86) (.pointer (some ⟨P 0, 0, none⟩)) rfl rfl (by kernel_rfl) (by kernel_rfl) (by kernel_rfl) (fun _ _ _ h => h) (by rfl) (fun w hw => by have hd := hw.1; first | (go_simp; done) | (go_simp; rfl)) hHeld ?_
            simp only [Act.put, List.setIfInBounds_toArray, List.set_cons_zero, List.set_cons_succ]
            refine takeH 13 (some 88) (.int .i64 0) rfl rfl (by kernel_rfl) (by kernel_rfl) (by kernel_rfl) (fun _ _ _ h => h) (by rfl) (fun w hw => by first | rfl | (go_simp; done) | (go_simp; rfl)) hHeld ?_
            simp only [Act.put, List.setIfInBounds_toArray, List.set_cons_zero, List.set_cons_succ]
            refine takeH 14 (some 89) (.pointer (some ⟨B, 0, none⟩)) rfl rfl (by kernel_rfl) (by kernel_rfl) (by kernel_rfl) (fun _ _ _ h => h) (by rfl) (fun w hw => by first | rfl | (go_simp; done) | (go_simp; rfl)) hHeld ?_
            simp only [Act.put, List.setIfInBounds_toArray, List.set_cons_zero, List.set_cons_succ]
            refine takeH 15 (some 90) (.pointer (some ⟨P 2, 0, none⟩)) rfl rfl (by kernel_rfl) (by kernel_rfl) (by kernel_rfl) (fun _ _ _ h => h) (by rfl) (fun w hw => by have hd := hw.2; first | (go_simp; done) | (go_simp; rfl)) hHeld ?_
            simp only [Act.put, List.setIfInBounds_toArray, List.set_cons_zero, List.set_cons_succ]
            refine wpAnyH_ready (rs := [12]) (by kernel_rfl) (by simp) (AllReadyH.cons rfl (fun K hK => ?_) AllReadyH.nil)
            rw [if_pos (by rfl)]
            go_simp
            refine (HL1.out).mono ?_
            rintro e w10 ⟨rfl, rfl⟩
            try go_wp2_with fail
            refine hK.out _ _ ⟨CA.out _ _ h9d.inv, CB.out _ _ h9d.inv⟩ (fun hHeld => ?_)
            clear hK K
            refine wpAnyH_ready (rs := [16]) (by kernel_rfl) (by simp) (AllReadyH.cons rfl (fun K hK => ?_) AllReadyH.nil)
            rw [if_pos (by rfl)]
            go_simp
            refine (HL2.out).mono ?_
            rintro e w11 ⟨rfl, rfl⟩
            try go_wp2_with fail
            refine hK.out _ _ ⟨CA.out _ _ h9d.inv, CB.out _ _ h9d.inv⟩ (fun hHeld => ?_)
            clear hK K
            refine takeH 17 (some 92) (.bool false) rfl rfl (by kernel_rfl) (by kernel_rfl) (by kernel_rfl) (fun _ _ _ h => h) (by rfl) (fun w hw => by first | rfl | (go_simp; done) | (go_simp; rfl)) hHeld ?_
            simp only [Act.put, List.setIfInBounds_toArray, List.set_cons_zero, List.set_cons_succ]
            refine takeH 18 (some 93) (.bool false) rfl rfl (by kernel_rfl) (by kernel_rfl) (by kernel_rfl) (fun _ _ _ h => h) (by rfl) (fun w hw => by first | rfl | (go_simp; done) | (go_simp; rfl)) hHeld ?_
            simp only [Act.put, List.setIfInBounds_toArray, List.set_cons_zero, List.set_cons_succ]
            refine ⟨by kernel_rfl, ?_⟩
            refine NoPanic.normal ?_
            go_wp2
            go_roundw
            case rel => exact ⟨0 + 1, by omega, by first | rfl | go_num, h9d⟩
            case measure => simp [intOf]
          · have CA : Hid (∀ (wr : World) (v : Nat → Value), Inv W0 P wr v → wr.cell? ⟨A, 1, none⟩ = some (.pointer (some ⟨P 1, 0, none⟩))) := fun wr v hI => by
              have := HAA.out wr v 1 (by omega) hI
              rw [show n0 + 1 = P 1 from HP1.out] at this
              exact this
            have CB : Hid (∀ (wr : World) (v : Nat → Value), Inv W0 P wr v → wr.cell? ⟨B, 1, none⟩ = some (.pointer (some ⟨P 3, 0, none⟩))) := fun wr v hI => by
              have := HBB.out wr v 1 (by omega) hI
              rw [show n0 + 3 + 1 = P 3 from HP3.out] at this
              exact this
            have ca := CA.out _ _ hS.inv
            go_wp2_with fail
            refine (wOut (P 1) _ _ _ (hS.code 1 (by omega))).mono ?_
            rintro e w8 ⟨rfl, hb8⟩
            have h8 := hS.below hb8
            have cb := CB.out _ _ h8.inv
            obtain ⟨SS, hSS⟩ : ∃ SS, outS (sn 1) = SS := ⟨_, rfl⟩
            obtain ⟨EE, hEE⟩ : ∃ EE, outE (sn 1) = EE := ⟨_, rfl⟩
            obtain ⟨LL, hLL⟩ : ∃ LL : Int, (((sn 1).getD []).length : Int) = LL := ⟨_, rfl⟩
            rw [hSS, hEE]
            clear ca hS
            go_wp2_with fail
            refine (qOut (P 3) _ _ _ (h8.ref 1 (by omega))).mono ?_
            rintro e w9 ⟨rfl, hb9⟩
            rw [hSS, hEE]
            have h9 := h8.below hb9
            have h9d : St2 W0 P w9.drew vn sn sn := h9.below (Below.refl w9.heap.size w9).drew
            have HL1 := hide (wLen (P 1) _ _ w9.drew (h9d.code 1 (by omega)))
            have HL2 := hide (qLen (P 3) _ _ w9.drew (h9d.ref 1 (by omega)))
            rw [hLL] at HL1 HL2
            clear hSS hEE hLL h8 hb8 hb9 cb
            go_wp2
            refine wp_region_noPanic ?_
            refine wp_region_held_drew (S := fun wx => wx.cell? ⟨A, 1, none⟩ = some (.pointer (some ⟨P 1, 0, none⟩)) ∧ wx.cell? ⟨B, 1, none⟩ = some (.pointer (some ⟨P 3, 0, none⟩))) (by kernel_rfl) ⟨CA.out _ _ h9d.inv, CB.out _ _ h9d.inv⟩ (fun hHeld => ?_)
            refine takeH 0 (some 75) (.string SS) rfl rfl (by kernel_rfl) (by kernel_rfl) (by kernel_rfl) (fun _ _ _ h => h) (by rfl) (fun w hw => by first | rfl | (go_simp; done) | (go_simp; rfl)) hHeld ?_
            simp only [Act.put, List.setIfInBounds_toArray, List.set_cons_zero, List.set_cons_succ]
            refine takeH 1 (some 76) (.string SS) rfl rfl (by kernel_rfl) (by kernel_rfl) (by kernel_rfl) (fun _ _ _ h => h) (by rfl) (fun w hw => by first | rfl | (go_simp; done) | (go_simp; rfl)) hHeld ?_
            simp only [Act.put, List.setIfInBounds_toArray, List.set_cons_zero, List.set_cons_succ]
            refine takeH 2 (some 77) (.bool false) rfl rfl (by kernel_rfl) (by kernel_rfl) (by kernel_rfl) (fun _ _ _ h => h) (by rfl) (fun w hw => by first | rfl | (go_simp; done) | (go_simp; rfl)) hHeld ?_
            simp only [Act.put, List.setIfInBounds_toArray, List.set_cons_zero, List.set_cons_succ]
            refine takeH 3 (some 78) (.bool false) rfl rfl (by kernel_rfl) (by kernel_rfl) (by kernel_rfl) (fun _ _ _ h => h) (by rfl) (fun w hw => by first | rfl | (go_simp; done) | (go_simp; rfl)) hHeld ?_
            simp only [Act.put, List.setIfInBounds_toArray, List.set_cons_zero, List.set_cons_succ]
            refine takeH 4 (some 79) (.int .i64 EE) rfl rfl (by kernel_rfl) (by kernel_rfl) (by kernel_rfl) (fun _ _ _ h => h) (by rfl) (fun w hw => by first | rfl | (go_simp; done) | (go_simp; rfl)) hHeld ?_
            simp only [Act.put, List.setIfInBounds_toArray, List.set_cons_zero, List.set_cons_succ]
            refine takeH 5 (some 80) (.int .i64 EE) rfl rfl (by kernel_rfl) (by kernel_rfl) (by kernel_rfl) (fun _ _ _ h => h) (by rfl) (fun w hw => by first | rfl | (go_simp; done) | (go_simp; rfl)) hHeld ?_
            simp only [Act.put, List.setIfInBounds_toArray, List.set_cons_zero, List.set_cons_succ]
            refine takeH 6 (some 81) (.bool false) rfl rfl (by kernel_rfl) (by kernel_rfl) (by kernel_rfl) (fun _ _ _ h => h) (by rfl) (fun w hw => by first | rfl | (go_simp; done) | (go_simp; rfl)) hHeld ?_
            simp only [Act.put, List.setIfInBounds_toArray, List.set_cons_zero, List.set_cons_succ]
            refine takeH 7 (some 82) (.bool false) rfl rfl (by kernel_rfl) (by kernel_rfl) (by kernel_rfl) (fun _ _ _ h => h) (by rfl) (fun w hw => by first | rfl | (go_simp; done) | (go_simp; rfl)) hHeld ?_
            simp only [Act.put, List.setIfInBounds_toArray, List.set_cons_zero, List.set_cons_succ]
            refine takeH 8 (some 83) (.bool false) rfl rfl (by kernel_rfl) (by kernel_rfl) (by kernel_rfl) (fun _ _ _ h => h) (by rfl) (fun w hw => by first | rfl | (go_simp; done) | (go_simp; rfl)) hHeld ?_
            simp only [Act.put, List.setIfInBounds_toArray, List.set_cons_zero, List.set_cons_succ]
            refine takeH 9 (some 84) (.int .i64 1) rfl rfl (by kernel_rfl) (by kernel_rfl) (by kernel_rfl) (fun _ _ _ h => h) (by rfl) (fun w hw => by first | rfl | (go_simp; done) | (go_simp; rfl)) hHeld ?_
            simp only [Act.put, List.setIfInBounds_toArray, List.set_cons_zero, List.set_cons_succ]
            refine takeH 10 (some 85) (.pointer (some ⟨A, 1, none⟩)) rfl rfl (by kernel_rfl) (by kernel_rfl) (by kernel_rfl) (fun _ _ _ h => h) (by rfl) (fun w hw => by first | rfl | (go_simp; done) | (go_simp; rfl)) hHeld ?_
            simp only [Act.put, List.setIfInBounds_toArray, List.set_cons_zero, List.set_cons_succ]
            refine takeH 11 (some 86) (.pointer (some ⟨P 1, 0, none⟩)) rfl rfl (by kernel_rfl) (by kernel_rfl) (by kernel_rfl) (fun _ _ _ h => h) (by rfl) (fun w hw => by have hd := hw.1; first | (go_simp; done) | (go_simp; rfl)) hHeld ?_
            simp only [Act.put, List.setIfInBounds_toArray, List.set_cons_zero, List.set_cons_succ]
            refine takeH 13 (some 88) (.int .i64 1) rfl rfl (by kernel_rfl) (by kernel_rfl) (by kernel_rfl) (fun _ _ _ h => h) (by rfl) (fun w hw => by first | rfl | (go_simp; done) | (go_simp; rfl)) hHeld ?_
            simp only [Act.put, List.setIfInBounds_toArray, List.set_cons_zero, List.set_cons_succ]
            refine takeH 14 (some 89) (.pointer (some ⟨B, 1, none⟩)) rfl rfl (by kernel_rfl) (by kernel_rfl) (by kernel_rfl) (fun _ _ _ h => h) (by rfl) (fun w hw => by first | rfl | (go_simp; done) | (go_simp; rfl)) hHeld ?_
            simp only [Act.put, List.setIfInBounds_toArray, List.set_cons_zero, List.set_cons_succ]
            refine takeH 15 (some 90) (.pointer (some ⟨P 3, 0, none⟩)) rfl rfl (by kernel_rfl) (by kernel_rfl) (by kernel_rfl) (fun _ _ _ h => h) (by rfl) (fun w hw => by have hd := hw.2; first | (go_simp; done) | (go_simp; rfl)) hHeld ?_
            simp only [Act.put, List.setIfInBounds_toArray, List.set_cons_zero, List.set_cons_succ]
            refine wpAnyH_ready (rs := [12]) (by kernel_rfl) (by simp) (AllReadyH.cons rfl (fun K hK => ?_) AllReadyH.nil)
            rw [if_pos (by rfl)]
            go_simp
            refine (HL1.out).mono ?_
            rintro e w10 ⟨rfl, rfl⟩
            try go_wp2_with fail
            refine hK.out _ _ ⟨CA.out _ _ h9d.inv, CB.out _ _ h9d.inv⟩ (fun hHeld => ?_)
            clear hK K
            refine wpAnyH_ready (rs := [16]) (by kernel_rfl) (by simp) (AllReadyH.cons rfl (fun K hK => ?_) AllReadyH.nil)
            rw [if_pos (by rfl)]
            go_simp
            refine (HL2.out).mono ?_
            rintro e w11 ⟨rfl, rfl⟩
            try go_wp2_with fail
            refine hK.out _ _ ⟨CA.out _ _ h9d.inv, CB.out _ _ h9d.inv⟩ (fun hHeld => ?_)
            clear hK K
            refine takeH 17 (some 92) (.bool false) rfl rfl (by kernel_rfl) (by kernel_rfl) (by kernel_rfl) (fun _ _ _ h => h) (by rfl) (fun w hw => by first | rfl | (go_simp; done) | (go_simp; rfl)) hHeld ?_
            simp only [Act.put, List.setIfInBounds_toArray, List.set_cons_zero, List.set_cons_succ]
            refine takeH 18 (some 93) (.bool false) rfl rfl (by kernel_rfl) (by kernel_rfl) (by kernel_rfl) (fun _ _ _ h => h) (by rfl) (fun w hw => by first | rfl | (go_simp; done) | (go_simp; rfl)) hHeld ?_
            simp only [Act.put, List.setIfInBounds_toArray, List.set_cons_zero, List.set_cons_succ]
            refine ⟨by kernel_rfl, ?_⟩
            refine NoPanic.normal ?_
            go_wp2
            go_roundw
            case rel => exact ⟨1 + 1, by omega, by first | rfl | go_num, h9d⟩
            case measure => simp [intOf]
          · go_wp2
            go_roundw
            case rel => exact ⟨k + 1, by omega, by go_num, vn, sn, hS, HNX2.out⟩
            case measure => simp [intOf]; omega
    · have hkn : k = os.length := by omega
      subst hkn
      have hd : decide ((os.length : Int) < (os.length : Int)) = false := by simp
      go_wp2
      go_ret
      exact ⟨rfl, hS.inv.old KB0.out HPN.out⟩
end Go.Proofs.Ytmcnempkddahcaa
