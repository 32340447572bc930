import Derived.Test.YtmmcoedgoekhgaaGreatDoorGTurned
import Derived.Test.YtmmcoedgoekhgaaGreatDoorCMath
import Derived.Test.YtmmcoedgoekhgaaGreatDoorCText
/-
  The document's Turn: picked out of layer 13's GTurned (the same steps).
-/
namespace Go.Proofs.YtmmcoedgoekhgaaGreatDoor
set_option maxRecDepth 20000
open Go.RowKit S
set_option linter.unusedVariables false
set_option linter.unusedSimpArgs false
-- stands in another text: fB
-- stands in another text: fB_next
-- stands in another text: fB_len
-- stands in another text: accK
-- stands in another text: accK_next
-- stands in another text: fB_both
-- stands in another text: fB_take
-- stands in another text: accK_tot
-- stands in another text: accK_len
-- stands in another text: accK_turn
-- stands in another text: TL
-- stands in another text: built_turn
-- stands in another text: Has.openL
-- stands in another text: Has.flipO
end Go.Proofs.YtmmcoedgoekhgaaGreatDoor
/-
  turned, Turn of the code; same (printed by gen_c3.py).
-/
namespace Go.Proofs.YtmmcoedgoekhgaaGreatDoor
set_option maxRecDepth 20000
open Go.RowKit S
set_option linter.unusedVariables false
set_option linter.unusedSimpArgs false
open Cu (nb be hl ofL CW Mw Mr)
/-- Those that are not o, once they are turned. -/
def turnO (o : Bool) (l : List Pen) : List Pen := fB (!o) l
theorem turn_two (l : List Pen) : turnO true l ++ turnO false l = turnP l := by rw [← accK_turn]; rfl
theorem turnO_next {b : Bool} {l : List Pen} {j : Nat} {x : Pen} (h : l[j]? = some x) : turnO b (l.take (j + 1)) = turnO b (l.take j) ++ (if (x.ours != b) = true then [flipP x] else []) := by
  unfold turnO
  rw [fB_next h]
  cases x.ours <;> cases b <;> rfl
theorem turnO_len (o : Bool) (l : List Pen) : (turnO o l).length ≤ l.length := fB_len _ _
theorem Has.oursP {w : World} {g : Nat} {s : Pen} (h : Has w g 186 s.v 35) (b : Bool) (hb : (s.ours != b) = true) : Has (w.setCell ⟨g, 0, none⟩ (.bool b)) g 186 (flipP s).v 35 := by
  have e : b = !s.ours := by cases b <;> cases h2 : s.ours <;> simp_all
  rw [e]
  exact h.flipO
set_option maxRecDepth 100000 in
set_option maxHeartbeats 4000000 in
theorem turned_anyC (ad : Option Addr) (n cap : Nat) (l : List Pen) (ob : Bool) (hn : l.length = n) (hz : n ≤ 3910000000000) (w : World) (hS : Pens w ad l) : Calls Tryz.prog 154 #[.slice ad n cap, .bool ob] w fun e w' => ∃ v, e = .returned v ∧ OwnP w.heap.size w' v (turnO ob l) ∧ Below w.heap.size w w' := by
  have HN := hide hn
  have HZ := hide hz
  have HS0 := hide hS
  have hni : (n : Int) ≤ 3910000000000 := by omega
  clear hn hz hS
  go_enter Tryz.func154, Tryz.ntmps154
  go_wp2
  go_loopw [5, 10] (fun v ix wr => ∃ j : Nat, j ≤ n ∧ ix = .int .i64 (j : Int) ∧ OwnP w.heap.size wr v (turnO ob (l.take j)) ∧ Below w.heap.size w wr) (fun _ ix _ => n - (intOf ix).toNat)
  case atStart => exact ⟨0, Nat.zero_le _, rfl, OwnP.nil _ _, Below.refl _ _⟩
  case round =>
    obtain ⟨j, hj, rfl, hO, gb⟩ := hrel
    by_cases hlt : j < n
    · have hd : decide ((j : Int) < (n : Int)) = true := decide_eq_true (by omega)
      have hd2 : decide (j < n) = true := decide_eq_true hlt
      have hk0 : (0 : Int) ≤ (j : Int) := by omega
      have hk1 : (j : Int) < (n : Int) := by omega
      obtain ⟨s, hs⟩ : ∃ s, l[j]? = some s := ⟨_, List.getElem?_eq_getElem (by rw [HN.out]; exact hlt)⟩
      obtain ⟨b, o, rfl, hb1, hA⟩ := (HS0.out.below gb).get j s hs
      have HS := hide hs
      have HA := hide hA
      have HJ := hide hlt
      obtain ⟨w6, w7, hW6, q1, hW7, r7, rb⟩ := newP wr s
      have Q1 := hide q1
      have R7 := hide r7
      have c0 : w7.cell? ⟨wr.heap.size, 0, none⟩ = some (.bool s.ours) := r7.cell 0 (by omega)
      have zf := r7.frozen 0
      have gb7 := gb.trans (rb.mono gb.size)
      have o7 := hO.below rb
      have hgw : w.heap.size ≤ wr.heap.size := gb.size
      have hov : Hid (∀ k, u5.ownBlock = some k → k < wr.heap.size) := fun k hk => (hO.lt k hk).2
      clear hs hA q1 r7 hb1 hO
      obtain ⟨so, hso⟩ : ∃ x, s.ours = x := ⟨_, rfl⟩
      rw [hso] at c0
      have HSO := hide hso
      clear hso
      go_upto_region 5 with (first | refine wpW_load_at 186 _ rfl (b) (o + j * 35) (by rfl) (by rfl) _ 35 _ (HA.out) Tryz.underlying186 rfl infoP ?_ | refine wpList_storeP rfl _ _ rfl rfl (wr.heap.size) (s) rfl rfl _ Q1.out ?_)
      try rw [hW7]
      generalize hgP : wr.heap.size = gP at Q1 R7 c0 zf hW7 hgw hov ⊢
      clear hgP hW6 hW7 Q1
      cases hm : (so == ob) with
      | true =>
        go_wp2
        go_roundw
        case rel => exact ⟨j + 1, by have := HJ.out; omega, by go_num, by rw [turnO_next HS.out, HSO.out, show (so != ob) = !(so == ob) from rfl, hm, if_neg (by simp), List.append_nil]; exact o7, gb7⟩
        case measure => have := HJ.out; simp [intOf]; omega
      | false =>
        obtain ⟨w8, hW8⟩ : ∃ z, w7.setCell ⟨gP, 0, none⟩ (.bool ob) = z := ⟨_, rfl⟩
        have R8 : Hid (Has w8 gP 186 (flipP s).v 35) := by rw [← hW8]; exact R7.out.oursP ob (by rw [HSO.out, show (so != ob) = !(so == ob) from rfl, hm]; rfl)
        have gb8 : Below w.heap.size w w8 := by rw [← hW8]; exact gb7.setCell hgw _
        have o8 : OwnP w.heap.size w8 u5 (turnO ob (l.take j)) := by
          rw [← hW8]
          exact o7.same fun k hk => Below.heap_setCell w7 ⟨gP, 0, none⟩ _ k (by have := hov.out k hk; show k ≠ gP; omega)
        obtain ⟨v', w8a, w9, rS, rA, oA, gr, bA⟩ := run_appPW w8 w.heap.size u5 (turnO ob (l.take j)) (flipP s) o8 (by have h1 := turnO_len ob (l.take j); rw [List.length_take] at h1; have := HZ.out; omega) gb8.size
        have RS := hide rS
        have RA := hide rA
        have RD := hide (R8.out.at_ 0 (k := 35) (f' := (flipP s).v) (by omega) (fun i hi => by rw [Nat.zero_add]))
        have gb9 := gb8.trans bA
        clear rS rA o8 gb8 bA gr
        go_wp2_with (first | (rw [hW8]; refine wpW_load_at 186 _ rfl (gP) (0) (by rfl) (by rfl) _ 35 _ (RD.out) Tryz.underlying186 rfl infoP ?_) | refine wpW_load_at 186 _ rfl (gP) (0) (by rfl) (by rfl) _ 35 _ (RD.out) Tryz.underlying186 rfl infoP ?_ | refine wpList_slice1 rfl 141 _ rfl (.agg (tabv (flipP s).v 35)) rfl RS.out ?_ | refine wpList_app rfl _ _ _ rfl RA.out ?_)
        go_roundw
        case rel => exact ⟨j + 1, by have := HJ.out; omega, by go_num, by rw [turnO_next HS.out, HSO.out, show (so != ob) = !(so == ob) from rfl, hm, if_pos (by rfl)]; exact oA, gb9⟩
        case measure => have := HJ.out; simp [intOf]; omega
    · have hjn : j = n := by omega
      subst hjn
      have hd : decide ((j : Int) < (j : Int)) = false := decide_eq_false (by omega)
      have hd2 : decide (j < j) = false := decide_eq_false (by omega)
      have et : l.take j = l := by rw [← HN.out]; exact List.take_length
      go_wp2
      go_ret
      exact ⟨_, rfl, by rw [et] at hO; exact hO, gb⟩
theorem turnP_len (l : List Pen) : (turnP l).length = l.length := by
  rw [← turn_two]
  unfold turnO
  rw [List.length_append]
  exact fB_both l
theorem built_ledC (x y : Int) (ad : Option Addr) (n c : Nat) : Tryz.prog.built 143 [(0, .int .i64 x), (1, .int .i64 y), (2, .slice ad n c)] = some (tabv (ledv x y (.slice ad n c)) 3) := by kernel_rfl
set_option maxRecDepth 100000 in
set_option maxHeartbeats 4000000 in
theorem turn_any (x y : Int) (ad : Option Addr) (n cap : Nat) (l : List Pen) (hn : l.length = n) (hz : n ≤ 3910000000000) (w : World) (hS : Pens w ad l) : Calls Tryz.prog 102 #[.agg (tabv (ledv x y (.slice ad n cap)) 3)] w fun e w' => (∃ v, e = .returned (.agg (tabv (ledv y x v) 3)) ∧ OwnP w.heap.size w' v (turnP l)) ∧ Below w.heap.size w w' := by
  obtain ⟨w1, hW1⟩ : ∃ wX, w.alloc (.cells (tabv (ledv x y (.slice ad n cap)) 3) 143) = wX := ⟨_, rfl⟩
  have r1 : Has w1 w.heap.size 143 (ledv x y (.slice ad n cap)) 3 := by rw [← hW1]; exact Has.new w 143 (ledv x y (.slice ad n cap)) 3 _ rfl
  have b1 : Below w.heap.size w w1 := by rw [← hW1]; exact (Below.refl w.heap.size w).alloc (Nat.le_refl _) _
  obtain ⟨w2, hW2⟩ : ∃ z, w1.alloc (.cells #[.int .i64 0, .int .i64 0, .slice none 0 0] 143) = z := ⟨_, rfl⟩
  have r2 : Has w2 w1.heap.size 143 (ledv 0 0 (.slice none 0 0)) 3 := by rw [← hW2, zeroL]; exact Has.new w1 143 _ 3 _ rfl
  have b2 : Below w1.heap.size w1 w2 := by rw [← hW2]; exact (Below.refl _ _).alloc (Nat.le_refl _) _
  have gb : Below w.heap.size w w2 := b1.trans (b2.mono b1.size)
  have k1 := r1.below b2 r1.lt
  have HS2 := hide (hS.below gb)
  have HN := hide hn
  have HZ := hide hz
  have c2 : w2.cell? ⟨w.heap.size, 2, none⟩ = some (.slice ad n cap) := k1.cell 2 (by omega)
  have K1 := hide k1
  have R2 := hide r2
  have hlt : w.heap.size < w1.heap.size := r1.lt
  have hgb := gb.size
  clear r1 b1 r2 b2 k1 hS hn hz
  go_enter Tryz.func102, Tryz.ntmps102
  go_upto_region 1 with fail
  generalize hg : w.heap.size = g at c2 K1 hlt ⊢
  generalize hg2 : w1.heap.size = g2 at R2 hlt ⊢
  have HG := hide hg
  clear hW1 hW2 hg2
  refine wp_region_noPanic ?_
  refine wp_region_held_drew (S := fun wx => Below w2.heap.size w2 wx) (by kernel_rfl) ((Below.refl _ _).drew) (fun hHeld => ?_)
  refine takeH 0 (some 4) (.pointer (some ⟨g, 2, none⟩)) rfl rfl (by kernel_rfl) (by kernel_rfl) (by kernel_rfl) (fun _ _ _ h => h) (by rfl) (fun w hw => by first | rfl | (go_simp; done) | (go_simp; rfl) | (go_simp; omega)) hHeld ?_
  simp only [Act.put, List.setIfInBounds_toArray, List.set_cons_zero, List.set_cons_succ]
  refine takeH 1 (some 5) (.slice ad n cap) rfl rfl (by kernel_rfl) (by kernel_rfl) (by kernel_rfl) (fun _ _ _ h => h) (by rfl) (fun w hw => by have c : w.cell? ⟨g, 2, none⟩ = some (.slice ad n cap) := (hw.cell (World.block_lt_of_cell? _ _ c2)).trans c2; first | (go_simp; done) | (go_simp; rfl)) hHeld ?_
  simp only [Act.put, List.setIfInBounds_toArray, List.set_cons_zero, List.set_cons_succ]
  refine takeH 3 (some 7) (.pointer (some ⟨g, 2, none⟩)) rfl rfl (by kernel_rfl) (by kernel_rfl) (by kernel_rfl) (fun _ _ _ h => h) (by rfl) (fun w hw => by first | rfl | (go_simp; done) | (go_simp; rfl) | (go_simp; omega)) hHeld ?_
  simp only [Act.put, List.setIfInBounds_toArray, List.set_cons_zero, List.set_cons_succ]
  refine takeH 4 (some 8) (.slice ad n cap) rfl rfl (by kernel_rfl) (by kernel_rfl) (by kernel_rfl) (fun _ _ _ h => h) (by rfl) (fun w hw => by have c : w.cell? ⟨g, 2, none⟩ = some (.slice ad n cap) := (hw.cell (World.block_lt_of_cell? _ _ c2)).trans c2; first | (go_simp; done) | (go_simp; rfl)) hHeld ?_
  simp only [Act.put, List.setIfInBounds_toArray, List.set_cons_zero, List.set_cons_succ]
  refine wpAnyH_ready (rs := [2]) (by kernel_rfl) (by simp) (AllReadyH.cons rfl (fun K hK => ?_) AllReadyH.nil)
  rw [if_pos (by rfl)]
  go_simp
  refine (turned_anyC ad n cap l true HN.out HZ.out _ (HS2.out.below hHeld)).mono ?_
  rintro e w3 ⟨v3, rfl, o3, hb3⟩
  try go_wp2_with fail
  have hs3 := hHeld.size
  refine hK.out _ _ (hHeld.trans (hb3.mono hHeld.size)) (fun hH => ?_)
  clear hK hHeld
  have hHeld := hH
  clear hH
  refine wpAnyH_ready (rs := [5]) (by kernel_rfl) (by simp) (AllReadyH.cons rfl (fun K hK => ?_) AllReadyH.nil)
  rw [if_pos (by rfl)]
  go_simp
  refine (turned_anyC ad n cap l false HN.out HZ.out _ (HS2.out.below hHeld)).mono ?_
  rintro e w4 ⟨v4, rfl, o4, hb4⟩
  try go_wp2_with fail
  have o3' := o3.below hb4
  have hs4 := hHeld.size
  refine hK.out _ _ (hHeld.trans (hb4.mono hHeld.size)) (fun hH => ?_)
  clear hK hHeld
  have hHeld := hH
  clear hH
  obtain ⟨v5, w5, rA, oA, gr⟩ := run_appPP w4 w2.heap.size w2.heap.size v3 v4 (turnO true l) (turnO false l) (o3'.mono (by omega)) (o4.mono (by omega)) (by rw [← List.length_append, turn_two, turnP_len, HN.out]; exact HZ.out) hHeld.size
  have bA : Below w2.heap.size w4 w5 := ⟨gr.os, gr.tape, gr.output, gr.size, fun k hk => gr.block k (by have := hHeld.size; omega) (fun e => by have := (o3'.lt k e.symm).1; omega)⟩
  refine wpAnyH_ready (rs := [6]) (by kernel_rfl) (by simp) (AllReadyH.cons rfl (fun K hK => ?_) AllReadyH.nil)
  rw [if_pos (by rfl)]
  refine wp_app _ _ _ rfl rA _ rfl ?_
  simp only [Act.put, List.setIfInBounds_toArray, List.set_cons_zero, List.set_cons_succ]
  refine hK.out _ _ (hHeld.trans bA) (fun hH => ?_)
  clear hK hHeld
  have hHeld := hH
  clear hH
  refine takeH 7 (some 3) (v5) rfl rfl (by kernel_rfl) (by kernel_rfl) (by kernel_rfl) (fun _ _ _ h => h) (by rfl) (fun w hw => by first | rfl | (go_simp; done) | (go_simp; rfl) | (go_simp; omega)) hHeld ?_
  simp only [Act.put, List.setIfInBounds_toArray, List.set_cons_zero, List.set_cons_succ]
  refine ⟨by kernel_rfl, ?_⟩
  refine NoPanic.normal ?_
  have oneV := oA.one
  obtain ⟨ad5, n5, c5, hv5⟩ := oA.form
  have K5 := K1.out.below hHeld K1.out.lt
  have R5 := hide (R2.out.below hHeld R2.out.lt)
  have a0 := K5.cell 0 (by omega)
  have a1 := K5.cell 1 (by omega)
  have a0' : w5.cell? ⟨g, 0, none⟩ = some (.int .i64 x) := a0
  have a1' : w5.cell? ⟨g, 1, none⟩ = some (.int .i64 y) := a1
  have gb5 : Below w.heap.size w w5 := gb.trans (hHeld.mono (by rw [hg]; exact Nat.le_of_lt K1.out.lt))
  have oF : OwnP w.heap.size w5 v5 (turnP l) := by rw [turn_two] at oA; exact oA.mono hgb
  have gb6 : Below w.heap.size w (w5.setRow g2 (tabv (ledv y x v5) 3)) := below_setRow gb5 (by rw [hg]; omega) _
  have hne : ∀ k, v5.ownBlock = some k → k ≠ g2 := fun k hk => by have := (oA.lt k hk).1; have := R2.out.lt; omega
  have o6 : OwnP w.heap.size (w5.setRow g2 (tabv (ledv y x v5) 3)) v5 (turnP l) := by
    have kN : Keep (· = g2) w5 (w5.setRow g2 (tabv (ledv y x v5) 3)) := keep_row _ _ _ rfl
    exact oF.keep kN (fun i hi e => hne i hi e)
  have GB6 := hide gb6
  have O6 := hide o6
  clear gb6 o6 hne
  have BL : Hid (Tryz.prog.built 143 [(0, .int .i64 y), (1, .int .i64 x), (2, v5)] = some (tabv (ledv y x v5) 3)) := by rw [hv5]; exact built_ledC y x ad5 n5 c5
  clear hv5 a0 a1 K5 oA oF hHeld o3 o4 o3' c2
  go_wp2_with (first | refine wpW_build (by rfl) 143 #[(0, .tmp 12), (1, .tmp 14), (2, .tmp 15)] rfl [(0, .int .i64 y), (1, .int .i64 x), (2, v5)] (by simp [Act.eval]) _ BL.out ?_ | refine wpList_storeL rfl _ _ rfl rfl g2 y x v5 oneV rfl rfl _ R5.out ?_)
  exact bodyPost_ret (results_cell_row rfl _ _ g2 143 _ (0, 0) _ rfl (R5.out.row _ (ledv y x v5) rfl) Tryz.underlying143 rfl (by rw [tabv_size]; exact infoL)) rfl ⟨⟨v5, rfl, O6.out⟩, GB6.out⟩
end Go.Proofs.YtmmcoedgoekhgaaGreatDoor
