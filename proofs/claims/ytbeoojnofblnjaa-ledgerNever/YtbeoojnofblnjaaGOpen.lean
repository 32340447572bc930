/-
  Ledger: Spendable of any base; how many adds are open (printed by gen_open.py).
-/
import Derived.Test.YtbeoojnofblnjaaGSpend
namespace Go.Proofs.Ytbeoojnofblnjaa
open Go.RowKit S
set_option linter.unusedVariables false
set_option linter.unusedSimpArgs false
set_option maxRecDepth 100000 in
set_option maxHeartbeats 4000000 in
theorem spend_any (base : Int) (a1 a2 : Option Addr) (n1 c1 n2 c2 : Nat) (mine others : List Upd) (hn1 : mine.length = n1) (hn2 : others.length = n2) (z1 : n1 ≤ 1955000000000) (z2 : n2 ≤ 1955000000000) (k1 : n1 ≤ c1) (k2 : n2 ≤ c2) (fO fP : Int) (w : World) (hS1 : Upds w a1 mine) (hS2 : Upds w a2 others) : Calls Try.prog 10 #[.int .i64 base, .slice a1 n1 c1, .slice a2 n2 c2, .agg #[.int .i64 fO, .int .i64 fP]] w fun e w' => e = .returned (.int .i64 (spendA base mine others fO fP)) ∧ Below w.heap.size w w' := by
  by_cases hb : base < 0
  · rw [show spendA base mine others fO fP = 0 by unfold spendA; rw [if_pos hb]]
    have hd : decide (base < 0) = true := decide_eq_true hb
    have gb : Below w.heap.size w (w.alloc (.cells #[.int .i64 fO, .int .i64 fP] 51)) := (Below.refl _ w).alloc (Nat.le_refl _) _
    clear hb hn1 hn2 z1 z2 k1 k2
    go_enter Try.func10, Try.ntmps10
    go_wp2
    go_ret
    exact ⟨rfl, gb⟩
  · rw [show spendA base mine others fO fP = clampA (leftS base mine others fO fP) by unfold spendA; rw [if_neg hb]]
    exact spend_loops base a1 a2 n1 c1 n2 c2 mine others hn1 hn2 z1 z2 k1 k2 fO fP w hS1 hS2 (by omega)
theorem filt_next {p : Upd → Bool} {l : List Upd} {j : Nat} {x : Upd} (h : l[j]? = some x) : ((l.take (j + 1)).filter p).length = ((l.take j).filter p).length + (if p x = true then 1 else 0) := by
  rw [take_snoc h, List.filter_append, List.length_append]
  by_cases e : p x = true <;> simp [e]
set_option maxRecDepth 100000 in
set_option maxHeartbeats 4000000 in
theorem open_any (a1 a2 : Option Addr) (n1 c1 n2 c2 : Nat) (mine others : List Upd) (hn1 : mine.length = n1) (hn2 : others.length = n2) (z1 : n1 ≤ 1955000000000) (z2 : n2 ≤ 1955000000000) (k1 : n1 ≤ c1) (k2 : n2 ≤ c2) (fix : Int) (w : World) (hS1 : Upds w a1 mine) (hS2 : Upds w a2 others) : Calls Try.prog 12 #[.slice a1 n1 c1, .slice a2 n2 c2, .int .i64 fix] w fun e w' => e = .returned (.int .i64 (openN mine others fix : Int)) ∧ Below w.heap.size w w' := by
  obtain ⟨R, hR⟩ : ∃ R, openN mine others fix = R := ⟨_, rfl⟩
  rw [hR]
  unfold openN at hR
  rw [hn2] at hR
  obtain ⟨kP, hkP⟩ : ∃ k, inL fix n2 = k := ⟨_, rfl⟩
  rw [hkP] at hR
  have leP : kP ≤ n2 := by rw [← hkP]; exact inL_le _ _
  have HR := hide hR
  have N1 := hide hn1
  have hni1 : (n1 : Int) ≤ 140737488351232 := by omega
  have hwP : ∀ w, Calls Try.prog 17 #[.int .i64 fix, .slice a2 n2 c2] w fun e w' => e = .returned (.int .i64 (kP : Int)) ∧ w' = w := fun w => by have := within_any fix a2 n2 c2 w; rw [hkP] at this; exact this
  have HP := hide hwP
  have slP := fun w => sliceK w a2 n2 c2 kP (by omega)
  have rmP := removals_any a2 kP c2 (others.take kP) (by rw [List.length_take]; omega) (by omega) w (hS2.take _)
  have RP := hide rmP
  clear hR hn1 hn2 z1 z2 k1 k2 hkP rmP hwP
  go_enter Try.func12, Try.ntmps12
  go_wp2_with (go_at_call 17; go_must (refine (HP.out _).mono ?_); rintro e wx ⟨rfl, hx⟩; obtain rfl := hx.symm; clear hx)
  refine RP.out.mono ?_
  rintro e w2 ⟨b1, m1, rfl, hR, hbb1, hm1, gb⟩
  clear slP HP RP
  obtain ⟨f1, hf1⟩ : ∃ f, remK (others.take kP) = f := ⟨_, rfl⟩
  rw [hf1] at hR
  have HF1 := hide (fun x => congrFun hf1 x)
  clear hf1
  go_wp2
  go_loopw [19, 8] (fun i k wr => ∃ j : Nat, j ≤ n1 ∧ i = .int .i64 (j : Int) ∧ k = .int .i64 ((((mine.take j).filter (openB (others.take kP))).length : Nat) : Int) ∧ RMap wr b1 m1 f1 ∧ Below w.heap.size w wr) (fun i _ _ => n1 - (intOf i).toNat)
  case atStart => exact ⟨0, Nat.zero_le _, rfl, rfl, hR, gb⟩
  case round =>
    clear hR gb
    obtain ⟨j, hj, rfl, rfl, hR, gb⟩ := hrel
    by_cases hlt : j < n1
    · have hd : decide ((j : Int) < (n1 : Int)) = true := decide_eq_true (by omega)
      have hd2 : decide (j < n1) = true := decide_eq_true hlt
      have hk0 : (0 : Int) ≤ (j : Int) := by omega
      have hk1 : (j : Int) < (n1 : Int) := by omega
      obtain ⟨s, hs⟩ : ∃ s, mine[j]? = some s := ⟨_, List.getElem?_eq_getElem (by rw [N1.out]; exact hlt)⟩
      obtain ⟨b, o, rfl, hb1, hA⟩ := (hS1.below gb).get j s hs
      have HS := hide hs
      have HA := hide hA
      obtain ⟨w6, w7, hW6, q1, hW7, r1, rb⟩ := newU wr s
      have Q1 := hide q1
      have R7 := hide r1
      have c0 : w7.cell? ⟨wr.heap.size, 0, none⟩ = some (.int .i64 s.kind) := r1.cell 0 (by omega)
      have c1 : w7.cell? ⟨wr.heap.size, 1, none⟩ = some (.int .i64 s.id) := r1.cell 1 (by omega)
      have c2 : w7.cell? ⟨wr.heap.size, 2, none⟩ = some (.int .i64 s.amt) := r1.cell 2 (by omega)
      clear hs hA hb1 q1 r1
      have gb7 := gb.trans (rb.mono gb.size)
      have hR7 := hR.below rb
      have hge7 := gb7.size
      have NX := hide (filt_next (p := openB (others.take kP)) HS.out)
      obtain ⟨Nj, hNj⟩ : ∃ N, ((mine.take j).filter (openB (others.take kP))).length = N := ⟨_, rfl⟩
      have hNle : (Nj : Int) ≤ 140737488351232 := by
        have e1 := List.length_filter_le (openB (others.take kP)) (mine.take j)
        have e2 := List.length_take_le j mine
        omega
      rw [hNj]
      generalize hgU : wr.heap.size = gU at Q1 R7 c0 c1 c2 hW7
      clear rb hR gb c0 c2
      cases ha : addB s with
      | false =>
        have hC : Calls Try.prog 25 #[.agg (tabv s.v 36)] w7 fun e w' => e = .returned (.bool false) ∧ Below w7.heap.size w7 w' := by have := isAdd_any s w7; rw [ha] at this; exact this
        have HC := hide hC
        clear hC
        go_wp2_with (first | refine wpW_load_at 43 _ rfl (b) (o + j * 36) (by rfl) (by rfl) _ 36 _ (HA.out) Try.underlying43 rfl infoU ?_ | refine wpList_storeU rfl _ _ rfl rfl (gU) (s) rfl rfl _ Q1.out ?_ | refine wpW_load_at 43 _ rfl (gU) (0) (by rfl) (by rfl) _ 36 _ (by first | exact R7.out.at_ 0 (by omega) (fun i hi => by rw [Nat.zero_add]) | (rw [hW7]; exact R7.out.at_ 0 (by omega) (fun i hi => by rw [Nat.zero_add]))) Try.underlying43 rfl infoU ?_ | (go_at_call 25; go_must (refine HC.out.mono ?_); rintro e w8 ⟨rfl, hb8⟩; have d1 := (hb8.cell (p := ⟨gU, 1, none⟩) R7.out.lt).trans c1; have hR8 := hR7.below hb8))
        go_roundw
        case rel => exact ⟨j + 1, by omega, by go_num, by rw [NX.out, if_neg (by unfold openB; rw [ha]; simp), hNj]; first | rfl | (exact int_eq (by omega)), hR8, gb7.trans (hb8.mono hge7)⟩
        case measure => simp [intOf]; omega
      | true =>
        have hC : Calls Try.prog 25 #[.agg (tabv s.v 36)] w7 fun e w' => e = .returned (.bool true) ∧ Below w7.heap.size w7 w' := by have := isAdd_any s w7; rw [ha] at this; exact this
        have HC := hide hC
        have HI0 := hide (add_id ha).1
        have HI1 := hide (add_id ha).2
        clear hC
        cases hf : (f1 s.id == 0) with
        | false =>
          go_wp2_with (first | refine wpW_load_at 43 _ rfl (b) (o + j * 36) (by rfl) (by rfl) _ 36 _ (HA.out) Try.underlying43 rfl infoU ?_ | refine wpList_storeU rfl _ _ rfl rfl (gU) (s) rfl rfl _ Q1.out ?_ | refine wpW_load_at 43 _ rfl (gU) (0) (by rfl) (by rfl) _ 36 _ (by first | exact R7.out.at_ 0 (by omega) (fun i hi => by rw [Nat.zero_add]) | (rw [hW7]; exact R7.out.at_ 0 (by omega) (fun i hi => by rw [Nat.zero_add]))) Try.underlying43 rfl infoU ?_ | (go_at_call 25; go_must (refine HC.out.mono ?_); rintro e w8 ⟨rfl, hb8⟩; have d1 := (hb8.cell (p := ⟨gU, 1, none⟩) R7.out.lt).trans c1; have hR8 := hR7.below hb8; have hL := hR8.look HI0.out HI1.out))
          go_roundw
          case rel => exact ⟨j + 1, by omega, by go_num, by rw [NX.out, if_neg (by unfold openB; rw [ha, HF1.out, hf]; simp), hNj]; first | rfl | (exact int_eq (by omega)), hR8, gb7.trans (hb8.mono hge7)⟩
          case measure => simp [intOf]; omega
        | true =>
          go_wp2_with (first | refine wpW_load_at 43 _ rfl (b) (o + j * 36) (by rfl) (by rfl) _ 36 _ (HA.out) Try.underlying43 rfl infoU ?_ | refine wpList_storeU rfl _ _ rfl rfl (gU) (s) rfl rfl _ Q1.out ?_ | refine wpW_load_at 43 _ rfl (gU) (0) (by rfl) (by rfl) _ 36 _ (by first | exact R7.out.at_ 0 (by omega) (fun i hi => by rw [Nat.zero_add]) | (rw [hW7]; exact R7.out.at_ 0 (by omega) (fun i hi => by rw [Nat.zero_add]))) Try.underlying43 rfl infoU ?_ | (go_at_call 25; go_must (refine HC.out.mono ?_); rintro e w8 ⟨rfl, hb8⟩; have d1 := (hb8.cell (p := ⟨gU, 1, none⟩) R7.out.lt).trans c1; have hR8 := hR7.below hb8; have hL := hR8.look HI0.out HI1.out))
          go_roundw
          case rel => exact ⟨j + 1, by omega, by go_num, by rw [NX.out, if_pos (by unfold openB; rw [ha, HF1.out, hf]; rfl), hNj]; first | rfl | (exact int_eq (by omega)), hR8, gb7.trans (hb8.mono hge7)⟩
          case measure => simp [intOf]; omega
    · have hjn : n1 = j := by omega
      subst hjn
      have hd : decide ((n1 : Int) < (n1 : Int)) = false := decide_eq_false (by omega)
      have hd2 : decide (n1 < n1) = false := decide_eq_false (by omega)
      rw [show mine.take n1 = mine by rw [← N1.out, List.take_length], HR.out]
      go_wp2
      go_ret
      exact ⟨rfl, gb⟩
end Go.Proofs.Ytbeoojnofblnjaa
