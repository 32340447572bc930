/-
  The document's Spendable and Open (printed by gen_doc2.py).
-/
import Derived.Test.YtoomcpehdflolaaGDoc
namespace Go.Proofs.Ytoomcpehdflolaa
open Go.RowKit S
set_option linter.unusedVariables false
set_option linter.unusedSimpArgs false
def TW (w : World) (g : Nat) (X : Int) : Prop := Has w g 85 (totv X) 2
theorem TW.below {w w' : World} {g : Nat} {X : Int} (h : TW w g X) (k : Below w.heap.size w w') : TW w' g X := Has.below h k (Has.lt h)
theorem TW.at_ {w : World} {g : Nat} {X : Int} (h : TW w g X) : At w g 0 (totv X) 2 := Has.at_ h 0 (by omega) (fun i hi => by rw [Nat.zero_add])
theorem TW.put {w : World} {g : Nat} {X : Int} (h : TW w g X) (Y : Int) : TW (w.setRow g (tabv (totv Y) 2)) g Y := Has.row h _ (totv Y) rfl
theorem addB_of {s : Upd} (h1 : (s.kind == 1) = true) (h2 : validB s = true) : addB s = true := by unfold addB; rw [h1, h2]; rfl
theorem builtW0 : Try.prog.built 85 [] = some (tabv (totv 0) 2) := by kernel_rfl
set_option maxRecDepth 100000 in
set_option maxHeartbeats 4000000 in
theorem rspend_any (base : Int) (a1 a2 : Option Addr) (n1 c1 n2 c2 : Nat) (mine others : List Upd) (hn1 : mine.length = n1) (hn2 : others.length = n2) (z1 : n1 ≤ 1955000000000) (z2 : n2 ≤ 1955000000000) (k1 : n1 ≤ c1) (k2 : n2 ≤ c2) (fO fP : Int) (w : World) (hS1 : Upds w a1 mine) (hS2 : Upds w a2 others) : Calls Try.prog 22 #[.int .i64 base, .slice a1 n1 c1, .slice a2 n2 c2, .agg #[.int .i64 fO, .int .i64 fP]] w fun e w' => e = .returned (.int .i64 (spendA base mine others fO fP)) ∧ Below w.heap.size w w' := by
  obtain ⟨RR, hRR⟩ : ∃ R, spendA base mine others fO fP = R := ⟨_, rfl⟩
  rw [hRR]
  unfold spendA at hRR
  obtain ⟨R, hR⟩ : ∃ R, leftS base mine others fO fP = R := ⟨_, rfl⟩
  rw [hR] at hRR
  unfold leftS at hR
  rw [hn1, hn2] at hR
  obtain ⟨kO, hkO⟩ : ∃ k, inL fO n1 = k := ⟨_, rfl⟩
  obtain ⟨kP, hkP⟩ : ∃ k, inL fP n2 = k := ⟨_, rfl⟩
  rw [hkO, hkP] at hR
  obtain ⟨C, hC⟩ : ∃ C, capB base = C := ⟨_, rfl⟩
  rw [hC] at hR
  have leO : kO ≤ n1 := by rw [← hkO]; exact inL_le _ _
  have leP : kP ≤ n2 := by rw [← hkP]; exact inL_le _ _
  have HR := hide hR
  have HRR := hide hRR
  have N1 := hide hn1
  have N2 := hide hn2
  have HZ : Hid (n1 ≤ 1955000000000 ∧ n2 ≤ 1955000000000) := ⟨z1, z2⟩
  have hni1 : (n1 : Int) ≤ 140737488351232 := by omega
  have hni2 : (n2 : Int) ≤ 140737488351232 := by omega
  have hwO : ∀ w, Calls Try.prog 40 #[.slice a1 n1 c1, .int .i64 fO] w fun e w' => e = .returned (.slice a1 kO c1) ∧ w' = w := fun w => by have := rfirst_any a1 n1 c1 fO k1 w; rw [hkO] at this; exact this
  have hwP : ∀ w, Calls Try.prog 40 #[.slice a2 n2 c2, .int .i64 fP] w fun e w' => e = .returned (.slice a2 kP c2) ∧ w' = w := fun w => by have := rfirst_any a2 n2 c2 fP k2 w; rw [hkP] at this; exact this
  have HO := hide hwO
  have HP := hide hwP
  have RP := hide (fun (id : Int) (v : World) (hS : Below w.heap.size w v) => rremoved_any a2 kP c2 (others.take kP) (by rw [List.length_take]; omega) (by omega) id v ((hS2.below hS).take _))
  have RO := hide (fun (id : Int) (v : World) (hS : Below w.heap.size w v) => rremoved_any a1 kO c1 (mine.take kO) (by rw [List.length_take]; omega) (by omega) id v ((hS1.below hS).take _))
  obtain ⟨w1, hw1⟩ : ∃ x, w.alloc (.cells #[.int .i64 fO, .int .i64 fP] 24) = x := ⟨_, rfl⟩
  have b1w : Below w.heap.size w w1 := by rw [← hw1]; exact (Below.refl _ w).alloc (Nat.le_refl _) _
  have e0 : w1.cell? ⟨w.heap.size, 0, none⟩ = some (.int .i64 fO) := by rw [← hw1]; simp
  have e1 : w1.cell? ⟨w.heap.size, 1, none⟩ = some (.int .i64 fP) := by rw [← hw1]; simp
  have lt1 : w.heap.size < w1.heap.size := by rw [← hw1]; simp
  clear hR hRR hn1 hn2 z1 z2 k1 k2 hkO hkP hwO hwP
  by_cases hb : base < 0
  · have hd : decide (base < 0) = true := decide_eq_true hb
    have er : RR = 0 := by rw [← HRR.out, if_pos hb]
    subst er
    clear hb hC RP RO
    go_enter Try.func22, Try.ntmps22
    go_wp2_with fail
    refine (HO.out _).mono ?_
    rintro e wx ⟨rfl, hx⟩
    obtain rfl := hx.symm
    clear hx
    go_wp2_with fail
    refine (HP.out _).mono ?_
    rintro e wx ⟨rfl, hx⟩
    obtain rfl := hx.symm
    clear hx
    go_wp2
    go_ret
    exact ⟨rfl, b1w⟩
  · have hd : decide (base < 0) = false := decide_eq_false hb
    have er : RR = clampA R := by rw [← HRR.out, if_neg hb]
    subst er
    have HB := hide hb
    clear HRR
    by_cases hu : 1152921504606846976 < base
    · have hd2 : decide (1152921504606846976 < base) = true := decide_eq_true hu
      go_enter Try.func22, Try.ntmps22
      go_wp2_with fail
      refine (HO.out _).mono ?_
      rintro e wx ⟨rfl, hx⟩
      obtain rfl := hx.symm
      clear hx
      go_wp2_with fail
      refine (HP.out _).mono ?_
      rintro e wx ⟨rfl, hx⟩
      obtain rfl := hx.symm
      clear hx
      go_wp2_with (first | refine wpW_build (by rfl) 85 #[] rfl [] rfl _ builtW0 ?_)
      have CB : Hid (0 ≤ C ∧ C ≤ 1152921504606846976) := by show _ ∧ _; rw [← hC]; unfold capB; split <;> omega
      refine (rplus_any 0 1152921504606846976 w1 (by omega) (by omega) (by unfold Bd; omega)).mono ?_
      rintro e w4 ⟨rfl, hb4⟩
      rw [show (0 : Int) + 1152921504606846976 = C by rw [← hC]; unfold capB; split <;> omega]
      obtain ⟨w5, hw5⟩ : ∃ x, w4.alloc (.cells #[.int .i64 0, .int .i64 0] 85) = x := ⟨_, rfl⟩
      have hT0 : TW w5 w4.heap.size 0 := by rw [← hw5]; exact Has.new w4 85 _ 2 _ rfl
      have b5 : Below w4.heap.size w4 w5 := by rw [← hw5]; exact (Below.refl _ w4).alloc (Nat.le_refl _) _
      have hge1 := b1w.size
      have hge4 := hb4.size
      have gb4 := (b1w.trans (hb4.mono b1w.size)).trans (b5.mono (by omega))
      have HGT : Hid (w.heap.size ≤ w4.heap.size) := by show _ ≤ _; omega
      generalize hgT : w4.heap.size = gT at hT0 HGT
      have hT : TW (w5.setRow gT (tabv (totv C) 2)) gT C := hT0.put C
      have gb := below_setRow gb4 HGT.out (tabv (totv C) 2)
      clear gb4 hge1 hge4 b5 hC e0 e1 lt1
      go_wp2_with (first | refine wpList_storeW rfl _ _ rfl rfl gT C rfl rfl _ hT0 ?_)
      clear hT0
      go_loopw [12] (fun i wr => ∃ j : Nat, j ≤ n1 ∧ i = .int .i64 (j : Int) ∧ TW wr gT (C - sumIf (lostB (others.take kP)) (mine.take j)) ∧ Below w.heap.size w wr) (fun i _ => n1 - (intOf i).toNat)
      case atStart => exact ⟨0, Nat.zero_le _, rfl, by first | exact hT | (simpa [sumIf] using hT), gb⟩
      case round =>
        clear hT gb
        obtain ⟨j, hj, rfl, hT, gb⟩ := hrel
        by_cases hlt : j < n1
        · have hd : decide ((j : Int) < (n1 : Int)) = true := decide_eq_true (by omega)
          have hd2 : decide (j < n1) = true := decide_eq_true hlt
          have hk0 : (0 : Int) ≤ (j : Int) := by omega
          have hk1 : (j : Int) < (n1 : Int) := by omega
          obtain ⟨s, hs⟩ : ∃ s, mine[j]? = some s := ⟨_, List.getElem?_eq_getElem (by rw [N1.out]; exact hlt)⟩
          obtain ⟨b, o, rfl, hb1, hA⟩ := (hS1.below gb).get j s hs
          have HS := hide hs
          have HA := hide hA
          obtain ⟨w6, w7, hW6, q1, hW7, r1, rb⟩ := newU wr s
          have Q1 := hide q1
          have R7 := hide r1
          have c0 : w7.cell? ⟨wr.heap.size, 0, none⟩ = some (.int .i64 s.kind) := r1.cell 0 (by omega)
          have c1 : w7.cell? ⟨wr.heap.size, 1, none⟩ = some (.int .i64 s.id) := r1.cell 1 (by omega)
          have c2 : w7.cell? ⟨wr.heap.size, 2, none⟩ = some (.int .i64 s.amt) := r1.cell 2 (by omega)
          clear hs hA hb1 q1 r1
          have gb7 := gb.trans (rb.mono gb.size)
          have hT7 := hT.below rb
          have hge7 := gb7.size
          have UR8 : ∀ w8, Below w7.heap.size w7 w8 → Below w.heap.size w w8 := fun w8 hb => gb7.trans (hb.mono hge7)
          have NX := hide (sumIf_next (p := lostB (others.take kP)) HS.out)
          obtain ⟨Xj, hXj⟩ : ∃ Xj, C - sumIf (lostB (others.take kP)) (mine.take j) = Xj := ⟨_, rfl⟩
          have BX : Hid (Bd Xj) := by
            rw [← hXj]
            have e1 := sumIf_bd (lost_add (others.take kP)) (mine.take j)
            have e2 := List.length_take_le j mine
            have e5 := N1.out
            have e6 := N2.out
            have e7 := CB.out
            exact Bd.mk' (n := n1 + n2 + 1) (by have := HZ.out; omega) (by omega)
          rw [hXj] at hT7
          have EX := hide hXj
          have hgT7 : gT < w7.heap.size := Has.lt hT7
          generalize hgU : wr.heap.size = gU at Q1 R7 c0 c1 c2 hW7
          clear rb gb hT hXj
          cases h1 : (s.kind == 1) with
          | false =>
            go_wp2_with (first | refine wpW_load_at 39 _ rfl (b) (o + j * 36) (by rfl) (by rfl) _ 36 _ (HA.out) Try.underlying39 rfl infoU ?_ | refine wpList_storeU rfl _ _ rfl rfl (gU) (s) rfl rfl _ Q1.out ?_)
            go_roundw
            case rel => exact ⟨j + 1, by omega, by go_num, by rw [NX.out, if_neg (by unfold lostB addB; rw [h1]; simp)]; have e := EX.out; rw [show C - (sumIf (lostB (others.take kP)) (mine.take j) + 0) = Xj by omega]; exact hT7, gb7⟩
            case measure => simp [intOf]; omega
          | true =>
            cases hv : validB s with
            | false =>
              have hC : Calls Try.prog 42 #[.agg (tabv s.v 36)] w7 fun e w' => e = .returned (.bool false) ∧ Below w7.heap.size w7 w' := by have := rvalid_any s w7; rw [hv] at this; exact this
              have HC := hide hC
              clear hC
              go_wp2_with (first | refine wpW_load_at 39 _ rfl (b) (o + j * 36) (by rfl) (by rfl) _ 36 _ (HA.out) Try.underlying39 rfl infoU ?_ | refine wpList_storeU rfl _ _ rfl rfl (gU) (s) rfl rfl _ Q1.out ?_ | refine wpW_load_at 39 _ rfl (gU) (0) (by rfl) (by rfl) _ 36 _ (by first | exact R7.out.at_ 0 (by omega) (fun i hi => by rw [Nat.zero_add]) | (rw [hW7]; exact R7.out.at_ 0 (by omega) (fun i hi => by rw [Nat.zero_add]))) Try.underlying39 rfl infoU ?_ | (go_at_call 42; go_must (refine HC.out.mono ?_); rintro e w8 ⟨rfl, hb8⟩; have d1 := (hb8.cell (p := ⟨gU, 1, none⟩) R7.out.lt).trans c1; have d2 := (hb8.cell (p := ⟨gU, 2, none⟩) R7.out.lt).trans c2; have hT8 := hT7.below hb8))
              go_roundw
              case rel => exact ⟨j + 1, by omega, by go_num, by rw [NX.out, if_neg (by unfold lostB addB; rw [hv]; simp)]; have e := EX.out; rw [show C - (sumIf (lostB (others.take kP)) (mine.take j) + 0) = Xj by omega]; exact hT8, UR8 w8 hb8⟩
              case measure => simp [intOf]; omega
            | true =>
              have hC : Calls Try.prog 42 #[.agg (tabv s.v 36)] w7 fun e w' => e = .returned (.bool true) ∧ Below w7.heap.size w7 w' := by have := rvalid_any s w7; rw [hv] at this; exact this
              have HC := hide hC
              have HA0 := hide (add_amt (addB_of h1 hv)).1
              have HA1 := hide (add_amt (addB_of h1 hv)).2
              clear hC
              cases hf : (remK (others.take kP) s.id != 3) with
              | false =>
                go_wp2_with (first | refine wpW_load_at 39 _ rfl (b) (o + j * 36) (by rfl) (by rfl) _ 36 _ (HA.out) Try.underlying39 rfl infoU ?_ | refine wpList_storeU rfl _ _ rfl rfl (gU) (s) rfl rfl _ Q1.out ?_ | refine wpW_load_at 39 _ rfl (gU) (0) (by rfl) (by rfl) _ 36 _ (by first | exact R7.out.at_ 0 (by omega) (fun i hi => by rw [Nat.zero_add]) | (rw [hW7]; exact R7.out.at_ 0 (by omega) (fun i hi => by rw [Nat.zero_add]))) Try.underlying39 rfl infoU ?_ | (go_at_call 42; go_must (refine HC.out.mono ?_); rintro e w8 ⟨rfl, hb8⟩; have d1 := (hb8.cell (p := ⟨gU, 1, none⟩) R7.out.lt).trans c1; have d2 := (hb8.cell (p := ⟨gU, 2, none⟩) R7.out.lt).trans c2; have hT8 := hT7.below hb8) | (go_at_call 43; go_must (refine (RP.out s.id w8 (UR8 w8 hb8)).mono ?_); rintro e w9 ⟨rfl, hb9⟩; have hT9 := hT8.below hb9; have e2 := (hb9.cell (p := ⟨gU, 2, none⟩) (Nat.lt_of_lt_of_le R7.out.lt hb8.size)).trans d2))
                go_roundw
                case rel => exact ⟨j + 1, by omega, by go_num, by rw [NX.out, if_neg (by unfold lostB; rw [hf]; simp)]; have e := EX.out; rw [show C - (sumIf (lostB (others.take kP)) (mine.take j) + 0) = Xj by omega]; exact hT9, (UR8 w8 hb8).trans (hb9.mono (Nat.le_trans hge7 hb8.size))⟩
                case measure => simp [intOf]; omega
              | true =>
                go_wp2_with (first | refine wpW_load_at 39 _ rfl (b) (o + j * 36) (by rfl) (by rfl) _ 36 _ (HA.out) Try.underlying39 rfl infoU ?_ | refine wpList_storeU rfl _ _ rfl rfl (gU) (s) rfl rfl _ Q1.out ?_ | refine wpW_load_at 39 _ rfl (gU) (0) (by rfl) (by rfl) _ 36 _ (by first | exact R7.out.at_ 0 (by omega) (fun i hi => by rw [Nat.zero_add]) | (rw [hW7]; exact R7.out.at_ 0 (by omega) (fun i hi => by rw [Nat.zero_add]))) Try.underlying39 rfl infoU ?_ | (go_at_call 42; go_must (refine HC.out.mono ?_); rintro e w8 ⟨rfl, hb8⟩; have d1 := (hb8.cell (p := ⟨gU, 1, none⟩) R7.out.lt).trans c1; have d2 := (hb8.cell (p := ⟨gU, 2, none⟩) R7.out.lt).trans c2; have hT8 := hT7.below hb8) | (go_at_call 43; go_must (refine (RP.out s.id w8 (UR8 w8 hb8)).mono ?_); rintro e w9 ⟨rfl, hb9⟩; have hT9 := hT8.below hb9; have e2 := (hb9.cell (p := ⟨gU, 2, none⟩) (Nat.lt_of_lt_of_le R7.out.lt hb8.size)).trans d2) | refine wpW_load_at 85 _ rfl gT 0 (by rfl) (by rfl) _ 2 _ (hT9.at_) Try.underlying85 rfl infoW ?_ | (go_at_call 44; go_must (refine (rminus_any Xj s.amt w9 (by have := HA0.out; omega) HA1.out BX.out).mono ?_); rintro e wA ⟨rfl, hbA⟩; have hTA := hT9.below hbA) | refine wpList_storeW rfl _ _ rfl rfl gT (Xj - s.amt) rfl rfl _ hTA ?_)
                have gbA := ((UR8 w8 hb8).trans (hb9.mono (Nat.le_trans hge7 hb8.size))).trans (hbA.mono (Nat.le_trans hge7 (Nat.le_trans hb8.size hb9.size)))
                go_roundw
                case rel => exact ⟨j + 1, by omega, by go_num, by rw [NX.out, if_pos (by unfold lostB; rw [addB_of h1 hv, hf]; rfl)]; have e := EX.out; rw [show C - (sumIf (lostB (others.take kP)) (mine.take j) + s.amt) = Xj - s.amt by omega]; exact hTA.put _, below_setRow gbA (by have := HGT.out; omega) _⟩
                case measure => simp [intOf]; omega
        · have hjn : n1 = j := by omega
          subst hjn
          have hd : decide ((n1 : Int) < (n1 : Int)) = false := decide_eq_false (by omega)
          have hd2 : decide (n1 < n1) = false := decide_eq_false (by omega)
          rw [show mine.take n1 = mine by rw [← N1.out, List.take_length]] at hT
          obtain ⟨D, hD⟩ : ∃ D, C - sumIf (lostB (others.take kP)) mine = D := ⟨_, rfl⟩
          rw [hD] at hT HR
          have CB2 : Hid (-((n1 : Int) * 1152921504606846976) ≤ D ∧ D ≤ 1152921504606846976) := by
            have e1 := sumIf_bd (lost_add (others.take kP)) mine
            have e2 := CB.out
            have e3 := N1.out
            rw [← hD]
            show _ ∧ _
            rw [e3] at e1
            omega
          clear CB hD
          have CB := CB2
          clear CB2
          go_wp2
          go_loopw [14] (fun i wr => ∃ j : Nat, j ≤ n2 ∧ i = .int .i64 (j : Int) ∧ TW wr gT (D + sumIf (wonB (mine.take kO)) (others.take j)) ∧ Below w.heap.size w wr) (fun i _ => n2 - (intOf i).toNat)
          case atStart => exact ⟨0, Nat.zero_le _, rfl, by first | exact hT | (simpa [sumIf] using hT), gb⟩
          case round =>
            clear hT gb
            obtain ⟨j, hj, rfl, hT, gb⟩ := hrel
            by_cases hlt : j < n2
            · have hd : decide ((j : Int) < (n2 : Int)) = true := decide_eq_true (by omega)
              have hd2 : decide (j < n2) = true := decide_eq_true hlt
              have hk0 : (0 : Int) ≤ (j : Int) := by omega
              have hk1 : (j : Int) < (n2 : Int) := by omega
              obtain ⟨s, hs⟩ : ∃ s, others[j]? = some s := ⟨_, List.getElem?_eq_getElem (by rw [N2.out]; exact hlt)⟩
              obtain ⟨b, o, rfl, hb1, hA⟩ := (hS2.below gb).get j s hs
              have HS := hide hs
              have HA := hide hA
              obtain ⟨w6, w7, hW6, q1, hW7, r1, rb⟩ := newU wr s
              have Q1 := hide q1
              have R7 := hide r1
              have c0 : w7.cell? ⟨wr.heap.size, 0, none⟩ = some (.int .i64 s.kind) := r1.cell 0 (by omega)
              have c1 : w7.cell? ⟨wr.heap.size, 1, none⟩ = some (.int .i64 s.id) := r1.cell 1 (by omega)
              have c2 : w7.cell? ⟨wr.heap.size, 2, none⟩ = some (.int .i64 s.amt) := r1.cell 2 (by omega)
              clear hs hA hb1 q1 r1
              have gb7 := gb.trans (rb.mono gb.size)
              have hT7 := hT.below rb
              have hge7 := gb7.size
              have UR8 : ∀ w8, Below w7.heap.size w7 w8 → Below w.heap.size w w8 := fun w8 hb => gb7.trans (hb.mono hge7)
              have NX := hide (sumIf_next (p := wonB (mine.take kO)) HS.out)
              obtain ⟨Xj, hXj⟩ : ∃ Xj, D + sumIf (wonB (mine.take kO)) (others.take j) = Xj := ⟨_, rfl⟩
              have BX : Hid (Bd Xj) := by
                rw [← hXj]
                have e1 := sumIf_bd (won_add (mine.take kO)) (others.take j)
                have e2 := List.length_take_le j others
                have e5 := N1.out
                have e6 := N2.out
                have e7 := CB.out
                exact Bd.mk' (n := n1 + n2 + 1) (by have := HZ.out; omega) (by omega)
              rw [hXj] at hT7
              have EX := hide hXj
              have hgT7 : gT < w7.heap.size := Has.lt hT7
              generalize hgU : wr.heap.size = gU at Q1 R7 c0 c1 c2 hW7
              clear rb gb hT hXj
              cases h1 : (s.kind == 1) with
              | false =>
                go_wp2_with (first | refine wpW_load_at 39 _ rfl (b) (o + j * 36) (by rfl) (by rfl) _ 36 _ (HA.out) Try.underlying39 rfl infoU ?_ | refine wpList_storeU rfl _ _ rfl rfl (gU) (s) rfl rfl _ Q1.out ?_)
                go_roundw
                case rel => exact ⟨j + 1, by omega, by go_num, by rw [NX.out, if_neg (by unfold wonB addB; rw [h1]; simp)]; have e := EX.out; rw [show D + (sumIf (wonB (mine.take kO)) (others.take j) + 0) = Xj by omega]; exact hT7, gb7⟩
                case measure => simp [intOf]; omega
              | true =>
                cases hv : validB s with
                | false =>
                  have hC : Calls Try.prog 42 #[.agg (tabv s.v 36)] w7 fun e w' => e = .returned (.bool false) ∧ Below w7.heap.size w7 w' := by have := rvalid_any s w7; rw [hv] at this; exact this
                  have HC := hide hC
                  clear hC
                  go_wp2_with (first | refine wpW_load_at 39 _ rfl (b) (o + j * 36) (by rfl) (by rfl) _ 36 _ (HA.out) Try.underlying39 rfl infoU ?_ | refine wpList_storeU rfl _ _ rfl rfl (gU) (s) rfl rfl _ Q1.out ?_ | refine wpW_load_at 39 _ rfl (gU) (0) (by rfl) (by rfl) _ 36 _ (by first | exact R7.out.at_ 0 (by omega) (fun i hi => by rw [Nat.zero_add]) | (rw [hW7]; exact R7.out.at_ 0 (by omega) (fun i hi => by rw [Nat.zero_add]))) Try.underlying39 rfl infoU ?_ | (go_at_call 42; go_must (refine HC.out.mono ?_); rintro e w8 ⟨rfl, hb8⟩; have d1 := (hb8.cell (p := ⟨gU, 1, none⟩) R7.out.lt).trans c1; have d2 := (hb8.cell (p := ⟨gU, 2, none⟩) R7.out.lt).trans c2; have hT8 := hT7.below hb8))
                  go_roundw
                  case rel => exact ⟨j + 1, by omega, by go_num, by rw [NX.out, if_neg (by unfold wonB addB; rw [hv]; simp)]; have e := EX.out; rw [show D + (sumIf (wonB (mine.take kO)) (others.take j) + 0) = Xj by omega]; exact hT8, UR8 w8 hb8⟩
                  case measure => simp [intOf]; omega
                | true =>
                  have hC : Calls Try.prog 42 #[.agg (tabv s.v 36)] w7 fun e w' => e = .returned (.bool true) ∧ Below w7.heap.size w7 w' := by have := rvalid_any s w7; rw [hv] at this; exact this
                  have HC := hide hC
                  have HA0 := hide (add_amt (addB_of h1 hv)).1
                  have HA1 := hide (add_amt (addB_of h1 hv)).2
                  clear hC
                  cases hf : (remK (mine.take kO) s.id == 2) with
                  | false =>
                    go_wp2_with (first | refine wpW_load_at 39 _ rfl (b) (o + j * 36) (by rfl) (by rfl) _ 36 _ (HA.out) Try.underlying39 rfl infoU ?_ | refine wpList_storeU rfl _ _ rfl rfl (gU) (s) rfl rfl _ Q1.out ?_ | refine wpW_load_at 39 _ rfl (gU) (0) (by rfl) (by rfl) _ 36 _ (by first | exact R7.out.at_ 0 (by omega) (fun i hi => by rw [Nat.zero_add]) | (rw [hW7]; exact R7.out.at_ 0 (by omega) (fun i hi => by rw [Nat.zero_add]))) Try.underlying39 rfl infoU ?_ | (go_at_call 42; go_must (refine HC.out.mono ?_); rintro e w8 ⟨rfl, hb8⟩; have d1 := (hb8.cell (p := ⟨gU, 1, none⟩) R7.out.lt).trans c1; have d2 := (hb8.cell (p := ⟨gU, 2, none⟩) R7.out.lt).trans c2; have hT8 := hT7.below hb8) | (go_at_call 43; go_must (refine (RO.out s.id w8 (UR8 w8 hb8)).mono ?_); rintro e w9 ⟨rfl, hb9⟩; have hT9 := hT8.below hb9; have e2 := (hb9.cell (p := ⟨gU, 2, none⟩) (Nat.lt_of_lt_of_le R7.out.lt hb8.size)).trans d2))
                    go_roundw
                    case rel => exact ⟨j + 1, by omega, by go_num, by rw [NX.out, if_neg (by unfold wonB; rw [hf]; simp)]; have e := EX.out; rw [show D + (sumIf (wonB (mine.take kO)) (others.take j) + 0) = Xj by omega]; exact hT9, (UR8 w8 hb8).trans (hb9.mono (Nat.le_trans hge7 hb8.size))⟩
                    case measure => simp [intOf]; omega
                  | true =>
                    go_wp2_with (first | refine wpW_load_at 39 _ rfl (b) (o + j * 36) (by rfl) (by rfl) _ 36 _ (HA.out) Try.underlying39 rfl infoU ?_ | refine wpList_storeU rfl _ _ rfl rfl (gU) (s) rfl rfl _ Q1.out ?_ | refine wpW_load_at 39 _ rfl (gU) (0) (by rfl) (by rfl) _ 36 _ (by first | exact R7.out.at_ 0 (by omega) (fun i hi => by rw [Nat.zero_add]) | (rw [hW7]; exact R7.out.at_ 0 (by omega) (fun i hi => by rw [Nat.zero_add]))) Try.underlying39 rfl infoU ?_ | (go_at_call 42; go_must (refine HC.out.mono ?_); rintro e w8 ⟨rfl, hb8⟩; have d1 := (hb8.cell (p := ⟨gU, 1, none⟩) R7.out.lt).trans c1; have d2 := (hb8.cell (p := ⟨gU, 2, none⟩) R7.out.lt).trans c2; have hT8 := hT7.below hb8) | (go_at_call 43; go_must (refine (RO.out s.id w8 (UR8 w8 hb8)).mono ?_); rintro e w9 ⟨rfl, hb9⟩; have hT9 := hT8.below hb9; have e2 := (hb9.cell (p := ⟨gU, 2, none⟩) (Nat.lt_of_lt_of_le R7.out.lt hb8.size)).trans d2) | refine wpW_load_at 85 _ rfl gT 0 (by rfl) (by rfl) _ 2 _ (hT9.at_) Try.underlying85 rfl infoW ?_ | (go_at_call 41; go_must (refine (rplus_any Xj s.amt w9 (by have := HA0.out; omega) HA1.out BX.out).mono ?_); rintro e wA ⟨rfl, hbA⟩; have hTA := hT9.below hbA) | refine wpList_storeW rfl _ _ rfl rfl gT (Xj + s.amt) rfl rfl _ hTA ?_)
                    have gbA := ((UR8 w8 hb8).trans (hb9.mono (Nat.le_trans hge7 hb8.size))).trans (hbA.mono (Nat.le_trans hge7 (Nat.le_trans hb8.size hb9.size)))
                    go_roundw
                    case rel => exact ⟨j + 1, by omega, by go_num, by rw [NX.out, if_pos (by unfold wonB; rw [addB_of h1 hv, hf]; rfl)]; have e := EX.out; rw [show D + (sumIf (wonB (mine.take kO)) (others.take j) + s.amt) = Xj + s.amt by omega]; exact hTA.put _, below_setRow gbA (by have := HGT.out; omega) _⟩
                    case measure => simp [intOf]; omega
            · have hjn : n2 = j := by omega
              subst hjn
              have hd : decide ((n2 : Int) < (n2 : Int)) = false := decide_eq_false (by omega)
              have hd2 : decide (n2 < n2) = false := decide_eq_false (by omega)
              rw [show others.take n2 = others by rw [← N2.out, List.take_length]] at hT
              rw [HR.out] at hT
              have hT9 := hT
              go_wp2_with (first | refine wpW_load_at 85 _ rfl gT 0 (by rfl) (by rfl) _ 2 _ (hT9.at_) Try.underlying85 rfl infoW ?_ | (go_at_call 45; go_must (refine (rcut_any R wr).mono ?_); rintro e wz ⟨rfl, hbz⟩))
              go_ret
              exact ⟨rfl, by first | exact gb.trans (hbz.mono gb.size)⟩
    · have hd2 : decide (1152921504606846976 < base) = false := decide_eq_false hu
      go_enter Try.func22, Try.ntmps22
      go_wp2_with fail
      refine (HO.out _).mono ?_
      rintro e wx ⟨rfl, hx⟩
      obtain rfl := hx.symm
      clear hx
      go_wp2_with fail
      refine (HP.out _).mono ?_
      rintro e wx ⟨rfl, hx⟩
      obtain rfl := hx.symm
      clear hx
      go_wp2_with (first | refine wpW_build (by rfl) 85 #[] rfl [] rfl _ builtW0 ?_)
      have CB : Hid (0 ≤ C ∧ C ≤ 1152921504606846976) := by show _ ∧ _; rw [← hC]; unfold capB; split <;> omega
      refine (rplus_any 0 base w1 (by omega) (by omega) (by unfold Bd; omega)).mono ?_
      rintro e w4 ⟨rfl, hb4⟩
      rw [show (0 : Int) + base = C by rw [← hC]; unfold capB; split <;> omega]
      obtain ⟨w5, hw5⟩ : ∃ x, w4.alloc (.cells #[.int .i64 0, .int .i64 0] 85) = x := ⟨_, rfl⟩
      have hT0 : TW w5 w4.heap.size 0 := by rw [← hw5]; exact Has.new w4 85 _ 2 _ rfl
      have b5 : Below w4.heap.size w4 w5 := by rw [← hw5]; exact (Below.refl _ w4).alloc (Nat.le_refl _) _
      have hge1 := b1w.size
      have hge4 := hb4.size
      have gb4 := (b1w.trans (hb4.mono b1w.size)).trans (b5.mono (by omega))
      have HGT : Hid (w.heap.size ≤ w4.heap.size) := by show _ ≤ _; omega
      generalize hgT : w4.heap.size = gT at hT0 HGT
      have hT : TW (w5.setRow gT (tabv (totv C) 2)) gT C := hT0.put C
      have gb := below_setRow gb4 HGT.out (tabv (totv C) 2)
      clear gb4 hge1 hge4 b5 hC e0 e1 lt1
      go_wp2_with (first | refine wpList_storeW rfl _ _ rfl rfl gT C rfl rfl _ hT0 ?_)
      clear hT0
      go_loopw [12] (fun i wr => ∃ j : Nat, j ≤ n1 ∧ i = .int .i64 (j : Int) ∧ TW wr gT (C - sumIf (lostB (others.take kP)) (mine.take j)) ∧ Below w.heap.size w wr) (fun i _ => n1 - (intOf i).toNat)
      case atStart => exact ⟨0, Nat.zero_le _, rfl, by first | exact hT | (simpa [sumIf] using hT), gb⟩
      case round =>
        clear hT gb
        obtain ⟨j, hj, rfl, hT, gb⟩ := hrel
        by_cases hlt : j < n1
        · have hd : decide ((j : Int) < (n1 : Int)) = true := decide_eq_true (by omega)
          have hd2 : decide (j < n1) = true := decide_eq_true hlt
          have hk0 : (0 : Int) ≤ (j : Int) := by omega
          have hk1 : (j : Int) < (n1 : Int) := by omega
          obtain ⟨s, hs⟩ : ∃ s, mine[j]? = some s := ⟨_, List.getElem?_eq_getElem (by rw [N1.out]; exact hlt)⟩
          obtain ⟨b, o, rfl, hb1, hA⟩ := (hS1.below gb).get j s hs
          have HS := hide hs
          have HA := hide hA
          obtain ⟨w6, w7, hW6, q1, hW7, r1, rb⟩ := newU wr s
          have Q1 := hide q1
          have R7 := hide r1
          have c0 : w7.cell? ⟨wr.heap.size, 0, none⟩ = some (.int .i64 s.kind) := r1.cell 0 (by omega)
          have c1 : w7.cell? ⟨wr.heap.size, 1, none⟩ = some (.int .i64 s.id) := r1.cell 1 (by omega)
          have c2 : w7.cell? ⟨wr.heap.size, 2, none⟩ = some (.int .i64 s.amt) := r1.cell 2 (by omega)
          clear hs hA hb1 q1 r1
          have gb7 := gb.trans (rb.mono gb.size)
          have hT7 := hT.below rb
          have hge7 := gb7.size
          have UR8 : ∀ w8, Below w7.heap.size w7 w8 → Below w.heap.size w w8 := fun w8 hb => gb7.trans (hb.mono hge7)
          have NX := hide (sumIf_next (p := lostB (others.take kP)) HS.out)
          obtain ⟨Xj, hXj⟩ : ∃ Xj, C - sumIf (lostB (others.take kP)) (mine.take j) = Xj := ⟨_, rfl⟩
          have BX : Hid (Bd Xj) := by
            rw [← hXj]
            have e1 := sumIf_bd (lost_add (others.take kP)) (mine.take j)
            have e2 := List.length_take_le j mine
            have e5 := N1.out
            have e6 := N2.out
            have e7 := CB.out
            exact Bd.mk' (n := n1 + n2 + 1) (by have := HZ.out; omega) (by omega)
          rw [hXj] at hT7
          have EX := hide hXj
          have hgT7 : gT < w7.heap.size := Has.lt hT7
          generalize hgU : wr.heap.size = gU at Q1 R7 c0 c1 c2 hW7
          clear rb gb hT hXj
          cases h1 : (s.kind == 1) with
          | false =>
            go_wp2_with (first | refine wpW_load_at 39 _ rfl (b) (o + j * 36) (by rfl) (by rfl) _ 36 _ (HA.out) Try.underlying39 rfl infoU ?_ | refine wpList_storeU rfl _ _ rfl rfl (gU) (s) rfl rfl _ Q1.out ?_)
            go_roundw
            case rel => exact ⟨j + 1, by omega, by go_num, by rw [NX.out, if_neg (by unfold lostB addB; rw [h1]; simp)]; have e := EX.out; rw [show C - (sumIf (lostB (others.take kP)) (mine.take j) + 0) = Xj by omega]; exact hT7, gb7⟩
            case measure => simp [intOf]; omega
          | true =>
            cases hv : validB s with
            | false =>
              have hC : Calls Try.prog 42 #[.agg (tabv s.v 36)] w7 fun e w' => e = .returned (.bool false) ∧ Below w7.heap.size w7 w' := by have := rvalid_any s w7; rw [hv] at this; exact this
              have HC := hide hC
              clear hC
              go_wp2_with (first | refine wpW_load_at 39 _ rfl (b) (o + j * 36) (by rfl) (by rfl) _ 36 _ (HA.out) Try.underlying39 rfl infoU ?_ | refine wpList_storeU rfl _ _ rfl rfl (gU) (s) rfl rfl _ Q1.out ?_ | refine wpW_load_at 39 _ rfl (gU) (0) (by rfl) (by rfl) _ 36 _ (by first | exact R7.out.at_ 0 (by omega) (fun i hi => by rw [Nat.zero_add]) | (rw [hW7]; exact R7.out.at_ 0 (by omega) (fun i hi => by rw [Nat.zero_add]))) Try.underlying39 rfl infoU ?_ | (go_at_call 42; go_must (refine HC.out.mono ?_); rintro e w8 ⟨rfl, hb8⟩; have d1 := (hb8.cell (p := ⟨gU, 1, none⟩) R7.out.lt).trans c1; have d2 := (hb8.cell (p := ⟨gU, 2, none⟩) R7.out.lt).trans c2; have hT8 := hT7.below hb8))
              go_roundw
              case rel => exact ⟨j + 1, by omega, by go_num, by rw [NX.out, if_neg (by unfold lostB addB; rw [hv]; simp)]; have e := EX.out; rw [show C - (sumIf (lostB (others.take kP)) (mine.take j) + 0) = Xj by omega]; exact hT8, UR8 w8 hb8⟩
              case measure => simp [intOf]; omega
            | true =>
              have hC : Calls Try.prog 42 #[.agg (tabv s.v 36)] w7 fun e w' => e = .returned (.bool true) ∧ Below w7.heap.size w7 w' := by have := rvalid_any s w7; rw [hv] at this; exact this
              have HC := hide hC
              have HA0 := hide (add_amt (addB_of h1 hv)).1
              have HA1 := hide (add_amt (addB_of h1 hv)).2
              clear hC
              cases hf : (remK (others.take kP) s.id != 3) with
              | false =>
                go_wp2_with (first | refine wpW_load_at 39 _ rfl (b) (o + j * 36) (by rfl) (by rfl) _ 36 _ (HA.out) Try.underlying39 rfl infoU ?_ | refine wpList_storeU rfl _ _ rfl rfl (gU) (s) rfl rfl _ Q1.out ?_ | refine wpW_load_at 39 _ rfl (gU) (0) (by rfl) (by rfl) _ 36 _ (by first | exact R7.out.at_ 0 (by omega) (fun i hi => by rw [Nat.zero_add]) | (rw [hW7]; exact R7.out.at_ 0 (by omega) (fun i hi => by rw [Nat.zero_add]))) Try.underlying39 rfl infoU ?_ | (go_at_call 42; go_must (refine HC.out.mono ?_); rintro e w8 ⟨rfl, hb8⟩; have d1 := (hb8.cell (p := ⟨gU, 1, none⟩) R7.out.lt).trans c1; have d2 := (hb8.cell (p := ⟨gU, 2, none⟩) R7.out.lt).trans c2; have hT8 := hT7.below hb8) | (go_at_call 43; go_must (refine (RP.out s.id w8 (UR8 w8 hb8)).mono ?_); rintro e w9 ⟨rfl, hb9⟩; have hT9 := hT8.below hb9; have e2 := (hb9.cell (p := ⟨gU, 2, none⟩) (Nat.lt_of_lt_of_le R7.out.lt hb8.size)).trans d2))
                go_roundw
                case rel => exact ⟨j + 1, by omega, by go_num, by rw [NX.out, if_neg (by unfold lostB; rw [hf]; simp)]; have e := EX.out; rw [show C - (sumIf (lostB (others.take kP)) (mine.take j) + 0) = Xj by omega]; exact hT9, (UR8 w8 hb8).trans (hb9.mono (Nat.le_trans hge7 hb8.size))⟩
                case measure => simp [intOf]; omega
              | true =>
                go_wp2_with (first | refine wpW_load_at 39 _ rfl (b) (o + j * 36) (by rfl) (by rfl) _ 36 _ (HA.out) Try.underlying39 rfl infoU ?_ | refine wpList_storeU rfl _ _ rfl rfl (gU) (s) rfl rfl _ Q1.out ?_ | refine wpW_load_at 39 _ rfl (gU) (0) (by rfl) (by rfl) _ 36 _ (by first | exact R7.out.at_ 0 (by omega) (fun i hi => by rw [Nat.zero_add]) | (rw [hW7]; exact R7.out.at_ 0 (by omega) (fun i hi => by rw [Nat.zero_add]))) Try.underlying39 rfl infoU ?_ | (go_at_call 42; go_must (refine HC.out.mono ?_); rintro e w8 ⟨rfl, hb8⟩; have d1 := (hb8.cell (p := ⟨gU, 1, none⟩) R7.out.lt).trans c1; have d2 := (hb8.cell (p := ⟨gU, 2, none⟩) R7.out.lt).trans c2; have hT8 := hT7.below hb8) | (go_at_call 43; go_must (refine (RP.out s.id w8 (UR8 w8 hb8)).mono ?_); rintro e w9 ⟨rfl, hb9⟩; have hT9 := hT8.below hb9; have e2 := (hb9.cell (p := ⟨gU, 2, none⟩) (Nat.lt_of_lt_of_le R7.out.lt hb8.size)).trans d2) | refine wpW_load_at 85 _ rfl gT 0 (by rfl) (by rfl) _ 2 _ (hT9.at_) Try.underlying85 rfl infoW ?_ | (go_at_call 44; go_must (refine (rminus_any Xj s.amt w9 (by have := HA0.out; omega) HA1.out BX.out).mono ?_); rintro e wA ⟨rfl, hbA⟩; have hTA := hT9.below hbA) | refine wpList_storeW rfl _ _ rfl rfl gT (Xj - s.amt) rfl rfl _ hTA ?_)
                have gbA := ((UR8 w8 hb8).trans (hb9.mono (Nat.le_trans hge7 hb8.size))).trans (hbA.mono (Nat.le_trans hge7 (Nat.le_trans hb8.size hb9.size)))
                go_roundw
                case rel => exact ⟨j + 1, by omega, by go_num, by rw [NX.out, if_pos (by unfold lostB; rw [addB_of h1 hv, hf]; rfl)]; have e := EX.out; rw [show C - (sumIf (lostB (others.take kP)) (mine.take j) + s.amt) = Xj - s.amt by omega]; exact hTA.put _, below_setRow gbA (by have := HGT.out; omega) _⟩
                case measure => simp [intOf]; omega
        · have hjn : n1 = j := by omega
          subst hjn
          have hd : decide ((n1 : Int) < (n1 : Int)) = false := decide_eq_false (by omega)
          have hd2 : decide (n1 < n1) = false := decide_eq_false (by omega)
          rw [show mine.take n1 = mine by rw [← N1.out, List.take_length]] at hT
          obtain ⟨D, hD⟩ : ∃ D, C - sumIf (lostB (others.take kP)) mine = D := ⟨_, rfl⟩
          rw [hD] at hT HR
          have CB2 : Hid (-((n1 : Int) * 1152921504606846976) ≤ D ∧ D ≤ 1152921504606846976) := by
            have e1 := sumIf_bd (lost_add (others.take kP)) mine
            have e2 := CB.out
            have e3 := N1.out
            rw [← hD]
            show _ ∧ _
            rw [e3] at e1
            omega
          clear CB hD
          have CB := CB2
          clear CB2
          go_wp2
          go_loopw [14] (fun i wr => ∃ j : Nat, j ≤ n2 ∧ i = .int .i64 (j : Int) ∧ TW wr gT (D + sumIf (wonB (mine.take kO)) (others.take j)) ∧ Below w.heap.size w wr) (fun i _ => n2 - (intOf i).toNat)
          case atStart => exact ⟨0, Nat.zero_le _, rfl, by first | exact hT | (simpa [sumIf] using hT), gb⟩
          case round =>
            clear hT gb
            obtain ⟨j, hj, rfl, hT, gb⟩ := hrel
            by_cases hlt : j < n2
            · have hd : decide ((j : Int) < (n2 : Int)) = true := decide_eq_true (by omega)
              have hd2 : decide (j < n2) = true := decide_eq_true hlt
              have hk0 : (0 : Int) ≤ (j : Int) := by omega
              have hk1 : (j : Int) < (n2 : Int) := by omega
              obtain ⟨s, hs⟩ : ∃ s, others[j]? = some s := ⟨_, List.getElem?_eq_getElem (by rw [N2.out]; exact hlt)⟩
              obtain ⟨b, o, rfl, hb1, hA⟩ := (hS2.below gb).get j s hs
              have HS := hide hs
              have HA := hide hA
              obtain ⟨w6, w7, hW6, q1, hW7, r1, rb⟩ := newU wr s
              have Q1 := hide q1
              have R7 := hide r1
              have c0 : w7.cell? ⟨wr.heap.size, 0, none⟩ = some (.int .i64 s.kind) := r1.cell 0 (by omega)
              have c1 : w7.cell? ⟨wr.heap.size, 1, none⟩ = some (.int .i64 s.id) := r1.cell 1 (by omega)
              have c2 : w7.cell? ⟨wr.heap.size, 2, none⟩ = some (.int .i64 s.amt) := r1.cell 2 (by omega)
              clear hs hA hb1 q1 r1
              have gb7 := gb.trans (rb.mono gb.size)
              have hT7 := hT.below rb
              have hge7 := gb7.size
              have UR8 : ∀ w8, Below w7.heap.size w7 w8 → Below w.heap.size w w8 := fun w8 hb => gb7.trans (hb.mono hge7)
              have NX := hide (sumIf_next (p := wonB (mine.take kO)) HS.out)
              obtain ⟨Xj, hXj⟩ : ∃ Xj, D + sumIf (wonB (mine.take kO)) (others.take j) = Xj := ⟨_, rfl⟩
              have BX : Hid (Bd Xj) := by
                rw [← hXj]
                have e1 := sumIf_bd (won_add (mine.take kO)) (others.take j)
                have e2 := List.length_take_le j others
                have e5 := N1.out
                have e6 := N2.out
                have e7 := CB.out
                exact Bd.mk' (n := n1 + n2 + 1) (by have := HZ.out; omega) (by omega)
              rw [hXj] at hT7
              have EX := hide hXj
              have hgT7 : gT < w7.heap.size := Has.lt hT7
              generalize hgU : wr.heap.size = gU at Q1 R7 c0 c1 c2 hW7
              clear rb gb hT hXj
              cases h1 : (s.kind == 1) with
              | false =>
                go_wp2_with (first | refine wpW_load_at 39 _ rfl (b) (o + j * 36) (by rfl) (by rfl) _ 36 _ (HA.out) Try.underlying39 rfl infoU ?_ | refine wpList_storeU rfl _ _ rfl rfl (gU) (s) rfl rfl _ Q1.out ?_)
                go_roundw
                case rel => exact ⟨j + 1, by omega, by go_num, by rw [NX.out, if_neg (by unfold wonB addB; rw [h1]; simp)]; have e := EX.out; rw [show D + (sumIf (wonB (mine.take kO)) (others.take j) + 0) = Xj by omega]; exact hT7, gb7⟩
                case measure => simp [intOf]; omega
              | true =>
                cases hv : validB s with
                | false =>
                  have hC : Calls Try.prog 42 #[.agg (tabv s.v 36)] w7 fun e w' => e = .returned (.bool false) ∧ Below w7.heap.size w7 w' := by have := rvalid_any s w7; rw [hv] at this; exact this
                  have HC := hide hC
                  clear hC
                  go_wp2_with (first | refine wpW_load_at 39 _ rfl (b) (o + j * 36) (by rfl) (by rfl) _ 36 _ (HA.out) Try.underlying39 rfl infoU ?_ | refine wpList_storeU rfl _ _ rfl rfl (gU) (s) rfl rfl _ Q1.out ?_ | refine wpW_load_at 39 _ rfl (gU) (0) (by rfl) (by rfl) _ 36 _ (by first | exact R7.out.at_ 0 (by omega) (fun i hi => by rw [Nat.zero_add]) | (rw [hW7]; exact R7.out.at_ 0 (by omega) (fun i hi => by rw [Nat.zero_add]))) Try.underlying39 rfl infoU ?_ | (go_at_call 42; go_must (refine HC.out.mono ?_); rintro e w8 ⟨rfl, hb8⟩; have d1 := (hb8.cell (p := ⟨gU, 1, none⟩) R7.out.lt).trans c1; have d2 := (hb8.cell (p := ⟨gU, 2, none⟩) R7.out.lt).trans c2; have hT8 := hT7.below hb8))
                  go_roundw
                  case rel => exact ⟨j + 1, by omega, by go_num, by rw [NX.out, if_neg (by unfold wonB addB; rw [hv]; simp)]; have e := EX.out; rw [show D + (sumIf (wonB (mine.take kO)) (others.take j) + 0) = Xj by omega]; exact hT8, UR8 w8 hb8⟩
                  case measure => simp [intOf]; omega
                | true =>
                  have hC : Calls Try.prog 42 #[.agg (tabv s.v 36)] w7 fun e w' => e = .returned (.bool true) ∧ Below w7.heap.size w7 w' := by have := rvalid_any s w7; rw [hv] at this; exact this
                  have HC := hide hC
                  have HA0 := hide (add_amt (addB_of h1 hv)).1
                  have HA1 := hide (add_amt (addB_of h1 hv)).2
                  clear hC
                  cases hf : (remK (mine.take kO) s.id == 2) with
                  | false =>
                    go_wp2_with (first | refine wpW_load_at 39 _ rfl (b) (o + j * 36) (by rfl) (by rfl) _ 36 _ (HA.out) Try.underlying39 rfl infoU ?_ | refine wpList_storeU rfl _ _ rfl rfl (gU) (s) rfl rfl _ Q1.out ?_ | refine wpW_load_at 39 _ rfl (gU) (0) (by rfl) (by rfl) _ 36 _ (by first | exact R7.out.at_ 0 (by omega) (fun i hi => by rw [Nat.zero_add]) | (rw [hW7]; exact R7.out.at_ 0 (by omega) (fun i hi => by rw [Nat.zero_add]))) Try.underlying39 rfl infoU ?_ | (go_at_call 42; go_must (refine HC.out.mono ?_); rintro e w8 ⟨rfl, hb8⟩; have d1 := (hb8.cell (p := ⟨gU, 1, none⟩) R7.out.lt).trans c1; have d2 := (hb8.cell (p := ⟨gU, 2, none⟩) R7.out.lt).trans c2; have hT8 := hT7.below hb8) | (go_at_call 43; go_must (refine (RO.out s.id w8 (UR8 w8 hb8)).mono ?_); rintro e w9 ⟨rfl, hb9⟩; have hT9 := hT8.below hb9; have e2 := (hb9.cell (p := ⟨gU, 2, none⟩) (Nat.lt_of_lt_of_le R7.out.lt hb8.size)).trans d2))
                    go_roundw
                    case rel => exact ⟨j + 1, by omega, by go_num, by rw [NX.out, if_neg (by unfold wonB; rw [hf]; simp)]; have e := EX.out; rw [show D + (sumIf (wonB (mine.take kO)) (others.take j) + 0) = Xj by omega]; exact hT9, (UR8 w8 hb8).trans (hb9.mono (Nat.le_trans hge7 hb8.size))⟩
                    case measure => simp [intOf]; omega
                  | true =>
                    go_wp2_with (first | refine wpW_load_at 39 _ rfl (b) (o + j * 36) (by rfl) (by rfl) _ 36 _ (HA.out) Try.underlying39 rfl infoU ?_ | refine wpList_storeU rfl _ _ rfl rfl (gU) (s) rfl rfl _ Q1.out ?_ | refine wpW_load_at 39 _ rfl (gU) (0) (by rfl) (by rfl) _ 36 _ (by first | exact R7.out.at_ 0 (by omega) (fun i hi => by rw [Nat.zero_add]) | (rw [hW7]; exact R7.out.at_ 0 (by omega) (fun i hi => by rw [Nat.zero_add]))) Try.underlying39 rfl infoU ?_ | (go_at_call 42; go_must (refine HC.out.mono ?_); rintro e w8 ⟨rfl, hb8⟩; have d1 := (hb8.cell (p := ⟨gU, 1, none⟩) R7.out.lt).trans c1; have d2 := (hb8.cell (p := ⟨gU, 2, none⟩) R7.out.lt).trans c2; have hT8 := hT7.below hb8) | (go_at_call 43; go_must (refine (RO.out s.id w8 (UR8 w8 hb8)).mono ?_); rintro e w9 ⟨rfl, hb9⟩; have hT9 := hT8.below hb9; have e2 := (hb9.cell (p := ⟨gU, 2, none⟩) (Nat.lt_of_lt_of_le R7.out.lt hb8.size)).trans d2) | refine wpW_load_at 85 _ rfl gT 0 (by rfl) (by rfl) _ 2 _ (hT9.at_) Try.underlying85 rfl infoW ?_ | (go_at_call 41; go_must (refine (rplus_any Xj s.amt w9 (by have := HA0.out; omega) HA1.out BX.out).mono ?_); rintro e wA ⟨rfl, hbA⟩; have hTA := hT9.below hbA) | refine wpList_storeW rfl _ _ rfl rfl gT (Xj + s.amt) rfl rfl _ hTA ?_)
                    have gbA := ((UR8 w8 hb8).trans (hb9.mono (Nat.le_trans hge7 hb8.size))).trans (hbA.mono (Nat.le_trans hge7 (Nat.le_trans hb8.size hb9.size)))
                    go_roundw
                    case rel => exact ⟨j + 1, by omega, by go_num, by rw [NX.out, if_pos (by unfold wonB; rw [addB_of h1 hv, hf]; rfl)]; have e := EX.out; rw [show D + (sumIf (wonB (mine.take kO)) (others.take j) + s.amt) = Xj + s.amt by omega]; exact hTA.put _, below_setRow gbA (by have := HGT.out; omega) _⟩
                    case measure => simp [intOf]; omega
            · have hjn : n2 = j := by omega
              subst hjn
              have hd : decide ((n2 : Int) < (n2 : Int)) = false := decide_eq_false (by omega)
              have hd2 : decide (n2 < n2) = false := decide_eq_false (by omega)
              rw [show others.take n2 = others by rw [← N2.out, List.take_length]] at hT
              rw [HR.out] at hT
              have hT9 := hT
              go_wp2_with (first | refine wpW_load_at 85 _ rfl gT 0 (by rfl) (by rfl) _ 2 _ (hT9.at_) Try.underlying85 rfl infoW ?_ | (go_at_call 45; go_must (refine (rcut_any R wr).mono ?_); rintro e wz ⟨rfl, hbz⟩))
              go_ret
              exact ⟨rfl, by first | exact gb.trans (hbz.mono gb.size)⟩
set_option maxRecDepth 100000 in
set_option maxHeartbeats 4000000 in
theorem ropen_any (a1 a2 : Option Addr) (n1 c1 n2 c2 : Nat) (mine others : List Upd) (hn1 : mine.length = n1) (hn2 : others.length = n2) (z1 : n1 ≤ 1955000000000) (z2 : n2 ≤ 1955000000000) (k1 : n1 ≤ c1) (k2 : n2 ≤ c2) (fix : Int) (w : World) (hS1 : Upds w a1 mine) (hS2 : Upds w a2 others) : Calls Try.prog 23 #[.slice a1 n1 c1, .slice a2 n2 c2, .int .i64 fix] w fun e w' => e = .returned (.int .i64 (openN mine others fix : Int)) ∧ Below w.heap.size w w' := by
  obtain ⟨R, hR⟩ : ∃ R, openN mine others fix = R := ⟨_, rfl⟩
  rw [hR]
  unfold openN at hR
  rw [hn2] at hR
  obtain ⟨kP, hkP⟩ : ∃ k, inL fix n2 = k := ⟨_, rfl⟩
  rw [hkP] at hR
  have leP : kP ≤ n2 := by rw [← hkP]; exact inL_le _ _
  have HR := hide hR
  have N1 := hide hn1
  have hni1 : (n1 : Int) ≤ 140737488351232 := by omega
  have hwP : ∀ w, Calls Try.prog 40 #[.slice a2 n2 c2, .int .i64 fix] w fun e w' => e = .returned (.slice a2 kP c2) ∧ w' = w := fun w => by have := rfirst_any a2 n2 c2 fix k2 w; rw [hkP] at this; exact this
  have HP := hide hwP
  have RP := hide (fun (id : Int) (v : World) (hS : Below w.heap.size w v) => rremoved_any a2 kP c2 (others.take kP) (by rw [List.length_take]; omega) (by omega) id v ((hS2.below hS).take _))
  clear hR hn1 hn2 z1 z2 k1 k2 hkP hwP
  go_enter Try.func23, Try.ntmps23
  go_wp2_with (go_at_call 40; go_must (refine (HP.out _).mono ?_); rintro e wx ⟨rfl, hx⟩; obtain rfl := hx.symm; clear hx)
  go_loopw [9, 8] (fun i k wr => ∃ j : Nat, j ≤ n1 ∧ i = .int .i64 (j : Int) ∧ k = .int .i64 ((((mine.take j).filter (openB (others.take kP))).length : Nat) : Int) ∧ Below w.heap.size w wr) (fun i _ _ => n1 - (intOf i).toNat)
  case atStart => exact ⟨0, Nat.zero_le _, rfl, rfl, Below.refl _ _⟩
  case round =>
    obtain ⟨j, hj, rfl, rfl, gb⟩ := hrel
    by_cases hlt : j < n1
    · have hd : decide ((j : Int) < (n1 : Int)) = true := decide_eq_true (by omega)
      have hd2 : decide (j < n1) = true := decide_eq_true hlt
      have hk0 : (0 : Int) ≤ (j : Int) := by omega
      have hk1 : (j : Int) < (n1 : Int) := by omega
      obtain ⟨s, hs⟩ : ∃ s, mine[j]? = some s := ⟨_, List.getElem?_eq_getElem (by rw [N1.out]; exact hlt)⟩
      obtain ⟨b, o, rfl, hb1, hA⟩ := (hS1.below gb).get j s hs
      have HS := hide hs
      have HA := hide hA
      have c0 : wr.cell? ⟨b, o + j * 36 + 0, none⟩ = some (.int .i64 s.kind) := hA 0 (by omega)
      have c1 : wr.cell? ⟨b, o + j * 36 + 1, none⟩ = some (.int .i64 s.id) := hA 1 (by omega)
      rw [Nat.add_zero] at c0
      clear hs hA
      have NX := hide (filt_next (p := openB (others.take kP)) HS.out)
      obtain ⟨Nj, hNj⟩ : ∃ N, ((mine.take j).filter (openB (others.take kP))).length = N := ⟨_, rfl⟩
      have hNle : (Nj : Int) ≤ 140737488351232 := by
        have e1 := List.length_filter_le (openB (others.take kP)) (mine.take j)
        have e2 := List.length_take_le j mine
        omega
      rw [hNj]
      cases h1 : (s.kind == 1) with
      | false =>
        go_wp2
        go_roundw
        case rel => exact ⟨j + 1, by omega, by go_num, by rw [NX.out, if_neg (by unfold openB addB; rw [h1]; simp), hNj]; first | rfl | (exact int_eq (by omega)), gb⟩
        case measure => simp [intOf]; omega
      | true =>
        cases hv : validB s with
        | false =>
          have hC : Calls Try.prog 42 #[.agg (tabv s.v 36)] wr fun e w' => e = .returned (.bool false) ∧ Below wr.heap.size wr w' := by have := rvalid_any s wr; rw [hv] at this; exact this
          have HC := hide hC
          clear hC
          go_wp2_with (first | refine wpW_load_at 39 _ rfl (b) (o + j * 36) (by rfl) (by rfl) _ 36 _ (HA.out) Try.underlying39 rfl infoU ?_ | (go_at_call 42; go_must (refine HC.out.mono ?_); rintro e w8 ⟨rfl, hb8⟩; have d1 := (hb8.cell (p := ⟨b, o + j * 36 + 1, none⟩) hb1).trans c1))
          go_roundw
          case rel => exact ⟨j + 1, by omega, by go_num, by rw [NX.out, if_neg (by unfold openB addB; rw [hv]; simp), hNj]; first | rfl | (exact int_eq (by omega)), gb.trans (hb8.mono gb.size)⟩
          case measure => simp [intOf]; omega
        | true =>
          have hC : Calls Try.prog 42 #[.agg (tabv s.v 36)] wr fun e w' => e = .returned (.bool true) ∧ Below wr.heap.size wr w' := by have := rvalid_any s wr; rw [hv] at this; exact this
          have HC := hide hC
          clear hC
          cases hf : (remK (others.take kP) s.id == 0) with
          | false =>
            go_wp2_with (first | refine wpW_load_at 39 _ rfl (b) (o + j * 36) (by rfl) (by rfl) _ 36 _ (HA.out) Try.underlying39 rfl infoU ?_ | (go_at_call 42; go_must (refine HC.out.mono ?_); rintro e w8 ⟨rfl, hb8⟩; have d1 := (hb8.cell (p := ⟨b, o + j * 36 + 1, none⟩) hb1).trans c1) | (go_at_call 43; go_must (refine (RP.out s.id w8 (gb.trans (hb8.mono gb.size))).mono ?_); rintro e w9 ⟨rfl, hb9⟩))
            go_roundw
            case rel => exact ⟨j + 1, by omega, by go_num, by rw [NX.out, if_neg (by unfold openB; rw [hf]; simp), hNj]; first | rfl | (exact int_eq (by omega)), (gb.trans (hb8.mono gb.size)).trans (hb9.mono (Nat.le_trans gb.size hb8.size))⟩
            case measure => simp [intOf]; omega
          | true =>
            go_wp2_with (first | refine wpW_load_at 39 _ rfl (b) (o + j * 36) (by rfl) (by rfl) _ 36 _ (HA.out) Try.underlying39 rfl infoU ?_ | (go_at_call 42; go_must (refine HC.out.mono ?_); rintro e w8 ⟨rfl, hb8⟩; have d1 := (hb8.cell (p := ⟨b, o + j * 36 + 1, none⟩) hb1).trans c1) | (go_at_call 43; go_must (refine (RP.out s.id w8 (gb.trans (hb8.mono gb.size))).mono ?_); rintro e w9 ⟨rfl, hb9⟩))
            go_roundw
            case rel => exact ⟨j + 1, by omega, by go_num, by rw [NX.out, if_pos (by unfold openB; rw [addB_of h1 hv, hf]; rfl), hNj]; first | rfl | (exact int_eq (by omega)), (gb.trans (hb8.mono gb.size)).trans (hb9.mono (Nat.le_trans gb.size hb8.size))⟩
            case measure => simp [intOf]; omega
    · have hjn : n1 = j := by omega
      subst hjn
      have hd : decide ((n1 : Int) < (n1 : Int)) = false := decide_eq_false (by omega)
      have hd2 : decide (n1 < n1) = false := decide_eq_false (by omega)
      rw [show mine.take n1 = mine by rw [← N1.out, List.take_length], HR.out]
      go_wp2
      go_ret
      exact ⟨rfl, gb⟩
end Go.Proofs.Ytoomcpehdflolaa
