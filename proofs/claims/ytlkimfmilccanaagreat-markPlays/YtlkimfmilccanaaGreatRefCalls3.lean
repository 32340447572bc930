import Derived.Test.YtlkimfmilccanaaGreatRefCalls
/-
  The document's disk: refused, in, Name.
-/
namespace Go.Proofs.YtlkimfmilccanaaGreat
open Go.RowKit Go.Maps Go.WideMaps
set_option linter.unusedVariables false
set_option linter.unusedSimpArgs false
section
variable {w : World} {r : Nat} {s : RS} {xs : List RF} {S : Nat → Prop} {A : AD}
theorem RefAt.f2 (h : RefAt w r s xs S) (x : Int) : RefAt (w.setCell ⟨r, 2, none⟩ (.int .i64 x)) r { s with arm := x } xs S := (h.field 2 (.int .i64 x) { s with arm := x } rfl rfl).1
theorem RefAt.f4 (h : RefAt w r s xs S) (x : Int) : RefAt (w.setCell ⟨r, 4, none⟩ (.int .i64 x)) r { s with fall := x } xs S := (h.field 4 (.int .i64 x) { s with fall := x } rfl rfl).1
theorem RefAt.f5 (h : RefAt w r s xs S) (x : Bool) : RefAt (w.setCell ⟨r, 5, none⟩ (.bool x)) r { s with off := x } xs S := (h.field 5 (.bool x) { s with off := x } rfl rfl).1
theorem RefAt.f6 (h : RefAt w r s xs S) (x : Bool) : RefAt (w.setCell ⟨r, 6, none⟩ (.bool x)) r { s with opn := x } xs S := (h.field 6 (.bool x) { s with opn := x } rfl rfl).1
theorem RRel.toPow {s' : RS} (h : RRel s xs A) (hn : s'.n = s.n) (hc : s'.cap = s.cap) {P : AP} (hp : RPow s' P) : RRel s' xs { A with pow := P } := ⟨hn.trans h.n, hc.trans h.cap, hp, h.fs, h.ds⟩
set_option maxRecDepth 5000 in
set_option maxHeartbeats 4000000 in
theorem refused_any (h : RefAt w r s xs S) (hr : RRel s xs A) (hok : A.pow.Ok) (x : Int) : Calls Tryz.prog 94 #[.pointer (some ⟨r, 0, none⟩), .int .i64 x] w fun e w' => e = .returned (.int .i64 (A.pow.count x).1) ∧ ∃ s', RefAt w' r s' xs S ∧ RRel s' xs { A with pow := (A.pow.count x).2 } ∧ Turn (fun b => b = r) w w' := by
  have HH := hide h
  have HR := hide hr
  have T0 := Turn.refl (fun b => b = r) w
  obtain ⟨P, hP⟩ : ∃ P, A.pow = P := ⟨_, rfl⟩
  have HP : Hid (RPow s P) := by rw [← hP]; exact hr.pow
  rw [hP] at hok ⊢
  have c2 : w.cell? ⟨r, 2, none⟩ = some (.int .i64 P.arm) := by rw [← HP.out.arm]; exact h.c 2
  have c3 : w.cell? ⟨r, 3, none⟩ = some (.int .i64 s.what) := h.c 3
  have c4 : w.cell? ⟨r, 4, none⟩ = some (.int .i64 P.fall) := by rw [← HP.out.fall]; exact h.c 4
  have c5 : w.cell? ⟨r, 5, none⟩ = some (.bool s.off) := h.c 5
  have c6 : w.cell? ⟨r, 6, none⟩ = some (.bool s.opn) := h.c 6
  have f2 := h.fz 2
  have f4 := h.fz 4
  have f5 := h.fz 5
  have f6 := h.fz 6
  obtain ⟨off, opn, arm, what, fall⟩ := P
  obtain ⟨q, hq⟩ : ∃ q, s.what = q := ⟨_, rfl⟩
  rw [hq] at c3
  have HW : Hid (0 < arm → q = what) := fun ha => by rw [← hq]; exact HP.out.what ha
  have q1 := hok.a0; have q2 := hok.a1; have q3 := hok.f0; have q4 := hok.f1
  simp only at c2 c4 q1 q2 q3 q4
  have p1 := HP.out.arm; have p2 := HP.out.fall; have p3 := HP.out.off; have p4 := HP.out.opn
  simp only at p1 p2 p3 p4
  have P1 := hide p1; have P2 := hide p2; have P3 := hide p3; have P4 := hide p4; have PQ := hide hq
  clear h hr hok hP hq p1 p2 p3 p4 HP
  by_cases hf1 : fall = 1
  · subst hf1
    have e : AP.count ⟨off, opn, arm, what, 1⟩ x = (9, ⟨true, true, arm, what, 0⟩) := rfl
    rw [e]
    clear e
    go_enter Tryz.func94, Tryz.ntmps94
    go_wp2
    go_ret
    exact ⟨rfl, _, ((HH.out.f4 0).f5 true).f6 true, HR.out.toPow (by rfl) (by rfl) ⟨P1.out, rfl, rfl, rfl, fun ha => PQ.out.trans (HW.out ha)⟩, tset (tset (tset T0 4 (.int .i64 0)) 5 (.bool true)) 6 (.bool true)⟩
  by_cases hf0 : 0 < fall
  · by_cases ha0 : arm < 1
    · have df : decide (0 < fall) = true := decide_eq_true hf0
      have dg : (fall - 1 == 0) = false := beq_eq_false_iff_ne.2 (by omega)
      have da : decide (arm < 1) = true := decide_eq_true (by omega)
      have e : AP.count ⟨off, opn, arm, what, fall⟩ x = (0, ⟨off, opn, arm, what, fall - 1⟩) := by
        unfold AP.count AP.fell
        simp only
        rw [if_neg hf1, if_neg (by omega), if_pos hf0]
      rw [e]
      clear e hf0 hf1
      go_enter Tryz.func94, Tryz.ntmps94
      go_wp2
      go_ret
      exact ⟨rfl, _, (HH.out.f4 (fall - 1)), HR.out.toPow (by rfl) (by rfl) ⟨P1.out, rfl, P3.out, P4.out, fun ha => PQ.out.trans (HW.out ha)⟩, (tset T0 4 (.int .i64 (fall - 1)))⟩
    by_cases hw : what = 0 ∨ what = x
    · by_cases hw0 : what = 0
      · by_cases ha1 : arm = 1
        · have df : decide (0 < fall) = true := decide_eq_true hf0
          have dg : (fall - 1 == 0) = false := beq_eq_false_iff_ne.2 (by omega)
          have da : decide (arm < 1) = false := decide_eq_false (by omega)
          have hqw := HW.out (by omega)
          subst hqw
          have dw : (q == 0) = true := beq_iff_eq.2 hw0
          have dw2 : (q != 0) = false := by unfold bne; rw [dw]; rfl
          have d1 : (arm - 1 == 0) = true := beq_iff_eq.2 (by omega)
          have e : AP.count ⟨off, opn, arm, q, fall⟩ x = (40, ⟨off, opn, arm - 1, q, fall - 1⟩) := by
            unfold AP.count AP.fell
            simp only
            rw [if_neg hf1, if_pos ⟨by omega, .inl hw0⟩, if_pos ha1, if_pos hf0]
          rw [e]
          clear e hf0 hf1 hw0 ha1 hw
          go_enter Tryz.func94, Tryz.ntmps94
          go_wp2
          go_ret
          exact ⟨rfl, _, (HH.out.f4 (fall - 1)).f2 (arm - 1), HR.out.toPow (by rfl) (by rfl) ⟨rfl, rfl, P3.out, P4.out, fun _ => PQ.out⟩, tset (tset T0 4 (.int .i64 (fall - 1))) 2 (.int .i64 (arm - 1))⟩
        · have df : decide (0 < fall) = true := decide_eq_true hf0
          have dg : (fall - 1 == 0) = false := beq_eq_false_iff_ne.2 (by omega)
          have da : decide (arm < 1) = false := decide_eq_false (by omega)
          have hqw := HW.out (by omega)
          subst hqw
          have dw : (q == 0) = true := beq_iff_eq.2 hw0
          have dw2 : (q != 0) = false := by unfold bne; rw [dw]; rfl
          have d1 : (arm - 1 == 0) = false := beq_eq_false_iff_ne.2 (by omega)
          have e : AP.count ⟨off, opn, arm, q, fall⟩ x = (0, ⟨off, opn, arm - 1, q, fall - 1⟩) := by
            unfold AP.count AP.fell
            simp only
            rw [if_neg hf1, if_pos ⟨by omega, .inl hw0⟩, if_neg ha1, if_pos hf0]
          rw [e]
          clear e hf0 hf1 hw0 ha1 hw
          go_enter Tryz.func94, Tryz.ntmps94
          go_wp2
          go_ret
          exact ⟨rfl, _, (HH.out.f4 (fall - 1)).f2 (arm - 1), HR.out.toPow (by rfl) (by rfl) ⟨rfl, rfl, P3.out, P4.out, fun _ => PQ.out⟩, tset (tset T0 4 (.int .i64 (fall - 1))) 2 (.int .i64 (arm - 1))⟩
      · have hwx := hw.resolve_left hw0
        by_cases ha1 : arm = 1
        · have df : decide (0 < fall) = true := decide_eq_true hf0
          have dg : (fall - 1 == 0) = false := beq_eq_false_iff_ne.2 (by omega)
          have da : decide (arm < 1) = false := decide_eq_false (by omega)
          have hqw := HW.out (by omega)
          subst hqw
          have dw : (q == 0) = false := beq_eq_false_iff_ne.2 hw0
          have dw2 : (q != 0) = true := by unfold bne; rw [dw]; rfl
          have dv : (q == x) = true := beq_iff_eq.2 hwx
          have dv2 : (q != x) = false := by unfold bne; rw [dv]; rfl
          have d1 : (arm - 1 == 0) = true := beq_iff_eq.2 (by omega)
          have e : AP.count ⟨off, opn, arm, q, fall⟩ x = (40, ⟨off, opn, arm - 1, q, fall - 1⟩) := by
            unfold AP.count AP.fell
            simp only
            rw [if_neg hf1, if_pos ⟨by omega, .inr hwx⟩, if_pos ha1, if_pos hf0]
          rw [e]
          clear e hf0 hf1 hw0 ha1 hw hwx
          go_enter Tryz.func94, Tryz.ntmps94
          go_wp2
          go_ret
          exact ⟨rfl, _, (HH.out.f4 (fall - 1)).f2 (arm - 1), HR.out.toPow (by rfl) (by rfl) ⟨rfl, rfl, P3.out, P4.out, fun _ => PQ.out⟩, tset (tset T0 4 (.int .i64 (fall - 1))) 2 (.int .i64 (arm - 1))⟩
        · have df : decide (0 < fall) = true := decide_eq_true hf0
          have dg : (fall - 1 == 0) = false := beq_eq_false_iff_ne.2 (by omega)
          have da : decide (arm < 1) = false := decide_eq_false (by omega)
          have hqw := HW.out (by omega)
          subst hqw
          have dw : (q == 0) = false := beq_eq_false_iff_ne.2 hw0
          have dw2 : (q != 0) = true := by unfold bne; rw [dw]; rfl
          have dv : (q == x) = true := beq_iff_eq.2 hwx
          have dv2 : (q != x) = false := by unfold bne; rw [dv]; rfl
          have d1 : (arm - 1 == 0) = false := beq_eq_false_iff_ne.2 (by omega)
          have e : AP.count ⟨off, opn, arm, q, fall⟩ x = (0, ⟨off, opn, arm - 1, q, fall - 1⟩) := by
            unfold AP.count AP.fell
            simp only
            rw [if_neg hf1, if_pos ⟨by omega, .inr hwx⟩, if_neg ha1, if_pos hf0]
          rw [e]
          clear e hf0 hf1 hw0 ha1 hw hwx
          go_enter Tryz.func94, Tryz.ntmps94
          go_wp2
          go_ret
          exact ⟨rfl, _, (HH.out.f4 (fall - 1)).f2 (arm - 1), HR.out.toPow (by rfl) (by rfl) ⟨rfl, rfl, P3.out, P4.out, fun _ => PQ.out⟩, tset (tset T0 4 (.int .i64 (fall - 1))) 2 (.int .i64 (arm - 1))⟩
    · have df : decide (0 < fall) = true := decide_eq_true hf0
      have dg : (fall - 1 == 0) = false := beq_eq_false_iff_ne.2 (by omega)
      have da : decide (arm < 1) = false := decide_eq_false (by omega)
      have hqw := HW.out (by omega)
      subst hqw
      have dw : (q == 0) = false := beq_eq_false_iff_ne.2 (fun e => hw (.inl e))
      have dw2 : (q != 0) = true := by unfold bne; rw [dw]; rfl
      have dv : (q == x) = false := beq_eq_false_iff_ne.2 (fun e => hw (.inr e))
      have dv2 : (q != x) = true := by unfold bne; rw [dv]; rfl
      have e : AP.count ⟨off, opn, arm, q, fall⟩ x = (0, ⟨off, opn, arm, q, fall - 1⟩) := by
        unfold AP.count AP.fell
        simp only
        rw [if_neg hf1, if_neg (fun hh => hw hh.2), if_pos hf0]
      rw [e]
      clear e hf0 hf1 hw
      go_enter Tryz.func94, Tryz.ntmps94
      go_wp2
      go_ret
      exact ⟨rfl, _, (HH.out.f4 (fall - 1)), HR.out.toPow (by rfl) (by rfl) ⟨P1.out, rfl, P3.out, P4.out, fun _ => PQ.out⟩, (tset T0 4 (.int .i64 (fall - 1)))⟩
  · by_cases ha0 : arm < 1
    · have df : decide (0 < fall) = false := decide_eq_false hf0
      have da : decide (arm < 1) = true := decide_eq_true (by omega)
      have e : AP.count ⟨off, opn, arm, what, fall⟩ x = (0, ⟨off, opn, arm, what, fall⟩) := by
        unfold AP.count AP.fell
        simp only
        rw [if_neg hf1, if_neg (by omega), if_neg hf0]
      rw [e]
      clear e hf0 hf1
      go_enter Tryz.func94, Tryz.ntmps94
      go_wp2
      go_ret
      exact ⟨rfl, _, HH.out, HR.out.toPow (by rfl) (by rfl) ⟨P1.out, P2.out, P3.out, P4.out, fun ha => PQ.out.trans (HW.out ha)⟩, T0⟩
    by_cases hw : what = 0 ∨ what = x
    · by_cases hw0 : what = 0
      · by_cases ha1 : arm = 1
        · have df : decide (0 < fall) = false := decide_eq_false hf0
          have da : decide (arm < 1) = false := decide_eq_false (by omega)
          have hqw := HW.out (by omega)
          subst hqw
          have dw : (q == 0) = true := beq_iff_eq.2 hw0
          have dw2 : (q != 0) = false := by unfold bne; rw [dw]; rfl
          have d1 : (arm - 1 == 0) = true := beq_iff_eq.2 (by omega)
          have e : AP.count ⟨off, opn, arm, q, fall⟩ x = (40, ⟨off, opn, arm - 1, q, fall⟩) := by
            unfold AP.count AP.fell
            simp only
            rw [if_neg hf1, if_pos ⟨by omega, .inl hw0⟩, if_pos ha1, if_neg hf0]
          rw [e]
          clear e hf0 hf1 hw0 ha1 hw
          go_enter Tryz.func94, Tryz.ntmps94
          go_wp2
          go_ret
          exact ⟨rfl, _, HH.out.f2 (arm - 1), HR.out.toPow (by rfl) (by rfl) ⟨rfl, P2.out, P3.out, P4.out, fun _ => PQ.out⟩, tset T0 2 (.int .i64 (arm - 1))⟩
        · have df : decide (0 < fall) = false := decide_eq_false hf0
          have da : decide (arm < 1) = false := decide_eq_false (by omega)
          have hqw := HW.out (by omega)
          subst hqw
          have dw : (q == 0) = true := beq_iff_eq.2 hw0
          have dw2 : (q != 0) = false := by unfold bne; rw [dw]; rfl
          have d1 : (arm - 1 == 0) = false := beq_eq_false_iff_ne.2 (by omega)
          have e : AP.count ⟨off, opn, arm, q, fall⟩ x = (0, ⟨off, opn, arm - 1, q, fall⟩) := by
            unfold AP.count AP.fell
            simp only
            rw [if_neg hf1, if_pos ⟨by omega, .inl hw0⟩, if_neg ha1, if_neg hf0]
          rw [e]
          clear e hf0 hf1 hw0 ha1 hw
          go_enter Tryz.func94, Tryz.ntmps94
          go_wp2
          go_ret
          exact ⟨rfl, _, HH.out.f2 (arm - 1), HR.out.toPow (by rfl) (by rfl) ⟨rfl, P2.out, P3.out, P4.out, fun _ => PQ.out⟩, tset T0 2 (.int .i64 (arm - 1))⟩
      · have hwx := hw.resolve_left hw0
        by_cases ha1 : arm = 1
        · have df : decide (0 < fall) = false := decide_eq_false hf0
          have da : decide (arm < 1) = false := decide_eq_false (by omega)
          have hqw := HW.out (by omega)
          subst hqw
          have dw : (q == 0) = false := beq_eq_false_iff_ne.2 hw0
          have dw2 : (q != 0) = true := by unfold bne; rw [dw]; rfl
          have dv : (q == x) = true := beq_iff_eq.2 hwx
          have dv2 : (q != x) = false := by unfold bne; rw [dv]; rfl
          have d1 : (arm - 1 == 0) = true := beq_iff_eq.2 (by omega)
          have e : AP.count ⟨off, opn, arm, q, fall⟩ x = (40, ⟨off, opn, arm - 1, q, fall⟩) := by
            unfold AP.count AP.fell
            simp only
            rw [if_neg hf1, if_pos ⟨by omega, .inr hwx⟩, if_pos ha1, if_neg hf0]
          rw [e]
          clear e hf0 hf1 hw0 ha1 hw hwx
          go_enter Tryz.func94, Tryz.ntmps94
          go_wp2
          go_ret
          exact ⟨rfl, _, HH.out.f2 (arm - 1), HR.out.toPow (by rfl) (by rfl) ⟨rfl, P2.out, P3.out, P4.out, fun _ => PQ.out⟩, tset T0 2 (.int .i64 (arm - 1))⟩
        · have df : decide (0 < fall) = false := decide_eq_false hf0
          have da : decide (arm < 1) = false := decide_eq_false (by omega)
          have hqw := HW.out (by omega)
          subst hqw
          have dw : (q == 0) = false := beq_eq_false_iff_ne.2 hw0
          have dw2 : (q != 0) = true := by unfold bne; rw [dw]; rfl
          have dv : (q == x) = true := beq_iff_eq.2 hwx
          have dv2 : (q != x) = false := by unfold bne; rw [dv]; rfl
          have d1 : (arm - 1 == 0) = false := beq_eq_false_iff_ne.2 (by omega)
          have e : AP.count ⟨off, opn, arm, q, fall⟩ x = (0, ⟨off, opn, arm - 1, q, fall⟩) := by
            unfold AP.count AP.fell
            simp only
            rw [if_neg hf1, if_pos ⟨by omega, .inr hwx⟩, if_neg ha1, if_neg hf0]
          rw [e]
          clear e hf0 hf1 hw0 ha1 hw hwx
          go_enter Tryz.func94, Tryz.ntmps94
          go_wp2
          go_ret
          exact ⟨rfl, _, HH.out.f2 (arm - 1), HR.out.toPow (by rfl) (by rfl) ⟨rfl, P2.out, P3.out, P4.out, fun _ => PQ.out⟩, tset T0 2 (.int .i64 (arm - 1))⟩
    · have df : decide (0 < fall) = false := decide_eq_false hf0
      have da : decide (arm < 1) = false := decide_eq_false (by omega)
      have hqw := HW.out (by omega)
      subst hqw
      have dw : (q == 0) = false := beq_eq_false_iff_ne.2 (fun e => hw (.inl e))
      have dw2 : (q != 0) = true := by unfold bne; rw [dw]; rfl
      have dv : (q == x) = false := beq_eq_false_iff_ne.2 (fun e => hw (.inr e))
      have dv2 : (q != x) = true := by unfold bne; rw [dv]; rfl
      have e : AP.count ⟨off, opn, arm, q, fall⟩ x = (0, ⟨off, opn, arm, q, fall⟩) := by
        unfold AP.count AP.fell
        simp only
        rw [if_neg hf1, if_neg (fun hh => hw hh.2), if_neg hf0]
      rw [e]
      clear e hf0 hf1 hw
      go_enter Tryz.func94, Tryz.ntmps94
      go_wp2
      go_ret
      exact ⟨rfl, _, HH.out, HR.out.toPow (by rfl) (by rfl) ⟨P1.out, P2.out, P3.out, P4.out, fun _ => PQ.out⟩, T0⟩
end
set_option maxRecDepth 5000 in
theorem rIn_any (w : World) (ad : Option Addr) (cap : Nat) (ks : List Int) (h : RowAt w ad (ks.map (Value.int .i64))) (hl : ks.length ≤ maxLen) (s : Int) :
    Calls Tryz.prog 95 #[.slice ad ks.length cap, .int .i64 s] w fun e w' => e = .returned (.bool (ks.contains s)) ∧ w' = w := by
  have HR := hide h
  have HL := hide hl
  unfold maxLen at hl
  clear h
  go_enter Tryz.func95, Tryz.ntmps95
  go_wp2
  go_loopw [5] (fun i wr => ∃ k : Nat, k ≤ ks.length ∧ i = .int .i64 (k : Int) ∧ (ks.take k).contains s = false ∧ wr = w) (fun i _ => ks.length - (intOf i).toNat)
  case atStart => exact ⟨0, by omega, rfl, rfl, rfl⟩
  case round =>
    obtain ⟨k, hk, rfl, hno, rfl⟩ := hrel
    have HN := hide hno
    clear hno
    by_cases hlt : k < ks.length
    · have dk : decide ((k : Int) < (ks.length : Int)) = true := decide_eq_true (by omega)
      have hk0 : (0 : Int) ≤ (k : Int) := by omega
      have hk1 : (k : Int) < (ks.length : Int) := by omega
      rcases HR.out with h | ⟨b, o, rfl, hbl, hcs⟩
      · rw [List.map_eq_nil_iff.1 h] at hlt; exact absurd hlt (by simp)
      obtain ⟨x, hx⟩ : ∃ x, ks[k] = x := ⟨_, rfl⟩
      have f0 : wr.cell? ⟨b, o + k, none⟩ = some (.int .i64 x) := by rw [hcs k (by simpa using hlt), List.getElem?_map, List.getElem?_eq_getElem hlt, hx]; rfl
      cases hq : (x == s) with
      | true =>
        have HC := hide (contains_at hlt (by rw [hx]; exact hq))
        clear hcs hx
        go_wp2
        go_ret
        exact ⟨by rw [HC.out]; rfl, rfl⟩
      | false =>
        have HC := hide (take_all_ne HN.out hlt (by rw [hx]; exact hq))
        clear hcs hx
        go_wp2
        go_roundw
        case rel => exact ⟨k + 1, by omega, by go_num, HC.out, by first | rfl | trivial⟩
        case measure => simp [intOf]; omega
    · have hkl : k = ks.length := by omega
      subst hkl
      have dk : decide ((ks.length : Int) < (ks.length : Int)) = false := decide_eq_false (by omega)
      have HC := HN.out
      rw [List.take_length] at HC
      have HD := hide HC
      clear HC
      go_wp2
      go_ret
      exact ⟨by rw [HD.out]; rfl, rfl⟩
set_option maxRecDepth 5000 in
theorem rName_any (s : ByteArray) (hz : s.size ≤ maxLen) (w : World) : Calls Tryz.prog 92 #[.string s] w fun e w' => e = .returned (.bool (nameOk s.data.toList)) ∧ w' = w := by
  rw [nameOk_eq, str_len]
  obtain ⟨n, hsn⟩ : ∃ n, s.size = n := ⟨_, rfl⟩
  rw [hsn] at hz
  unfold maxLen at hz
  have HL : Hid (s.data.toList.length = n) := by show _ = _; rw [str_len, hsn]
  have HG : Hid (∀ i, i < n → s[i]? = some (byteAt s.data.toList i)) := fun i hi => str_get s i (by omega)
  rw [hsn]
  go_enter Tryz.func92, Tryz.ntmps92
  go_wp2
  go_loopw [3] (fun i wr => ∃ k : Nat, k ≤ n ∧ i = .int .i64 (k : Int) ∧ (∀ j, j < k → chOk (byteAt s.data.toList j) = true) ∧ wr = w) (fun i _ => n - (intOf i).toNat)
  case atStart => exact ⟨0, by omega, rfl, fun j hj => absurd hj (by omega), rfl⟩
  case round =>
    obtain ⟨k, hk, rfl, hall, rfl⟩ := hrel
    have HA := hide hall
    clear hall
    by_cases hlt : k < n
    · have hx : ∀ w' : World, (Instr.index 9 (.string s) (.int .i64 (k : Int))).run Tryz.prog w' = .ok (.int .u8 ((byteAt s.data.toList k).toNat : Int)) w' := fun w' => run_index_str w' s .i64 k _ (HG.out k hlt)
      have hd3 : decide ((k : Int) < (n : Int)) = true := decide_eq_true (by omega)
      obtain ⟨c, hc⟩ : ∃ c, byteAt s.data.toList k = c := ⟨_, rfl⟩
      rw [hc] at hx
      have HC := hide hc
      clear hc
      have HBAD : Hid ((c.toNat < 33 ∨ 126 < c.toNat) → (decide (1 ≤ n) && decide (n ≤ 32) && s.data.toList.all chOk) = false) := fun hb => by
        have : s.data.toList.all chOk = false := by
          rw [← Bool.not_eq_true, all_at]
          intro h
          have := h k (by rw [HL.out]; exact hlt)
          rw [HC.out] at this
          simp [chOk] at this
          omega
        rw [this, Bool.and_false]
      by_cases b1 : c.toNat < 33
      · have e1 : decide ((c.toNat : Int) < 33) = true := decide_eq_true (by omega)
        have HB := hide (HBAD.out (.inl b1))
        go_wp2
        go_ret
        exact ⟨by rw [HB.out]; rfl, rfl⟩
      · have e1 : decide ((c.toNat : Int) < 33) = false := decide_eq_false (by omega)
        by_cases b2 : 126 < c.toNat
        · have e2 : decide ((126 : Int) < (c.toNat : Int)) = true := decide_eq_true (by omega)
          have HB := hide (HBAD.out (.inr b2))
          go_wp2
          go_ret
          exact ⟨by rw [HB.out]; rfl, rfl⟩
        · have e2 : decide ((126 : Int) < (c.toNat : Int)) = false := decide_eq_false (by omega)
          have HB : Hid (chOk c = true) := by show _ = true; simp [chOk]; omega
          clear b1 b2
          go_wp2
          go_roundw
          case rel =>
            refine ⟨k + 1, by omega, by go_num, fun j hj => ?_, by first | rfl | trivial⟩
            by_cases e : j = k
            · rw [e, HC.out]; exact HB.out
            · exact HA.out j (by omega)
          case measure => simp [intOf]; omega
    · have hkn : k = n := by omega
      subst hkn
      have hd3 : decide ((k : Int) < (k : Int)) = false := decide_eq_false (by omega)
      have HB : Hid (s.data.toList.all chOk = true) := by
        show _ = true
        rw [all_at]
        intro i hi
        rw [HL.out] at hi
        exact HA.out i hi
      by_cases h1 : 1 ≤ k
      · have e1 : decide ((1 : Int) ≤ (k : Int)) = true := decide_eq_true (by omega)
        by_cases h2 : k ≤ 32
        · have e2 : decide ((k : Int) ≤ 32) = true := decide_eq_true (by omega)
          have HE : Hid ((decide (1 ≤ k) && decide (k ≤ 32) && s.data.toList.all chOk) = true) := by show _ = _; rw [HB.out]; simp [h1, h2]
          go_wp2
          go_ret
          exact ⟨by rw [HE.out]; rfl, rfl⟩
        · have e2 : decide ((k : Int) ≤ 32) = false := decide_eq_false (by omega)
          have HE : Hid ((decide (1 ≤ k) && decide (k ≤ 32) && s.data.toList.all chOk) = false) := by show _ = _; rw [HB.out]; simp [h2]
          go_wp2
          go_ret
          exact ⟨by rw [HE.out]; rfl, rfl⟩
      · have e1 : decide ((1 : Int) ≤ (k : Int)) = false := decide_eq_false (by omega)
        have HE : Hid ((decide (1 ≤ k) && decide (k ≤ 32) && s.data.toList.all chOk) = false) := by show _ = _; rw [HB.out]; simp [h1]
        go_wp2
        go_ret
        exact ⟨by rw [HE.out]; rfl, rfl⟩
end Go.Proofs.YtlkimfmilccanaaGreat
/-
  The document's disk: List, Dirty, Read.
-/
namespace Go.Proofs.YtlkimfmilccanaaGreat
open Go.RowKit Go.Maps Go.WideMaps
set_option linter.unusedVariables false
set_option linter.unusedSimpArgs false
theorem info3r : (Tryz.prog.info? 3).map (fun i => (i.zero, i.size, i.bytes)) = some (some (.int .i64 0), 1, 8) := by kernel_rfl
theorem info9r : (Tryz.prog.info? 9).map (fun i => (i.zero, i.size, i.bytes)) = some (some (.string ⟨#[]⟩), 1, 16) := by kernel_rfl
section
variable {w : World} {r : Nat} {s : RS} {xs : List RF} {S : Nat → Prop} {A : AD}
theorem names_abs (xs : List RF) : (fkeys (xs.map RF.abs)).map encStr = xs.map (fun x => Value.string x.name) := by
  unfold fkeys
  rw [List.map_map, List.map_map]
  rfl
-- left out in this seat: rList_any
theorem src_at {w : World} {ad : Option Addr} {cap : Nat} {ds : List Int} (h : RowAt w ad (ds.map (Value.int .i64))) : Src Tryz.prog 1 38 (.slice ad ds.length cap) (ds.map (Value.int .i64)).length (ds.map (Value.int .i64)) w := by
  rw [List.length_map]
  cases ad with
  | none =>
    have : ds = [] := by
      rcases h with h | ⟨b, o, ha, _⟩
      · exact List.map_eq_nil_iff.1 h
      · cases ha
    subst this
    exact Src.ofNil w Tryz.underlying38 cap
  | some a =>
    refine Src.ofSlice w Tryz.underlying38 a ds.length cap (ds.map (Value.int .i64)) (by simp) (fun j u hu => ?_) (fun u hu => by obtain ⟨k, _, rfl⟩ := List.mem_map.1 hu; rfl)
    rcases h with h | ⟨b, o, ha, hl, hc⟩
    · rw [h] at hu; simp at hu
    · cases ha
      have := (List.getElem?_eq_some_iff.1 hu).1
      rw [show (⟨b, o, none⟩ : Addr).add j = ⟨b, o + j, none⟩ by unfold Addr.add; split <;> simp_all, hc j this]
      exact hu
theorem own_from {w : World} {e n : Nat} {v : Value} {l : List Value} {B : Nat} (h : w.ownsRow 0 e 1 v n l) (hb : ∀ g, v.ownBlock = some g → B ≤ g) : w.ownsRow B e 1 v n l := by
  refine ⟨h.1, ?_⟩
  rcases h.2 with h | ⟨g, c, cur, rfl, _, rest⟩
  · exact .inl h
  · exact .inr ⟨g, c, cur, rfl, hb g rfl, rest⟩
-- left out in this seat: rDirty_any
set_option maxRecDepth 5000 in
theorem rRead_any (h : RefAt w r s xs S) (hr : RRel s xs A) (hok : A.Ok) (t : ByteArray) (a n : Int) : Calls Tryz.prog 61 #[.pointer (some ⟨r, 0, none⟩), .string t, .int .i64 a, .int .i64 n] w fun e w' => e = .returned (.tuple #[.string ⟨(A.read t.data.toList a n).1.toArray⟩, .int .i64 (A.read t.data.toList a n).2]) ∧ w' = w := by
  have c1 : w.cell? ⟨r, 1, none⟩ = some (.slice s.ad xs.length s.c) := by rw [← hr.n]; exact h.c 1
  have c5 : w.cell? ⟨r, 5, none⟩ = some (.bool A.pow.off) := by rw [← hr.pow.off]; exact h.c 5
  have hl : xs.length ≤ 16 := by have := hok.few; rw [hr.fs, List.length_map] at this; exact this
  have hfind := rFind_any h hr.n (by omega) t
  obtain ⟨ad, had⟩ : ∃ ad, s.ad = ad := ⟨_, rfl⟩
  have HF := hide h.files
  rw [had] at c1 HF
  have HFS := hide hr.fs
  have HOK := hide hok
  clear h hr had hok
  cases hoff : A.pow.off with
  | true =>
    have HE := hide (read_off (k := t.data.toList) (a := a) (n := n) hoff)
    rw [hoff] at c5
    clear hfind hoff
    go_enter Tryz.func61, Tryz.ntmps61
    go_wp2
    go_ret2
    rw [HE.out]
    exact ⟨rfl, rfl⟩
  | false =>
    cases hg : fget A.fs t.data.toList with
    | none =>
      have HE := hide (read_none (a := a) (n := n) hoff hg)
      rw [hoff] at c5
      rw [HFS.out] at hg
      rw [find_none hg] at hfind
      clear hg hoff
      go_enter Tryz.func61, Tryz.ntmps61
      go_wp2_with fail
      refine hfind.mono ?_
      rintro e w1 ⟨rfl, rfl⟩
      clear hfind
      go_wp2
      go_ret2
      rw [HE.out]
      exact ⟨rfl, rfl⟩
    | some F =>
      have HBAD : Hid ((a < 0 ∨ n < 0) → A.read t.data.toList a n = ([], 1)) := fun hb => read_bad hoff hg hb
      have HGOOD : Hid (¬ (a < 0 ∨ n < 0) → A.read t.data.toList a n = ((F.seen.drop a.toNat).take n.toNat, 0)) := fun hb => by
        unfold AD.read
        rw [hoff, if_neg (by simp), hg]
        simp only
        rw [if_neg hb]
      have hFm : F.seen.length ≤ 1048576 := (HOK.out.files _ (fget_mem hg)).most
      rw [hoff] at c5
      rw [HFS.out] at hg
      obtain ⟨i, hi, hfi, hab⟩ := find_some hg
      rw [hfi] at hfind
      obtain ⟨b, o, rfl, hbl, hcs⟩ := HF.out.cells hi
      obtain ⟨x, hx⟩ : ∃ x, xs[i] = x := ⟨_, rfl⟩
      rw [hx] at hcs hab
      have f1 : w.cell? ⟨b, o + i * 4 + 1, none⟩ = some (.string x.seen) := hcs 1 (by omega)
      have hxs : x.seen.data.toList = F.seen := congrArg (fun p => AF.seen p.2) hab
      have HXS := hide hxs
      have hxz : x.seen.size = F.seen.length := by rw [← hxs, str_len]
      obtain ⟨z, hz⟩ : ∃ z, x.seen.size = z := ⟨_, rfl⟩
      have hzm : z ≤ 1048576 := by omega
      have HZ : Hid (F.seen.length = z) := by show _ = _; omega
      have hk0 : (0 : Int) ≤ (i : Int) := by omega
      have hk1 : (i : Int) < (xs.length : Int) := by omega
      have dk : decide ((i : Int) < 0) = false := decide_eq_false (by omega)
      clear hg hoff hcs hab hx hfi hxs hxz hFm
      by_cases h0 : a < 0
      · have d0 : decide (a < 0) = true := decide_eq_true h0
        have HE := hide (HBAD.out (.inl h0))
        clear h0
        go_enter Tryz.func61, Tryz.ntmps61
        go_wp2_with fail
        refine hfind.mono ?_
        rintro e w1 ⟨rfl, rfl⟩
        clear hfind
        go_wp2
        go_ret2
        rw [HE.out]
        exact ⟨rfl, rfl⟩
      · have d0 : decide (a < 0) = false := decide_eq_false h0
        by_cases h1 : n < 0
        · have d1 : decide (n < 0) = true := decide_eq_true h1
          have HE := hide (HBAD.out (.inr h1))
          clear h1
          go_enter Tryz.func61, Tryz.ntmps61
          go_wp2_with fail
          refine hfind.mono ?_
          rintro e w1 ⟨rfl, rfl⟩
          clear hfind
          go_wp2
          go_ret2
          rw [HE.out]
          exact ⟨rfl, rfl⟩
        · have d1 : decide (n < 0) = false := decide_eq_false h1
          have HE := hide (HGOOD.out (by omega))
          obtain ⟨an, rfl⟩ : ∃ an : Nat, a = (an : Int) := ⟨a.toNat, by omega⟩
          obtain ⟨nn, rfl⟩ : ∃ nn : Nat, n = (nn : Int) := ⟨n.toNat, by omega⟩
          clear h0 h1 HBAD HGOOD
          by_cases h2 : z ≤ an
          · have d2 : decide ((z : Int) ≤ (an : Int)) = true := decide_eq_true (by omega)
            have HD : Hid ((F.seen.drop an).take nn = []) := by show _ = _; rw [List.drop_eq_nil_of_le (by rw [HZ.out]; exact h2)]; simp
            go_enter Tryz.func61, Tryz.ntmps61
            go_wp2_with fail
            refine hfind.mono ?_
            rintro e w1 ⟨rfl, rfl⟩
            clear hfind
            go_wp2
            go_ret2
            rw [HE.out]
            simp only [Int.toNat_natCast]
            rw [HD.out]
            exact ⟨rfl, by first | rfl | trivial⟩
          · have d2 : decide ((z : Int) ≤ (an : Int)) = false := decide_eq_false (by omega)
            obtain ⟨k, hk⟩ : ∃ k, min nn (z - an) = k := ⟨_, rfl⟩
            have hkz : an + k ≤ z := by omega
            have hm1 : min (nn : Int) ((z : Int) - (an : Int)) = (k : Int) := by omega
            have HD : Hid (x.seen.extract an (an + k) = ⟨((F.seen.drop an).take nn).toArray⟩) := by
              refine bytes_ext ?_
              rw [ByteArray.data_extract]
              simp only [Array.toList_extract, List.extract]
              rw [HXS.out, Nat.add_sub_cancel_left, ← hk, ← HZ.out]
              exact (List.take_eq_take_iff.2 (by rw [List.length_drop]; omega)).symm
            have hz2 : ¬ an ≥ z := by omega
            clear hk
            go_enter Tryz.func61, Tryz.ntmps61
            go_wp2_with fail
            refine hfind.mono ?_
            rintro e w1 ⟨rfl, rfl⟩
            clear hfind
            go_wp2
            go_ret2
            rw [HE.out]
            simp only [Int.toNat_natCast]
            exact ⟨by rw [← HD.out]; rfl, by first | rfl | trivial⟩
end
end Go.Proofs.YtlkimfmilccanaaGreat
