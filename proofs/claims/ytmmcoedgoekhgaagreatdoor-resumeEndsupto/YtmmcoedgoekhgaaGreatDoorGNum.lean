/-
  Ledger: sums of amounts in two numbers; amounts; counts within a list.
-/
import Derived.Test.YtmmcoedgoekhgaaGreatDoorLast
import Derived.Maps.OwnOps
import Derived.BigQuiet
namespace Go.Proofs.YtmmcoedgoekhgaaGreatDoor
set_option maxRecDepth 20000
open Go.RowKit S
set_option linter.unusedVariables false
set_option linter.unusedSimpArgs false
/-- What may have turned: blocks of S alone. -/
structure Keep (S : Nat → Prop) (w w' : World) : Prop where
  os : w'.os = w.os
  tape : w'.tape = w.tape
  output : w'.output = w.output
  size : w.heap.size ≤ w'.heap.size
  block : ∀ k, k < w.heap.size → ¬ S k → w'.heap[k]? = w.heap[k]?
section
variable {S S' : Nat → Prop} {w w1 w2 w' : World} {B : Nat}
theorem Keep.refl (S : Nat → Prop) (w : World) : Keep S w w := ⟨rfl, rfl, rfl, Nat.le_refl _, fun _ _ _ => rfl⟩
theorem Keep.trans (h : Keep S w w1) (k : Keep S w1 w2) : Keep S w w2 :=
  ⟨k.os.trans h.os, k.tape.trans h.tape, k.output.trans h.output, Nat.le_trans h.size k.size, fun i hi hn => (k.block i (Nat.lt_of_lt_of_le hi h.size) hn).trans (h.block i hi hn)⟩
theorem Keep.mono (h : Keep S w w') (hS : ∀ k, k < w.heap.size → S k → S' k) : Keep S' w w' := ⟨h.os, h.tape, h.output, h.size, fun k hk hn => h.block k hk (fun e => hn (hS k hk e))⟩
theorem Keep.of_below (h : Below B w w') (hB : ∀ k, k < w.heap.size → ¬ S k → k < B) : Keep S w w' := ⟨h.os, h.tape, h.output, h.size, fun k hk hn => h.block k (hB k hk hn)⟩
theorem Keep.all (h : Below w.heap.size w w') : Keep S w w' := Keep.of_below h fun k hk _ => hk
theorem Keep.below (h : Keep S w w') (hB : B ≤ w.heap.size) (hS : ∀ k, k < B → ¬ S k) : Below B w w' := ⟨h.os, h.tape, h.output, h.size, fun k hk => h.block k (by omega) (hS k hk)⟩
theorem Keep.grown {r : Option Nat} (h : w.grownBy w' r) (hS : ∀ k, r = some k → S k) : Keep S w w' := ⟨h.os, h.tape, h.output, h.size, fun k hk hn => h.block k hk (fun e => hn (hS k e.symm))⟩
theorem Keep.transR (h : Keep S w w1) (k : Keep S' w1 w2) (hS : ∀ k, k < w.heap.size → S' k → S k) : Keep S w w2 :=
  ⟨k.os.trans h.os, k.tape.trans h.tape, k.output.trans h.output, Nat.le_trans h.size k.size, fun i hi hn => (k.block i (Nat.lt_of_lt_of_le hi h.size) (fun e => hn (hS i hi e))).trans (h.block i hi hn)⟩
theorem keep_set (w : World) (g i : Nat) (v : Value) (h : S g) : Keep S w (w.setCell ⟨g, i, none⟩ v) :=
  ⟨rfl, rfl, rfl, by simp, fun k hk hn => heap_setCell_other w _ k v (fun e => hn (by rw [e]; exact h))⟩
end
theorem Has.same {w w' : World} {g m : Nat} {t : TypeId} {f : Nat → Value} (h : Has w g t f m) (e : w'.heap[g]? = w.heap[g]?) : Has w' g t f m := by unfold Has; rw [e]; exact h
theorem Has.keep {S : Nat → Prop} {w w' : World} {g m : Nat} {t : TypeId} {f : Nat → Value} (h : Has w g t f m) (k : Keep S w w') (hS : ¬ S g) : Has w' g t f m := h.same (k.block g h.lt hS)
/-- A total: so many times 2^60 and a rest. -/
def totv (X : Int) : Nat → Value := fun i => .int .i64 (if i = 0 then X / 1152921504606846976 else X % 1152921504606846976)
def Tot (w : World) (g : Nat) (X : Int) : Prop := Has w g 136 (totv X) 2
def Bd (X : Int) : Prop := -(1152921504606846976 * 4611686018427387904) ≤ X ∧ X ≤ 1152921504606846976 * 4611686018427387904
theorem Tot.new (w : World) : Tot (w.alloc (.cells #[.int .i64 0, .int .i64 0] 136)) w.heap.size 0 := Has.new w 136 _ 2 _ rfl
theorem Tot.made {g : Nat} {Y h l : Int} {w' : World} (k : Has w' g 136 (fun i => .int .i64 (if i = 0 then h else l)) 2) (e : Y = h * 1152921504606846976 + l) (h0 : 0 ≤ l) (h1 : l < 1152921504606846976) : Tot w' g Y := by
  have e1 : Y / 1152921504606846976 = h := by omega
  have e2 : Y % 1152921504606846976 = l := by omega
  unfold Tot totv
  rw [e1, e2]
  exact k
theorem Has.two1 {w : World} {g : Nat} {T : TypeId} {h l : Int} (k : Has w g T (fun i => .int .i64 (if i = 0 then h else l)) 2) (l' : Int) : Has (w.setCell ⟨g, 1, none⟩ (.int .i64 l')) g T (fun i => .int .i64 (if i = 0 then h else l')) 2 :=
  (k.set 1 (.int .i64 l')).congr _ (fun i hi => by unfold upd; rcases i with _ | _ | i <;> first | rfl | omega)
theorem Has.two0 {w : World} {g : Nat} {T : TypeId} {h l : Int} (k : Has w g T (fun i => .int .i64 (if i = 0 then h else l)) 2) (h' : Int) : Has (w.setCell ⟨g, 0, none⟩ (.int .i64 h')) g T (fun i => .int .i64 (if i = 0 then h' else l)) 2 :=
  (k.set 0 (.int .i64 h')).congr _ (fun i hi => by unfold upd; rcases i with _ | _ | i <;> first | rfl | omega)
set_option maxHeartbeats 1000000 in
theorem tplus_any (g : Nat) (X a : Int) (w : World) (h : Tot w g X) (h0 : 0 ≤ a) (h1 : a ≤ 1152921504606846976) (hb : Bd X) : Calls Tryz.prog 95 #[.pointer (some ⟨g, 0, none⟩), .int .i64 a] w fun e w' => e = .returned (.tuple #[]) ∧ Tot w' g (X + a) ∧ Keep (· = g) w w' := by
  obtain ⟨H, hH⟩ : ∃ H, X / 1152921504606846976 = H := ⟨_, rfl⟩
  obtain ⟨L, hL⟩ : ∃ L, X % 1152921504606846976 = L := ⟨_, rfl⟩
  have k : Has w g 136 (fun i => .int .i64 (if i = 0 then H else L)) 2 := by unfold Tot totv at h; rw [hH, hL] at h; exact h
  have c0 : w.cell? ⟨g, 0, none⟩ = some (.int .i64 H) := k.cell 0 (by omega)
  have c1 : w.cell? ⟨g, 1, none⟩ = some (.int .i64 L) := k.cell 1 (by omega)
  have z0 := k.frozen 0
  have z1 := k.frozen 1
  have l0 : 0 ≤ L := by omega
  have l1 : L < 1152921504606846976 := by omega
  have e : X = H * 1152921504606846976 + L := by omega
  obtain ⟨b1, b2⟩ := hb
  have w1 : IntKind.i64.wrap (L + a) = L + a := by rw [IntKind.wrap_i64]; omega
  have w2 : IntKind.i64.wrap (L + a - 1152921504606846976) = L + a - 1152921504606846976 := by rw [IntKind.wrap_i64]; omega
  have w3 : IntKind.i64.wrap (H + 1) = H + 1 := by rw [IntKind.wrap_i64]; omega
  have HK := hide k
  have E := hide e
  have L0 := hide l0
  have L1 := hide l1
  by_cases hc : 1152921504606846976 ≤ L + a
  · have hd : decide (1152921504606846976 ≤ L + a) = true := decide_eq_true hc
    have HC := hide hc
    have H1 := hide h1
    clear k e l0 l1 b1 b2 hH hL h h0 h1 hc
    go_enter Tryz.func95, Tryz.ntmps95
    go_wp2
    refine ⟨rfl, _, results_none rfl _ _ _, rfl, ?_, ?_⟩
    · exact Tot.made (((HK.out.two1 _).two1 _).two0 _) (by have := E.out; omega) (by have := HC.out; omega) (by have := L1.out; have := H1.out; omega)
    · exact ((keep_set (S := (· = g)) _ _ _ _ rfl).trans (keep_set (S := (· = g)) _ _ _ _ rfl)).trans (keep_set (S := (· = g)) _ _ _ _ rfl)
  · have hd : decide (1152921504606846976 ≤ L + a) = false := decide_eq_false hc
    have HC := hide hc
    clear k e l0 l1 b1 b2 hH hL h h1 hc
    go_enter Tryz.func95, Tryz.ntmps95
    go_wp2
    refine ⟨rfl, _, results_none rfl _ _ _, rfl, ?_, ?_⟩
    · exact Tot.made (HK.out.two1 _) (by have := E.out; omega) (by have := L0.out; omega) (by have := HC.out; omega)
    · exact keep_set _ _ _ _ rfl
set_option maxHeartbeats 1000000 in
theorem tminus_any (g : Nat) (X a : Int) (w : World) (h : Tot w g X) (h0 : 0 ≤ a) (h1 : a ≤ 1152921504606846976) (hb : Bd X) : Calls Tryz.prog 97 #[.pointer (some ⟨g, 0, none⟩), .int .i64 a] w fun e w' => e = .returned (.tuple #[]) ∧ Tot w' g (X - a) ∧ Keep (· = g) w w' := by
  obtain ⟨H, hH⟩ : ∃ H, X / 1152921504606846976 = H := ⟨_, rfl⟩
  obtain ⟨L, hL⟩ : ∃ L, X % 1152921504606846976 = L := ⟨_, rfl⟩
  have k : Has w g 136 (fun i => .int .i64 (if i = 0 then H else L)) 2 := by unfold Tot totv at h; rw [hH, hL] at h; exact h
  have c0 : w.cell? ⟨g, 0, none⟩ = some (.int .i64 H) := k.cell 0 (by omega)
  have c1 : w.cell? ⟨g, 1, none⟩ = some (.int .i64 L) := k.cell 1 (by omega)
  have z0 := k.frozen 0
  have z1 := k.frozen 1
  have l0 : 0 ≤ L := by omega
  have l1 : L < 1152921504606846976 := by omega
  have e : X = H * 1152921504606846976 + L := by omega
  obtain ⟨b1, b2⟩ := hb
  have w1 : IntKind.i64.wrap (L - a) = L - a := by rw [IntKind.wrap_i64]; omega
  have w2 : IntKind.i64.wrap (L - a + 1152921504606846976) = L - a + 1152921504606846976 := by rw [IntKind.wrap_i64]; omega
  have w3 : IntKind.i64.wrap (H - 1) = H - 1 := by rw [IntKind.wrap_i64]; omega
  have HK := hide k
  have E := hide e
  have L0 := hide l0
  have L1 := hide l1
  by_cases hc : L - a < 0
  · have hd : decide (L - a < 0) = true := decide_eq_true hc
    have HC := hide hc
    have H0 := hide h0
    have H1 := hide h1
    clear k e l0 l1 b1 b2 hH hL h h0 h1 hc
    go_enter Tryz.func97, Tryz.ntmps97
    go_wp2
    refine ⟨rfl, _, results_none rfl _ _ _, rfl, ?_, ?_⟩
    · exact Tot.made (((HK.out.two1 _).two1 _).two0 _) (by have := E.out; omega) (by have := L0.out; have := H1.out; omega) (by have := HC.out; omega)
    · exact ((keep_set (S := (· = g)) _ _ _ _ rfl).trans (keep_set (S := (· = g)) _ _ _ _ rfl)).trans (keep_set (S := (· = g)) _ _ _ _ rfl)
  · have hd : decide (L - a < 0) = false := decide_eq_false hc
    have HC := hide hc
    have H0 := hide h0
    have H1 := hide h1
    clear k e l0 l1 b1 b2 hH hL h h0 h1 hc
    go_enter Tryz.func97, Tryz.ntmps97
    go_wp2
    refine ⟨rfl, _, results_none rfl _ _ _, rfl, ?_, ?_⟩
    · exact Tot.made (HK.out.two1 _) (by have := E.out; omega) (by have := HC.out; omega) (by have := L1.out; have := H0.out; omega)
    · exact keep_set _ _ _ _ rfl

def clampA (X : Int) : Int := if X < 0 then 0 else if 1152921504606846976 ≤ X then 1152921504606846976 else X
theorem tbelow_any (g : Nat) (X : Int) (w : World) (h : Tot w g X) : Calls Tryz.prog 145 #[.pointer (some ⟨g, 0, none⟩)] w fun e w' => e = .returned (.bool (decide (X < 0))) ∧ w' = w := by
  have c0 : w.cell? ⟨g, 0, none⟩ = some (.int .i64 (X / 1152921504606846976)) := h.cell 0 (by omega)
  obtain ⟨H, hH⟩ : ∃ H, X / 1152921504606846976 = H := ⟨_, rfl⟩
  have e : decide (X < 0) = decide (H < 0) := by rw [decide_eq_decide]; omega
  rw [hH] at c0
  rw [e]
  clear h hH e
  go_enter Tryz.func145, Tryz.ntmps145
  go_wp2
  go_ret
  simp
theorem tnear_any (g : Nat) (X : Int) (w : World) (h : Tot w g X) : Calls Tryz.prog 98 #[.pointer (some ⟨g, 0, none⟩)] w fun e w' => e = .returned (.int .i64 (clampA X)) ∧ w' = w := by
  have c0 : w.cell? ⟨g, 0, none⟩ = some (.int .i64 (X / 1152921504606846976)) := h.cell 0 (by omega)
  have c1 : w.cell? ⟨g, 1, none⟩ = some (.int .i64 (X % 1152921504606846976)) := h.cell 1 (by omega)
  obtain ⟨H, hH⟩ : ∃ H, X / 1152921504606846976 = H := ⟨_, rfl⟩
  obtain ⟨L, hL⟩ : ∃ L, X % 1152921504606846976 = L := ⟨_, rfl⟩
  rw [hH] at c0
  rw [hL] at c1
  by_cases h1 : H < 0
  · have e : clampA X = 0 := by unfold clampA; rw [if_pos (by omega)]
    have hd : decide (H < 0) = true := decide_eq_true h1
    rw [e]; clear h hH hL e h1
    go_enter Tryz.func98, Tryz.ntmps98
    go_wp2
    go_ret
    simp
  · have hd : decide (H < 0) = false := decide_eq_false h1
    by_cases h2 : 0 < H
    · have e : clampA X = 1152921504606846976 := by unfold clampA; rw [if_neg (by omega), if_pos (by omega)]
      have hd2 : decide (0 < H) = true := decide_eq_true h2
      rw [e]; clear h hH hL e h1 h2
      go_enter Tryz.func98, Tryz.ntmps98
      go_wp2
      go_ret
      simp
    · have e : clampA X = L := by unfold clampA; rw [if_neg (by omega), if_neg (by omega)]; omega
      have hd2 : decide (0 < H) = false := decide_eq_false h2
      rw [e]; clear h hH hL e h1 h2
      go_enter Tryz.func98, Tryz.ntmps98
      go_wp2
      go_ret
      simp
/-- The count of a list's that is nearest to a number. -/
def inL (n : Int) (len : Nat) : Nat := if n < 0 then 0 else if (len : Int) < n then len else n.toNat
theorem inL_eq (n : Int) (len : Nat) : ((inL n len : Nat) : Int) = n ↔ 0 ≤ n ∧ n ≤ len := by
  unfold inL; split
  · omega
  · split <;> omega
theorem within_any (n : Int) (ad : Option Addr) (len cap : Nat) (w : World) : Calls Tryz.prog 94 #[.int .i64 n, .slice ad len cap] w fun e w' => e = .returned (.int .i64 ((inL n len : Nat) : Int)) ∧ w' = w := by
  by_cases h1 : n < 0
  · have e : inL n len = 0 := by unfold inL; rw [if_pos h1]
    rw [e]
    go_enter Tryz.func94, Tryz.ntmps94
    go_wp2
    go_ret
    refine ⟨?_, rfl⟩
    try (first | (congr 2; first | done | omega | (split <;> omega) | (split <;> split <;> omega)) | (simp; omega))
  · by_cases h2 : (len : Int) < n
    · have e : inL n len = len := by unfold inL; rw [if_neg h1, if_pos h2]
      rw [e]
      go_enter Tryz.func94, Tryz.ntmps94
      go_wp2
      go_ret
      refine ⟨?_, rfl⟩
      try (first | (congr 2; first | done | omega | (split <;> omega) | (split <;> split <;> omega)) | (simp; omega))
    · have e : ((inL n len : Nat) : Int) = n := (inL_eq n len).2 (by omega)
      rw [e]
      go_enter Tryz.func94, Tryz.ntmps94
      go_wp2
      go_ret
      refine ⟨?_, rfl⟩
      try (first | (congr 2; first | done | omega | (split <;> omega) | (split <;> split <;> omega)) | (simp; omega))
def isA (a : Int) : Bool := decide (0 ≤ a) && decide (a ≤ 1152921504606846976)
def plusA (a b : Int) : Int × Int := if isA a = true ∧ isA b = true ∧ isA (a + b) = true then (a + b, 0) else (0, 80)
theorem isA_iff (a : Int) : isA a = true ↔ 0 ≤ a ∧ a ≤ 1152921504606846976 := by unfold isA; simp
theorem wrap_sum {a b : Int} (ha : isA a = true) (hb : isA b = true) : IntKind.i64.wrap (a + b) = a + b := by
  rw [isA_iff] at ha hb
  rw [IntKind.wrap_i64]; omega
theorem right_any (a : Int) (w : World) :
    Calls Tryz.prog 113 #[.int .i64 a] w fun e w' => e = .returned (.bool (isA a)) ∧ w' = w := by
  by_cases h : 0 ≤ a
  · have e : isA a = decide (a ≤ 1152921504606846976) := by simp [isA, h]
    rw [e]
    go_enter Tryz.func113, Tryz.ntmps113
    go_wp2
    go_ret
    simp
  · have e : isA a = false := by simp [isA, h]
    rw [e]
    go_enter Tryz.func113, Tryz.ntmps113
    go_wp2
    go_ret
    simp
theorem aplus_any (a b : Int) (w : World) :
    Calls Tryz.prog 142 #[.int .i64 a, .int .i64 b] w fun e w' => e = .returned (.tuple #[.int .i64 (plusA a b).1, .int .i64 (plusA a b).2]) ∧ w' = w := by
  by_cases ha : isA a = true
  · by_cases hb : isA b = true
    · have hw := wrap_sum ha hb
      by_cases hc : isA (a + b) = true
      · have e : plusA a b = (a + b, 0) := by unfold plusA; rw [if_pos ⟨ha, hb, hc⟩]
        rw [e]
        go_enter Tryz.func142, Tryz.ntmps142
        go_wp2_with fail
        refine (right_any _ _).mono ?_
        rintro e w1 ⟨rfl, rfl⟩
        rw [ha]
        go_wp2_with fail
        refine (right_any _ _).mono ?_
        rintro e w1 ⟨rfl, rfl⟩
        rw [hb]
        go_wp2_with fail
        refine (right_any _ _).mono ?_
        rintro e w1 ⟨rfl, rfl⟩
        rw [hc]
        go_wp2
        go_ret2
        simp
      · have e : plusA a b = (0, 80) := by unfold plusA; rw [if_neg (fun h => hc h.2.2)]
        rw [e]
        go_enter Tryz.func142, Tryz.ntmps142
        go_wp2_with fail
        refine (right_any _ _).mono ?_
        rintro e w1 ⟨rfl, rfl⟩
        rw [ha]
        go_wp2_with fail
        refine (right_any _ _).mono ?_
        rintro e w1 ⟨rfl, rfl⟩
        rw [hb]
        go_wp2_with fail
        refine (right_any _ _).mono ?_
        rintro e w1 ⟨rfl, rfl⟩
        rw [show isA (a + b) = false from by simpa using hc]
        go_wp2
        go_ret2
        simp
    · have e : plusA a b = (0, 80) := by unfold plusA; rw [if_neg (fun h => hb h.2.1)]
      rw [e]
      go_enter Tryz.func142, Tryz.ntmps142
      go_wp2_with fail
      refine (right_any _ _).mono ?_
      rintro e w1 ⟨rfl, rfl⟩
      rw [ha]
      go_wp2_with fail
      refine (right_any _ _).mono ?_
      rintro e w1 ⟨rfl, rfl⟩
      rw [show isA b = false from by simpa using hb]
      go_wp2
      go_ret2
      simp
  · have e : plusA a b = (0, 80) := by unfold plusA; rw [if_neg (fun h => ha h.1)]
    rw [e]
    go_enter Tryz.func142, Tryz.ntmps142
    go_wp2_with fail
    refine (right_any _ _).mono ?_
    rintro e w1 ⟨rfl, rfl⟩
    rw [show isA a = false from by simpa using ha]
    go_wp2
    go_ret2
    simp

end Go.Proofs.YtmmcoedgoekhgaaGreatDoor
