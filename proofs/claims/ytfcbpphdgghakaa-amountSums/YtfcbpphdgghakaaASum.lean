/-
  Sum of the code and of the document, over a row of numbers.
-/
import Derived.Test.YtfcbpphdgghakaaABase
namespace Go.Proofs.Ytfcbpphdgghakaa
open Go.RowKit
set_option linter.unusedVariables false
structure Hid (P : Prop) : Prop where
  out : P
theorem hide {P : Prop} (h : P) : Hid P := ⟨h⟩
def sumFrom (s : Int) : List Int → Int × Int
  | [] => (s, 0)
  | z :: r => if (plusA s z).2 = 0 then sumFrom (plusA s z).1 r else (0, 80)
def sumA (l : List Int) : Int × Int := sumFrom 0 l
theorem plusA_two (a b : Int) : (plusA a b).2 = 0 ∨ plusA a b = (0, 80) := by
  unfold plusA; split <;> simp
/-- a slice's elements: the numbers zs -/
def RowI (w : World) (ad : Option Addr) (zs : List Int) : Prop :=
  zs = [] ∨ ∃ x, ad = some x ∧ x.block < w.heap.size ∧ ∀ i, i < zs.length → w.cell? (x.add i) = some (.int .i64 (zs.getD i 0))
theorem drop_getD {l : List Int} {k : Nat} (h : k < l.length) : l.drop k = l.getD k 0 :: l.drop (k + 1) := by
  rw [List.drop_eq_getElem_cons h]; simp [h]
set_option maxRecDepth 100000 in
set_option maxHeartbeats 1000000 in
theorem sum_any (w : World) (ad : Option Addr) (cap : Nat) (zs : List Int) (h : RowI w ad zs) (hl : zs.length ≤ maxLen) :
    Calls Try.prog 10 #[.slice ad zs.length cap] w fun e w' => e = .returned (.tuple #[.int .i64 (sumA zs).1, .int .i64 (sumA zs).2]) ∧ w' = w := by
  have HR := hide h
  unfold maxLen at hl
  clear h
  go_enter Try.func10, Try.ntmps10
  go_wp2
  go_loopw [4, 11] (fun s i wr => ∃ (k : Nat) (t : Int), k ≤ zs.length ∧ i = .int .i64 (k : Int) ∧ s = .int .i64 t ∧ sumA zs = sumFrom t (zs.drop k) ∧ wr = w) (fun s i _ => zs.length - (intOf i).toNat)
  case atStart => exact ⟨0, 0, by omega, rfl, rfl, rfl, rfl⟩
  case round =>
    obtain ⟨k, t, hk, rfl, rfl, hsum, rfl⟩ := hrel
    have HS := hide hsum
    clear hsum
    by_cases hlt : k < zs.length
    · have dk : decide ((k : Int) < (zs.length : Int)) = true := decide_eq_true (by omega)
      have hk0 : (0 : Int) ≤ (k : Int) := by omega
      have hk1 : (k : Int) < (zs.length : Int) := by omega
      rcases HR.out with h | ⟨x, rfl, hbl, hcs⟩
      · rw [h] at hlt; exact absurd hlt (by simp)
      have f0 := hcs k hlt
      obtain ⟨z, hz⟩ : ∃ z, zs.getD k 0 = z := ⟨_, rfl⟩
      rw [hz] at f0
      have HS2 : Hid (sumA zs = sumFrom t (z :: zs.drop (k + 1))) := by
        refine hide ?_; rw [HS.out, drop_getD hlt, hz]
      clear hcs hz HS
      go_wp2_with fail
      refine (plus_any _ _ _).mono ?_
      rintro e w1 ⟨rfl, rfl⟩
      rcases plusA_two t z with h0 | h0
      · obtain ⟨u, hu⟩ : ∃ u, (plusA t z).1 = u := ⟨_, rfl⟩
        have HS3 : Hid (sumA zs = sumFrom u (zs.drop (k + 1))) := by
          refine hide ?_; rw [HS2.out]; simp only [sumFrom]; rw [if_pos h0, hu]
        rw [h0, hu]
        clear h0 hu HS2
        go_wp2
        go_roundw
        case rel => exact ⟨k + 1, u, by omega, by go_num, rfl, HS3.out, by first | rfl | trivial⟩
        case measure => simp [intOf]; omega
      · have HS3 : Hid (sumA zs = (0, 80)) := by
          refine hide ?_; rw [HS2.out]; simp only [sumFrom]; rw [if_neg (by rw [h0]; decide)]
        rw [h0]
        clear h0 HS2
        go_wp2
        go_ret2
        rw [HS3.out]
        exact ⟨rfl, rfl⟩
    · have hkl : k = zs.length := by omega
      subst hkl
      have dk : decide ((zs.length : Int) < (zs.length : Int)) = false := decide_eq_false (by omega)
      have HS3 : Hid (sumA zs = (t, 0)) := by
        refine hide ?_; rw [HS.out, List.drop_length]; rfl
      go_wp2
      go_ret2
      rw [HS3.out]
      exact ⟨rfl, rfl⟩
set_option maxRecDepth 100000 in
set_option maxHeartbeats 1000000 in
theorem rsum_any (w : World) (ad : Option Addr) (cap : Nat) (zs : List Int) (h : RowI w ad zs) (hl : zs.length ≤ maxLen) :
    Calls Try.prog 15 #[.slice ad zs.length cap] w fun e w' => e = .returned (.tuple #[.int .i64 (sumA zs).1, .int .i64 (sumA zs).2]) ∧ w' = w := by
  have HR := hide h
  unfold maxLen at hl
  clear h
  go_enter Try.func15, Try.ntmps15
  go_wp2
  go_loopw [4, 5] (fun s i wr => ∃ (k : Nat) (t : Int), k ≤ zs.length ∧ i = .int .i64 (k : Int) ∧ s = .int .i64 t ∧ sumA zs = sumFrom t (zs.drop k) ∧ wr = w) (fun s i _ => zs.length - (intOf i).toNat)
  case atStart => exact ⟨0, 0, by omega, rfl, rfl, rfl, rfl⟩
  case round =>
    obtain ⟨k, t, hk, rfl, rfl, hsum, rfl⟩ := hrel
    have HS := hide hsum
    clear hsum
    by_cases hlt : k < zs.length
    · have dk : decide ((k : Int) < (zs.length : Int)) = true := decide_eq_true (by omega)
      have hk0 : (0 : Int) ≤ (k : Int) := by omega
      have hk1 : (k : Int) < (zs.length : Int) := by omega
      rcases HR.out with h | ⟨x, rfl, hbl, hcs⟩
      · rw [h] at hlt; exact absurd hlt (by simp)
      have f0 := hcs k hlt
      obtain ⟨z, hz⟩ : ∃ z, zs.getD k 0 = z := ⟨_, rfl⟩
      rw [hz] at f0
      have HS2 : Hid (sumA zs = sumFrom t (z :: zs.drop (k + 1))) := by
        refine hide ?_; rw [HS.out, drop_getD hlt, hz]
      clear hcs hz HS
      go_wp2_with fail
      refine (rplus_any _ _ _).mono ?_
      rintro e w1 ⟨rfl, rfl⟩
      rcases plusA_two t z with h0 | h0
      · obtain ⟨u, hu⟩ : ∃ u, (plusA t z).1 = u := ⟨_, rfl⟩
        have HS3 : Hid (sumA zs = sumFrom u (zs.drop (k + 1))) := by
          refine hide ?_; rw [HS2.out]; simp only [sumFrom]; rw [if_pos h0, hu]
        rw [h0, hu]
        clear h0 hu HS2
        go_wp2
        go_roundw
        case rel => exact ⟨k + 1, u, by omega, by go_num, rfl, HS3.out, by first | rfl | trivial⟩
        case measure => simp [intOf]; omega
      · have HS3 : Hid (sumA zs = (0, 80)) := by
          refine hide ?_; rw [HS2.out]; simp only [sumFrom]; rw [if_neg (by rw [h0]; decide)]
        rw [h0]
        clear h0 HS2
        go_wp2
        go_ret2
        rw [HS3.out]
        exact ⟨rfl, rfl⟩
    · have hkl : k = zs.length := by omega
      subst hkl
      have dk : decide ((zs.length : Int) < (zs.length : Int)) = false := decide_eq_false (by omega)
      have HS3 : Hid (sumA zs = (t, 0)) := by
        refine hide ?_; rw [HS.out, List.drop_length]; rfl
      go_wp2
      go_ret2
      rw [HS3.out]
      exact ⟨rfl, rfl⟩
end Go.Proofs.Ytfcbpphdgghakaa
