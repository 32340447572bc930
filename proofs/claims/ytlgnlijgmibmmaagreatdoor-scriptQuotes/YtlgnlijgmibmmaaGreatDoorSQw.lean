/-
  ScriptQuotes: the walk.
-/
import Derived.Test.YtlgnlijgmibmmaaGreatDoorSHe
import Derived.Laws.Concat
import Derived.Deep.DeepCutAuto
import Derived.BigRegion
import Derived.Lib.ItoaWalk
import Derived.Lib.ItoaMem
namespace Go.Proofs.YtlgnlijgmibmmaaGreatDoor
open Go.RowKit S
set_option linter.unusedVariables false
set_option linter.unusedSimpArgs false
theorem bs_app (a b : List UInt8) : bs a ++ bs b = bs (a ++ b) := by
  apply ByteArray.ext
  rw [ByteArray.data_append]
  show a.toArray ++ b.toArray = (a ++ b).toArray
  simp
theorem bs_eqs (l : List UInt8) : ((bs l).toList == (bs l).toList) = true := beq_self_eq_true _
/-- What of one piece is behind j escapes. -/
def backL (l : List UInt8) (j : Nat) : List UInt8 := (l.drop j).flatMap hx ++ [34]
def frontL (l : List UInt8) (j : Nat) : List UInt8 := 34 :: (l.take j).flatMap hx
theorem long_split (l : List UInt8) (j : Nat) : longB l = frontL l j ++ backL l j := by
  unfold longB frontL backL
  rw [List.cons_append, ← List.append_assoc, ← List.flatMap_append, List.take_append_drop]
theorem front_len (l : List UInt8) (j : Nat) (h : j ≤ l.length) : (frontL l j).length = 1 + 4 * j := by
  unfold frontL
  rw [List.length_cons, hxs_len, List.length_take, Nat.min_eq_left h]
  omega
theorem long_take (l : List UInt8) (j : Nat) (h : j ≤ l.length) : (bs (longB l)).extract 0 (1 + 4 * j) = bs (frontL l j) := by
  rw [bs_extract, List.drop_zero, long_split l j, ← front_len l j h, List.take_left]
theorem long_drop (l : List UInt8) (j : Nat) (h : j ≤ l.length) : (bs (longB l)).extract (1 + 4 * j) (bs (longB l)).size = bs (backL l j) := by
  rw [bs_extract, bs_size, List.take_length, long_split l j, ← front_len l j h, List.drop_left]
theorem long_init (l : List UInt8) : (bs (longB l)).extract 0 (4 * l.length + 1) = bs (34 :: l.flatMap hx) := by
  have e : longB l = (34 :: l.flatMap hx) ++ [34] := rfl
  have h : (34 :: l.flatMap hx : List UInt8).length = 4 * l.length + 1 := by rw [List.length_cons, hxs_len]
  rw [bs_extract, List.drop_zero, e, ← h, List.take_left]
/-- The four wrong texts. -/
def wrong (l : List UInt8) (j : Nat) (c : UInt8) : Nat → List UInt8
  | 0 => frontL l j ++ [c] ++ backL l j
  | 1 => 34 :: l.flatMap hx
  | 2 => frontL l j ++ [92, 113] ++ backL l j
  | _ => frontL l j ++ [92, 120, 65, 48] ++ backL l j
theorem back_len (l : List UInt8) (j : Nat) (h : j ≤ l.length) : (backL l j).length = 4 * (l.length - j) + 1 := by
  unfold backL
  rw [List.length_append, hxs_len, List.length_drop]
  rfl
theorem back_10 (l : List UInt8) (j : Nat) : 10 ∉ backL l j := no10 (plain_app (plain_flat hx_plain _) (fun x hx => by rcases List.mem_singleton.1 hx with rfl; rfl))
theorem wrong_form (l : List UInt8) (j : Nat) (c : UInt8) (i : Nat) : ∃ a t, wrong l j c i = 34 :: (a.flatMap hx ++ t) ∧ ((a = l.take j ∧ ((t = c :: backL l j) ∨ t = 92 :: 113 :: backL l j ∨ t = 92 :: 120 :: 65 :: 48 :: backL l j)) ∨ (a = l ∧ t = [])) := by
  match i with
  | 0 => exact ⟨l.take j, c :: backL l j, by unfold wrong frontL; simp, .inl ⟨rfl, .inl rfl⟩⟩
  | 1 => exact ⟨l, [], by unfold wrong; simp, .inr ⟨rfl, rfl⟩⟩
  | 2 => exact ⟨l.take j, 92 :: 113 :: backL l j, by unfold wrong frontL; simp, .inl ⟨rfl, .inr (.inl rfl)⟩⟩
  | n + 3 => exact ⟨l.take j, 92 :: 120 :: 65 :: 48 :: backL l j, by unfold wrong frontL; simp, .inl ⟨rfl, .inr (.inr rfl)⟩⟩
theorem wrong_read (F : Int → List UInt8) (hF : F 5 = [53]) (l : List UInt8) (j : Nat) (c : UInt8) (i : Nat) (hl : l.length ≤ 900) (hj : j ≤ l.length) (hc : isPl c = false) (h10 : c ≠ 10) :
    parseA F (pre5 ++ wrong l j c i) = ([], 250) ∧ (wrong l j c i).length ≤ 4000 ∧ 10 ∉ wrong l j c i := by
  have hb := back_len l j hj
  have hn := back_10 l j
  obtain ⟨a, t, e, h⟩ := wrong_form l j c i
  have ha : a.length ≤ 900 ∧ a.length * 4 + t.length ≤ 3800 ∧ 10 ∉ t ∧ (∀ n, qL n t = none) := by
    rcases h with ⟨rfl, rfl | rfl | rfl⟩ | ⟨rfl, rfl⟩
    · refine ⟨by rw [List.length_take]; omega, by rw [List.length_take, List.length_cons, hb]; omega, fun e => ?_, bad_byte c _ hc⟩
      rcases List.mem_cons.1 e with e | e
      · exact h10 e.symm
      · exact hn e
    · refine ⟨by rw [List.length_take]; omega, by rw [List.length_take, List.length_cons, List.length_cons, hb]; omega, fun e => ?_, bad_q _⟩
      simp only [List.mem_cons] at e
      rcases e with e | e | e
      · revert e; decide
      · revert e; decide
      · exact hn e
    · refine ⟨by rw [List.length_take]; omega, by rw [List.length_take]; simp only [List.length_cons]; rw [hb]; omega, fun e => ?_, bad_A _⟩
      simp only [List.mem_cons] at e
      rcases e with e | e | e | e | e
      · revert e; decide
      · revert e; decide
      · revert e; decide
      · revert e; decide
      · exact hn e
    · exact ⟨hl, by simp; omega, by simp, bad_end⟩
  obtain ⟨h1, h2, h3, h4⟩ := ha
  rw [e]
  refine ⟨read_bad F hF a t h1 (.inr (by omega)) h3 h4, by simp only [List.length_cons, List.length_append, hxs_len]; omega, fun e => ?_⟩
  rcases List.mem_cons.1 e with e | e
  · revert e; decide
  · exact (List.mem_append.1 e).elim (no10 (plain_flat hx_plain a)) h3
end Go.Proofs.YtlgnlijgmibmmaaGreatDoor
