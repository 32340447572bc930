/-
  UpdateLimits: which of its updates are valid; its literals.
-/
import Derived.Test.YtoepmlagolfhcaaDoorULim1
namespace Go.Proofs.YtoepmlagolfhcaaDoor
open Go.RowKit S
set_option linter.unusedVariables false
set_option linter.unusedSimpArgs false
open Cu (nb hl ofL)
def xB : ByteArray := ⟨#[120]⟩
def rightU (h : Nat → UInt8) (nt l64 : ByteArray) : Nat → Upd := six ⟨1, 0, 1, h, nilB⟩ ⟨1, 2047, 1152921504606846976, h, nilB⟩ ⟨2, 0, 0, h, nilB⟩ ⟨2, 2047, 0, h, nilB⟩ ⟨3, 2047, 0, fun _ => 0, nt⟩ ⟨3, 0, 0, fun _ => 0, l64⟩
def szR (nt : ByteArray) (i : Nat) : Int := if i = 0 then 43 else if i = 1 then 43 else if i = 2 then 35 else if i = 3 then 35 else if i = 4 then 5 + (nt.size : Int) else 69
def wrongU (h o : Nat → UInt8) (mo : Int) (lg : ByteArray) : Nat → Upd := twelve ⟨1, 0, 0, h, nilB⟩ ⟨1, 0, -1 - mo, fun _ => 0, nilB⟩ ⟨1, 0, 1152921504606846977, fun _ => 0, nilB⟩ ⟨1, 2048, 1, fun _ => 0, nilB⟩ ⟨1, -1 - mo, 1, fun _ => 0, nilB⟩ ⟨1, 0, 1, fun _ => 0, ⟨#[120]⟩⟩ ⟨2, 0, 1, fun _ => 0, nilB⟩ ⟨2, 0, 0, fun _ => 0, ⟨#[120]⟩⟩ ⟨3, 0, 1, fun _ => 0, nilB⟩ ⟨3, 0, 0, o, nilB⟩ ⟨3, 0, 0, fun _ => 0, lg⟩ ⟨4, 0, 1, fun _ => 0, nilB⟩
theorem noteE_nilB (k i a : Int) (h : Nat → UInt8) : noteE ⟨k, i, a, h, nilB⟩ = true := by show nilB.toList.isEmpty = true; decide +kernel
theorem noteE_x (k i a : Int) (h : Nat → UInt8) : noteE ⟨k, i, a, h, ⟨#[120]⟩⟩ = false := by show (⟨#[120]⟩ : ByteArray).toList.isEmpty = false; decide +kernel
theorem zeroH_zero : zeroH (fun _ => 0) = true := by decide
theorem right_valid (h : Nat → UInt8) (nt l64 : ByteArray) (hn : nt.size ≤ 64) (hl : l64.size = 64) (i : Nat) (hi : i < 6) : validB (rightU h nt l64 i) = true ∧ ((bytesU (rightU h nt l64 i)).length : Int) = szR nt i := by
  unfold rightU six szR
  have h6 : i = 0 ∨ i = 1 ∨ i = 2 ∨ i = 3 ∨ i = 4 ∨ i = 5 := by omega
  have hn2 : decide ((nt.size : Int) ≤ 64) = true := decide_eq_true (by omega)
  have hl2 : decide ((l64.size : Int) ≤ 64) = true := decide_eq_true (by omega)
  rcases h6 with rfl | rfl | rfl | rfl | rfl | rfl
  · exact ⟨by simp [validB, noteE_nilB], by simp [bytes_add, Cu.nb_length, Cu.hl_length]⟩
  · exact ⟨by simp [validB, noteE_nilB], by simp [bytes_add, Cu.nb_length, Cu.hl_length]⟩
  · exact ⟨by simp [validB, noteE_nilB], by simp [bytes_ful, Cu.nb_length, Cu.hl_length]⟩
  · exact ⟨by simp [validB, noteE_nilB], by simp [bytes_ful, Cu.nb_length, Cu.hl_length]⟩
  · exact ⟨by simp [validB, zeroH_zero]; omega, by simp [bytes_fail, Cu.nb_length, Cu.str_len]; omega⟩
  · exact ⟨by simp [validB, zeroH_zero]; omega, by simp [bytes_fail, Cu.nb_length, Cu.str_len]; omega⟩
theorem wrong_not (h o : Nat → UInt8) (mo : Int) (lg : ByteArray) (hm : 0 ≤ mo) (ho : o 0 = 1) (hl : lg.size = 65) (i : Nat) (hi : i < 12) : validB (wrongU h o mo lg i) = false := by
  unfold wrongU twelve
  have h12 : i = 0 ∨ i = 1 ∨ i = 2 ∨ i = 3 ∨ i = 4 ∨ i = 5 ∨ i = 6 ∨ i = 7 ∨ i = 8 ∨ i = 9 ∨ i = 10 ∨ i = 11 := by omega
  have hz : zeroH o = false := by
    rw [Bool.eq_false_iff]
    intro e
    have := (eqH_iff _ _).1 e 0 (by omega)
    rw [ho] at this
    exact absurd this (by decide)
  rcases h12 with rfl | rfl | rfl | rfl | rfl | rfl | rfl | rfl | rfl | rfl | rfl | rfl
  all_goals simp [validB, noteE_x, noteE_nilB, zeroH_zero, hz]
  all_goals omega
theorem cells_row (F : Nat → Upd) (n : Nat) : cellsU ((List.range n).map F) = (tabv (rowN F) (n * 36)).toList := by
  apply List.ext_getElem?
  intro i
  have e : (tabv (rowN F) (n * 36)).toList[i]? = (tabv (rowN F) (n * 36))[i]? := Array.getElem?_toList ..
  rw [e]
  by_cases hi : i < n * 36
  · rw [tabv_get _ _ _ hi]
    have hk : i / 36 < n := by omega
    have h := cellsU_get ((List.range n).map F) (i / 36) (F (i / 36)) (by rw [List.getElem?_map, List.getElem?_range hk]; rfl) (i % 36) (by omega)
    rw [show i / 36 * 36 + i % 36 = i by omega] at h
    exact h
  · rw [List.getElem?_eq_none (by rw [cellsU_length, List.length_map, List.length_range]; omega), tabv_none _ _ _ (by omega)]
theorem own_row {w : World} {g n B : Nat} {F : Nat → Upd} (h : Has w g 26 (rowN F) (n * 36)) (hB : B ≤ g) (hn : n ≤ maxLen) : OwnU B w (.slice (some ⟨g, 0, none⟩) n n) ((List.range n).map F) := by
  unfold OwnU
  rw [List.length_map, List.length_range]
  refine ⟨by rw [cellsU_length, List.length_map, List.length_range], .inr ⟨g, n, _, rfl, hB, h, Nat.le_refl _, hn, tabv_size _ _, ?_⟩⟩
  rw [cells_row]
  exact List.take_of_length_le (by rw [tabv_len]; omega)
theorem made_zero (m : Nat) : madeCells (Value.agg (tabv Upd.zero.v 36)).cells m = tabv (rowN fun _ => Upd.zero) m := by
  refine tabv_ext _ _ _ (size_madeCells _ _) fun i hi => ?_
  have e : (Value.agg (tabv Upd.zero.v 36)).cells = tabv Upd.zero.v 36 := rfl
  unfold madeCells rowN
  rw [e, tabv_size, Array.getElem?_map, Array.getElem?_range, if_pos hi, Option.map_some, getElem!_def, tabv_get _ _ _ (by omega)]
theorem run_make2047 (w : World) : (Instr.makeSlice 35 (.int .i64 2047) (.int .i64 2047)).run Tryd.prog w = .ok (.slice (some ⟨w.heap.size, 0, none⟩) 2047 2047) (w.alloc (.cells (tabv (rowN fun _ => Upd.zero) 73692) 26)) := by
  obtain ⟨i, h1, h2, h3, h4⟩ := infoUP
  have h := run_make (P := Tryd.prog) w 35 26 i _ Tryd.underlying35 h1 h2 .i64 .i64 2047 2047 (by omega) (by omega) (by rw [h4]; omega) (by omega)
  rw [h, h3, ← made_zero]
  rfl
def zeros2047 : List Upd := (List.range 2047).map fun _ => Upd.zero
theorem zeros_len : zeros2047.length = 2047 := by unfold zeros2047; rw [List.length_map, List.length_range]
theorem zeros_adds : addsN zeros2047 = 0 := by
  unfold addsN zeros2047
  rw [List.length_eq_zero_iff, List.filter_eq_nil_iff]
  intro x hx
  obtain ⟨_, _, rfl⟩ := List.mem_map.1 hx
  decide
theorem next_zeros (h : Nat → UInt8) : nextA zeros2047 [] ⟨1, 0, 1, h, nilB⟩ = 0 := by
  have hv : validB ⟨1, 0, 1, h, nilB⟩ = true := by simp [validB, noteE_nilB]
  have hf : followsB zeros2047 [] ⟨1, 0, 1, h, nilB⟩ = true := by
    unfold followsB
    rw [if_pos (show (((1 : Int) == 1) = true) by decide), zeros_adds]
    show ((0 : Int) == ((0 : Nat) : Int)) = true
    decide
  unfold nextA
  rw [zeros_len, if_neg (by omega), hv, if_neg (show ¬(true = false) by decide), hf, if_pos rfl]
theorem next_full (l : List Upd) (hl : l.length = 2048) (o : List Upd) (u : Upd) : nextA l o u = 6 := by unfold nextA; rw [if_pos (by omega)]
theorem next_not (o : List Upd) (u : Upd) (hv : validB u = false) : nextA [] o u = 120 := by unfold nextA; rw [if_neg (by simp), if_pos hv]
end Go.Proofs.YtoepmlagolfhcaaDoor
