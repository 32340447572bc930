/-
  The code's shelf: with (a new row of 49 slots).
-/
import Derived.Test.YtlohfoggcdaeiaaGreatPCode
import Derived.Laws.MakeOwn
namespace Go.Proofs.YtlohfoggcdaeiaaGreat
set_option maxRecDepth 20000
open Go.RowKit S
set_option linter.unusedVariables false
set_option linter.unusedSimpArgs false
def rowF (F : Nat → Slot) : Nat → Value := fun i => (F (i / 34)).v (i % 34)
def updS (F : Nat → Slot) (k : Nat) (s : Slot) : Nat → Slot := fun j => if j = k then s else F j
theorem rowF_splice (F : Nat → Slot) (k : Nat) (s : Slot) (i : Nat) : splice (rowF F) (k * 34) s.v 34 i = rowF (updS F k s) i := by
  unfold splice rowF updS
  by_cases h : k * 34 ≤ i ∧ i < k * 34 + 34
  · rw [if_pos h, if_pos (show i / 34 = k by omega), show i - k * 34 = i % 34 by omega]
  · rw [if_neg h, if_neg (show ¬ i / 34 = k by omega)]
theorem made_zero : madeCells (Value.agg (tabv Slot.zero.v 34)).cells 1666 = tabv (rowF fun _ => Slot.zero) 1666 := by
  refine tabv_ext _ _ _ (size_madeCells _ _) fun i hi => ?_
  have e : (Value.agg (tabv Slot.zero.v 34)).cells = tabv Slot.zero.v 34 := rfl
  unfold madeCells rowF
  rw [e, tabv_size, Array.getElem?_map, Array.getElem?_range, if_pos hi, Option.map_some, getElem!_def, tabv_get _ _ _ (by omega)]
theorem cells_row (F : Nat → Slot) (n : Nat) : cellsS ((List.range n).map F) = (tabv (rowF F) (n * 34)).toList := by
  apply List.ext_getElem?
  intro i
  have e : (tabv (rowF F) (n * 34)).toList[i]? = (tabv (rowF F) (n * 34))[i]? := Array.getElem?_toList ..
  rw [e]
  by_cases hi : i < n * 34
  · rw [tabv_get _ _ _ hi]
    have hk : i / 34 < n := by omega
    have h := cellsS_get ((List.range n).map F) (i / 34) (F (i / 34)) (by rw [List.getElem?_map, List.getElem?_range hk]; rfl) (i % 34) (by omega)
    rw [show i / 34 * 34 + i % 34 = i by omega] at h
    exact h
  · rw [List.getElem?_eq_none (by rw [cellsS_length, List.length_map, List.length_range]; omega), tabv_none _ _ _ (by omega)]
def upF (l : List Slot) (j : Nat) : Nat → Slot := fun i => if i < j then atA l i else Slot.zero
theorem upF_zero (l : List Slot) : upF l 0 = fun _ => Slot.zero := by funext i; unfold upF; rw [if_neg (by omega)]
theorem upF_next (l : List Slot) (j : Nat) : updS (upF l j) j (atA l j) = upF l (j + 1) := by
  funext i
  unfold updS upF
  by_cases h : i = j
  · subst h; rw [if_pos rfl, if_pos (by omega)]
  · rw [if_neg h]
    by_cases h2 : i < j
    · rw [if_pos h2, if_pos (by omega)]
    · rw [if_neg h2, if_neg (by omega)]
theorem rowF_congr {F G : Nat → Slot} (n : Nat) (h : ∀ j, j < n → F j = G j) (i : Nat) (hi : i < n * 34) : rowF F i = rowF G i := by
  unfold rowF
  rw [h _ (by omega)]
theorem own_row {w : World} {g n B : Nat} {F : Nat → Slot} (h : Has w g 49 (rowF F) (n * 34)) (hB : B ≤ g) (hn : n ≤ maxLen) : OwnS B w (.slice (some ⟨g, 0, none⟩) n n) ((List.range n).map F) := by
  unfold OwnS
  rw [List.length_map, List.length_range]
  refine ⟨by rw [cellsS_length, List.length_map, List.length_range], .inr ⟨g, n, _, rfl, hB, h, Nat.le_refl _, hn, tabv_size _ _, ?_⟩⟩
  rw [cells_row]
  exact List.take_of_length_le (by rw [tabv_len]; omega)
theorem run_make49 (w : World) : (Instr.makeSlice 29 (.int .i64 49) (.int .i64 49)).run Tryz.prog w = .ok (.slice (some ⟨w.heap.size, 0, none⟩) 49 49) (w.alloc (.cells (tabv (rowF fun _ => Slot.zero) 1666) 49)) := by
  obtain ⟨i, h1, h2, h3, h4⟩ := infoP
  have h := run_make (P := Tryz.prog) w 29 49 i _ Tryz.underlying29 h1 h2 .i64 .i64 49 49 (by omega) (by omega) (by rw [h4]; omega) (by omega)
  rw [h, h3, ← made_zero]
  rfl
set_option maxRecDepth 100000 in
set_option maxHeartbeats 1000000 in
theorem with_any (ad : Option Addr) (n cap : Nat) (l : List Slot) (hn : l.length = n) (k : Nat) (hk : k < 49) (s : Slot) (w : World) (hS : Slots w ad l) : Calls Tryz.prog 170 #[.slice ad n cap, .int .i64 (k : Int), .agg (tabv s.v 34)] w fun e w' => (∃ g, e = .returned (.slice (some ⟨g, 0, none⟩) 49 49) ∧ w.heap.size ≤ g ∧ Has w' g 49 (rowF (updS (atA l) k s)) 1666) ∧ Below w.heap.size w w' := by
  obtain ⟨w3, hW⟩ : ∃ w3, w.alloc (.cells (tabv s.v 34) 49) = w3 := ⟨_, rfl⟩
  have g0 : Has w3 w.heap.size 49 s.v 34 := by rw [← hW]; exact Has.new w 49 s.v 34 _ rfl
  have gb : Below w.heap.size w w3 := by rw [← hW]; exact (Below.refl w.heap.size w).alloc (Nat.le_refl _) _
  have hz : w3.heap.size = w.heap.size + 1 := by rw [← hW]; simp
  obtain ⟨G, hGG⟩ : ∃ G, w.heap.size + 1 = G := ⟨_, rfl⟩
  rw [hGG] at hz
  obtain ⟨w4, hW4⟩ : ∃ w4, w3.alloc (.cells (tabv (rowF fun _ => Slot.zero) 1666) 49) = w4 := ⟨_, rfl⟩
  have g1 : Has w4 G 49 (rowF fun _ => Slot.zero) 1666 := by rw [← hW4, ← hz]; exact Has.new w3 49 _ 1666 _ rfl
  have gb4 : Below w.heap.size w w4 := by rw [← hW4]; exact gb.alloc gb.size _
  have g04 : Has w4 w.heap.size 49 s.v 34 := by rw [← hW4]; exact g0.old _
  have hmk : (Instr.makeSlice 29 (.int .i64 49) (.int .i64 49)).run Tryz.prog w3 = .ok (.slice (some ⟨G, 0, none⟩) 49 49) w4 := by rw [run_make49, hz, hW4]
  clear g0 gb hW4
  have hS4 := hS.below gb4
  go_enter Tryz.func170, Tryz.ntmps170
  go_wp2
  rw [← upF_zero l] at g1
  go_loopw [10] (fun i wr => ∃ j : Nat, j ≤ 49 ∧ i = .int .i64 j ∧ Has wr G 49 (rowF (upF l j)) 1666 ∧ Has wr w.heap.size 49 s.v 34 ∧ Below w.heap.size w wr) (fun i _ => 49 - (intOf i).toNat)
  case atStart => exact ⟨0, by omega, rfl, g1, g04, gb4⟩
  case round =>
    clear g1 g04 gb4 hmk hW hz hS4
    obtain ⟨j, hj, rfl, g1, g0, gb⟩ := hrel
    have hSr := hS.below gb
    by_cases hlt : j < 49
    · have hd : decide ((j : Int) < 49) = true := by simp; omega
      have hk0 : (0 : Int) ≤ (j : Int) := by omega
      have hk1 : (j : Int) < 49 := by omega
      go_wp2_with fail
      refine (at_any ad n cap l hn j _ hSr).mono ?_
      rintro e w1 ⟨rfl, hb1⟩
      have k1 := g1.below hb1 g1.lt
      have k0 := g0.below hb1 g0.lt
      have kb := gb.trans (hb1.mono gb.size)
      clear g1 g0 gb hSr hb1
      go_wp2_with (refine wpList_store_part rfl 49 _ _ rfl rfl G (j * 34) (atA l j).v 34 rfl rfl 49 _ 1666 k1 (by omega) infoS (fun i _ => oneVH _ i) (rowF (upF l (j + 1))) (fun i hi => by rw [rowF_splice, upF_next]) ?_)
      go_roundw
      case rel => exact ⟨j + 1, by omega, by go_num, k1.row _ _ rfl, k0.row_other _ _ (by omega), below_setRow kb (by omega) _⟩
      case measure => simp [intOf]; omega
    · have hj8 : j = 49 := by omega
      subst hj8
      have hd : decide (((49 : Nat) : Int) < 49) = false := by decide
      have hk0 : (0 : Int) ≤ (k : Int) := by omega
      have hk1 : (k : Int) < 49 := by omega
      have ef : ∀ i, i < 1666 → splice (rowF (upF l 49)) (k * 34) s.v 34 i = rowF (updS (atA l) k s) i := fun i hi => by
        rw [rowF_splice]
        exact rowF_congr 49 (fun j hj => by unfold updS upF; rw [if_pos hj]) i hi
      go_wp2_with (first | refine wpList_load_part rfl 49 _ rfl w.heap.size 0 rfl 49 _ 34 34 _ g0 (by omega) Tryz.underlying49 rfl infoS s.v (fun i hi => by rw [Nat.zero_add]) ?_ | refine wpList_store_part rfl 49 _ _ rfl rfl G (k * 34) s.v 34 rfl rfl 49 _ 1666 g1 (by omega) infoS (fun i _ => oneVH _ i) (rowF (updS (atA l) k s)) ef ?_)
      go_ret
      exact ⟨⟨G, rfl, by omega, g1.row _ _ rfl⟩, below_setRow gb (by omega) _⟩
end Go.Proofs.YtlohfoggcdaeiaaGreat
