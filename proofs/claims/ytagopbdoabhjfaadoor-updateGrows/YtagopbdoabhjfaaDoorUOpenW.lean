/-
  Words among the arguments, opened.
-/
import Derived.Test.YtagopbdoabhjfaaDoorUOpen
import Derived.Test.YtagopbdoabhjfaaDoorUGrowS
namespace Go.Proofs.YtagopbdoabhjfaaDoor
open Go.ChangeShapes Go.WideShapes Go.ChangeAt Go.RowKit Go.Deep S
set_option linter.unusedVariables false
set_option linter.unusedSimpArgs false
theorem cellsNW : Tryd.prog.cellsOf 43 = 39 := by kernel_rfl
theorem bytesNW : Tryd.prog.bytesOf 43 = 96 := by kernel_rfl
section
variable {H : Type} {enc : TypeId × Value → H} {W : World} {base : Nat} {spare : Nat → Bool} {held : Bool}
theorem open_word_cells {n : Nat} {cs : List Value} {x : DataW H × List MemPlace} (h : DataW.trod enc Tryd.prog W base spare held n 43 cs = some x) :
    ∃ V : Wd, ∀ j, j < 39 → cs[j]? = some (V.v j) := by
  obtain ⟨xs, m, _, hx, hl, hlen, hf⟩ := DataW.trod_struct Tryd.underlying43 h
  have hl6 : xs.length = 4 := hlen
  have g : ∀ (i : Nat) (hi : i < xs.length), xs[i]? = some xs[i] := fun i hi => List.getElem?_eq_getElem hi
  have f0 : DataW.trod enc Tryd.prog W base spare held m 4 ((cs.drop 0).take (Tryd.prog.cellsOf 4)) = some xs[0] := (hf 0 _ rfl).trans (g 0 (by omega))
  have f1 : DataW.trod enc Tryd.prog W base spare held m 25 ((cs.drop 1).take (Tryd.prog.cellsOf 25)) = some xs[1] := (hf 1 _ rfl).trans (g 1 (by omega))
  have f2 : DataW.trod enc Tryd.prog W base spare held m 3 ((cs.drop 37).take (Tryd.prog.cellsOf 3)) = some xs[2] := (hf 2 _ rfl).trans (g 2 (by omega))
  have f3 : DataW.trod enc Tryd.prog W base spare held m 4 ((cs.drop 38).take (Tryd.prog.cellsOf 4)) = some xs[3] := (hf 3 _ rfl).trans (g 3 (by omega))
  rw [cellsN4] at f0 f3
  rw [cellsN3] at f2
  rw [cellsNU] at f1
  obtain ⟨b0, e0, _⟩ := DataW.trod_bool Tryd.underlying4 f0
  obtain ⟨z2, e2, _, w2⟩ := DataW.trod_int Tryd.underlying3 f2
  obtain ⟨b3, e3, _⟩ := DataW.trod_bool Tryd.underlying4 f3
  obtain ⟨V, hV⟩ := open_upd_cells f1
  refine ⟨⟨b0, V, z2, b3⟩, fun j hj => ?_⟩
  unfold Wd.v
  by_cases h0 : j = 0
  · subst h0; rw [if_pos rfl]; exact one_cell e0
  rw [if_neg h0]
  by_cases h1 : j < 37
  · rw [if_pos h1]
    have := hV (j - 1) (by omega)
    rw [List.getElem?_take_of_lt (by omega), List.getElem?_drop, show 1 + (j - 1) = j by omega] at this
    exact this
  rw [if_neg h1]
  by_cases h2 : j = 37
  · subst h2; rw [if_pos rfl]; exact one_cell e2
  · rw [if_neg h2, show j = 38 by omega]; exact one_cell e3
/-- A list of words among the arguments. -/
theorem open_words {ad : Option Addr} {len cap : Nat} {d : DataW H} {p : List MemPlace} (h : DataW.Trod enc Tryd.prog W 0 (fun _ => true) true 40 (.slice ad len cap) d p) :
    ∃ l : List Wd, l.length = len ∧ Words W ad l ∧ (len = 0 ∨ ∃ e s, d = .slice e s ∧ e.length = len) ∧ (ad = none → len = 0) := by
  obtain ⟨fuel, hf⟩ := h
  rcases open_slice Tryd.underlying40 hf with ⟨hcs, hx⟩ | ⟨a, len', cap', m, n, D, Pl, hcs, _, hl, hm, hmm, hx, hel⟩
  · simp [Value.cells] at hcs
    obtain ⟨rfl, rfl, rfl⟩ := hcs
    exact ⟨[], rfl, .inl rfl, .inl rfl, fun _ => rfl⟩
  · simp [Value.cells] at hcs
    obtain ⟨rfl, rfl, rfl⟩ := hcs
    simp only [if_true] at hmm
    subst hmm
    simp only [Prod.mk.injEq] at hx
    rw [cellsNW] at hel
    have hex : ∀ i, i < len → ∃ V : Wd, ∀ j, j < 39 → W.cell? ((a.add (i * 39)).add j) = some (V.v j) := fun i hi => by
      obtain ⟨cs', h1, h2⟩ := hel i (by omega)
      obtain ⟨_, hln, hget⟩ := World.cells?_some h1
      obtain ⟨V, hV⟩ := open_word_cells h2
      exact ⟨V, fun j hj => by rw [hget j hj, hV j hj]⟩
    have hin : Inhabited Wd := ⟨Wd.zero⟩
    obtain ⟨f, hfv⟩ := choose_lt (α := Wd) hex
    refine ⟨(List.range len).map f, by simp, ?_, .inr ⟨_, _, hx.1, by simp⟩, fun h => by cases h⟩
    by_cases hl0 : len = 0
    · subst hl0; exact .inl rfl
    · obtain ⟨b, off, spot⟩ := a
      have hspot : spot = none := by simpa [Addr.add] using World.cell?_spot (hfv 0 (by omega) 0 (by omega))
      subst hspot
      have hadd : ∀ i j, ((⟨b, off, none⟩ : Addr).add (i * 39)).add j = ⟨b, off + i * 39 + j, none⟩ := fun i j => by
        rw [add_add]; unfold Addr.add; split <;> simp_all <;> omega
      refine .inr ⟨b, off, rfl, ?_, fun i s hs j hj => ?_⟩
      · have := hfv 0 (by omega) 0 (by omega)
        rw [hadd] at this
        exact World.block_lt_of_cell? _ _ this
      · have hi' : i < len := by simpa using (List.getElem?_eq_some_iff.1 hs).1
        rw [List.getElem?_map, List.getElem?_range hi'] at hs
        have hs' : f i = s := by simpa using hs
        have := hfv i hi' j hj
        rw [hadd, hs'] at this
        exact this
end
end Go.Proofs.YtagopbdoabhjfaaDoor
