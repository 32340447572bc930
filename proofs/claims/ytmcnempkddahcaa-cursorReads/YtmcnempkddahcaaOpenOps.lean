/-
  Scripts among the arguments, opened.
-/
import Derived.Test.YtmcnempkddahcaaOpenVals
import Derived.Test.YtmcnempkddahcaaFour
namespace Go.Proofs.Ytmcnempkddahcaa
open Go.ChangeShapes Go.WideShapes Go.ChangeAt Go.RowKit Go.Deep
section
variable {H : Type} {enc : TypeId × Value → H} {W : World} {base : Nat} {spare : Nat → Bool} {held : Bool}
theorem open_op {n : Nat} {cs : List Value} {x : DataW H × List MemPlace} (h : DataW.trod enc Try.prog W base spare held n 69 cs = some x) :
    ∃ O : OL, (∀ j, j < 40 → cs[j]? = some (ov O j)) ∧ O.V.fit ∧ O.V.S.size + 1 ≤ Rows.uptoBulk x.1 := by
  obtain ⟨xs, m, _, hx, hl, hlen, hf⟩ := DataW.trod_struct Try.underlying69 h
  have hl4 : xs.length = 4 := hlen
  have g : ∀ (i : Nat) (hi : i < xs.length), xs[i]? = some xs[i] := fun i hi => List.getElem?_eq_getElem hi
  have f0 : DataW.trod enc Try.prog W base spare held m 4 ((cs.drop 0).take (Try.prog.cellsOf 4)) = some xs[0] := (hf 0 _ rfl).trans (g 0 (by omega))
  have f1 : DataW.trod enc Try.prog W base spare held m 56 ((cs.drop 1).take (Try.prog.cellsOf 56)) = some xs[1] := (hf 1 _ rfl).trans (g 1 (by omega))
  have f2 : DataW.trod enc Try.prog W base spare held m 3 ((cs.drop 38).take (Try.prog.cellsOf 3)) = some xs[2] := (hf 2 _ rfl).trans (g 2 (by omega))
  have f3 : DataW.trod enc Try.prog W base spare held m 3 ((cs.drop 39).take (Try.prog.cellsOf 3)) = some xs[3] := (hf 3 _ rfl).trans (g 3 (by omega))
  rw [cells4] at f0
  rw [cells56] at f1
  rw [cells3] at f2 f3
  obtain ⟨z0, e0, _⟩ := DataW.trod_bool Try.underlying4 f0
  obtain ⟨V, hV, hfit, hbk⟩ := open_val f1
  obtain ⟨z2, e2, _, w2⟩ := DataW.trod_int Try.underlying3 f2
  obtain ⟨z3, e3, _, w3⟩ := DataW.trod_int Try.underlying3 f3
  refine ⟨⟨z0, V, z2, z3⟩, fun j hj => ?_, hfit, ?_⟩
  · unfold ov
    by_cases h0 : j = 0
    · subst h0; rw [if_pos rfl]; exact one_cell e0
    · rw [if_neg h0]
      by_cases h1 : j < 38
      · rw [if_pos h1]
        have := hV (j - 1) (by omega)
        rw [List.getElem?_take_of_lt (by omega), List.getElem?_drop, show 1 + (j - 1) = j by omega] at this
        exact this
      · rw [if_neg h1]
        by_cases h2 : j = 38
        · subst h2; rw [if_pos rfl]; exact one_cell e2
        · rw [if_neg h2, show j = 39 by omega]; exact one_cell e3
  · have hb := bulk_get (xs.map (·.1)) 1 xs[1].1 (by rw [List.getElem?_map, g 1 (by omega)]; rfl)
    rw [hx]
    show V.S.size + 1 ≤ Rows.uptoBulkAll (xs.map (·.1)) + 1
    omega
/-- A script among the arguments. -/
theorem open_ops {ad : Option Addr} {len cap : Nat} {d : DataW H} {p : List MemPlace} (h : DataW.Trod enc Try.prog W 0 (fun _ => true) true 63 (.slice ad len cap) d p) :
    ∃ os : List OL, os.length = len ∧ Ops W ad os ∧ (∀ O ∈ os, O.V.fit ∧ O.V.S.size + 1 ≤ Rows.uptoBulk d) ∧ len ≤ Rows.uptoBulk d := by
  obtain ⟨fuel, hf⟩ := h
  rcases open_slice Try.underlying63 hf with ⟨hcs, hx⟩ | ⟨a, len', cap', m, n, D, Pl, hcs, _, hl, hm, hmm, hx, hel⟩
  · simp [Value.cells] at hcs
    obtain ⟨rfl, rfl, rfl⟩ := hcs
    exact ⟨[], rfl, .inl rfl, fun V hV => by simp at hV, by omega⟩
  · simp [Value.cells] at hcs
    obtain ⟨rfl, rfl, rfl⟩ := hcs
    simp only [if_true] at hmm
    subst hmm
    simp only [Prod.mk.injEq] at hx
    rw [cells69] at hel
    have hex : ∀ i, i < len → ∃ O : OL, (∀ j, j < 40 → W.cell? ((a.add (i * 40)).add j) = some (ov O j)) ∧ O.V.fit ∧ O.V.S.size + 1 ≤ Rows.uptoBulk (D i) := fun i hi => by
      obtain ⟨cs', h1, h2⟩ := hel i (by omega)
      obtain ⟨_, hln, hget⟩ := World.cells?_some h1
      obtain ⟨V, hV, hfit, hbk⟩ := open_op h2
      exact ⟨V, fun j hj => by rw [hget j hj, hV j hj], hfit, hbk⟩
    have hin : Inhabited OL := ⟨⟨false, ⟨0, 0, 0, fun _ => 0, nil8, 0⟩, 0, 0⟩⟩
    obtain ⟨f, hfv⟩ := choose_lt (α := OL) hex
    have hbd : ∀ i, i < len → Rows.uptoBulk (D i) + 1 ≤ Rows.uptoBulk d := fun i hi => by
      rw [hx.1]
      have := bulk_range D len i hi
      show _ ≤ Rows.uptoBulkAll _ + Rows.uptoBulkAll _ + 1
      omega
    refine ⟨(List.range len).map f, by simp, ?_, ?_, ?_⟩
    · by_cases hl0 : len = 0
      · subst hl0; exact .inl rfl
      · obtain ⟨b, off, spot⟩ := a
        have hspot : spot = none := by simpa [Addr.add] using World.cell?_spot ((hfv 0 (by omega)).1 0 (by omega))
        subst hspot
        have hadd : ∀ i j, ((⟨b, off, none⟩ : Addr).add (i * 40)).add j = ⟨b, off + i * 40 + j, none⟩ := fun i j => by
          rw [add_add]; unfold Addr.add; split <;> simp_all <;> omega
        refine .inr ⟨b, off, rfl, ?_, fun i hi => ?_⟩
        · have := (hfv 0 (by omega)).1 0 (by omega)
          rw [hadd] at this
          exact World.block_lt_of_cell? _ _ this
        · have hi' : i < len := by simpa using hi
          intro j hj
          have := (hfv i hi').1 j hj
          rw [hadd] at this
          simpa using this
    · intro V hV
      obtain ⟨i, hi, rfl⟩ := List.mem_map.1 hV
      have hi' := List.mem_range.1 hi
      refine ⟨(hfv i hi').2.1, ?_⟩
      have := (hfv i hi').2.2
      have := hbd i hi'
      omega
    · rw [hx.1]
      have := bulk_count D len (fun i hi => by have := (hfv i hi).2.2; omega)
      show _ ≤ Rows.uptoBulkAll _ + Rows.uptoBulkAll _ + 1
      omega
end
end Go.Proofs.Ytmcnempkddahcaa
