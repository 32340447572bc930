/-
  LedgerNever: a script among the arguments, opened.
-/
import Derived.Test.YtbeoojnofblnjaaGOpenA
import Derived.Test.YtbeoojnofblnjaaGNever8
namespace Go.Proofs.Ytbeoojnofblnjaa
open Go.ChangeShapes Go.WideShapes Go.ChangeAt Go.RowKit Go.Deep S
set_option linter.unusedVariables false
set_option linter.unusedSimpArgs false
theorem cellsNS : Try.prog.cellsOf 35 = 3 := by kernel_rfl
theorem bytesNS : Try.prog.bytesOf 35 = 24 := by kernel_rfl
section
variable {H : Type} {enc : TypeId × Value → H} {W : World} {base : Nat} {spare : Nat → Bool} {held : Bool}
theorem open_stp_cells {n : Nat} {cs : List Value} {x : DataW H × List MemPlace} (h : DataW.trod enc Try.prog W base spare held n 35 cs = some x) :
    ∃ V : Stp, ∀ j, j < 3 → cs[j]? = some (V.v j) := by
  obtain ⟨xs, m, _, hx, hl, hlen, hf⟩ := DataW.trod_struct Try.underlying35 h
  have hl6 : xs.length = 3 := hlen
  have g : ∀ (i : Nat) (hi : i < xs.length), xs[i]? = some xs[i] := fun i hi => List.getElem?_eq_getElem hi
  have f0 : DataW.trod enc Try.prog W base spare held m 3 ((cs.drop 0).take (Try.prog.cellsOf 3)) = some xs[0] := (hf 0 _ rfl).trans (g 0 (by omega))
  have f1 : DataW.trod enc Try.prog W base spare held m 3 ((cs.drop 1).take (Try.prog.cellsOf 3)) = some xs[1] := (hf 1 _ rfl).trans (g 1 (by omega))
  have f2 : DataW.trod enc Try.prog W base spare held m 2 ((cs.drop 2).take (Try.prog.cellsOf 2)) = some xs[2] := (hf 2 _ rfl).trans (g 2 (by omega))
  rw [cellsN3] at f0 f1
  rw [cellsN2] at f2
  obtain ⟨z0, e0, _, w0⟩ := DataW.trod_int Try.underlying3 f0
  obtain ⟨z1, e1, _, w1⟩ := DataW.trod_int Try.underlying3 f1
  obtain ⟨z2, e2, _, w2⟩ := DataW.trod_int Try.underlying2 f2
  refine ⟨⟨z0, z1, z2⟩, fun j hj => ?_⟩
  unfold Stp.v stv
  by_cases h0 : j = 0
  · subst h0; rw [if_pos rfl]; exact one_cell e0
  rw [if_neg h0]
  by_cases h1 : j = 1
  · subst h1; rw [if_pos rfl]; exact one_cell e1
  · rw [if_neg h1, show j = 2 by omega]; exact one_cell e2
/-- A list of steps among the arguments. -/
theorem open_stps {ad : Option Addr} {len cap : Nat} {d : DataW H} {p : List MemPlace} (h : DataW.Trod enc Try.prog W 0 (fun _ => true) true 22 (.slice ad len cap) d p) :
    ∃ l : List Stp, l.length = len ∧ Stps W ad l ∧ (len = 0 ∨ ∃ e s, d = .slice e s ∧ e.length = len) ∧ (ad = none → len = 0) := by
  obtain ⟨fuel, hf⟩ := h
  rcases open_slice Try.underlying22 hf with ⟨hcs, hx⟩ | ⟨a, len', cap', m, n, D, Pl, hcs, _, hl, hm, hmm, hx, hel⟩
  · simp [Value.cells] at hcs
    obtain ⟨rfl, rfl, rfl⟩ := hcs
    exact ⟨[], rfl, .inl rfl, .inl rfl, fun _ => rfl⟩
  · simp [Value.cells] at hcs
    obtain ⟨rfl, rfl, rfl⟩ := hcs
    simp only [if_true] at hmm
    subst hmm
    simp only [Prod.mk.injEq] at hx
    rw [cellsNS] at hel
    have hex : ∀ i, i < len → ∃ V : Stp, ∀ j, j < 3 → W.cell? ((a.add (i * 3)).add j) = some (V.v j) := fun i hi => by
      obtain ⟨cs', h1, h2⟩ := hel i (by omega)
      obtain ⟨_, hln, hget⟩ := World.cells?_some h1
      obtain ⟨V, hV⟩ := open_stp_cells h2
      exact ⟨V, fun j hj => by rw [hget j hj, hV j hj]⟩
    have hin : Inhabited Stp := ⟨⟨0, 0, 0⟩⟩
    obtain ⟨f, hfv⟩ := choose_lt (α := Stp) hex
    refine ⟨(List.range len).map f, by simp, ?_, .inr ⟨_, _, hx.1, by simp⟩, fun h => by cases h⟩
    by_cases hl0 : len = 0
    · subst hl0; exact .inl rfl
    · obtain ⟨b, off, spot⟩ := a
      have hspot : spot = none := by simpa [Addr.add] using World.cell?_spot (hfv 0 (by omega) 0 (by omega))
      subst hspot
      have hadd : ∀ i j, ((⟨b, off, none⟩ : Addr).add (i * 3)).add j = ⟨b, off + i * 3 + j, none⟩ := fun i j => by
        rw [add_add]; unfold Addr.add; split <;> simp_all <;> omega
      refine .inr ⟨b, off, rfl, ?_, fun i s hs j hj => ?_⟩
      · have := hfv 0 (by omega) 0 (by omega)
        rw [hadd] at this
        exact World.block_lt_of_cell? _ _ this
      · have hi' : i < len := by simpa using (List.getElem?_eq_some_iff.1 hs).1
        rw [List.getElem?_map, List.getElem?_range hi'] at hs
        have hs' : f i = s := by simpa using hs
        have := hfv i hi' j hj
        rw [hadd, hs'] at this
        exact this
end
theorem never_row (a : Int) (_ : -9223372036854775808 ≤ a ∧ a ≤ 9223372036854775807) (b : Int) (_ : -9223372036854775808 ≤ b ∧ b ≤ 9223372036854775807) (ad : Option Addr) (n cap : Nat) (sc : List Stp) (hn : sc.length = n) (hz : n ≤ 5864062014634) (W : World) (hS : Stps W ad sc) : Calls Try.prog 3 #[.int .i64 a, .int .i64 b, .slice ad n cap] W fun e w' => e = .returned (.bool true) ∧ Below W.heap.size W w' := never_walk a b ad n cap sc hn hz W hS
end Go.Proofs.Ytbeoojnofblnjaa
