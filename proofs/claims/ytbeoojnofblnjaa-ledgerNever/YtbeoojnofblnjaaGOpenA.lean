/-
  The statements' arguments, opened: updates, counts.
-/
import Derived.Test.YtbeoojnofblnjaaRows
import Derived.Test.YtbeoojnofblnjaaGSpends
import Derived.ProofKit
import Derived.OpenShut
import Derived.SizedLaws
import Derived.Deep.Slices
namespace Go.Proofs.Ytbeoojnofblnjaa
open Go.ChangeShapes Go.WideShapes Go.ChangeAt Go.RowKit Go.Deep S
set_option linter.unusedVariables false
theorem cells5 : Try.prog.cellsOf 5 = 1 := by kernel_rfl
theorem cells26 : Try.prog.cellsOf 41 = 32 := by kernel_rfl
theorem cellsN2 : Try.prog.cellsOf 2 = 1 := by kernel_rfl
theorem cellsN4 : Try.prog.cellsOf 4 = 1 := by kernel_rfl
theorem cellsNU : Try.prog.cellsOf 43 = 36 := by kernel_rfl
theorem bytesNU : Try.prog.bytesOf 43 = 72 := by kernel_rfl
theorem cellsN3 : Try.prog.cellsOf 3 = 1 := by kernel_rfl
theorem cellsN9 : Try.prog.cellsOf 9 = 1 := by kernel_rfl
theorem one_cell {cs : List Value} {o : Nat} {v : Value} (h : (cs.drop o).take 1 = [v]) : cs[o]? = some v := by
  have := congrArg (fun l => l[0]?) h
  simpa [List.getElem?_take, List.getElem?_drop] using this
section
variable {H : Type} {enc : TypeId × Value → H} {W : World} {base : Nat} {spare : Nat → Bool} {held : Bool}
theorem open_upd_cells {n : Nat} {cs : List Value} {x : DataW H × List MemPlace} (h : DataW.trod enc Try.prog W base spare held n 43 cs = some x) :
    ∃ V : Upd, ∀ j, j < 36 → cs[j]? = some (V.v j) := by
  obtain ⟨xs, m, _, hx, hl, hlen, hf⟩ := DataW.trod_struct Try.underlying43 h
  have hl6 : xs.length = 5 := hlen
  have g : ∀ (i : Nat) (hi : i < xs.length), xs[i]? = some xs[i] := fun i hi => List.getElem?_eq_getElem hi
  have f0 : DataW.trod enc Try.prog W base spare held m 3 ((cs.drop 0).take (Try.prog.cellsOf 3)) = some xs[0] := (hf 0 _ rfl).trans (g 0 (by omega))
  have f1 : DataW.trod enc Try.prog W base spare held m 2 ((cs.drop 1).take (Try.prog.cellsOf 2)) = some xs[1] := (hf 1 _ rfl).trans (g 1 (by omega))
  have f2 : DataW.trod enc Try.prog W base spare held m 2 ((cs.drop 2).take (Try.prog.cellsOf 2)) = some xs[2] := (hf 2 _ rfl).trans (g 2 (by omega))
  have f3 : DataW.trod enc Try.prog W base spare held m 41 ((cs.drop 3).take (Try.prog.cellsOf 41)) = some xs[3] := (hf 3 _ rfl).trans (g 3 (by omega))
  have f4 : DataW.trod enc Try.prog W base spare held m 9 ((cs.drop 35).take (Try.prog.cellsOf 9)) = some xs[4] := (hf 4 _ rfl).trans (g 4 (by omega))
  rw [cellsN3] at f0
  rw [cellsN2] at f1 f2
  rw [cells26] at f3
  rw [cellsN9] at f4
  obtain ⟨z0, e0, _, w0⟩ := DataW.trod_int Try.underlying3 f0
  obtain ⟨z1, e1, _, w1⟩ := DataW.trod_int Try.underlying2 f1
  obtain ⟨z2, e2, _, w2⟩ := DataW.trod_int Try.underlying2 f2
  obtain ⟨s4, e4, _⟩ := DataW.trod_string Try.underlying9 f4
  obtain ⟨ys, m2, _, _, _, hyl, hall⟩ := DataW.trod_array Try.underlying41 f3
  have key : ∀ i, i < 32 → ∃ c : UInt8, cs[3 + i]? = some (.int .u8 (c.toNat : Int)) := fun i hi => by
    have h1 := hall i hi
    rw [cells5, Nat.mul_one, List.getElem?_eq_getElem (show i < ys.length by omega)] at h1
    obtain ⟨z, hz, _, wz⟩ := DataW.trod_int Try.underlying5 h1
    have hr : 0 ≤ z ∧ z ≤ 255 := by simpa [Lit.wf, IntKind.min, IntKind.max, IntKind.signed, IntKind.bits] using wz
    have hc : cs[3 + i]? = some (.int .u8 z) := by
      have := congrArg (fun l => l[0]?) hz
      simp only [List.getElem?_take, List.getElem?_drop, Nat.lt_add_one, if_true, Nat.add_zero, List.getElem?_cons_zero] at this
      rw [if_pos (by omega)] at this
      exact this
    refine ⟨UInt8.ofNat z.toNat, ?_⟩
    rw [hc, UInt8.toNat_ofNat', Nat.mod_eq_of_lt (by omega), Int.toNat_of_nonneg hr.1]
  refine ⟨⟨z0, z1, z2, fun i => match cs[3 + i]? with | some (.int _ z) => UInt8.ofNat z.toNat | _ => 0, s4⟩, fun j hj => ?_⟩
  unfold Upd.v
  by_cases h0 : j = 0
  · subst h0; rw [if_pos rfl]; exact one_cell e0
  rw [if_neg h0]
  by_cases h1 : j = 1
  · subst h1; rw [if_pos rfl]; exact one_cell e1
  rw [if_neg h1]
  by_cases h2 : j = 2
  · subst h2; rw [if_pos rfl]; exact one_cell e2
  rw [if_neg h2]
  by_cases h3 : j < 35
  · rw [if_pos h3]
    obtain ⟨c, hc⟩ := key (j - 3) (by omega)
    have e : cs[j]? = cs[3 + (j - 3)]? := by rw [show 3 + (j - 3) = j by omega]
    rw [e]
    simp only [hc, Int.toNat_natCast]
    refine congrArg some (int_eq ?_)
    rw [UInt8.toNat_ofNat', Nat.mod_eq_of_lt (by have := c.toNat_lt; omega)]
  · rw [if_neg h3, show j = 35 by omega]; exact one_cell e4
set_option maxRecDepth 100000 in
/-- An update among the arguments. -/
theorem open_upd {v : Value} {d : DataW H} {p : List MemPlace} (hv : Value.okWide Try.prog W .any base 43 v) (h : DataW.Trod enc Try.prog W 0 (fun _ => true) true 43 v d p) : ∃ V : Upd, v = .agg (tabv V.v 36) := by
  simp only [Value.okWide, Try.underlying43] at hv
  obtain ⟨cs, rfl, hsz, _⟩ := hv
  rw [cellsNU] at hsz
  obtain ⟨fuel, hf⟩ := h
  obtain ⟨V, hV⟩ := open_upd_cells hf
  refine ⟨V, congrArg Value.agg ?_⟩
  refine tabv_ext _ _ _ hsz fun i hi => ?_
  have := hV i hi
  simpa [Value.cells] using this
/-- A list of updates among the arguments. -/
theorem open_upds {ad : Option Addr} {len cap : Nat} {d : DataW H} {p : List MemPlace} (h : DataW.Trod enc Try.prog W 0 (fun _ => true) true 25 (.slice ad len cap) d p) :
    ∃ l : List Upd, l.length = len ∧ Upds W ad l ∧ (len = 0 ∨ ∃ e s, d = .slice e s ∧ e.length = len) ∧ len ≤ cap := by
  obtain ⟨fuel, hf⟩ := h
  rcases open_slice Try.underlying25 hf with ⟨hcs, hx⟩ | ⟨a, len', cap', m, n, D, Pl, hcs, _, hl, hm, hmm, hx, hel⟩
  · simp [Value.cells] at hcs
    obtain ⟨rfl, rfl, rfl⟩ := hcs
    exact ⟨[], rfl, .inl rfl, .inl rfl, Nat.le_refl _⟩
  · simp [Value.cells] at hcs
    obtain ⟨rfl, rfl, rfl⟩ := hcs
    simp only [if_true] at hmm
    subst hmm
    simp only [Prod.mk.injEq] at hx
    rw [cellsNU] at hel
    have hex : ∀ i, i < len → ∃ V : Upd, ∀ j, j < 36 → W.cell? ((a.add (i * 36)).add j) = some (V.v j) := fun i hi => by
      obtain ⟨cs', h1, h2⟩ := hel i (by omega)
      obtain ⟨_, hln, hget⟩ := World.cells?_some h1
      obtain ⟨V, hV⟩ := open_upd_cells h2
      exact ⟨V, fun j hj => by rw [hget j hj, hV j hj]⟩
    have hin : Inhabited Upd := ⟨Upd.zero⟩
    obtain ⟨f, hfv⟩ := choose_lt (α := Upd) hex
    refine ⟨(List.range len).map f, by simp, ?_, .inr ⟨_, _, hx.1, by simp⟩, hl⟩
    by_cases hl0 : len = 0
    · subst hl0; exact .inl rfl
    · obtain ⟨b, off, spot⟩ := a
      have hspot : spot = none := by simpa [Addr.add] using World.cell?_spot (hfv 0 (by omega) 0 (by omega))
      subst hspot
      have hadd : ∀ i j, ((⟨b, off, none⟩ : Addr).add (i * 36)).add j = ⟨b, off + i * 36 + j, none⟩ := fun i j => by
        rw [add_add]; unfold Addr.add; split <;> simp_all <;> omega
      refine .inr ⟨b, off, rfl, ?_, fun i s hs j hj => ?_⟩
      · have := hfv 0 (by omega) 0 (by omega)
        rw [hadd] at this
        exact World.block_lt_of_cell? _ _ this
      · have hi' : i < len := by simpa using (List.getElem?_eq_some_iff.1 hs).1
        rw [List.getElem?_map, List.getElem?_range hi'] at hs
        have hs' : f i = s := by simpa using hs
        have := hfv i hi' j hj
        rw [hadd, hs'] at this
        exact this
theorem cellsNC : Try.prog.cellsOf 51 = 2 := by kernel_rfl
/-- Counts among the arguments. -/
theorem open_counts {v : Value} {d : DataW H} {p : List MemPlace} (hv : Value.okWide Try.prog W .any base 51 v) (h : DataW.Trod enc Try.prog W 0 (fun _ => true) true 51 v d p) : ∃ x y : Int, v = .agg (tabv (cnv x y) 2) ∧ (-9223372036854775808 ≤ x ∧ x ≤ 9223372036854775807) ∧ (-9223372036854775808 ≤ y ∧ y ≤ 9223372036854775807) := by
  simp only [Value.okWide, Try.underlying51] at hv
  obtain ⟨cs, rfl, hsz, _⟩ := hv
  rw [cellsNC] at hsz
  obtain ⟨fuel, hf⟩ := h
  obtain ⟨xs, m, _, hx, hl, hlen, hff⟩ := DataW.trod_struct Try.underlying51 hf
  have hl6 : xs.length = 2 := hlen
  have g : ∀ (i : Nat) (hi : i < xs.length), xs[i]? = some xs[i] := fun i hi => List.getElem?_eq_getElem hi
  have f0 : DataW.trod enc Try.prog W 0 (fun _ => true) true m 3 (((Value.cells (.agg cs)).toList.drop 0).take (Try.prog.cellsOf 3)) = some xs[0] := (hff 0 _ rfl).trans (g 0 (by omega))
  have f1 : DataW.trod enc Try.prog W 0 (fun _ => true) true m 3 (((Value.cells (.agg cs)).toList.drop 1).take (Try.prog.cellsOf 3)) = some xs[1] := (hff 1 _ rfl).trans (g 1 (by omega))
  rw [cellsN3] at f0 f1
  obtain ⟨z0, e0, _, w0⟩ := DataW.trod_int Try.underlying3 f0
  obtain ⟨z1, e1, _, w1⟩ := DataW.trod_int Try.underlying3 f1
  refine ⟨z0, z1, congrArg Value.agg ?_, by simpa [Lit.wf, IntKind.min, IntKind.max, IntKind.signed, IntKind.bits] using w0, by simpa [Lit.wf, IntKind.min, IntKind.max, IntKind.signed, IntKind.bits] using w1⟩
  refine tabv_ext _ _ _ hsz fun i hi => ?_
  have a0 := one_cell e0
  have a1 := one_cell e1
  rw [Array.getElem?_toList] at a0 a1
  unfold cnv
  match i, hi with
  | 0, _ => exact a0
  | 1, _ => exact a1
end
-- left out in this seat: spends_row
end Go.Proofs.Ytbeoojnofblnjaa
