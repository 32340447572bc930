/-
  A shelf among the arguments, opened.
-/
import Derived.Test.YtocojkafdgmgdaaDoorRows
import Derived.Test.YtocojkafdgmgdaaDoorPBase
import Derived.ProofKit
import Derived.OpenShut
import Derived.SizedLaws
import Derived.Deep.Slices
namespace Go.Proofs.YtocojkafdgmgdaaDoor
open Go.ChangeShapes Go.WideShapes Go.ChangeAt Go.RowKit Go.Deep S
set_option linter.unusedVariables false
set_option linter.unusedSimpArgs false
theorem cellsN2 : Tryd.prog.cellsOf 2 = 1 := by kernel_rfl
theorem cellsN4 : Tryd.prog.cellsOf 4 = 1 := by kernel_rfl
theorem cellsNS : Tryd.prog.cellsOf 37 = 34 := by kernel_rfl
theorem bytesNS : Tryd.prog.bytesOf 37 = 48 := by kernel_rfl
theorem one_cell {cs : List Value} {o : Nat} {v : Value} (h : (cs.drop o).take 1 = [v]) : cs[o]? = some v := by
  have := congrArg (fun l => l[0]?) h
  simpa [List.getElem?_take, List.getElem?_drop] using this
section
variable {H : Type} {enc : TypeId × Value → H} {W : World} {base : Nat} {spare : Nat → Bool} {held : Bool}
theorem open_slot {n : Nat} {cs : List Value} {x : DataW H × List MemPlace} (h : DataW.trod enc Tryd.prog W base spare held n 37 cs = some x) :
    ∃ V : Slot, ∀ j, j < 34 → cs[j]? = some (V.v j) := by
  obtain ⟨xs, m, _, hx, hl, hlen, hf⟩ := DataW.trod_struct Tryd.underlying37 h
  have hl6 : xs.length = 3 := hlen
  have g : ∀ (i : Nat) (hi : i < xs.length), xs[i]? = some xs[i] := fun i hi => List.getElem?_eq_getElem hi
  have f0 : DataW.trod enc Tryd.prog W base spare held m 2 ((cs.drop 0).take (Tryd.prog.cellsOf 2)) = some xs[0] := (hf 0 _ rfl).trans (g 0 (by omega))
  have f1 : DataW.trod enc Tryd.prog W base spare held m 23 ((cs.drop 1).take (Tryd.prog.cellsOf 23)) = some xs[1] := (hf 1 _ rfl).trans (g 1 (by omega))
  have f2 : DataW.trod enc Tryd.prog W base spare held m 4 ((cs.drop 33).take (Tryd.prog.cellsOf 4)) = some xs[2] := (hf 2 _ rfl).trans (g 2 (by omega))
  rw [cellsN2] at f0
  rw [cells26] at f1
  rw [cellsN4] at f2
  obtain ⟨z0, e0, _, w0⟩ := DataW.trod_int Tryd.underlying2 f0
  obtain ⟨b2, e2, _⟩ := DataW.trod_bool Tryd.underlying4 f2
  obtain ⟨ys, m2, _, _, _, hyl, hall⟩ := DataW.trod_array Tryd.underlying23 f1
  have key : ∀ i, i < 32 → ∃ c : UInt8, cs[1 + i]? = some (.int .u8 (c.toNat : Int)) := fun i hi => by
    have h1 := hall i hi
    rw [cells5, Nat.mul_one, List.getElem?_eq_getElem (show i < ys.length by omega)] at h1
    obtain ⟨z, hz, _, wz⟩ := DataW.trod_int Tryd.underlying5 h1
    have hr : 0 ≤ z ∧ z ≤ 255 := by simpa [Lit.wf, IntKind.min, IntKind.max, IntKind.signed, IntKind.bits] using wz
    have hc : cs[1 + i]? = some (.int .u8 z) := by
      have := congrArg (fun l => l[0]?) hz
      simp only [List.getElem?_take, List.getElem?_drop, Nat.lt_add_one, if_true, Nat.add_zero, List.getElem?_cons_zero] at this
      rw [if_pos (by omega)] at this
      exact this
    refine ⟨UInt8.ofNat z.toNat, ?_⟩
    rw [hc, UInt8.toNat_ofNat', Nat.mod_eq_of_lt (by omega), Int.toNat_of_nonneg hr.1]
  refine ⟨⟨z0, fun i => match cs[1 + i]? with | some (.int _ z) => UInt8.ofNat z.toNat | _ => 0, b2⟩, fun j hj => ?_⟩
  unfold Slot.v
  by_cases h0 : j = 0
  · subst h0; rw [if_pos rfl]; exact one_cell e0
  · rw [if_neg h0]
    by_cases h3 : j < 33
    · rw [if_pos h3]
      obtain ⟨c, hc⟩ := key (j - 1) (by omega)
      have e : cs[j]? = cs[1 + (j - 1)]? := by rw [show 1 + (j - 1) = j by omega]
      rw [e]
      simp only [hc, Int.toNat_natCast]
      congr 3
      rw [UInt8.toNat_ofNat', Nat.mod_eq_of_lt (by have := c.toNat_lt; omega)]
    · rw [if_neg h3, show j = 33 by omega]; exact one_cell e2
/-- A list of slots among the arguments. -/
theorem open_slots {ad : Option Addr} {len cap : Nat} {d : DataW H} {p : List MemPlace} (h : DataW.Trod enc Tryd.prog W 0 (fun _ => true) true 25 (.slice ad len cap) d p) :
    ∃ l : List Slot, l.length = len ∧ Slots W ad l ∧ (len = 0 ∨ ∃ e s, d = .slice e s ∧ e.length = len) ∧ (ad = none → len = 0) := by
  obtain ⟨fuel, hf⟩ := h
  rcases open_slice Tryd.underlying25 hf with ⟨hcs, hx⟩ | ⟨a, len', cap', m, n, D, Pl, hcs, _, hl, hm, hmm, hx, hel⟩
  · simp [Value.cells] at hcs
    obtain ⟨rfl, rfl, rfl⟩ := hcs
    exact ⟨[], rfl, .inl rfl, .inl rfl, fun _ => rfl⟩
  · simp [Value.cells] at hcs
    obtain ⟨rfl, rfl, rfl⟩ := hcs
    simp only [if_true] at hmm
    subst hmm
    simp only [Prod.mk.injEq] at hx
    rw [cellsNS] at hel
    have hex : ∀ i, i < len → ∃ V : Slot, ∀ j, j < 34 → W.cell? ((a.add (i * 34)).add j) = some (V.v j) := fun i hi => by
      obtain ⟨cs', h1, h2⟩ := hel i (by omega)
      obtain ⟨_, hln, hget⟩ := World.cells?_some h1
      obtain ⟨V, hV⟩ := open_slot h2
      exact ⟨V, fun j hj => by rw [hget j hj, hV j hj]⟩
    have hin : Inhabited Slot := ⟨Slot.zero⟩
    obtain ⟨f, hfv⟩ := choose_lt (α := Slot) hex
    refine ⟨(List.range len).map f, by simp, ?_, .inr ⟨_, _, hx.1, by simp⟩, fun h => by cases h⟩
    by_cases hl0 : len = 0
    · subst hl0; exact .inl rfl
    · obtain ⟨b, off, spot⟩ := a
      have hspot : spot = none := by simpa [Addr.add] using World.cell?_spot (hfv 0 (by omega) 0 (by omega))
      subst hspot
      have hadd : ∀ i j, ((⟨b, off, none⟩ : Addr).add (i * 34)).add j = ⟨b, off + i * 34 + j, none⟩ := fun i j => by
        rw [add_add]; unfold Addr.add; split <;> simp_all <;> omega
      refine .inr ⟨b, off, rfl, ?_, fun i s hs j hj => ?_⟩
      · have := hfv 0 (by omega) 0 (by omega)
        rw [hadd] at this
        exact World.block_lt_of_cell? _ _ this
      · have hi' : i < len := by simpa using (List.getElem?_eq_some_iff.1 hs).1
        rw [List.getElem?_map, List.getElem?_range hi'] at hs
        have hs' : f i = s := by simpa using hs
        have := hfv i hi' j hj
        rw [hadd, hs'] at this
        exact this
end
end Go.Proofs.YtocojkafdgmgdaaDoor
