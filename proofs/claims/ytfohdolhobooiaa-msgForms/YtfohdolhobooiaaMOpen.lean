/-
  Messages, updates and hashes among the arguments (made by gen_m10.py out of wip/update/UOpen.lean).
-/
import Derived.Test.YtfohdolhobooiaaRows
import Derived.Test.YtfohdolhobooiaaMBase
import Derived.ProofKit
import Derived.OpenShut
import Derived.SizedLaws
import Derived.Deep.Slices
namespace Go.Proofs.Ytfohdolhobooiaa
open Go.ChangeShapes Go.WideShapes Go.ChangeAt Go.RowKit Go.Deep S
set_option linter.unusedVariables false
set_option linter.unusedSimpArgs false
theorem cells5 : Try.prog.cellsOf 5 = 1 := by kernel_rfl
theorem cells26 : Try.prog.cellsOf 23 = 32 := by kernel_rfl
set_option maxRecDepth 100000 in
/-- A hash among the arguments. -/
theorem open_hash {H : Type} {enc : TypeId × Value → H} {W : World} {base : Nat} {v : Value} {d : DataW H} {p : List MemPlace} (hv : Value.okWide Try.prog W .any base 23 v) (h : DataW.Trod enc Try.prog W 0 (fun _ => true) true 23 v d p) :
    ∃ f : Nat → UInt8, v = .agg (tabv (bv f) 32) ∧ p = [] := by
  simp only [Value.okWide, Try.underlying23] at hv
  obtain ⟨cs, rfl, hsz, _⟩ := hv
  rw [cells26] at hsz
  obtain ⟨fuel, hf⟩ := h
  obtain ⟨xs, m, _, hx, _, hlen, hall⟩ := DataW.trod_array Try.underlying23 hf
  have key : ∀ i, i < 32 → ∃ c : UInt8, cs[i]? = some (.int .u8 (c.toNat : Int)) ∧ ∃ y, xs[i]? = some y ∧ y.2 = [] := fun i hi => by
    have h1 := hall i hi
    have hxi : xs[i]? = some xs[i] := List.getElem?_eq_getElem (by omega)
    rw [cells5, Nat.mul_one, hxi] at h1
    obtain ⟨z, hz, hy, wz⟩ := DataW.trod_int Try.underlying5 h1
    have hr : 0 ≤ z ∧ z ≤ 255 := by simpa [Lit.wf, IntKind.min, IntKind.max, IntKind.signed, IntKind.bits] using wz
    have hc : cs[i]? = some (.int .u8 z) := by
      have := congrArg (fun l => l[0]?) hz
      simpa [List.getElem?_take, List.getElem?_drop, Value.cells] using this
    refine ⟨UInt8.ofNat z.toNat, ?_, _, hxi, by rw [hy]⟩
    rw [hc, UInt8.toNat_ofNat', Nat.mod_eq_of_lt (by omega), Int.toNat_of_nonneg hr.1]
  refine ⟨fun i => match cs[i]? with | some (.int _ z) => UInt8.ofNat z.toNat | _ => 0, ?_, ?_⟩
  · congr 1
    refine tabv_ext _ _ _ hsz fun i hi => ?_
    obtain ⟨c, hc, _⟩ := key i hi
    unfold bv
    simp only [hc, Int.toNat_natCast]
    congr 3
    rw [UInt8.toNat_ofNat', Nat.mod_eq_of_lt (by have := c.toNat_lt; omega)]
  · simp only [Prod.mk.injEq] at hx
    rw [hx.2, List.flatMap_eq_nil_iff]
    intro y hy
    obtain ⟨i, hi, rfl⟩ := List.mem_iff_getElem.1 hy
    obtain ⟨_, _, y, hy, h0⟩ := key i (by omega)
    rw [List.getElem?_eq_getElem hi] at hy
    cases hy
    exact h0
theorem cellsN2 : Try.prog.cellsOf 2 = 1 := by kernel_rfl
theorem cellsN4 : Try.prog.cellsOf 4 = 1 := by kernel_rfl
theorem cellsNU : Try.prog.cellsOf 34 = 36 := by kernel_rfl
theorem bytesNU : Try.prog.bytesOf 34 = 72 := by kernel_rfl
theorem cellsN3 : Try.prog.cellsOf 3 = 1 := by kernel_rfl
theorem cellsN9 : Try.prog.cellsOf 9 = 1 := by kernel_rfl
theorem one_cell {cs : List Value} {o : Nat} {v : Value} (h : (cs.drop o).take 1 = [v]) : cs[o]? = some v := by
  have := congrArg (fun l => l[0]?) h
  simpa [List.getElem?_take, List.getElem?_drop] using this
section
variable {H : Type} {enc : TypeId × Value → H} {W : World} {base : Nat} {spare : Nat → Bool} {held : Bool}
theorem open_upd_cells {n : Nat} {cs : List Value} {x : DataW H × List MemPlace} (h : DataW.trod enc Try.prog W base spare held n 34 cs = some x) :
    ∃ V : Upd, ∀ j, j < 36 → cs[j]? = some (V.v j) := by
  obtain ⟨xs, m, _, hx, hl, hlen, hf⟩ := DataW.trod_struct Try.underlying34 h
  have hl6 : xs.length = 5 := hlen
  have g : ∀ (i : Nat) (hi : i < xs.length), xs[i]? = some xs[i] := fun i hi => List.getElem?_eq_getElem hi
  have f0 : DataW.trod enc Try.prog W base spare held m 3 ((cs.drop 0).take (Try.prog.cellsOf 3)) = some xs[0] := (hf 0 _ rfl).trans (g 0 (by omega))
  have f1 : DataW.trod enc Try.prog W base spare held m 2 ((cs.drop 1).take (Try.prog.cellsOf 2)) = some xs[1] := (hf 1 _ rfl).trans (g 1 (by omega))
  have f2 : DataW.trod enc Try.prog W base spare held m 2 ((cs.drop 2).take (Try.prog.cellsOf 2)) = some xs[2] := (hf 2 _ rfl).trans (g 2 (by omega))
  have f3 : DataW.trod enc Try.prog W base spare held m 23 ((cs.drop 3).take (Try.prog.cellsOf 23)) = some xs[3] := (hf 3 _ rfl).trans (g 3 (by omega))
  have f4 : DataW.trod enc Try.prog W base spare held m 9 ((cs.drop 35).take (Try.prog.cellsOf 9)) = some xs[4] := (hf 4 _ rfl).trans (g 4 (by omega))
  rw [cellsN3] at f0
  rw [cellsN2] at f1 f2
  rw [cells26] at f3
  rw [cellsN9] at f4
  obtain ⟨z0, e0, _, w0⟩ := DataW.trod_int Try.underlying3 f0
  obtain ⟨z1, e1, _, w1⟩ := DataW.trod_int Try.underlying2 f1
  obtain ⟨z2, e2, _, w2⟩ := DataW.trod_int Try.underlying2 f2
  obtain ⟨s4, e4, _⟩ := DataW.trod_string Try.underlying9 f4
  obtain ⟨ys, m2, _, _, _, hyl, hall⟩ := DataW.trod_array Try.underlying23 f3
  have key : ∀ i, i < 32 → ∃ c : UInt8, cs[3 + i]? = some (.int .u8 (c.toNat : Int)) := fun i hi => by
    have h1 := hall i hi
    rw [cells5, Nat.mul_one, List.getElem?_eq_getElem (show i < ys.length by omega)] at h1
    obtain ⟨z, hz, _, wz⟩ := DataW.trod_int Try.underlying5 h1
    have hr : 0 ≤ z ∧ z ≤ 255 := by simpa [Lit.wf, IntKind.min, IntKind.max, IntKind.signed, IntKind.bits] using wz
    have hc : cs[3 + i]? = some (.int .u8 z) := by
      have := congrArg (fun l => l[0]?) hz
      simp only [List.getElem?_take, List.getElem?_drop, Nat.lt_add_one, if_true, Nat.add_zero, List.getElem?_cons_zero] at this
      rw [if_pos (by omega)] at this
      exact this
    refine ⟨UInt8.ofNat z.toNat, ?_⟩
    rw [hc, UInt8.toNat_ofNat', Nat.mod_eq_of_lt (by omega), Int.toNat_of_nonneg hr.1]
  refine ⟨⟨z0, z1, z2, fun i => match cs[3 + i]? with | some (.int _ z) => UInt8.ofNat z.toNat | _ => 0, s4⟩, fun j hj => ?_⟩
  unfold Upd.v
  by_cases h0 : j = 0
  · subst h0; rw [if_pos rfl]; exact one_cell e0
  rw [if_neg h0]
  by_cases h1 : j = 1
  · subst h1; rw [if_pos rfl]; exact one_cell e1
  rw [if_neg h1]
  by_cases h2 : j = 2
  · subst h2; rw [if_pos rfl]; exact one_cell e2
  rw [if_neg h2]
  by_cases h3 : j < 35
  · rw [if_pos h3]
    obtain ⟨c, hc⟩ := key (j - 3) (by omega)
    have e : cs[j]? = cs[3 + (j - 3)]? := by rw [show 3 + (j - 3) = j by omega]
    rw [e]
    simp only [hc, Int.toNat_natCast]
    refine congrArg some (int_eq ?_)
    rw [UInt8.toNat_ofNat', Nat.mod_eq_of_lt (by have := c.toNat_lt; omega)]
  · rw [if_neg h3, show j = 35 by omega]; exact one_cell e4
set_option maxRecDepth 100000 in
/-- An update among the arguments. -/
theorem open_upd {v : Value} {d : DataW H} {p : List MemPlace} (hv : Value.okWide Try.prog W .any base 34 v) (h : DataW.Trod enc Try.prog W 0 (fun _ => true) true 34 v d p) : ∃ V : Upd, v = .agg (tabv V.v 36) := by
  simp only [Value.okWide, Try.underlying34] at hv
  obtain ⟨cs, rfl, hsz, _⟩ := hv
  rw [cellsNU] at hsz
  obtain ⟨fuel, hf⟩ := h
  obtain ⟨V, hV⟩ := open_upd_cells hf
  refine ⟨V, congrArg Value.agg ?_⟩
  refine tabv_ext _ _ _ hsz fun i hi => ?_
  have := hV i hi
  simpa [Value.cells] using this
theorem cellsNM : Try.prog.cellsOf 25 = 70 := by kernel_rfl
theorem hash_cells {n : Nat} {cs : List Value} {o : Nat} {x : DataW H × List MemPlace} (h : DataW.trod enc Try.prog W base spare held n 23 ((cs.drop o).take 32) = some x) : ∀ i, i < 32 → ∃ c : UInt8, cs[o + i]? = some (.int .u8 (c.toNat : Int)) := fun i hi => by
  obtain ⟨ys, m2, _, _, _, hyl, hall⟩ := DataW.trod_array Try.underlying23 h
  have h1 := hall i hi
  rw [cells5, Nat.mul_one, List.getElem?_eq_getElem (show i < ys.length by omega)] at h1
  obtain ⟨z, hz, _, wz⟩ := DataW.trod_int Try.underlying5 h1
  have hr : 0 ≤ z ∧ z ≤ 255 := by simpa [Lit.wf, IntKind.min, IntKind.max, IntKind.signed, IntKind.bits] using wz
  have hc : cs[o + i]? = some (.int .u8 z) := by
    have := congrArg (fun l => l[0]?) hz
    simp only [List.getElem?_take, List.getElem?_drop, Nat.lt_add_one, if_true, Nat.add_zero, List.getElem?_cons_zero] at this
    rw [if_pos (by omega)] at this
    exact this
  refine ⟨UInt8.ofNat z.toNat, ?_⟩
  rw [hc, UInt8.toNat_ofNat', Nat.mod_eq_of_lt (by omega), Int.toNat_of_nonneg hr.1]
theorem open_msg_cells {n : Nat} {cs : List Value} {x : DataW H × List MemPlace} (h : DataW.trod enc Try.prog W base spare held n 25 cs = some x) :
    ∃ V : Msg, ∀ j, j < 70 → cs[j]? = some (V.v j) := by
  obtain ⟨xs, m, _, hx, hl, hlen, hf⟩ := DataW.trod_struct Try.underlying25 h
  have hl8 : xs.length = 8 := hlen
  have g : ∀ (i : Nat) (hi : i < xs.length), xs[i]? = some xs[i] := fun i hi => List.getElem?_eq_getElem hi
  have f0 : DataW.trod enc Try.prog W base spare held m 3 ((cs.drop 0).take (Try.prog.cellsOf 3)) = some xs[0] := (hf 0 _ rfl).trans (g 0 (by omega))
  have f1 : DataW.trod enc Try.prog W base spare held m 2 ((cs.drop 1).take (Try.prog.cellsOf 2)) = some xs[1] := (hf 1 _ rfl).trans (g 1 (by omega))
  have f2 : DataW.trod enc Try.prog W base spare held m 2 ((cs.drop 2).take (Try.prog.cellsOf 2)) = some xs[2] := (hf 2 _ rfl).trans (g 2 (by omega))
  have f3 : DataW.trod enc Try.prog W base spare held m 2 ((cs.drop 3).take (Try.prog.cellsOf 2)) = some xs[3] := (hf 3 _ rfl).trans (g 3 (by omega))
  have f4 : DataW.trod enc Try.prog W base spare held m 2 ((cs.drop 4).take (Try.prog.cellsOf 2)) = some xs[4] := (hf 4 _ rfl).trans (g 4 (by omega))
  have f5 : DataW.trod enc Try.prog W base spare held m 23 ((cs.drop 5).take (Try.prog.cellsOf 23)) = some xs[5] := (hf 5 _ rfl).trans (g 5 (by omega))
  have f6 : DataW.trod enc Try.prog W base spare held m 23 ((cs.drop 37).take (Try.prog.cellsOf 23)) = some xs[6] := (hf 6 _ rfl).trans (g 6 (by omega))
  have f7 : DataW.trod enc Try.prog W base spare held m 9 ((cs.drop 69).take (Try.prog.cellsOf 9)) = some xs[7] := (hf 7 _ rfl).trans (g 7 (by omega))
  rw [cellsN3] at f0
  rw [cellsN2] at f1 f2 f3 f4
  rw [cells26] at f5 f6
  rw [cellsN9] at f7
  obtain ⟨z0, e0, _, w0⟩ := DataW.trod_int Try.underlying3 f0
  obtain ⟨z1, e1, _, w1⟩ := DataW.trod_int Try.underlying2 f1
  obtain ⟨z2, e2, _, w2⟩ := DataW.trod_int Try.underlying2 f2
  obtain ⟨z3, e3, _, w3⟩ := DataW.trod_int Try.underlying2 f3
  obtain ⟨z4, e4, _, w4⟩ := DataW.trod_int Try.underlying2 f4
  obtain ⟨s7, e7, _⟩ := DataW.trod_string Try.underlying9 f7
  have k5 := hash_cells f5
  have k6 := hash_cells f6
  refine ⟨⟨z0, z1, z2, z3, z4, fun i => match cs[5 + i]? with | some (.int _ z) => UInt8.ofNat z.toNat | _ => 0, fun i => match cs[37 + i]? with | some (.int _ z) => UInt8.ofNat z.toNat | _ => 0, s7⟩, fun j hj => ?_⟩
  unfold Msg.v
  by_cases h0 : j = 0
  · subst h0; rw [if_pos rfl]; exact one_cell e0
  rw [if_neg h0]
  by_cases h1 : j = 1
  · subst h1; rw [if_pos rfl]; exact one_cell e1
  rw [if_neg h1]
  by_cases h2 : j = 2
  · subst h2; rw [if_pos rfl]; exact one_cell e2
  rw [if_neg h2]
  by_cases h3 : j = 3
  · subst h3; rw [if_pos rfl]; exact one_cell e3
  rw [if_neg h3]
  by_cases h4 : j = 4
  · subst h4; rw [if_pos rfl]; exact one_cell e4
  rw [if_neg h4]
  by_cases h5 : j < 37
  · rw [if_pos h5]
    obtain ⟨c, hc⟩ := k5 (j - 5) (by omega)
    have e : cs[j]? = cs[5 + (j - 5)]? := by rw [show 5 + (j - 5) = j by omega]
    rw [e]
    simp only [hc, Int.toNat_natCast]
    refine congrArg some (int_eq ?_)
    rw [UInt8.toNat_ofNat', Nat.mod_eq_of_lt (by have := c.toNat_lt; omega)]
  rw [if_neg h5]
  by_cases h6 : j < 69
  · rw [if_pos h6]
    obtain ⟨c, hc⟩ := k6 (j - 37) (by omega)
    have e : cs[j]? = cs[37 + (j - 37)]? := by rw [show 37 + (j - 37) = j by omega]
    rw [e]
    simp only [hc, Int.toNat_natCast]
    refine congrArg some (int_eq ?_)
    rw [UInt8.toNat_ofNat', Nat.mod_eq_of_lt (by have := c.toNat_lt; omega)]
  rw [if_neg h6]
  rw [show j = 69 by omega]; exact one_cell e7
set_option maxRecDepth 100000 in
/-- A message among the arguments. -/
theorem open_msg {v : Value} {d : DataW H} {p : List MemPlace} (hv : Value.okWide Try.prog W .any base 25 v) (h : DataW.Trod enc Try.prog W 0 (fun _ => true) true 25 v d p) : ∃ V : Msg, v = .agg (tabv V.v 70) := by
  simp only [Value.okWide, Try.underlying25] at hv
  obtain ⟨cs, rfl, hsz, _⟩ := hv
  rw [cellsNM] at hsz
  obtain ⟨fuel, hf⟩ := h
  obtain ⟨V, hV⟩ := open_msg_cells hf
  refine ⟨V, congrArg Value.agg ?_⟩
  refine tabv_ext _ _ _ hsz fun i hi => ?_
  have := hV i hi
  simpa [Value.cells] using this
end
end Go.Proofs.Ytfohdolhobooiaa
