/-
  What the row's list gives: the two tables; a hash among the arguments.
-/
import Derived.Test.YtoepmlagolfhcaaDoorRows
import Derived.Test.YtoepmlagolfhcaaDoorUBase
import Derived.ProofKit
import Derived.OpenShut
import Derived.Lib.LaidTab
import Derived.SizedLaws
import Derived.Deep.Slices
namespace Go.Proofs.YtoepmlagolfhcaaDoor
open Go.ChangeShapes Go.WideShapes Go.ChangeAt Go.RowKit Go.Deep S
set_option linter.unusedVariables false
set_option linter.unusedSimpArgs false
/-- The numbers as they are. -/
def num : Num := ⟨fun b => (b.toNat : Int), fun _ => rfl⟩
theorem gRounds : Tryd.prog.globalNamed "escrow/hash.rounds" = some 1 := by kernel_rfl
theorem gFirst : Tryd.prog.globalNamed "escrow/hash.first" = some 0 := by kernel_rfl
theorem tRounds : (Tryd.prog.globals[1]?).map (·.type) = some 95 := by kernel_rfl
theorem tFirst : (Tryd.prog.globals[0]?).map (·.type) = some 81 := by kernel_rfl
theorem cells59 : Tryd.prog.cellsOf 95 = 64 := by kernel_rfl
theorem cells43 : Tryd.prog.cellsOf 81 = 8 := by kernel_rfl
theorem cells42 : Tryd.prog.cellsOf 80 = 1 := by kernel_rfl
theorem cells5 : Tryd.prog.cellsOf 5 = 1 := by kernel_rfl
theorem cells26 : Tryd.prog.cellsOf 23 = 32 := by kernel_rfl
def kInts : List Int := Ks.map fun b => (b.toNat : Int)
def fInts : List Int := Fs.map fun b => (b.toNat : Int)
theorem laid_glob {W : World} (h : laidMetH Tryd.prog Rows.updateLimitsRow.laid W) (h2 : 2 ≤ W.heap.size) : Glob num W := by
  have h' : laidMet Tryd.prog Rows.updateLimitsRow.laid W := h
  obtain ⟨ps, ⟨g0, t0, cs0, f0, p0, q0, hg0, ht0, hv0, hd0, ⟨g1, t1, cs1, f1, p1, q1, hg1, ht1, hv1, hd1, _, _⟩, _⟩, _, _⟩ := h'
  obtain rfl := Option.some.inj (gRounds.symm.trans hg0)
  obtain rfl := Option.some.inj (gFirst.symm.trans hg1)
  obtain rfl := Option.some.inj (tRounds.symm.trans ht0)
  obtain rfl := Option.some.inj (tFirst.symm.trans ht1)
  have e0 := Lib.cells_of_tab Tryd.underlying95 Tryd.underlying80 cells42 cells59 (zs := kInts) hd0
  have e1 := Lib.cells_of_tab Tryd.underlying81 Tryd.underlying80 cells42 cells43 (zs := fInts) hd1
  refine ⟨fun i hi => ?_, fun i hi => ?_, h2⟩
  · have hc := World.var?_cell hg0 hv0 i
    rw [hc]
    have hg : cs0[i]? = cs0.toList[i]? := by rw [Array.getElem?_toList]
    rw [hg, e0]
    unfold kInts K wv num
    have hl : i < Ks.length := hi
    rw [List.getElem?_map, List.getElem?_map, List.getElem?_eq_getElem hl]
    show some (Value.int .u32 ((Ks[i].toNat : Nat) : Int)) = some (.int .u32 (((Ks.getD i 0#32).toNat : Nat) : Int))
    rw [List.getD_eq_getElem?_getD, List.getElem?_eq_getElem hl]
    rfl
  · have hc := World.var?_cell hg1 hv1 i
    rw [hc]
    have hg : cs1[i]? = cs1.toList[i]? := by rw [Array.getElem?_toList]
    rw [hg, e1]
    unfold fInts first wv num
    have hl : i < Fs.length := hi
    rw [List.getElem?_map, List.getElem?_map, List.getElem?_eq_getElem hl]
    show some (Value.int .u32 ((Fs[i].toNat : Nat) : Int)) = some (.int .u32 (((Fs.getD i 0#32).toNat : Nat) : Int))
    rw [List.getD_eq_getElem?_getD, List.getElem?_eq_getElem hl]
    rfl
/-- A world in which the tables stand has two blocks. -/
theorem laid_two {W : World} (h : laidMetH Tryd.prog Rows.updateLimitsRow.laid W) : 2 ≤ W.heap.size := by
  have h' : laidMet Tryd.prog Rows.updateLimitsRow.laid W := h
  obtain ⟨ps, ⟨g0, t0, cs0, f0, p0, q0, hg0, ht0, hv0, hd0, _, _⟩, _, _⟩ := h'
  obtain rfl := Option.some.inj (gRounds.symm.trans hg0)
  obtain rfl := Option.some.inj (tRounds.symm.trans ht0)
  have e0 := Lib.cells_of_tab Tryd.underlying95 Tryd.underlying80 cells42 cells59 (zs := kInts) hd0
  have hc := World.var?_cell hg0 hv0 0
  have hg : cs0[0]? = cs0.toList[0]? := by rw [Array.getElem?_toList]
  rw [hg, e0] at hc
  have := block_lt_of_cell hc
  simp only at this
  omega
set_option maxRecDepth 100000 in
/-- A hash among the arguments. -/
theorem open_hash {H : Type} {enc : TypeId × Value → H} {W : World} {base : Nat} {v : Value} {d : DataW H} {p : List MemPlace} (hv : Value.okWide Tryd.prog W .any base 23 v) (h : DataW.Trod enc Tryd.prog W 0 (fun _ => true) true 23 v d p) :
    ∃ f : Nat → UInt8, v = .agg (tabv (bv f) 32) ∧ p = [] := by
  simp only [Value.okWide, Tryd.underlying23] at hv
  obtain ⟨cs, rfl, hsz, _⟩ := hv
  rw [cells26] at hsz
  obtain ⟨fuel, hf⟩ := h
  obtain ⟨xs, m, _, hx, _, hlen, hall⟩ := DataW.trod_array Tryd.underlying23 hf
  have key : ∀ i, i < 32 → ∃ c : UInt8, cs[i]? = some (.int .u8 (c.toNat : Int)) ∧ ∃ y, xs[i]? = some y ∧ y.2 = [] := fun i hi => by
    have h1 := hall i hi
    have hxi : xs[i]? = some xs[i] := List.getElem?_eq_getElem (by omega)
    rw [cells5, Nat.mul_one, hxi] at h1
    obtain ⟨z, hz, hy, wz⟩ := DataW.trod_int Tryd.underlying5 h1
    have hr : 0 ≤ z ∧ z ≤ 255 := by simpa [Lit.wf, IntKind.min, IntKind.max, IntKind.signed, IntKind.bits] using wz
    have hc : cs[i]? = some (.int .u8 z) := by
      have := congrArg (fun l => l[0]?) hz
      simpa [List.getElem?_take, List.getElem?_drop, Value.cells] using this
    refine ⟨UInt8.ofNat z.toNat, ?_, _, hxi, by rw [hy]⟩
    rw [hc, UInt8.toNat_ofNat', Nat.mod_eq_of_lt (by omega), Int.toNat_of_nonneg hr.1]
  refine ⟨fun i => match cs[i]? with | some (.int _ z) => UInt8.ofNat z.toNat | _ => 0, ?_, ?_⟩
  · congr 1
    refine tabv_ext _ _ _ hsz fun i hi => ?_
    obtain ⟨c, hc, _⟩ := key i hi
    unfold bv
    simp only [hc, Int.toNat_natCast]
    congr 3
    rw [UInt8.toNat_ofNat', Nat.mod_eq_of_lt (by have := c.toNat_lt; omega)]
  · simp only [Prod.mk.injEq] at hx
    rw [hx.2, List.flatMap_eq_nil_iff]
    intro y hy
    obtain ⟨i, hi, rfl⟩ := List.mem_iff_getElem.1 hy
    obtain ⟨_, _, y, hy, h0⟩ := key i (by omega)
    rw [List.getElem?_eq_getElem hi] at hy
    cases hy
    exact h0
def layCells (cs : Array Value) (o : Obj) : Obj := match o with
  | .cells _ t frozen => .cells cs t frozen
  | o => o
def laidWorldOf (w : World) : World :=
  { w with heap := (w.heap.modify 0 (layCells (tabv (wv num first) 8))).modify 1 (layCells (tabv (wv num K) 64)) }
theorem cellsN2 : Tryd.prog.cellsOf 2 = 1 := by kernel_rfl
theorem cellsN4 : Tryd.prog.cellsOf 4 = 1 := by kernel_rfl
theorem cellsNU : Tryd.prog.cellsOf 26 = 36 := by kernel_rfl
theorem bytesNU : Tryd.prog.bytesOf 26 = 72 := by kernel_rfl
theorem cellsN3 : Tryd.prog.cellsOf 3 = 1 := by kernel_rfl
theorem cellsN9 : Tryd.prog.cellsOf 9 = 1 := by kernel_rfl
theorem one_cell {cs : List Value} {o : Nat} {v : Value} (h : (cs.drop o).take 1 = [v]) : cs[o]? = some v := by
  have := congrArg (fun l => l[0]?) h
  simpa [List.getElem?_take, List.getElem?_drop] using this
section
variable {H : Type} {enc : TypeId × Value → H} {W : World} {base : Nat} {spare : Nat → Bool} {held : Bool}
theorem open_upd_cells {n : Nat} {cs : List Value} {x : DataW H × List MemPlace} (h : DataW.trod enc Tryd.prog W base spare held n 26 cs = some x) :
    ∃ V : Upd, ∀ j, j < 36 → cs[j]? = some (V.v j) := by
  obtain ⟨xs, m, _, hx, hl, hlen, hf⟩ := DataW.trod_struct Tryd.underlying26 h
  have hl6 : xs.length = 5 := hlen
  have g : ∀ (i : Nat) (hi : i < xs.length), xs[i]? = some xs[i] := fun i hi => List.getElem?_eq_getElem hi
  have f0 : DataW.trod enc Tryd.prog W base spare held m 3 ((cs.drop 0).take (Tryd.prog.cellsOf 3)) = some xs[0] := (hf 0 _ rfl).trans (g 0 (by omega))
  have f1 : DataW.trod enc Tryd.prog W base spare held m 2 ((cs.drop 1).take (Tryd.prog.cellsOf 2)) = some xs[1] := (hf 1 _ rfl).trans (g 1 (by omega))
  have f2 : DataW.trod enc Tryd.prog W base spare held m 2 ((cs.drop 2).take (Tryd.prog.cellsOf 2)) = some xs[2] := (hf 2 _ rfl).trans (g 2 (by omega))
  have f3 : DataW.trod enc Tryd.prog W base spare held m 23 ((cs.drop 3).take (Tryd.prog.cellsOf 23)) = some xs[3] := (hf 3 _ rfl).trans (g 3 (by omega))
  have f4 : DataW.trod enc Tryd.prog W base spare held m 9 ((cs.drop 35).take (Tryd.prog.cellsOf 9)) = some xs[4] := (hf 4 _ rfl).trans (g 4 (by omega))
  rw [cellsN3] at f0
  rw [cellsN2] at f1 f2
  rw [cells26] at f3
  rw [cellsN9] at f4
  obtain ⟨z0, e0, _, w0⟩ := DataW.trod_int Tryd.underlying3 f0
  obtain ⟨z1, e1, _, w1⟩ := DataW.trod_int Tryd.underlying2 f1
  obtain ⟨z2, e2, _, w2⟩ := DataW.trod_int Tryd.underlying2 f2
  obtain ⟨s4, e4, _⟩ := DataW.trod_string Tryd.underlying9 f4
  obtain ⟨ys, m2, _, _, _, hyl, hall⟩ := DataW.trod_array Tryd.underlying23 f3
  have key : ∀ i, i < 32 → ∃ c : UInt8, cs[3 + i]? = some (.int .u8 (c.toNat : Int)) := fun i hi => by
    have h1 := hall i hi
    rw [cells5, Nat.mul_one, List.getElem?_eq_getElem (show i < ys.length by omega)] at h1
    obtain ⟨z, hz, _, wz⟩ := DataW.trod_int Tryd.underlying5 h1
    have hr : 0 ≤ z ∧ z ≤ 255 := by simpa [Lit.wf, IntKind.min, IntKind.max, IntKind.signed, IntKind.bits] using wz
    have hc : cs[3 + i]? = some (.int .u8 z) := by
      have := congrArg (fun l => l[0]?) hz
      simp only [List.getElem?_take, List.getElem?_drop, Nat.lt_add_one, if_true, Nat.add_zero, List.getElem?_cons_zero] at this
      rw [if_pos (by omega)] at this
      exact this
    refine ⟨UInt8.ofNat z.toNat, ?_⟩
    rw [hc, UInt8.toNat_ofNat', Nat.mod_eq_of_lt (by omega), Int.toNat_of_nonneg hr.1]
  refine ⟨⟨z0, z1, z2, fun i => match cs[3 + i]? with | some (.int _ z) => UInt8.ofNat z.toNat | _ => 0, s4⟩, fun j hj => ?_⟩
  unfold Upd.v
  by_cases h0 : j = 0
  · subst h0; rw [if_pos rfl]; exact one_cell e0
  rw [if_neg h0]
  by_cases h1 : j = 1
  · subst h1; rw [if_pos rfl]; exact one_cell e1
  rw [if_neg h1]
  by_cases h2 : j = 2
  · subst h2; rw [if_pos rfl]; exact one_cell e2
  rw [if_neg h2]
  by_cases h3 : j < 35
  · rw [if_pos h3]
    obtain ⟨c, hc⟩ := key (j - 3) (by omega)
    have e : cs[j]? = cs[3 + (j - 3)]? := by rw [show 3 + (j - 3) = j by omega]
    rw [e]
    simp only [hc, Int.toNat_natCast]
    refine congrArg some (int_eq ?_)
    rw [UInt8.toNat_ofNat', Nat.mod_eq_of_lt (by have := c.toNat_lt; omega)]
  · rw [if_neg h3, show j = 35 by omega]; exact one_cell e4
set_option maxRecDepth 100000 in
/-- An update among the arguments. -/
theorem open_upd {v : Value} {d : DataW H} {p : List MemPlace} (hv : Value.okWide Tryd.prog W .any base 26 v) (h : DataW.Trod enc Tryd.prog W 0 (fun _ => true) true 26 v d p) : ∃ V : Upd, v = .agg (tabv V.v 36) := by
  simp only [Value.okWide, Tryd.underlying26] at hv
  obtain ⟨cs, rfl, hsz, _⟩ := hv
  rw [cellsNU] at hsz
  obtain ⟨fuel, hf⟩ := h
  obtain ⟨V, hV⟩ := open_upd_cells hf
  refine ⟨V, congrArg Value.agg ?_⟩
  refine tabv_ext _ _ _ hsz fun i hi => ?_
  have := hV i hi
  simpa [Value.cells] using this
/-- A list of updates among the arguments. -/
theorem open_upds {ad : Option Addr} {len cap : Nat} {d : DataW H} {p : List MemPlace} (h : DataW.Trod enc Tryd.prog W 0 (fun _ => true) true 35 (.slice ad len cap) d p) :
    ∃ l : List Upd, l.length = len ∧ Upds W ad l ∧ (len = 0 ∨ ∃ e s, d = .slice e s ∧ e.length = len) ∧ (ad = none → len = 0) := by
  obtain ⟨fuel, hf⟩ := h
  rcases open_slice Tryd.underlying35 hf with ⟨hcs, hx⟩ | ⟨a, len', cap', m, n, D, Pl, hcs, _, hl, hm, hmm, hx, hel⟩
  · simp [Value.cells] at hcs
    obtain ⟨rfl, rfl, rfl⟩ := hcs
    exact ⟨[], rfl, .inl rfl, .inl rfl, fun _ => rfl⟩
  · simp [Value.cells] at hcs
    obtain ⟨rfl, rfl, rfl⟩ := hcs
    simp only [if_true] at hmm
    subst hmm
    simp only [Prod.mk.injEq] at hx
    rw [cellsNU] at hel
    have hex : ∀ i, i < len → ∃ V : Upd, ∀ j, j < 36 → W.cell? ((a.add (i * 36)).add j) = some (V.v j) := fun i hi => by
      obtain ⟨cs', h1, h2⟩ := hel i (by omega)
      obtain ⟨_, hln, hget⟩ := World.cells?_some h1
      obtain ⟨V, hV⟩ := open_upd_cells h2
      exact ⟨V, fun j hj => by rw [hget j hj, hV j hj]⟩
    have hin : Inhabited Upd := ⟨Upd.zero⟩
    obtain ⟨f, hfv⟩ := choose_lt (α := Upd) hex
    refine ⟨(List.range len).map f, by simp, ?_, .inr ⟨_, _, hx.1, by simp⟩, fun h => by cases h⟩
    by_cases hl0 : len = 0
    · subst hl0; exact .inl rfl
    · obtain ⟨b, off, spot⟩ := a
      have hspot : spot = none := by simpa [Addr.add] using World.cell?_spot (hfv 0 (by omega) 0 (by omega))
      subst hspot
      have hadd : ∀ i j, ((⟨b, off, none⟩ : Addr).add (i * 36)).add j = ⟨b, off + i * 36 + j, none⟩ := fun i j => by
        rw [add_add]; unfold Addr.add; split <;> simp_all <;> omega
      refine .inr ⟨b, off, rfl, ?_, fun i s hs j hj => ?_⟩
      · have := hfv 0 (by omega) 0 (by omega)
        rw [hadd] at this
        exact World.block_lt_of_cell? _ _ this
      · have hi' : i < len := by simpa using (List.getElem?_eq_some_iff.1 hs).1
        rw [List.getElem?_map, List.getElem?_range hi'] at hs
        have hs' : f i = s := by simpa using hs
        have := hfv i hi' j hj
        rw [hadd, hs'] at this
        exact this
end
end Go.Proofs.YtoepmlagolfhcaaDoor
