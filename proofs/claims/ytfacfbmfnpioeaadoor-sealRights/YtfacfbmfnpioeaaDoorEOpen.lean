/-
  What the row's list gives: the two tables; a hash among the arguments.
-/
import Derived.Test.YtfacfbmfnpioeaaDoorRows
import Derived.Test.YtfacfbmfnpioeaaDoorEFirst
import Derived.ProofKit
import Derived.OpenShut
import Derived.Lib.LaidTab
namespace Go.Proofs.YtfacfbmfnpioeaaDoor
open Go.ChangeShapes Go.WideShapes Go.ChangeAt Go.RowKit S
/-- The numbers as they are. -/
def num : Num := ⟨fun b => (b.toNat : Int), fun _ => rfl⟩
theorem gRounds : Tryd.prog.globalNamed "escrow/hash.rounds" = some 1 := by kernel_rfl
theorem gFirst : Tryd.prog.globalNamed "escrow/hash.first" = some 0 := by kernel_rfl
theorem tRounds : (Tryd.prog.globals[1]?).map (·.type) = some 49 := by kernel_rfl
theorem tFirst : (Tryd.prog.globals[0]?).map (·.type) = some 36 := by kernel_rfl
theorem cells59 : Tryd.prog.cellsOf 49 = 64 := by kernel_rfl
theorem cells43 : Tryd.prog.cellsOf 36 = 8 := by kernel_rfl
theorem cells42 : Tryd.prog.cellsOf 35 = 1 := by kernel_rfl
theorem cells5 : Tryd.prog.cellsOf 5 = 1 := by kernel_rfl
theorem cells26 : Tryd.prog.cellsOf 23 = 32 := by kernel_rfl
def kInts : List Int := Ks.map fun b => (b.toNat : Int)
def fInts : List Int := Fs.map fun b => (b.toNat : Int)
theorem laid_glob {W : World} (h : laidMetH Tryd.prog Rows.sealOneRow.laid W) (h2 : 2 ≤ W.heap.size) : Glob num W := by
  have h' : laidMet Tryd.prog Rows.sealOneRow.laid W := h
  obtain ⟨ps, ⟨g0, t0, cs0, f0, p0, q0, hg0, ht0, hv0, hd0, ⟨g1, t1, cs1, f1, p1, q1, hg1, ht1, hv1, hd1, _, _⟩, _⟩, _, _⟩ := h'
  obtain rfl := Option.some.inj (gRounds.symm.trans hg0)
  obtain rfl := Option.some.inj (gFirst.symm.trans hg1)
  obtain rfl := Option.some.inj (tRounds.symm.trans ht0)
  obtain rfl := Option.some.inj (tFirst.symm.trans ht1)
  have e0 := Lib.cells_of_tab Tryd.underlying49 Tryd.underlying35 cells42 cells59 (zs := kInts) hd0
  have e1 := Lib.cells_of_tab Tryd.underlying36 Tryd.underlying35 cells42 cells43 (zs := fInts) hd1
  refine ⟨fun i hi => ?_, fun i hi => ?_, h2⟩
  · have hc := World.var?_cell hg0 hv0 i
    rw [hc]
    have hg : cs0[i]? = cs0.toList[i]? := by rw [Array.getElem?_toList]
    rw [hg, e0]
    unfold kInts K wv num
    have hl : i < Ks.length := hi
    rw [List.getElem?_map, List.getElem?_map, List.getElem?_eq_getElem hl]
    show some (Value.int .u32 ((Ks[i].toNat : Nat) : Int)) = some (.int .u32 (((Ks.getD i 0#32).toNat : Nat) : Int))
    rw [List.getD_eq_getElem?_getD, List.getElem?_eq_getElem hl]
    rfl
  · have hc := World.var?_cell hg1 hv1 i
    rw [hc]
    have hg : cs1[i]? = cs1.toList[i]? := by rw [Array.getElem?_toList]
    rw [hg, e1]
    unfold fInts first wv num
    have hl : i < Fs.length := hi
    rw [List.getElem?_map, List.getElem?_map, List.getElem?_eq_getElem hl]
    show some (Value.int .u32 ((Fs[i].toNat : Nat) : Int)) = some (.int .u32 (((Fs.getD i 0#32).toNat : Nat) : Int))
    rw [List.getD_eq_getElem?_getD, List.getElem?_eq_getElem hl]
    rfl
/-- A world in which the tables stand has two blocks. -/
theorem laid_two {W : World} (h : laidMetH Tryd.prog Rows.sealOneRow.laid W) : 2 ≤ W.heap.size := by
  have h' : laidMet Tryd.prog Rows.sealOneRow.laid W := h
  obtain ⟨ps, ⟨g0, t0, cs0, f0, p0, q0, hg0, ht0, hv0, hd0, _, _⟩, _, _⟩ := h'
  obtain rfl := Option.some.inj (gRounds.symm.trans hg0)
  obtain rfl := Option.some.inj (tRounds.symm.trans ht0)
  have e0 := Lib.cells_of_tab Tryd.underlying49 Tryd.underlying35 cells42 cells59 (zs := kInts) hd0
  have hc := World.var?_cell hg0 hv0 0
  have hg : cs0[0]? = cs0.toList[0]? := by rw [Array.getElem?_toList]
  rw [hg, e0] at hc
  have := block_lt_of_cell hc
  simp only at this
  omega
/-- A hash among the arguments. -/
theorem open_hash {H : Type} {enc : TypeId × Value → H} {W : World} {base : Nat} {v : Value} {d : DataW H} {p : List MemPlace} (hv : Value.okWide Tryd.prog W .any base 23 v) (h : DataW.Trod enc Tryd.prog W 0 (fun _ => true) true 23 v d p) :
    ∃ f : Nat → UInt8, v = .agg (tabv (bv f) 32) ∧ p = [] := by
  simp only [Value.okWide, Tryd.underlying23] at hv
  obtain ⟨cs, rfl, hsz, _⟩ := hv
  rw [cells26] at hsz
  obtain ⟨fuel, hf⟩ := h
  obtain ⟨xs, m, _, hx, _, hlen, hall⟩ := DataW.trod_array Tryd.underlying23 hf
  have key : ∀ i, i < 32 → ∃ c : UInt8, cs[i]? = some (.int .u8 (c.toNat : Int)) ∧ ∃ y, xs[i]? = some y ∧ y.2 = [] := fun i hi => by
    have h1 := hall i hi
    have hxi : xs[i]? = some xs[i] := List.getElem?_eq_getElem (by omega)
    rw [cells5, Nat.mul_one, hxi] at h1
    obtain ⟨z, hz, hy, wz⟩ := DataW.trod_int Tryd.underlying5 h1
    have hr : 0 ≤ z ∧ z ≤ 255 := by simpa [Lit.wf, IntKind.min, IntKind.max, IntKind.signed, IntKind.bits] using wz
    have hc : cs[i]? = some (.int .u8 z) := by
      have := congrArg (fun l => l[0]?) hz
      simpa [List.getElem?_take, List.getElem?_drop, Value.cells] using this
    refine ⟨UInt8.ofNat z.toNat, ?_, _, hxi, by rw [hy]⟩
    rw [hc, UInt8.toNat_ofNat', Nat.mod_eq_of_lt (by omega), Int.toNat_of_nonneg hr.1]
  refine ⟨fun i => match cs[i]? with | some (.int _ z) => UInt8.ofNat z.toNat | _ => 0, ?_, ?_⟩
  · congr 1
    refine tabv_ext _ _ _ hsz fun i hi => ?_
    obtain ⟨c, hc, _⟩ := key i hi
    unfold bv
    simp only [hc, Int.toNat_natCast]
    congr 3
    rw [UInt8.toNat_ofNat', Nat.mod_eq_of_lt (by have := c.toNat_lt; omega)]
  · simp only [Prod.mk.injEq] at hx
    rw [hx.2, List.flatMap_eq_nil_iff]
    intro y hy
    obtain ⟨i, hi, rfl⟩ := List.mem_iff_getElem.1 hy
    obtain ⟨_, _, y, hy, h0⟩ := key i (by omega)
    rw [List.getElem?_eq_getElem hi] at hy
    cases hy
    exact h0
end Go.Proofs.YtfacfbmfnpioeaaDoor
