import Derived.Test.YtlohfoggcdaeiaaGreatRows
import Derived.Test.YtlohfoggcdaeiaaGreatRHead
import Derived.HandedShaped
import Derived.ProofKit
import Derived.OpenShut
import Derived.SizedLaws
import Derived.Deep.Slices
import Derived.Lib.SmallJoins
/-
  The two tables of hash, whatever they hold: out of the world's shape.
-/
namespace Go.Proofs.YtlohfoggcdaeiaaGreat
open Go.RowKit S
set_option linter.unusedVariables false
set_option linter.unusedSimpArgs false
theorem u32_has {n : Int} (h : IntKind.u32.has n) : 0 ≤ n ∧ n < 4294967296 := by
  simp [IntKind.has, IntKind.min, IntKind.max, IntKind.signed, IntKind.bits] at h
  omega
set_option maxRecDepth 100000 in
theorem table_of {W : World} {g m : Nat} {t : TypeId} (ct : Tryz.prog.cellTypes Tryz.prog.depth t = some (List.replicate m 158)) (hb : Tryz.prog.buildable t = true) {cs : Array Value} (hg : W.heap[g]? = some (.cells cs t)) (hs : cs.size = m) (h : Tryz.prog.buildable t = true → Row.ok Tryz.prog W .any 0 t cs) :
    ∃ f : Nat → BitVec 32, ∀ i, i < m → W.cell? ⟨g, i, none⟩ = some (wv num f i) := by
  refine ⟨fun i => match cs[i]? with | some (.int _ n) => BitVec.ofInt 32 n | _ => 0#32, fun i hi => ?_⟩
  obtain ⟨ts, h1, _, h3⟩ := h hb
  rw [ct] at h1
  cases h1
  have hci : cs[i]? = some cs[i] := Array.getElem?_eq_getElem (by omega)
  obtain ⟨u, hu, hok⟩ := h3 i cs[i] hci
  have hu2 : u = 158 := by
    rw [List.length_replicate, Nat.mod_eq_of_lt hi, List.getElem?_replicate, if_pos hi] at hu
    exact (Option.some.inj hu).symm
  subst hu2
  unfold Cell.ok at hok
  rw [Tryz.underlying158] at hok
  rw [cell_of_row W g _ cs _ (0, 0) hg, hci]
  generalize cs[i] = v at hok hci
  unfold wv
  cases v with
  | int k n =>
    obtain ⟨rfl, hn⟩ := hok
    have hr := u32_has hn
    refine congrArg some ?_
    simp only [hci]
    show Value.int .u32 n = .int .u32 (((BitVec.ofInt 32 n).toNat : Nat) : Int)
    refine congrArg (Value.int .u32) ?_
    rw [BitVec.toNat_ofInt]
    omega
  | _ => exact hok.elim
set_option maxRecDepth 100000 in
theorem glob_shaped [Inhabited S.Tbl] {W : World} (hsh : W.ShapedOpen Tryz.prog) : ∃ T : Tbl, @Glob ⟨T⟩ num W := by
  have z0 : ((begin Tryz.prog (fun _ _ => 0) default).world.heap[0]?).bind Obj.row? = some (tabv (fun _ => .int .u32 0) 8, 159) := by kernel_rfl
  have z1 : ((begin Tryz.prog (fun _ _ => 0) default).world.heap[1]?).bind Obj.row? = some (tabv (fun _ => .int .u32 0) 64, 163) := by kernel_rfl
  have hg : Tryz.prog.globals.size = 2 := by kernel_rfl
  obtain ⟨c0, e0, s0, k0⟩ := hsh.1 0 _ _ (by rw [hg]; omega) z0
  obtain ⟨c1, e1, s1, k1⟩ := hsh.1 1 _ _ (by rw [hg]; omega) z1
  rw [tabv_size] at s0 s1
  obtain ⟨f, hf⟩ := table_of (m := 8) (by kernel_rfl) (by kernel_rfl) e0 s0 k0
  obtain ⟨k, hk⟩ := table_of (m := 64) (by kernel_rfl) (by kernel_rfl) e1 s1 k1
  have h2 : 2 ≤ W.heap.size := by
    rcases Nat.lt_or_ge 1 W.heap.size with h | h
    · exact h
    · rw [Array.getElem?_eq_none h] at e1; cases e1
  exact ⟨⟨k, f⟩, hk, hf, h2⟩
end Go.Proofs.YtlohfoggcdaeiaaGreat
/-
  Hashes and counts among the arguments, opened.
-/
namespace Go.Proofs.YtlohfoggcdaeiaaGreat
open Go.ChangeShapes Go.WideShapes Go.ChangeAt Go.RowKit Go.Deep S Go.Joins
set_option linter.unusedVariables false
set_option linter.unusedSimpArgs false
theorem cells5 : Tryz.prog.cellsOf 5 = 1 := by kernel_rfl
theorem cells26 : Tryz.prog.cellsOf 25 = 32 := by kernel_rfl
theorem cellsCt : Tryz.prog.cellsOf 23 = 2 := by kernel_rfl
set_option maxRecDepth 100000 in
theorem open_hash {H : Type} {enc : TypeId × Value → H} {W : World} {base : Nat} {v : Value} {d : DataW H} {p : List MemPlace} (hv : Value.okWide Tryz.prog W .any base 25 v) (h : DataW.Trod enc Tryz.prog W 0 (fun _ => true) true 25 v d p) :
    ∃ f : Nat → UInt8, v = .agg (tabv (bv f) 32) ∧ p = [] := by
  simp only [Value.okWide, Tryz.underlying25] at hv
  obtain ⟨cs, rfl, hsz, _⟩ := hv
  rw [cells26] at hsz
  obtain ⟨fuel, hf⟩ := h
  obtain ⟨xs, m, _, hx, _, hlen, hall⟩ := DataW.trod_array Tryz.underlying25 hf
  have key : ∀ i, i < 32 → ∃ c : UInt8, cs[i]? = some (.int .u8 (c.toNat : Int)) ∧ ∃ y, xs[i]? = some y ∧ y.2 = [] := fun i hi => by
    have h1 := hall i hi
    have hxi : xs[i]? = some xs[i] := List.getElem?_eq_getElem (by omega)
    rw [cells5, Nat.mul_one, hxi] at h1
    obtain ⟨z, hz, hy, wz⟩ := DataW.trod_int Tryz.underlying5 h1
    have hr : 0 ≤ z ∧ z ≤ 255 := by simpa [Lit.wf, IntKind.min, IntKind.max, IntKind.signed, IntKind.bits] using wz
    have hc : cs[i]? = some (.int .u8 z) := by
      have := congrArg (fun l => l[0]?) hz
      simpa [List.getElem?_take, List.getElem?_drop, Value.cells] using this
    refine ⟨UInt8.ofNat z.toNat, ?_, _, hxi, by rw [hy]⟩
    rw [hc, UInt8.toNat_ofNat', Nat.mod_eq_of_lt (by omega), Int.toNat_of_nonneg hr.1]
  refine ⟨fun i => match cs[i]? with | some (.int _ z) => UInt8.ofNat z.toNat | _ => 0, ?_, ?_⟩
  · congr 1
    refine tabv_ext _ _ _ hsz fun i hi => ?_
    obtain ⟨c, hc, _⟩ := key i hi
    unfold bv
    simp only [hc, Int.toNat_natCast]
    congr 3
    rw [UInt8.toNat_ofNat', Nat.mod_eq_of_lt (by have := c.toNat_lt; omega)]
  · simp only [Prod.mk.injEq] at hx
    rw [hx.2, List.flatMap_eq_nil_iff]
    intro y hy
    obtain ⟨i, hi, rfl⟩ := List.mem_iff_getElem.1 hy
    obtain ⟨_, _, y, hy, h0⟩ := key i (by omega)
    rw [List.getElem?_eq_getElem hi] at hy
    cases hy
    exact h0
set_option maxRecDepth 100000 in
theorem open_cts {H : Type} {enc : TypeId × Value → H} {W : World} {base : Nat} {v : Value} {d : DataW H} {p : List MemPlace} (hv : Value.okWide Tryz.prog W .any base 23 v) (h : DataW.Trod enc Tryz.prog W 0 (fun _ => true) true 23 v d p) :
    ∃ a b : Int, v = .agg #[.int .i64 a, .int .i64 b] := by
  obtain ⟨v0, v1, y0, y1, m, rfl, _, _, h0, h1⟩ := open_agg2 Tryz.underlying23 (by kernel_rfl) cellsCt hv h
  obtain ⟨z0, hz0, _⟩ := DataW.trod_int Tryz.underlying3 h0
  obtain ⟨z1, hz1, _⟩ := DataW.trod_int Tryz.underlying3 h1
  refine ⟨z0, z1, ?_⟩
  have e0 : v0 = .int .i64 z0 := by simpa using hz0
  have e1 : v1 = .int .i64 z1 := by simpa using hz1
  rw [e0, e1]
end Go.Proofs.YtlohfoggcdaeiaaGreat
