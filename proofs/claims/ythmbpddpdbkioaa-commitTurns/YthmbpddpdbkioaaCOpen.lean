/-
  Ledgers and hashes among the arguments, opened (printed by mkopen.py).
-/
import Derived.Test.YthmbpddpdbkioaaRows
import Derived.Test.YthmbpddpdbkioaaCMath
import Derived.ProofKit
import Derived.OpenShut
import Derived.SizedLaws
import Derived.Deep.Slices
namespace Go.Proofs.Ythmbpddpdbkioaa
open Go.ChangeShapes Go.WideShapes Go.ChangeAt Go.RowKit Go.Deep S
set_option linter.unusedVariables false
set_option linter.unusedSimpArgs false
theorem cells5 : Try.prog.cellsOf 5 = 1 := by kernel_rfl
theorem cells26 : Try.prog.cellsOf 30 = 32 := by kernel_rfl
theorem cellsN2 : Try.prog.cellsOf 2 = 1 := by kernel_rfl
theorem cellsN4 : Try.prog.cellsOf 4 = 1 := by kernel_rfl
theorem cellsNP : Try.prog.cellsOf 36 = 35 := by kernel_rfl
theorem bytesNP : Try.prog.bytesOf 36 = 56 := by kernel_rfl
theorem cellsNS : Try.prog.cellsOf 22 = 1 := by kernel_rfl
theorem cellsNL : Try.prog.cellsOf 24 = 3 := by kernel_rfl
theorem one_cell {cs : List Value} {o : Nat} {v : Value} (h : (cs.drop o).take 1 = [v]) : cs[o]? = some v := by
  have := congrArg (fun l => l[0]?) h
  simpa [List.getElem?_take, List.getElem?_drop] using this
theorem open_hash {H : Type} {enc : TypeId × Value → H} {W : World} {base : Nat} {v : Value} {d : DataW H} {p : List MemPlace} (hv : Value.okWide Try.prog W .any base 30 v) (h : DataW.Trod enc Try.prog W 0 (fun _ => true) true 30 v d p) :
    ∃ f : Nat → UInt8, v = .agg (tabv (bv f) 32) ∧ p = [] := by
  simp only [Value.okWide, Try.underlying30] at hv
  obtain ⟨cs, rfl, hsz, _⟩ := hv
  rw [cells26] at hsz
  obtain ⟨fuel, hf⟩ := h
  obtain ⟨xs, m, _, hx, _, hlen, hall⟩ := DataW.trod_array Try.underlying30 hf
  have key : ∀ i, i < 32 → ∃ c : UInt8, cs[i]? = some (.int .u8 (c.toNat : Int)) ∧ ∃ y, xs[i]? = some y ∧ y.2 = [] := fun i hi => by
    have h1 := hall i hi
    have hxi : xs[i]? = some xs[i] := List.getElem?_eq_getElem (by omega)
    rw [cells5, Nat.mul_one, hxi] at h1
    obtain ⟨z, hz, hy, wz⟩ := DataW.trod_int Try.underlying5 h1
    have hr : 0 ≤ z ∧ z ≤ 255 := by simpa [Lit.wf, IntKind.min, IntKind.max, IntKind.signed, IntKind.bits] using wz
    have hc : cs[i]? = some (.int .u8 z) := by
      have := congrArg (fun l => l[0]?) hz
      simpa [List.getElem?_take, List.getElem?_drop, Value.cells] using this
    refine ⟨UInt8.ofNat z.toNat, ?_, _, hxi, by rw [hy]⟩
    rw [hc, UInt8.toNat_ofNat', Nat.mod_eq_of_lt (by omega), Int.toNat_of_nonneg hr.1]
  refine ⟨fun i => match cs[i]? with | some (.int _ z) => UInt8.ofNat z.toNat | _ => 0, ?_, ?_⟩
  · congr 1
    refine tabv_ext _ _ _ hsz fun i hi => ?_
    obtain ⟨c, hc, _⟩ := key i hi
    unfold bv
    simp only [hc, Int.toNat_natCast]
    congr 3
    rw [UInt8.toNat_ofNat', Nat.mod_eq_of_lt (by have := c.toNat_lt; omega)]
  · simp only [Prod.mk.injEq] at hx
    rw [hx.2, List.flatMap_eq_nil_iff]
    intro y hy
    obtain ⟨i, hi, rfl⟩ := List.mem_iff_getElem.1 hy
    obtain ⟨_, _, y, hy, h0⟩ := key i (by omega)
    rw [List.getElem?_eq_getElem hi] at hy
    cases hy
    exact h0
section
variable {H : Type} {enc : TypeId × Value → H} {W : World} {base : Nat} {spare : Nat → Bool} {held : Bool}
theorem open_pen_cells {n : Nat} {cs : List Value} {x : DataW H × List MemPlace} (h : DataW.trod enc Try.prog W base spare held n 36 cs = some x) :
    ∃ V : Pen, ∀ j, j < 35 → cs[j]? = some (V.v j) := by
  obtain ⟨xs, m, _, hx, hl, hlen, hf⟩ := DataW.trod_struct Try.underlying36 h
  have hl6 : xs.length = 4 := hlen
  have g : ∀ (i : Nat) (hi : i < xs.length), xs[i]? = some xs[i] := fun i hi => List.getElem?_eq_getElem hi
  have f0 : DataW.trod enc Try.prog W base spare held m 4 ((cs.drop 0).take (Try.prog.cellsOf 4)) = some xs[0] := (hf 0 _ rfl).trans (g 0 (by omega))
  have f1 : DataW.trod enc Try.prog W base spare held m 2 ((cs.drop 1).take (Try.prog.cellsOf 2)) = some xs[1] := (hf 1 _ rfl).trans (g 1 (by omega))
  have f2 : DataW.trod enc Try.prog W base spare held m 2 ((cs.drop 2).take (Try.prog.cellsOf 2)) = some xs[2] := (hf 2 _ rfl).trans (g 2 (by omega))
  have f3 : DataW.trod enc Try.prog W base spare held m 30 ((cs.drop 3).take (Try.prog.cellsOf 30)) = some xs[3] := (hf 3 _ rfl).trans (g 3 (by omega))
  rw [cellsN4] at f0
  rw [cellsN2] at f1 f2
  rw [cells26] at f3
  obtain ⟨z0, e0, _⟩ := DataW.trod_bool Try.underlying4 f0
  obtain ⟨z1, e1, _, w1⟩ := DataW.trod_int Try.underlying2 f1
  obtain ⟨z2, e2, _, w2⟩ := DataW.trod_int Try.underlying2 f2
  obtain ⟨ys, m2, _, _, _, hyl, hall⟩ := DataW.trod_array Try.underlying30 f3
  have key : ∀ i, i < 32 → ∃ c : UInt8, cs[3 + i]? = some (.int .u8 (c.toNat : Int)) := fun i hi => by
    have h1 := hall i hi
    rw [cells5, Nat.mul_one, List.getElem?_eq_getElem (show i < ys.length by omega)] at h1
    obtain ⟨z, hz, _, wz⟩ := DataW.trod_int Try.underlying5 h1
    have hr : 0 ≤ z ∧ z ≤ 255 := by simpa [Lit.wf, IntKind.min, IntKind.max, IntKind.signed, IntKind.bits] using wz
    have hc : cs[3 + i]? = some (.int .u8 z) := by
      have := congrArg (fun l => l[0]?) hz
      simp only [List.getElem?_take, List.getElem?_drop, Nat.lt_add_one, if_true, Nat.add_zero, List.getElem?_cons_zero] at this
      rw [if_pos (by omega)] at this
      exact this
    refine ⟨UInt8.ofNat z.toNat, ?_⟩
    rw [hc, UInt8.toNat_ofNat', Nat.mod_eq_of_lt (by omega), Int.toNat_of_nonneg hr.1]
  refine ⟨⟨z0, z1, z2, fun i => match cs[3 + i]? with | some (.int _ z) => UInt8.ofNat z.toNat | _ => 0⟩, fun j hj => ?_⟩
  unfold Pen.v
  by_cases h0 : j = 0
  · subst h0; rw [if_pos rfl]; exact one_cell e0
  rw [if_neg h0]
  by_cases h1 : j = 1
  · subst h1; rw [if_pos rfl]; exact one_cell e1
  rw [if_neg h1]
  by_cases h2 : j = 2
  · subst h2; rw [if_pos rfl]; exact one_cell e2
  rw [if_neg h2]
  obtain ⟨c, hc⟩ := key (j - 3) (by omega)
  have e : cs[j]? = cs[3 + (j - 3)]? := by rw [show 3 + (j - 3) = j by omega]
  rw [e]
  simp only [hc, Int.toNat_natCast]
  refine congrArg some (int_eq ?_)
  rw [UInt8.toNat_ofNat', Nat.mod_eq_of_lt (by have := c.toNat_lt; omega)]
theorem add35 (b off i j : Nat) : ((⟨b, off, none⟩ : Addr).add (i * 35)).add j = ⟨b, off + i * 35 + j, none⟩ := by
  rw [add_add]; unfold Addr.add; split <;> simp_all <;> omega
theorem list3 {α β : Type} (f : α → β) : ∀ (xs : List α) (h : xs.length = 3), xs.map f = [f (xs[0]'(by omega)), f (xs[1]'(by omega)), f (xs[2]'(by omega))]
  | [p, q, r], _ => rfl
set_option maxRecDepth 100000 in
/-- A ledger among the arguments. -/
theorem open_ledger {v : Value} {d : DataW H} {p : List MemPlace} (hv : Value.okWide Try.prog W .any base 24 v) (h : DataW.Trod enc Try.prog W 0 (fun _ => true) true 24 v d p) :
    ∃ (x y : Int) (ad : Option Addr) (len cap : Nat) (l : List Pen), v = .agg (tabv (ledv x y (.slice ad len cap)) 3) ∧ l.length = len ∧ Pens W ad l ∧ (len = 0 ∨ ∃ d0 d1 e s, d = .agg [d0, d1, .slice e s] ∧ e.length = len) ∧ len ≤ cap := by
  simp only [Value.okWide, Try.underlying24] at hv
  obtain ⟨cs, rfl, hsz, _⟩ := hv
  rw [cellsNL] at hsz
  obtain ⟨fuel, hf⟩ := h
  obtain ⟨xs, m, _, hx, hl, hlen, hff⟩ := DataW.trod_struct Try.underlying24 hf
  have hl6 : xs.length = 3 := hlen
  have g : ∀ (i : Nat) (hi : i < xs.length), xs[i]? = some xs[i] := fun i hi => List.getElem?_eq_getElem hi
  have f0 : DataW.trod enc Try.prog W 0 (fun _ => true) true m 2 (((Value.cells (.agg cs)).toList.drop 0).take (Try.prog.cellsOf 2)) = some xs[0] := (hff 0 _ rfl).trans (g 0 (by omega))
  have f1 : DataW.trod enc Try.prog W 0 (fun _ => true) true m 2 (((Value.cells (.agg cs)).toList.drop 1).take (Try.prog.cellsOf 2)) = some xs[1] := (hff 1 _ rfl).trans (g 1 (by omega))
  have f2 : DataW.trod enc Try.prog W 0 (fun _ => true) true m 22 (((Value.cells (.agg cs)).toList.drop 2).take (Try.prog.cellsOf 22)) = some xs[2] := (hff 2 _ rfl).trans (g 2 (by omega))
  rw [cellsN2] at f0 f1
  rw [cellsNS] at f2
  obtain ⟨z0, e0, _, w0⟩ := DataW.trod_int Try.underlying2 f0
  obtain ⟨z1, e1, _, w1⟩ := DataW.trod_int Try.underlying2 f1
  have a0 := one_cell e0
  have a1 := one_cell e1
  rw [Array.getElem?_toList] at a0 a1
  have hd : d = .agg [xs[0].1, xs[1].1, xs[2].1] := by
    simp only [Prod.mk.injEq] at hx
    rw [hx.1, list3 _ xs hl6]
  have hagg : ∀ v2 : Value, cs[2]? = some v2 → Value.agg cs = .agg (tabv (ledv z0 z1 v2) 3) := fun v2 h2 => by
    refine congrArg Value.agg ?_
    refine tabv_ext _ _ _ hsz fun i hi => ?_
    unfold ledv
    match i, hi with
    | 0, _ => exact a0
    | 1, _ => exact a1
    | 2, _ => exact h2
  rcases open_slice Try.underlying22 f2 with ⟨hcs, hxs⟩ | ⟨a, len, cap, mm, n, D, Pl, hcs, _, hll, hm, hmm, hxs, hel⟩
  · have a2 := one_cell hcs
    rw [Array.getElem?_toList] at a2
    exact ⟨z0, z1, none, 0, 0, [], hagg _ a2, rfl, .inl rfl, .inl rfl, Nat.le_refl _⟩
  · have a2 := one_cell hcs
    rw [Array.getElem?_toList] at a2
    simp only [if_true] at hmm
    subst hmm
    rw [cellsNP] at hel
    have hex : ∀ i, i < len → ∃ V : Pen, ∀ j, j < 35 → W.cell? ((a.add (i * 35)).add j) = some (V.v j) := fun i hi => by
      obtain ⟨cs', h1, h2⟩ := hel i (by omega)
      obtain ⟨_, hln, hget⟩ := World.cells?_some h1
      obtain ⟨V, hV⟩ := open_pen_cells h2
      exact ⟨V, fun j hj => by rw [hget j hj, hV j hj]⟩
    have hin : Inhabited Pen := ⟨Pen.zero⟩
    obtain ⟨f, hfv⟩ := choose_lt (α := Pen) hex
    refine ⟨z0, z1, some a, len, mm, (List.range len).map f, hagg _ a2, by simp, ?_, .inr ⟨_, _, _, _, by rw [hd, hxs], by simp⟩, hll⟩
    by_cases hl0 : len = 0
    · subst hl0; exact .inl rfl
    · obtain ⟨b, off, spot⟩ := a
      have hspot : spot = none := by
        have hh := World.cell?_spot (hfv 0 (by omega) 0 (by omega))
        clear hff hf hx f0 f1 f2 hagg hxs hel hfv hex
        simpa [Addr.add] using hh
      subst hspot
      have hadd : ∀ i j, ((⟨b, off, none⟩ : Addr).add (i * 35)).add j = ⟨b, off + i * 35 + j, none⟩ := fun i j => add35 b off i j
      refine .inr ⟨b, off, rfl, ?_, fun i s hs j hj => ?_⟩
      · have := hfv 0 (by omega) 0 (by omega)
        rw [hadd] at this
        exact World.block_lt_of_cell? _ _ this
      · have hi' : i < len := by simpa using (List.getElem?_eq_some_iff.1 hs).1
        rw [List.getElem?_map, List.getElem?_range hi'] at hs
        have hs' : f i = s := by simpa using hs
        have := hfv i hi' j hj
        rw [hadd, hs'] at this
        exact this
theorem sized_ledger {ts : List TypeId} {ds : List (DataW H)} (h : (DataW.weightsEach Try.prog ts ds).all (· ≤ reachBytes) = true) {j : Nat} {d0 d1 : DataW H} {e s : List (DataW H)} (ht : ts[j]? = some 24) (hd : ds[j]? = some (.agg [d0, d1, .slice e s])) : e.length * 56 ≤ 140737488351232 := by
  have := List.all_eq_true.1 h _ (DataW.weights_mem_each ht hd ((e.length + s.length) * Try.prog.bytesOf 36) (by simp [DataW.weights, DataW.weightsEach, Try.underlying24, Try.underlying22]))
  rw [bytesNP] at this
  have h2 : (e.length + s.length) * 56 ≤ reachBytes := by simpa using this
  unfold reachBytes at h2
  omega
end
end Go.Proofs.Ythmbpddpdbkioaa
