/-
  Values among the arguments, opened.
-/
import Derived.Test.YtmcnempkddahcaaRows
import Derived.Test.YtmcnempkddahcaaVals
import Derived.ProofKit
import Derived.OpenShut
import Derived.Deep.Slices
namespace Go.Proofs.Ytmcnempkddahcaa
open Go.ChangeShapes Go.WideShapes Go.ChangeAt Go.RowKit Go.Deep
theorem cells3 : Try.prog.cellsOf 3 = 1 := by kernel_rfl
theorem cells37 : Try.prog.cellsOf 37 = 1 := by kernel_rfl
theorem cells2 : Try.prog.cellsOf 2 = 1 := by kernel_rfl
theorem cells4 : Try.prog.cellsOf 4 = 1 := by kernel_rfl
theorem cells5 : Try.prog.cellsOf 5 = 1 := by kernel_rfl
theorem cells9 : Try.prog.cellsOf 9 = 1 := by kernel_rfl
theorem cells54 : Try.prog.cellsOf 54 = 32 := by kernel_rfl
theorem cells56 : Try.prog.cellsOf 56 = 37 := by kernel_rfl
theorem cells69 : Try.prog.cellsOf 69 = 40 := by kernel_rfl
theorem bulk_get {H : Type} : ∀ (l : List (DataW H)) (i : Nat) (d : DataW H), l[i]? = some d → Rows.uptoBulk d ≤ Rows.uptoBulkAll l
  | [], i, d, h => by simp at h
  | a :: l, 0, d, h => by
    simp at h; subst h
    rw [Rows.uptoBulkAll]; omega
  | a :: l, i + 1, d, h => by
    have := bulk_get l i d (by simpa using h)
    rw [Rows.uptoBulkAll]; omega
theorem bulk_range {H : Type} (f : Nat → DataW H) (n i : Nat) (hi : i < n) : Rows.uptoBulk (f i) ≤ Rows.uptoBulkAll ((List.range n).map f) := bulk_get _ i _ (by rw [List.getElem?_map, List.getElem?_range hi]; rfl)
theorem bulk_count {H : Type} (f : Nat → DataW H) (n : Nat) (h1 : ∀ i, i < n → 1 ≤ Rows.uptoBulk (f i)) : n ≤ Rows.uptoBulkAll ((List.range n).map f) := by
  have key : ∀ l : List Nat, (∀ i ∈ l, 1 ≤ Rows.uptoBulk (f i)) → l.length ≤ Rows.uptoBulkAll (l.map f) := by
    intro l
    induction l with
    | nil => intro _; simp [Rows.uptoBulkAll]
    | cons a l ih =>
      intro h
      have h2 := ih (fun i hi => h i (by simp [hi]))
      have h3 := h a (by simp)
      rw [List.map_cons, List.length_cons, Rows.uptoBulkAll]
      omega
  have := key (List.range n) (fun i hi => h1 i (List.mem_range.1 hi))
  rwa [List.length_range] at this
theorem one_cell {cs : List Value} {o : Nat} {v : Value} (h : (cs.drop o).take 1 = [v]) : cs[o]? = some v := by
  have := congrArg (fun l => l[0]?) h
  simpa [List.getElem?_take, List.getElem?_drop] using this
/-- Numbers within their kinds. -/
structure VL.fit (V : VL) : Prop where
  u0 : 0 ≤ V.U
  u1 : V.U < 18446744073709551616
  i0 : -9223372036854775808 ≤ V.I
  i1 : V.I < 9223372036854775808
theorem VL.fit.ok {V : VL} (h : V.fit) (hs : V.S.size ≤ 1048576) : V.ok (xo V) :=
  ⟨by unfold xo; have := h.u0; omega, by unfold xo; have := h.u1; have := h.u0; omega, h.i0, h.i1, hs⟩
section
variable {H : Type} {enc : TypeId × Value → H} {W : World} {base : Nat} {spare : Nat → Bool} {held : Bool}
theorem open_val {n : Nat} {cs : List Value} {x : DataW H × List MemPlace} (h : DataW.trod enc Try.prog W base spare held n 56 cs = some x) :
    ∃ V : VL, (∀ j, j < 37 → cs[j]? = some (vv V j)) ∧ V.fit ∧ V.S.size + 1 ≤ Rows.uptoBulk x.1 := by
  obtain ⟨xs, m, _, hx, hl, hlen, hf⟩ := DataW.trod_struct Try.underlying56 h
  have hl6 : xs.length = 6 := hlen
  have g : ∀ (i : Nat) (hi : i < xs.length), xs[i]? = some xs[i] := fun i hi => List.getElem?_eq_getElem hi
  have f0 : DataW.trod enc Try.prog W base spare held m 3 ((cs.drop 0).take (Try.prog.cellsOf 3)) = some xs[0] := (hf 0 _ rfl).trans (g 0 (by omega))
  have f1 : DataW.trod enc Try.prog W base spare held m 37 ((cs.drop 1).take (Try.prog.cellsOf 37)) = some xs[1] := (hf 1 _ rfl).trans (g 1 (by omega))
  have f2 : DataW.trod enc Try.prog W base spare held m 2 ((cs.drop 2).take (Try.prog.cellsOf 2)) = some xs[2] := (hf 2 _ rfl).trans (g 2 (by omega))
  have f3 : DataW.trod enc Try.prog W base spare held m 54 ((cs.drop 3).take (Try.prog.cellsOf 54)) = some xs[3] := (hf 3 _ rfl).trans (g 3 (by omega))
  have f4 : DataW.trod enc Try.prog W base spare held m 9 ((cs.drop 35).take (Try.prog.cellsOf 9)) = some xs[4] := (hf 4 _ rfl).trans (g 4 (by omega))
  have f5 : DataW.trod enc Try.prog W base spare held m 3 ((cs.drop 36).take (Try.prog.cellsOf 3)) = some xs[5] := (hf 5 _ rfl).trans (g 5 (by omega))
  rw [cells3] at f0 f5
  rw [cells37] at f1
  rw [cells2] at f2
  rw [cells54] at f3
  rw [cells9] at f4
  obtain ⟨z0, e0, _, w0⟩ := DataW.trod_int Try.underlying3 f0
  obtain ⟨z1, e1, _, w1⟩ := DataW.trod_int Try.underlying37 f1
  obtain ⟨z2, e2, _, w2⟩ := DataW.trod_int Try.underlying2 f2
  obtain ⟨z5, e5, _, w5⟩ := DataW.trod_int Try.underlying3 f5
  obtain ⟨s4, e4, y4, _⟩ := DataW.trod_string Try.underlying9 f4
  obtain ⟨ys, m2, _, _, _, hyl, hall⟩ := DataW.trod_array Try.underlying54 f3
  have key : ∀ i, i < 32 → ∃ c : UInt8, cs[3 + i]? = some (.int .u8 (c.toNat : Int)) := fun i hi => by
    have h1 := hall i hi
    rw [cells5, Nat.mul_one, List.getElem?_eq_getElem (show i < ys.length by omega)] at h1
    obtain ⟨z, hz, _, wz⟩ := DataW.trod_int Try.underlying5 h1
    have hr : 0 ≤ z ∧ z ≤ 255 := by simpa [Lit.wf, IntKind.min, IntKind.max, IntKind.signed, IntKind.bits] using wz
    have hc : cs[3 + i]? = some (.int .u8 z) := by
      have := congrArg (fun l => l[0]?) hz
      simp only [List.getElem?_take, List.getElem?_drop, Nat.lt_add_one, if_true, Nat.add_zero, List.getElem?_cons_zero] at this
      rw [if_pos (by omega)] at this
      exact this
    refine ⟨UInt8.ofNat z.toNat, ?_⟩
    rw [hc, UInt8.toNat_ofNat', Nat.mod_eq_of_lt (by omega), Int.toNat_of_nonneg hr.1]
  have hu : 0 ≤ z1 ∧ z1 ≤ 18446744073709551615 := by simpa [Lit.wf, IntKind.min, IntKind.max, IntKind.signed, IntKind.bits] using w1
  have hi : -9223372036854775808 ≤ z2 ∧ z2 ≤ 9223372036854775807 := by simpa [Lit.wf, IntKind.min, IntKind.max, IntKind.signed, IntKind.bits] using w2
  refine ⟨⟨z0, z1, z2, fun i => match cs[3 + i]? with | some (.int _ z) => UInt8.ofNat z.toNat | _ => 0, s4, z5⟩, fun j hj => ?_, ⟨hu.1, by show z1 < _; omega, hi.1, by show z2 < _; omega⟩, ?_⟩
  · unfold vv
    by_cases h0 : j = 0
    · subst h0; rw [if_pos rfl]; exact one_cell e0
    · rw [if_neg h0]
      by_cases h1 : j = 1
      · subst h1; rw [if_pos rfl]; exact one_cell e1
      · rw [if_neg h1]
        by_cases h2 : j = 2
        · subst h2; rw [if_pos rfl]; exact one_cell e2
        · rw [if_neg h2]
          by_cases h3 : j < 35
          · rw [if_pos h3]
            obtain ⟨c, hc⟩ := key (j - 3) (by omega)
            have e : cs[j]? = cs[3 + (j - 3)]? := by rw [show 3 + (j - 3) = j by omega]
            rw [e]
            simp only [hc, Int.toNat_natCast]
            congr 3
            rw [UInt8.toNat_ofNat', Nat.mod_eq_of_lt (by have := c.toNat_lt; omega)]
          · rw [if_neg h3]
            by_cases h4 : j = 35
            · subst h4; rw [if_pos rfl]; exact one_cell e4
            · rw [if_neg h4, show j = 36 by omega]; exact one_cell e5
  · have hb := bulk_get (xs.map (·.1)) 4 (.lit (.string s4.data.toList)) (by rw [List.getElem?_map, g 4 (by omega), y4]; rfl)
    have e : Rows.uptoBulk (.lit (.string s4.data.toList) : DataW H) = s4.data.toList.length + 1 := rfl
    rw [e, str_len] at hb
    rw [hx]
    show s4.size + 1 ≤ Rows.uptoBulkAll (xs.map (·.1)) + 1
    omega
/-- A list of values among the arguments. -/
theorem open_vals {ad : Option Addr} {len cap : Nat} {d : DataW H} {p : List MemPlace} (h : DataW.Trod enc Try.prog W 0 (fun _ => true) true 51 (.slice ad len cap) d p) :
    ∃ vs : List VL, vs.length = len ∧ Vals W ad vs ∧ (∀ V ∈ vs, V.fit ∧ V.S.size + 1 ≤ Rows.uptoBulk d) ∧ len ≤ Rows.uptoBulk d := by
  obtain ⟨fuel, hf⟩ := h
  rcases open_slice Try.underlying51 hf with ⟨hcs, hx⟩ | ⟨a, len', cap', m, n, D, Pl, hcs, _, hl, hm, hmm, hx, hel⟩
  · simp [Value.cells] at hcs
    obtain ⟨rfl, rfl, rfl⟩ := hcs
    exact ⟨[], rfl, .inl rfl, fun V hV => by simp at hV, by omega⟩
  · simp [Value.cells] at hcs
    obtain ⟨rfl, rfl, rfl⟩ := hcs
    simp only [if_true] at hmm
    subst hmm
    simp only [Prod.mk.injEq] at hx
    rw [cells56] at hel
    have hex : ∀ i, i < len → ∃ V : VL, (∀ j, j < 37 → W.cell? ((a.add (i * 37)).add j) = some (vv V j)) ∧ V.fit ∧ V.S.size + 1 ≤ Rows.uptoBulk (D i) := fun i hi => by
      obtain ⟨cs', h1, h2⟩ := hel i (by omega)
      obtain ⟨_, hln, hget⟩ := World.cells?_some h1
      obtain ⟨V, hV, hfit, hbk⟩ := open_val h2
      exact ⟨V, fun j hj => by rw [hget j hj, hV j hj], hfit, hbk⟩
    have hin : Inhabited VL := ⟨⟨0, 0, 0, fun _ => 0, nil8, 0⟩⟩
    obtain ⟨f, hfv⟩ := choose_lt (α := VL) hex
    have hbd : ∀ i, i < len → Rows.uptoBulk (D i) + 1 ≤ Rows.uptoBulk d := fun i hi => by
      rw [hx.1]
      have := bulk_range D len i hi
      show _ ≤ Rows.uptoBulkAll _ + Rows.uptoBulkAll _ + 1
      omega
    refine ⟨(List.range len).map f, by simp, ?_, ?_, ?_⟩
    · by_cases hl0 : len = 0
      · subst hl0; exact .inl rfl
      · obtain ⟨b, off, spot⟩ := a
        have hspot : spot = none := by simpa [Addr.add] using World.cell?_spot ((hfv 0 (by omega)).1 0 (by omega))
        subst hspot
        have hadd : ∀ i j, ((⟨b, off, none⟩ : Addr).add (i * 37)).add j = ⟨b, off + i * 37 + j, none⟩ := fun i j => by
          rw [add_add]; unfold Addr.add; split <;> simp_all <;> omega
        refine .inr ⟨b, off, rfl, ?_, fun i hi => ?_⟩
        · have := (hfv 0 (by omega)).1 0 (by omega)
          rw [hadd] at this
          exact World.block_lt_of_cell? _ _ this
        · have hi' : i < len := by simpa using hi
          intro j hj
          have := (hfv i hi').1 j hj
          rw [hadd] at this
          simpa using this
    · intro V hV
      obtain ⟨i, hi, rfl⟩ := List.mem_map.1 hV
      have hi' := List.mem_range.1 hi
      refine ⟨(hfv i hi').2.1, ?_⟩
      have := (hfv i hi').2.2
      have := hbd i hi'
      omega
    · rw [hx.1]
      have := bulk_count D len (fun i hi => by have := (hfv i hi).2.2; omega)
      show _ ≤ Rows.uptoBulkAll _ + Rows.uptoBulkAll _ + 1
      omega
end
end Go.Proofs.Ytmcnempkddahcaa
