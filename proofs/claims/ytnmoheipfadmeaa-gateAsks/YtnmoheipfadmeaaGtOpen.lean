/-
  States and counts among the arguments, opened (picked out of record's texts by mkopen.sh).
-/
import Derived.Test.YtnmoheipfadmeaaGtBase
import Derived.ProofKit
import Derived.OpenShut
import Derived.SizedLaws
import Derived.Deep.Slices
import Derived.Lib.SmallJoins
namespace Go.Proofs.Ytnmoheipfadmeaa
open Go.ChangeShapes Go.WideShapes Go.ChangeAt Go.RowKit Go.Deep S Go.Joins
set_option linter.unusedVariables false
set_option linter.unusedSimpArgs false
set_option maxRecDepth 100000
theorem cells5 : Try.prog.cellsOf 5 = 1 := by kernel_rfl
theorem cells26 : Try.prog.cellsOf 26 = 32 := by kernel_rfl
theorem cellsCt : Try.prog.cellsOf 24 = 2 := by kernel_rfl
set_option maxRecDepth 100000 in
theorem open_cts {H : Type} {enc : TypeId × Value → H} {W : World} {base : Nat} {v : Value} {d : DataW H} {p : List MemPlace} (hv : Value.okWide Try.prog W .any base 24 v) (h : DataW.Trod enc Try.prog W 0 (fun _ => true) true 24 v d p) :
    ∃ a b : Int, v = .agg #[.int .i64 a, .int .i64 b] := by
  obtain ⟨v0, v1, y0, y1, m, rfl, _, _, h0, h1⟩ := open_agg2 Try.underlying24 (by kernel_rfl) cellsCt hv h
  obtain ⟨z0, hz0, _⟩ := DataW.trod_int Try.underlying3 h0
  obtain ⟨z1, hz1, _⟩ := DataW.trod_int Try.underlying3 h1
  refine ⟨z0, z1, ?_⟩
  have e0 : v0 = .int .i64 z0 := by simpa using hz0
  have e1 : v1 = .int .i64 z1 := by simpa using hz1
  rw [e0, e1]
structure Slot where
  idx : Int
  sec : Nat → UInt8
  full : Bool
def Slot.v (s : Slot) : Nat → Value := fun i => if i = 0 then .int .i64 s.idx else if i < 33 then .int .u8 ((s.sec (i - 1)).toNat : Int) else .bool s.full
def Slot.zero : Slot := ⟨0, fun _ => 0, false⟩
/-- Slots behind a slice's address. -/
def Slots (w : World) (ad : Option Addr) (l : List Slot) : Prop := l = [] ∨ ∃ b o, ad = some ⟨b, o, none⟩ ∧ b < w.heap.size ∧ ∀ i s, l[i]? = some s → At w b (o + i * 34) s.v 34
theorem cellsN3 : Try.prog.cellsOf 3 = 1 := by kernel_rfl
theorem cellsN4 : Try.prog.cellsOf 4 = 1 := by kernel_rfl
theorem cellsN9 : Try.prog.cellsOf 9 = 1 := by kernel_rfl
theorem cellsN2 : Try.prog.cellsOf 2 = 1 := by kernel_rfl
theorem cellsNUs : Try.prog.cellsOf 22 = 1 := by kernel_rfl
theorem cellsNSs : Try.prog.cellsOf 28 = 1 := by kernel_rfl
theorem cellsNU : Try.prog.cellsOf 40 = 36 := by kernel_rfl
theorem cellsNS : Try.prog.cellsOf 65 = 34 := by kernel_rfl
theorem cellsNSt : Try.prog.cellsOf 30 = 115 := by kernel_rfl
theorem cellsNP : Try.prog.cellsOf 27 = 64 := by kernel_rfl
theorem bytesNU : Try.prog.bytesOf 40 = 72 := by kernel_rfl
theorem bytesNS : Try.prog.bytesOf 65 = 48 := by kernel_rfl
theorem one_cell {cs : List Value} {o : Nat} {v : Value} (h : (cs.drop o).take 1 = [v]) : cs[o]? = some v := by
  have := congrArg (fun l => l[0]?) h
  simpa [List.getElem?_take, List.getElem?_drop] using this
def Sz {H : Type} (t : TypeId) (d : DataW H) : Prop := ∀ n ∈ d.weights Try.prog t, n ≤ reachBytes
section
variable {H : Type}
theorem Sz.arg {ts : List TypeId} {ds : List (DataW H)} (h : (DataW.weightsEach Try.prog ts ds).all (· ≤ reachBytes) = true) {j : Nat} {t : TypeId} {d : DataW H} (ht : ts[j]? = some t) (hd : ds[j]? = some d) : Sz t d := fun n hn => by
  have := List.all_eq_true.1 h n (DataW.weights_mem_each ht hd n hn)
  simpa using this
theorem Sz.part {t : TypeId} {fs : Array Field} {parts : List (DataW H)} (h : Sz t (.agg parts)) (hu : Try.prog.underlying t = some (.struct fs)) {j : Nat} {t' : TypeId} {d : DataW H} (ht : (fs.toList.map (·.type))[j]? = some t') (hd : parts[j]? = some d) : Sz t' d := fun n hn =>
  h n (by simp only [DataW.weights, hu]; exact DataW.weights_mem_each ht hd n hn)
theorem weights_all {e : TypeId} : ∀ {l : List (DataW H)} {d : DataW H}, d ∈ l → ∀ n ∈ d.weights Try.prog e, n ∈ DataW.weightsAll Try.prog e l
  | [], _, h, _, _ => by simp at h
  | a :: l, d, h, n, hn => by
    simp only [DataW.weightsAll, List.mem_append]
    rcases List.mem_cons.1 h with rfl | h
    · exact .inl hn
    · exact .inr (weights_all h n hn)
theorem Sz.elem {t e : TypeId} {elems spare : List (DataW H)} (h : Sz t (.slice elems spare)) (hu : Try.prog.underlying t = some (.slice e)) {d : DataW H} (hd : d ∈ elems) : Sz e d := fun n hn =>
  h n (by simp only [DataW.weights, hu, List.mem_cons, List.mem_append]; exact .inr (.inl (weights_all hd n hn)))
end
section
variable {H : Type} {enc : TypeId × Value → H} {W : World} {base : Nat} {spare : Nat → Bool} {held : Bool}
theorem hash_cells {n : Nat} {cs : List Value} {x : DataW H × List MemPlace} (h : DataW.trod enc Try.prog W base spare held n 26 cs = some x) : ∃ f : Nat → UInt8, ∀ i, i < 32 → cs[i]? = some (bv f i) := by
  obtain ⟨ys, m2, _, _, _, hyl, hall⟩ := DataW.trod_array Try.underlying26 h
  have key : ∀ i, i < 32 → ∃ c : UInt8, cs[i]? = some (.int .u8 (c.toNat : Int)) := fun i hi => by
    have h1 := hall i hi
    rw [cells5, Nat.mul_one, List.getElem?_eq_getElem (show i < ys.length by omega)] at h1
    obtain ⟨z, hz, _, wz⟩ := DataW.trod_int Try.underlying5 h1
    have hr : 0 ≤ z ∧ z ≤ 255 := by simpa [Lit.wf, IntKind.min, IntKind.max, IntKind.signed, IntKind.bits] using wz
    refine ⟨UInt8.ofNat z.toNat, ?_⟩
    rw [one_cell hz, UInt8.toNat_ofNat', Nat.mod_eq_of_lt (by omega), Int.toNat_of_nonneg hr.1]
  refine ⟨fun i => match cs[i]? with | some (.int _ z) => UInt8.ofNat z.toNat | _ => 0, fun i hi => ?_⟩
  obtain ⟨c, hc⟩ := key i hi
  unfold bv
  simp only [hc, Int.toNat_natCast]
  rw [UInt8.ofNat_toNat]
theorem hash_in {n o : Nat} {cs : List Value} {x : DataW H × List MemPlace} (h : DataW.trod enc Try.prog W base spare held n 26 ((cs.drop o).take (Try.prog.cellsOf 26)) = some x) : ∃ f : Nat → UInt8, ∀ i, i < 32 → cs[o + i]? = some (bv f i) := by
  obtain ⟨f, hf⟩ := hash_cells h
  refine ⟨f, fun i hi => ?_⟩
  have := hf i hi
  rw [cells26, List.getElem?_take, if_pos hi, List.getElem?_drop] at this
  exact this
theorem two_in {n o : Nat} {cs : List Value} {x : DataW H × List MemPlace} (h : DataW.trod enc Try.prog W base spare held n 27 ((cs.drop o).take (Try.prog.cellsOf 27)) = some x) : ∃ f g : Nat → UInt8, (∀ i, i < 32 → cs[o + i]? = some (bv f i)) ∧ ∀ i, i < 32 → cs[o + 32 + i]? = some (bv g i) := by
  obtain ⟨ys, m2, _, _, _, hyl, hall⟩ := DataW.trod_array Try.underlying27 h
  have h0 := hall 0 (by omega)
  have h1 := hall 1 (by omega)
  rw [List.getElem?_eq_getElem (show 0 < ys.length by omega)] at h0
  rw [List.getElem?_eq_getElem (show 1 < ys.length by omega)] at h1
  obtain ⟨f, hf⟩ := hash_in h0
  obtain ⟨g, hg⟩ := hash_in h1
  refine ⟨f, g, fun i hi => ?_, fun i hi => ?_⟩
  · have := hf i hi
    rw [cellsNP, List.getElem?_take, if_pos (by rw [cells26]; omega), List.getElem?_drop, cells26, show o + (0 * 32 + i) = o + i by omega] at this
    exact this
  · have := hg i hi
    rw [cellsNP, List.getElem?_take, if_pos (by rw [cells26]; omega), List.getElem?_drop, cells26, show o + (1 * 32 + i) = o + 32 + i by omega] at this
    exact this
theorem cts_in {n o : Nat} {cs : List Value} {x : DataW H × List MemPlace} (h : DataW.trod enc Try.prog W base spare held n 24 ((cs.drop o).take (Try.prog.cellsOf 24)) = some x) : ∃ a b : Int, cs[o]? = some (.int .i64 a) ∧ cs[o + 1]? = some (.int .i64 b) := by
  obtain ⟨xs, m, _, hx, hl, hlen, hf⟩ := DataW.trod_struct Try.underlying24 h
  have hl6 : xs.length = 2 := hlen
  have g : ∀ (i : Nat) (hi : i < xs.length), xs[i]? = some xs[i] := fun i hi => List.getElem?_eq_getElem hi
  have f0 : DataW.trod enc Try.prog W base spare held m 3 ((((cs.drop o).take (Try.prog.cellsOf 24)).drop 0).take (Try.prog.cellsOf 3)) = some xs[0] := (hf 0 _ rfl).trans (g 0 (by omega))
  have f1 : DataW.trod enc Try.prog W base spare held m 3 ((((cs.drop o).take (Try.prog.cellsOf 24)).drop 1).take (Try.prog.cellsOf 3)) = some xs[1] := (hf 1 _ rfl).trans (g 1 (by omega))
  rw [cellsN3] at f0 f1
  obtain ⟨z0, e0, _, _⟩ := DataW.trod_int Try.underlying3 f0
  obtain ⟨z1, e1, _, _⟩ := DataW.trod_int Try.underlying3 f1
  have e0 := one_cell e0
  have e1 := one_cell e1
  rw [cellsCt, List.getElem?_take, if_pos (by omega), List.getElem?_drop] at e0 e1
  exact ⟨z0, z1, e0, e1⟩
theorem upd_cells {n : Nat} {cs : List Value} {x : DataW H × List MemPlace} (h : DataW.trod enc Try.prog W base spare held n 40 cs = some x) : ∃ V : Upd, ∀ j, j < 36 → cs[j]? = some (V.v j) := by
  obtain ⟨xs, m, _, hx, hl, hlen, hf⟩ := DataW.trod_struct Try.underlying40 h
  have hl6 : xs.length = 5 := hlen
  have g : ∀ (i : Nat) (hi : i < xs.length), xs[i]? = some xs[i] := fun i hi => List.getElem?_eq_getElem hi
  have f0 : DataW.trod enc Try.prog W base spare held m 3 ((cs.drop 0).take (Try.prog.cellsOf 3)) = some xs[0] := (hf 0 _ rfl).trans (g 0 (by omega))
  rw [cellsN3] at f0
  obtain ⟨z0, e0, _, _⟩ := DataW.trod_int Try.underlying3 f0
  have e0 := one_cell e0
  have f1 : DataW.trod enc Try.prog W base spare held m 2 ((cs.drop 1).take (Try.prog.cellsOf 2)) = some xs[1] := (hf 1 _ rfl).trans (g 1 (by omega))
  rw [cellsN2] at f1
  obtain ⟨z1, e1, _, _⟩ := DataW.trod_int Try.underlying2 f1
  have e1 := one_cell e1
  have f2 : DataW.trod enc Try.prog W base spare held m 2 ((cs.drop 2).take (Try.prog.cellsOf 2)) = some xs[2] := (hf 2 _ rfl).trans (g 2 (by omega))
  rw [cellsN2] at f2
  obtain ⟨z2, e2, _, _⟩ := DataW.trod_int Try.underlying2 f2
  have e2 := one_cell e2
  have f3 : DataW.trod enc Try.prog W base spare held m 26 ((cs.drop 3).take (Try.prog.cellsOf 26)) = some xs[3] := (hf 3 _ rfl).trans (g 3 (by omega))
  obtain ⟨z3, e3⟩ := hash_in f3
  have f4 : DataW.trod enc Try.prog W base spare held m 9 ((cs.drop 35).take (Try.prog.cellsOf 9)) = some xs[4] := (hf 4 _ rfl).trans (g 4 (by omega))
  rw [cellsN9] at f4
  obtain ⟨z4, e4, _⟩ := DataW.trod_string Try.underlying9 f4
  have e4 := one_cell e4
  refine ⟨⟨z0, z1, z2, z3, z4⟩, fun j hj => ?_⟩
  unfold Upd.v
  by_cases h0 : j = 0
  · subst h0; rw [if_pos rfl]; exact e0
  rw [if_neg h0]
  by_cases h1 : j = 1
  · subst h1; rw [if_pos rfl]; exact e1
  rw [if_neg h1]
  by_cases h2 : j = 2
  · subst h2; rw [if_pos rfl]; exact e2
  rw [if_neg h2]
  by_cases h3 : j < 35
  · rw [if_pos h3]; have := e3 (j - 3) (by omega); rw [show 3 + (j - 3) = j by omega] at this; exact this
  · rw [if_neg h3, show j = 35 by omega]; exact e4
theorem upd_in {n o : Nat} {cs : List Value} {x : DataW H × List MemPlace} (h : DataW.trod enc Try.prog W base spare held n 40 ((cs.drop o).take (Try.prog.cellsOf 40)) = some x) : ∃ V : Upd, ∀ j, j < 36 → cs[o + j]? = some (V.v j) := by
  obtain ⟨V, hf⟩ := upd_cells h
  refine ⟨V, fun i hi => ?_⟩
  have := hf i hi
  rw [cellsNU, List.getElem?_take, if_pos hi, List.getElem?_drop] at this
  exact this
theorem slot_cells {n : Nat} {cs : List Value} {x : DataW H × List MemPlace} (h : DataW.trod enc Try.prog W base spare held n 65 cs = some x) : ∃ V : Slot, ∀ j, j < 34 → cs[j]? = some (V.v j) := by
  obtain ⟨xs, m, _, hx, hl, hlen, hf⟩ := DataW.trod_struct Try.underlying65 h
  have hl6 : xs.length = 3 := hlen
  have g : ∀ (i : Nat) (hi : i < xs.length), xs[i]? = some xs[i] := fun i hi => List.getElem?_eq_getElem hi
  have f0 : DataW.trod enc Try.prog W base spare held m 2 ((cs.drop 0).take (Try.prog.cellsOf 2)) = some xs[0] := (hf 0 _ rfl).trans (g 0 (by omega))
  rw [cellsN2] at f0
  obtain ⟨z0, e0, _, _⟩ := DataW.trod_int Try.underlying2 f0
  have e0 := one_cell e0
  have f1 : DataW.trod enc Try.prog W base spare held m 26 ((cs.drop 1).take (Try.prog.cellsOf 26)) = some xs[1] := (hf 1 _ rfl).trans (g 1 (by omega))
  obtain ⟨z1, e1⟩ := hash_in f1
  have f2 : DataW.trod enc Try.prog W base spare held m 4 ((cs.drop 33).take (Try.prog.cellsOf 4)) = some xs[2] := (hf 2 _ rfl).trans (g 2 (by omega))
  rw [cellsN4] at f2
  obtain ⟨z2, e2, _⟩ := DataW.trod_bool Try.underlying4 f2
  have e2 := one_cell e2
  refine ⟨⟨z0, z1, z2⟩, fun j hj => ?_⟩
  unfold Slot.v
  by_cases h0 : j = 0
  · subst h0; rw [if_pos rfl]; exact e0
  rw [if_neg h0]
  by_cases h3 : j < 33
  · rw [if_pos h3]; have := e1 (j - 1) (by omega); rw [show 1 + (j - 1) = j by omega] at this; exact this
  · rw [if_neg h3, show j = 33 by omega]; exact e2
end
section
variable {H : Type} {enc : TypeId × Value → H} {W : World} {held : Bool}
theorem open_updsC {fuel : Nat} {cs : List Value} {x : DataW H × List MemPlace} (h : DataW.trod enc Try.prog W 0 (fun _ => true) held fuel 22 cs = some x) (hz : Sz 22 x.1) :
    ∃ (s : Sl) (l : List Upd), cs = [s.v] ∧ l.length = s.n ∧ Upds W s.ad l ∧ s.n ≤ s.c ∧ s.c * 72 ≤ 140737488351232 := by
  rcases open_slice Try.underlying22 h with ⟨hcs, hx⟩ | ⟨a, len, cap, m, n, D, Pl, hcs, _, hl, hm, hmm, hx, hel⟩
  · exact ⟨⟨none, 0, 0⟩, [], hcs, rfl, .inl rfl, Nat.le_refl _, by show 0 * _ ≤ _; omega⟩
  · simp only [if_true] at hmm
    subst hmm
    rw [hx] at hz
    have hb := hz ((((List.range len).map D).length + ((List.range (m - len)).map fun j => D (len + j)).length) * Try.prog.bytesOf 40) (by
      unfold DataW.weights
      rw [Try.underlying22]
      exact List.mem_cons_self ..)
    rw [bytesNU] at hb
    simp only [List.length_map, List.length_range] at hb
    unfold reachBytes at hb
    rw [cellsNU] at hel
    have hex : ∀ i, i < len → ∃ V : Upd, ∀ j, j < 36 → W.cell? ((a.add (i * 36)).add j) = some (V.v j) := fun i hi => by
      obtain ⟨cs', h1, h2⟩ := hel i (by omega)
      obtain ⟨_, hln, hget⟩ := World.cells?_some h1
      obtain ⟨V, hV⟩ := upd_cells h2
      exact ⟨V, fun j hj => by rw [hget j hj, hV j hj]⟩
    have hin : Inhabited Upd := ⟨Upd.zero⟩
    obtain ⟨f, hfv⟩ := choose_lt (α := Upd) hex
    refine ⟨⟨some a, len, m⟩, (List.range len).map f, hcs, by simp, ?_, hl, by show m * 72 ≤ _; rw [show len + (m - len) = m by omega] at hb; omega⟩
    by_cases hl0 : len = 0
    · subst hl0; exact .inl rfl
    · obtain ⟨b, off, spot⟩ := a
      have hspot : spot = none := by simpa [Addr.add] using World.cell?_spot (hfv 0 (by omega) 0 (by omega))
      subst hspot
      have hadd : ∀ i j, ((⟨b, off, none⟩ : Addr).add (i * 36)).add j = ⟨b, off + i * 36 + j, none⟩ := fun i j => by
        rw [add_add]; unfold Addr.add; split <;> simp_all <;> omega
      refine .inr ⟨b, off, rfl, ?_, fun i s hs j hj => ?_⟩
      · have := hfv 0 (by omega) 0 (by omega)
        rw [hadd] at this
        exact World.block_lt_of_cell? _ _ this
      · have hi' : i < len := by simpa using (List.getElem?_eq_some_iff.1 hs).1
        rw [List.getElem?_map, List.getElem?_range hi'] at hs
        have hs' : f i = s := by simpa using hs
        have := hfv i hi' j hj
        rw [hadd, hs'] at this
        exact this
theorem open_slotsC {fuel : Nat} {cs : List Value} {x : DataW H × List MemPlace} (h : DataW.trod enc Try.prog W 0 (fun _ => true) held fuel 28 cs = some x) (hz : Sz 28 x.1) :
    ∃ (s : Sl) (l : List Slot), cs = [s.v] ∧ l.length = s.n ∧ Slots W s.ad l ∧ s.n ≤ s.c ∧ s.c * 48 ≤ 140737488351232 := by
  rcases open_slice Try.underlying28 h with ⟨hcs, hx⟩ | ⟨a, len, cap, m, n, D, Pl, hcs, _, hl, hm, hmm, hx, hel⟩
  · exact ⟨⟨none, 0, 0⟩, [], hcs, rfl, .inl rfl, Nat.le_refl _, by show 0 * _ ≤ _; omega⟩
  · simp only [if_true] at hmm
    subst hmm
    rw [hx] at hz
    have hb := hz ((((List.range len).map D).length + ((List.range (m - len)).map fun j => D (len + j)).length) * Try.prog.bytesOf 65) (by
      unfold DataW.weights
      rw [Try.underlying28]
      exact List.mem_cons_self ..)
    rw [bytesNS] at hb
    simp only [List.length_map, List.length_range] at hb
    unfold reachBytes at hb
    rw [cellsNS] at hel
    have hex : ∀ i, i < len → ∃ V : Slot, ∀ j, j < 34 → W.cell? ((a.add (i * 34)).add j) = some (V.v j) := fun i hi => by
      obtain ⟨cs', h1, h2⟩ := hel i (by omega)
      obtain ⟨_, hln, hget⟩ := World.cells?_some h1
      obtain ⟨V, hV⟩ := slot_cells h2
      exact ⟨V, fun j hj => by rw [hget j hj, hV j hj]⟩
    have hin : Inhabited Slot := ⟨Slot.zero⟩
    obtain ⟨f, hfv⟩ := choose_lt (α := Slot) hex
    refine ⟨⟨some a, len, m⟩, (List.range len).map f, hcs, by simp, ?_, hl, by show m * 48 ≤ _; rw [show len + (m - len) = m by omega] at hb; omega⟩
    by_cases hl0 : len = 0
    · subst hl0; exact .inl rfl
    · obtain ⟨b, off, spot⟩ := a
      have hspot : spot = none := by simpa [Addr.add] using World.cell?_spot (hfv 0 (by omega) 0 (by omega))
      subst hspot
      have hadd : ∀ i j, ((⟨b, off, none⟩ : Addr).add (i * 34)).add j = ⟨b, off + i * 34 + j, none⟩ := fun i j => by
        rw [add_add]; unfold Addr.add; split <;> simp_all <;> omega
      refine .inr ⟨b, off, rfl, ?_, fun i s hs j hj => ?_⟩
      · have := hfv 0 (by omega) 0 (by omega)
        rw [hadd] at this
        exact World.block_lt_of_cell? _ _ this
      · have hi' : i < len := by simpa using (List.getElem?_eq_some_iff.1 hs).1
        rw [List.getElem?_map, List.getElem?_range hi'] at hs
        have hs' : f i = s := by simpa using hs
        have := hfv i hi' j hj
        rw [hadd, hs'] at this
        exact this
/-- What stands behind a state. -/
structure StAt (W : World) (s : St) (lo lp : List Upd) (ls : List Slot) : Prop where
  no : lo.length = s.ours.n
  np : lp.length = s.peers.n
  ns : ls.length = s.shelf.n
  o : Upds W s.ours.ad lo
  p : Upds W s.peers.ad lp
  f : Slots W s.shelf.ad ls
  co : s.ours.n ≤ s.ours.c
  cp : s.peers.n ≤ s.peers.c
  zo : s.ours.n ≤ 1954687338212
  zp : s.peers.n ≤ 1954687338212
  zs : s.shelf.n ≤ 2932031007400
set_option maxRecDepth 100000 in
theorem st_cells {n : Nat} {cs : List Value} {x : DataW H × List MemPlace} (h : DataW.trod enc Try.prog W 0 (fun _ => true) held n 30 cs = some x) (hz : Sz 30 x.1) : ∃ (V : St) (lo lp : List Upd) (ls : List Slot), (∀ j, j < 115 → cs[j]? = some (V.v j)) ∧ StAt W V lo lp ls := by
  obtain ⟨xs, m, _, hx, hl, hlen, hf⟩ := DataW.trod_struct Try.underlying30 h
  have hl6 : xs.length = 18 := hlen
  have g : ∀ (i : Nat) (hi : i < xs.length), xs[i]? = some xs[i] := fun i hi => List.getElem?_eq_getElem hi
  rw [hx] at hz
  have f0 : DataW.trod enc Try.prog W 0 (fun _ => true) held m 3 ((cs.drop 0).take (Try.prog.cellsOf 3)) = some xs[0] := (hf 0 _ rfl).trans (g 0 (by omega))
  rw [cellsN3] at f0
  obtain ⟨z0, e0, _, _⟩ := DataW.trod_int Try.underlying3 f0
  have e0 := one_cell e0
  have f1 : DataW.trod enc Try.prog W 0 (fun _ => true) held m 2 ((cs.drop 1).take (Try.prog.cellsOf 2)) = some xs[1] := (hf 1 _ rfl).trans (g 1 (by omega))
  rw [cellsN2] at f1
  obtain ⟨z1, e1, _, _⟩ := DataW.trod_int Try.underlying2 f1
  have e1 := one_cell e1
  have f2 : DataW.trod enc Try.prog W 0 (fun _ => true) held m 2 ((cs.drop 2).take (Try.prog.cellsOf 2)) = some xs[2] := (hf 2 _ rfl).trans (g 2 (by omega))
  rw [cellsN2] at f2
  obtain ⟨z2, e2, _, _⟩ := DataW.trod_int Try.underlying2 f2
  have e2 := one_cell e2
  have f3 : DataW.trod enc Try.prog W 0 (fun _ => true) held m 2 ((cs.drop 3).take (Try.prog.cellsOf 2)) = some xs[3] := (hf 3 _ rfl).trans (g 3 (by omega))
  rw [cellsN2] at f3
  obtain ⟨z3, e3, _, _⟩ := DataW.trod_int Try.underlying2 f3
  have e3 := one_cell e3
  have f4 : DataW.trod enc Try.prog W 0 (fun _ => true) held m 22 ((cs.drop 4).take (Try.prog.cellsOf 22)) = some xs[4] := (hf 4 _ rfl).trans (g 4 (by omega))
  rw [cellsNUs] at f4
  have hz4 : Sz 22 xs[4].1 := Sz.part hz Try.underlying30 (j := 4) (t' := 22) rfl (d := xs[4].1) (by rw [List.getElem?_map, g 4 (by omega)]; rfl)
  obtain ⟨z4, l4, e4, n4, u4, c4, b4⟩ := open_updsC f4 hz4
  have e4 := one_cell e4
  have f5 : DataW.trod enc Try.prog W 0 (fun _ => true) held m 22 ((cs.drop 5).take (Try.prog.cellsOf 22)) = some xs[5] := (hf 5 _ rfl).trans (g 5 (by omega))
  rw [cellsNUs] at f5
  have hz5 : Sz 22 xs[5].1 := Sz.part hz Try.underlying30 (j := 5) (t' := 22) rfl (d := xs[5].1) (by rw [List.getElem?_map, g 5 (by omega)]; rfl)
  obtain ⟨z5, l5, e5, n5, u5, c5, b5⟩ := open_updsC f5 hz5
  have e5 := one_cell e5
  have f6 : DataW.trod enc Try.prog W 0 (fun _ => true) held m 2 ((cs.drop 6).take (Try.prog.cellsOf 2)) = some xs[6] := (hf 6 _ rfl).trans (g 6 (by omega))
  rw [cellsN2] at f6
  obtain ⟨z6, e6, _, _⟩ := DataW.trod_int Try.underlying2 f6
  have e6 := one_cell e6
  have f7 : DataW.trod enc Try.prog W 0 (fun _ => true) held m 2 ((cs.drop 7).take (Try.prog.cellsOf 2)) = some xs[7] := (hf 7 _ rfl).trans (g 7 (by omega))
  rw [cellsN2] at f7
  obtain ⟨z7, e7, _, _⟩ := DataW.trod_int Try.underlying2 f7
  have e7 := one_cell e7
  have f8 : DataW.trod enc Try.prog W 0 (fun _ => true) held m 2 ((cs.drop 8).take (Try.prog.cellsOf 2)) = some xs[8] := (hf 8 _ rfl).trans (g 8 (by omega))
  rw [cellsN2] at f8
  obtain ⟨z8, e8, _, _⟩ := DataW.trod_int Try.underlying2 f8
  have e8 := one_cell e8
  have f9 : DataW.trod enc Try.prog W 0 (fun _ => true) held m 24 ((cs.drop 9).take (Try.prog.cellsOf 24)) = some xs[9] := (hf 9 _ rfl).trans (g 9 (by omega))
  obtain ⟨z9, y9, e9, d9⟩ := cts_in f9
  have f10 : DataW.trod enc Try.prog W 0 (fun _ => true) held m 24 ((cs.drop 11).take (Try.prog.cellsOf 24)) = some xs[10] := (hf 10 _ rfl).trans (g 10 (by omega))
  obtain ⟨z10, y10, e10, d10⟩ := cts_in f10
  have f11 : DataW.trod enc Try.prog W 0 (fun _ => true) held m 24 ((cs.drop 13).take (Try.prog.cellsOf 24)) = some xs[11] := (hf 11 _ rfl).trans (g 11 (by omega))
  obtain ⟨z11, y11, e11, d11⟩ := cts_in f11
  have f12 : DataW.trod enc Try.prog W 0 (fun _ => true) held m 4 ((cs.drop 15).take (Try.prog.cellsOf 4)) = some xs[12] := (hf 12 _ rfl).trans (g 12 (by omega))
  rw [cellsN4] at f12
  obtain ⟨z12, e12, _⟩ := DataW.trod_bool Try.underlying4 f12
  have e12 := one_cell e12
  have f13 : DataW.trod enc Try.prog W 0 (fun _ => true) held m 27 ((cs.drop 16).take (Try.prog.cellsOf 27)) = some xs[13] := (hf 13 _ rfl).trans (g 13 (by omega))
  obtain ⟨z13, y13, e13, d13⟩ := two_in f13
  have f14 : DataW.trod enc Try.prog W 0 (fun _ => true) held m 26 ((cs.drop 80).take (Try.prog.cellsOf 26)) = some xs[14] := (hf 14 _ rfl).trans (g 14 (by omega))
  obtain ⟨z14, e14⟩ := hash_in f14
  have f15 : DataW.trod enc Try.prog W 0 (fun _ => true) held m 28 ((cs.drop 112).take (Try.prog.cellsOf 28)) = some xs[15] := (hf 15 _ rfl).trans (g 15 (by omega))
  rw [cellsNSs] at f15
  have hz15 : Sz 28 xs[15].1 := Sz.part hz Try.underlying30 (j := 15) (t' := 28) rfl (d := xs[15].1) (by rw [List.getElem?_map, g 15 (by omega)]; rfl)
  obtain ⟨z15, l15, e15, n15, u15, c15, b15⟩ := open_slotsC f15 hz15
  have e15 := one_cell e15
  have f16 : DataW.trod enc Try.prog W 0 (fun _ => true) held m 3 ((cs.drop 113).take (Try.prog.cellsOf 3)) = some xs[16] := (hf 16 _ rfl).trans (g 16 (by omega))
  rw [cellsN3] at f16
  obtain ⟨z16, e16, _, _⟩ := DataW.trod_int Try.underlying3 f16
  have e16 := one_cell e16
  have f17 : DataW.trod enc Try.prog W 0 (fun _ => true) held m 2 ((cs.drop 114).take (Try.prog.cellsOf 2)) = some xs[17] := (hf 17 _ rfl).trans (g 17 (by omega))
  rw [cellsN2] at f17
  obtain ⟨z17, e17, _, _⟩ := DataW.trod_int Try.underlying2 f17
  have e17 := one_cell e17
  refine ⟨⟨z0, z1, z2, z3, z4, z5, z6, z7, z8, z9, y9, z10, y10, z11, y11, z12, z13, y13, z14, z15, z16, z17⟩, l4, l5, l15, fun j hj => ?_, ⟨n4, n5, n15, u4, u5, u15, c4, c5, ?_, ?_, ?_⟩⟩
  rotate_left
  · show z4.n ≤ _; omega
  · show z5.n ≤ _; omega
  · show z15.n ≤ _; omega
  unfold St.v
  by_cases h : j < 1
  · rw [if_pos h]; rw [show j = 0 by omega]; exact e0
  rw [if_neg h]
  by_cases h : j < 2
  · rw [if_pos h]; rw [show j = 1 by omega]; exact e1
  rw [if_neg h]
  by_cases h : j < 3
  · rw [if_pos h]; rw [show j = 2 by omega]; exact e2
  rw [if_neg h]
  by_cases h : j < 4
  · rw [if_pos h]; rw [show j = 3 by omega]; exact e3
  rw [if_neg h]
  by_cases h : j < 5
  · rw [if_pos h]; rw [show j = 4 by omega]; exact e4
  rw [if_neg h]
  by_cases h : j < 6
  · rw [if_pos h]; rw [show j = 5 by omega]; exact e5
  rw [if_neg h]
  by_cases h : j < 7
  · rw [if_pos h]; rw [show j = 6 by omega]; exact e6
  rw [if_neg h]
  by_cases h : j < 8
  · rw [if_pos h]; rw [show j = 7 by omega]; exact e7
  rw [if_neg h]
  by_cases h : j < 9
  · rw [if_pos h]; rw [show j = 8 by omega]; exact e8
  rw [if_neg h]
  by_cases h : j < 10
  · rw [if_pos h]; rw [show j = 9 by omega]; exact e9
  rw [if_neg h]
  by_cases h : j < 11
  · rw [if_pos h]; rw [show j = 10 by omega]; exact d9
  rw [if_neg h]
  by_cases h : j < 12
  · rw [if_pos h]; rw [show j = 11 by omega]; exact e10
  rw [if_neg h]
  by_cases h : j < 13
  · rw [if_pos h]; rw [show j = 12 by omega]; exact d10
  rw [if_neg h]
  by_cases h : j < 14
  · rw [if_pos h]; rw [show j = 13 by omega]; exact e11
  rw [if_neg h]
  by_cases h : j < 15
  · rw [if_pos h]; rw [show j = 14 by omega]; exact d11
  rw [if_neg h]
  by_cases h : j < 16
  · rw [if_pos h]; rw [show j = 15 by omega]; exact e12
  rw [if_neg h]
  by_cases h : j < 48
  · rw [if_pos h]; have := e13 (j - 16) (by omega); rw [show 16 + (j - 16) = j by omega] at this; exact this
  rw [if_neg h]
  by_cases h : j < 80
  · rw [if_pos h]; have := d13 (j - 48) (by omega); rw [show 48 + (j - 48) = j by omega] at this; exact this
  rw [if_neg h]
  by_cases h : j < 112
  · rw [if_pos h]; have := e14 (j - 80) (by omega); rw [show 80 + (j - 80) = j by omega] at this; exact this
  rw [if_neg h]
  by_cases h : j < 113
  · rw [if_pos h]; rw [show j = 112 by omega]; exact e15
  rw [if_neg h]
  by_cases h : j < 114
  · rw [if_pos h]; rw [show j = 113 by omega]; exact e16
  rw [if_neg h]
  rw [show j = 114 by omega]; exact e17
set_option maxRecDepth 100000 in
theorem open_st {base : Nat} {v : Value} {d : DataW H} {p : List MemPlace} (hv : Value.okWide Try.prog W .any base 30 v) (h : DataW.Trod enc Try.prog W 0 (fun _ => true) true 30 v d p) (hz : Sz 30 d) : ∃ (V : St) (lo lp : List Upd) (ls : List Slot), v = .agg (tabv V.v 115) ∧ StAt W V lo lp ls := by
  simp only [Value.okWide, Try.underlying30] at hv
  obtain ⟨cs, rfl, hsz, _⟩ := hv
  rw [cellsNSt] at hsz
  obtain ⟨fuel, hf⟩ := h
  obtain ⟨V, lo, lp, ls, hV, hr⟩ := st_cells hf hz
  refine ⟨V, lo, lp, ls, congrArg Value.agg ?_, hr⟩
  refine tabv_ext _ _ _ hsz fun i hi => ?_
  have := hV i hi
  simpa [Value.cells] using this
end
end Go.Proofs.Ytnmoheipfadmeaa
