/-
  STATES, CONFIGS, UPDATES, MESSAGES among the arguments, opened (made of record's ROpenS by mkdopen.py).
-/
import Derived.Test.YtmmcoedgoekhgaaGreatDoorDMsg
import Derived.Test.YtmmcoedgoekhgaaGreatDoorDMsg
import Derived.Test.YtmmcoedgoekhgaaGreatDoorSLaid
import Derived.ProofKit
import Derived.OpenShut
import Derived.SizedLaws
import Derived.Deep.Slices
import Derived.Lib.SmallJoins
namespace Go.Proofs.YtmmcoedgoekhgaaGreatDoor
open Go.ChangeShapes Go.WideShapes Go.ChangeAt Go.RowKit Go.Deep S Go.Joins
set_option linter.unusedVariables false
set_option linter.unusedSimpArgs false
set_option maxRecDepth 100000
set_option maxHeartbeats 8000000
theorem cellsCt : Tryz.prog.cellsOf 29 = 2 := by kernel_rfl
theorem cellsN3 : Tryz.prog.cellsOf 3 = 1 := by kernel_rfl
theorem cellsN4 : Tryz.prog.cellsOf 4 = 1 := by kernel_rfl
theorem cellsN9 : Tryz.prog.cellsOf 9 = 1 := by kernel_rfl
theorem cellsN2 : Tryz.prog.cellsOf 2 = 1 := by kernel_rfl
theorem cellsNUs : Tryz.prog.cellsOf 27 = 1 := by kernel_rfl
theorem cellsNSs : Tryz.prog.cellsOf 30 = 1 := by kernel_rfl
theorem cellsNU : Tryz.prog.cellsOf 34 = 36 := by kernel_rfl
theorem cellsNS : Tryz.prog.cellsOf 106 = 34 := by kernel_rfl
theorem cellsNSt : Tryz.prog.cellsOf 32 = 115 := by kernel_rfl
theorem cellsNP : Tryz.prog.cellsOf 24 = 64 := by kernel_rfl
theorem bytesNU : Tryz.prog.bytesOf 34 = 72 := by kernel_rfl
theorem bytesNS : Tryz.prog.bytesOf 106 = 48 := by kernel_rfl
theorem one_cell {cs : List Value} {o : Nat} {v : Value} (h : (cs.drop o).take 1 = [v]) : cs[o]? = some v := by
  have := congrArg (fun l => l[0]?) h
  simpa [List.getElem?_take, List.getElem?_drop] using this
def Sz {H : Type} (t : TypeId) (d : DataW H) : Prop := ∀ n ∈ d.weights Tryz.prog t, n ≤ reachBytes
section
variable {H : Type}
theorem Sz.arg {ts : List TypeId} {ds : List (DataW H)} (h : (DataW.weightsEach Tryz.prog ts ds).all (· ≤ reachBytes) = true) {j : Nat} {t : TypeId} {d : DataW H} (ht : ts[j]? = some t) (hd : ds[j]? = some d) : Sz t d := fun n hn => by
  have := List.all_eq_true.1 h n (DataW.weights_mem_each ht hd n hn)
  simpa using this
theorem Sz.part {t : TypeId} {fs : Array Field} {parts : List (DataW H)} (h : Sz t (.agg parts)) (hu : Tryz.prog.underlying t = some (.struct fs)) {j : Nat} {t' : TypeId} {d : DataW H} (ht : (fs.toList.map (·.type))[j]? = some t') (hd : parts[j]? = some d) : Sz t' d := fun n hn =>
  h n (by simp only [DataW.weights, hu]; exact DataW.weights_mem_each ht hd n hn)
theorem weights_all {e : TypeId} : ∀ {l : List (DataW H)} {d : DataW H}, d ∈ l → ∀ n ∈ d.weights Tryz.prog e, n ∈ DataW.weightsAll Tryz.prog e l
  | [], _, h, _, _ => by simp at h
  | a :: l, d, h, n, hn => by
    simp only [DataW.weightsAll, List.mem_append]
    rcases List.mem_cons.1 h with rfl | h
    · exact .inl hn
    · exact .inr (weights_all h n hn)
theorem Sz.elem {t e : TypeId} {elems spare : List (DataW H)} (h : Sz t (.slice elems spare)) (hu : Tryz.prog.underlying t = some (.slice e)) {d : DataW H} (hd : d ∈ elems) : Sz e d := fun n hn =>
  h n (by simp only [DataW.weights, hu, List.mem_cons, List.mem_append]; exact .inr (.inl (weights_all hd n hn)))
end
section
variable {H : Type} {enc : TypeId × Value → H} {W : World} {base : Nat} {spare : Nat → Bool} {held : Bool}
theorem hash_cells {n : Nat} {cs : List Value} {x : DataW H × List MemPlace} (h : DataW.trod enc Tryz.prog W base spare held n 23 cs = some x) : ∃ f : Nat → UInt8, ∀ i, i < 32 → cs[i]? = some (bv f i) := by
  obtain ⟨ys, m2, _, _, _, hyl, hall⟩ := DataW.trod_array Tryz.underlying23 h
  have key : ∀ i, i < 32 → ∃ c : UInt8, cs[i]? = some (.int .u8 (c.toNat : Int)) := fun i hi => by
    have h1 := hall i hi
    rw [cells5, Nat.mul_one, List.getElem?_eq_getElem (show i < ys.length by omega)] at h1
    obtain ⟨z, hz, _, wz⟩ := DataW.trod_int Tryz.underlying5 h1
    have hr : 0 ≤ z ∧ z ≤ 255 := by simpa [Lit.wf, IntKind.min, IntKind.max, IntKind.signed, IntKind.bits] using wz
    refine ⟨UInt8.ofNat z.toNat, ?_⟩
    rw [one_cell hz, UInt8.toNat_ofNat', Nat.mod_eq_of_lt (by omega), Int.toNat_of_nonneg hr.1]
  refine ⟨fun i => match cs[i]? with | some (.int _ z) => UInt8.ofNat z.toNat | _ => 0, fun i hi => ?_⟩
  obtain ⟨c, hc⟩ := key i hi
  unfold bv
  simp only [hc, Int.toNat_natCast]
  rw [UInt8.ofNat_toNat]
theorem hash_in {n o : Nat} {cs : List Value} {x : DataW H × List MemPlace} (h : DataW.trod enc Tryz.prog W base spare held n 23 ((cs.drop o).take (Tryz.prog.cellsOf 23)) = some x) : ∃ f : Nat → UInt8, ∀ i, i < 32 → cs[o + i]? = some (bv f i) := by
  obtain ⟨f, hf⟩ := hash_cells h
  refine ⟨f, fun i hi => ?_⟩
  have := hf i hi
  rw [cells26, List.getElem?_take, if_pos hi, List.getElem?_drop] at this
  exact this
theorem two_in {n o : Nat} {cs : List Value} {x : DataW H × List MemPlace} (h : DataW.trod enc Tryz.prog W base spare held n 24 ((cs.drop o).take (Tryz.prog.cellsOf 24)) = some x) : ∃ f g : Nat → UInt8, (∀ i, i < 32 → cs[o + i]? = some (bv f i)) ∧ ∀ i, i < 32 → cs[o + 32 + i]? = some (bv g i) := by
  obtain ⟨ys, m2, _, _, _, hyl, hall⟩ := DataW.trod_array Tryz.underlying24 h
  have h0 := hall 0 (by omega)
  have h1 := hall 1 (by omega)
  rw [List.getElem?_eq_getElem (show 0 < ys.length by omega)] at h0
  rw [List.getElem?_eq_getElem (show 1 < ys.length by omega)] at h1
  obtain ⟨f, hf⟩ := hash_in h0
  obtain ⟨g, hg⟩ := hash_in h1
  refine ⟨f, g, fun i hi => ?_, fun i hi => ?_⟩
  · have := hf i hi
    rw [cellsNP, List.getElem?_take, if_pos (by rw [cells26]; omega), List.getElem?_drop, cells26, show o + (0 * 32 + i) = o + i by omega] at this
    exact this
  · have := hg i hi
    rw [cellsNP, List.getElem?_take, if_pos (by rw [cells26]; omega), List.getElem?_drop, cells26, show o + (1 * 32 + i) = o + 32 + i by omega] at this
    exact this
def I64 (x : Int) : Prop := -9223372036854775808 ≤ x ∧ x ≤ 9223372036854775807
theorem i64_of {x : Int} (h : (Lit.int .i64 x).wf = true) : I64 x := by unfold I64; simpa [Lit.wf, IntKind.min, IntKind.max, IntKind.signed, IntKind.bits] using h
theorem cts_in {n o : Nat} {cs : List Value} {x : DataW H × List MemPlace} (h : DataW.trod enc Tryz.prog W base spare held n 29 ((cs.drop o).take (Tryz.prog.cellsOf 29)) = some x) : ∃ a b : Int, cs[o]? = some (.int .i64 a) ∧ cs[o + 1]? = some (.int .i64 b) ∧ I64 a ∧ I64 b := by
  obtain ⟨xs, m, _, hx, hl, hlen, hf⟩ := DataW.trod_struct Tryz.underlying29 h
  have hl6 : xs.length = 2 := hlen
  have g : ∀ (i : Nat) (hi : i < xs.length), xs[i]? = some xs[i] := fun i hi => List.getElem?_eq_getElem hi
  have f0 : DataW.trod enc Tryz.prog W base spare held m 3 ((((cs.drop o).take (Tryz.prog.cellsOf 29)).drop 0).take (Tryz.prog.cellsOf 3)) = some xs[0] := (hf 0 _ rfl).trans (g 0 (by omega))
  have f1 : DataW.trod enc Tryz.prog W base spare held m 3 ((((cs.drop o).take (Tryz.prog.cellsOf 29)).drop 1).take (Tryz.prog.cellsOf 3)) = some xs[1] := (hf 1 _ rfl).trans (g 1 (by omega))
  rw [cellsN3] at f0 f1
  obtain ⟨z0, e0, _, r0⟩ := DataW.trod_int Tryz.underlying3 f0
  obtain ⟨z1, e1, _, r1⟩ := DataW.trod_int Tryz.underlying3 f1
  have e0 := one_cell e0
  have e1 := one_cell e1
  rw [cellsCt, List.getElem?_take, if_pos (by omega), List.getElem?_drop] at e0 e1
  exact ⟨z0, z1, e0, e1, i64_of r0, i64_of r1⟩
theorem upd_cells {n : Nat} {cs : List Value} {x : DataW H × List MemPlace} (h : DataW.trod enc Tryz.prog W base spare held n 34 cs = some x) : ∃ V : Upd, ∀ j, j < 36 → cs[j]? = some (V.v j) := by
  obtain ⟨xs, m, _, hx, hl, hlen, hf⟩ := DataW.trod_struct Tryz.underlying34 h
  have hl6 : xs.length = 5 := hlen
  have g : ∀ (i : Nat) (hi : i < xs.length), xs[i]? = some xs[i] := fun i hi => List.getElem?_eq_getElem hi
  have f0 : DataW.trod enc Tryz.prog W base spare held m 3 ((cs.drop 0).take (Tryz.prog.cellsOf 3)) = some xs[0] := (hf 0 _ rfl).trans (g 0 (by omega))
  rw [cellsN3] at f0
  obtain ⟨z0, e0, _, _⟩ := DataW.trod_int Tryz.underlying3 f0
  have e0 := one_cell e0
  have f1 : DataW.trod enc Tryz.prog W base spare held m 2 ((cs.drop 1).take (Tryz.prog.cellsOf 2)) = some xs[1] := (hf 1 _ rfl).trans (g 1 (by omega))
  rw [cellsN2] at f1
  obtain ⟨z1, e1, _, _⟩ := DataW.trod_int Tryz.underlying2 f1
  have e1 := one_cell e1
  have f2 : DataW.trod enc Tryz.prog W base spare held m 2 ((cs.drop 2).take (Tryz.prog.cellsOf 2)) = some xs[2] := (hf 2 _ rfl).trans (g 2 (by omega))
  rw [cellsN2] at f2
  obtain ⟨z2, e2, _, _⟩ := DataW.trod_int Tryz.underlying2 f2
  have e2 := one_cell e2
  have f3 : DataW.trod enc Tryz.prog W base spare held m 23 ((cs.drop 3).take (Tryz.prog.cellsOf 23)) = some xs[3] := (hf 3 _ rfl).trans (g 3 (by omega))
  obtain ⟨z3, e3⟩ := hash_in f3
  have f4 : DataW.trod enc Tryz.prog W base spare held m 9 ((cs.drop 35).take (Tryz.prog.cellsOf 9)) = some xs[4] := (hf 4 _ rfl).trans (g 4 (by omega))
  rw [cellsN9] at f4
  obtain ⟨z4, e4, _⟩ := DataW.trod_string Tryz.underlying9 f4
  have e4 := one_cell e4
  refine ⟨⟨z0, z1, z2, z3, z4⟩, fun j hj => ?_⟩
  unfold Upd.v
  by_cases h0 : j = 0
  · subst h0; rw [if_pos rfl]; exact e0
  rw [if_neg h0]
  by_cases h1 : j = 1
  · subst h1; rw [if_pos rfl]; exact e1
  rw [if_neg h1]
  by_cases h2 : j = 2
  · subst h2; rw [if_pos rfl]; exact e2
  rw [if_neg h2]
  by_cases h3 : j < 35
  · rw [if_pos h3]; have := e3 (j - 3) (by omega); rw [show 3 + (j - 3) = j by omega] at this; exact this
  · rw [if_neg h3, show j = 35 by omega]; exact e4
theorem slot_cells {n : Nat} {cs : List Value} {x : DataW H × List MemPlace} (h : DataW.trod enc Tryz.prog W base spare held n 106 cs = some x) : ∃ V : Slot, ∀ j, j < 34 → cs[j]? = some (V.v j) := by
  obtain ⟨xs, m, _, hx, hl, hlen, hf⟩ := DataW.trod_struct Tryz.underlying106 h
  have hl6 : xs.length = 3 := hlen
  have g : ∀ (i : Nat) (hi : i < xs.length), xs[i]? = some xs[i] := fun i hi => List.getElem?_eq_getElem hi
  have f0 : DataW.trod enc Tryz.prog W base spare held m 2 ((cs.drop 0).take (Tryz.prog.cellsOf 2)) = some xs[0] := (hf 0 _ rfl).trans (g 0 (by omega))
  rw [cellsN2] at f0
  obtain ⟨z0, e0, _, _⟩ := DataW.trod_int Tryz.underlying2 f0
  have e0 := one_cell e0
  have f1 : DataW.trod enc Tryz.prog W base spare held m 23 ((cs.drop 1).take (Tryz.prog.cellsOf 23)) = some xs[1] := (hf 1 _ rfl).trans (g 1 (by omega))
  obtain ⟨z1, e1⟩ := hash_in f1
  have f2 : DataW.trod enc Tryz.prog W base spare held m 4 ((cs.drop 33).take (Tryz.prog.cellsOf 4)) = some xs[2] := (hf 2 _ rfl).trans (g 2 (by omega))
  rw [cellsN4] at f2
  obtain ⟨z2, e2, _⟩ := DataW.trod_bool Tryz.underlying4 f2
  have e2 := one_cell e2
  refine ⟨⟨z0, z1, z2⟩, fun j hj => ?_⟩
  unfold Slot.v
  by_cases h0 : j = 0
  · subst h0; rw [if_pos rfl]; exact e0
  rw [if_neg h0]
  by_cases h3 : j < 33
  · rw [if_pos h3]; have := e1 (j - 1) (by omega); rw [show 1 + (j - 1) = j by omega] at this; exact this
  · rw [if_neg h3, show j = 33 by omega]; exact e2
set_option maxRecDepth 100000 in
theorem cf_cells {n : Nat} {cs : List Value} {x : DataW H × List MemPlace} (h : DataW.trod enc Tryz.prog W base spare held n 26 cs = some x) : ∃ V : Cf, (∀ j, j < 164 → cs[j]? = some (V.v j)) := by
  obtain ⟨xs, m, _, hx, hl, hlen, hf⟩ := DataW.trod_struct Tryz.underlying26 h
  have hl6 : xs.length = 8 := hlen
  have g : ∀ (i : Nat) (hi : i < xs.length), xs[i]? = some xs[i] := fun i hi => List.getElem?_eq_getElem hi
  have f0 : DataW.trod enc Tryz.prog W base spare held m 3 ((cs.drop 0).take (Tryz.prog.cellsOf 3)) = some xs[0] := (hf 0 _ rfl).trans (g 0 (by omega))
  rw [cellsN3] at f0
  obtain ⟨z0, e0, _, _⟩ := DataW.trod_int Tryz.underlying3 f0
  have e0 := one_cell e0
  have f1 : DataW.trod enc Tryz.prog W base spare held m 2 ((cs.drop 1).take (Tryz.prog.cellsOf 2)) = some xs[1] := (hf 1 _ rfl).trans (g 1 (by omega))
  rw [cellsN2] at f1
  obtain ⟨z1, e1, _, _⟩ := DataW.trod_int Tryz.underlying2 f1
  have e1 := one_cell e1
  have f2 : DataW.trod enc Tryz.prog W base spare held m 2 ((cs.drop 2).take (Tryz.prog.cellsOf 2)) = some xs[2] := (hf 2 _ rfl).trans (g 2 (by omega))
  rw [cellsN2] at f2
  obtain ⟨z2, e2, _, _⟩ := DataW.trod_int Tryz.underlying2 f2
  have e2 := one_cell e2
  have f3 : DataW.trod enc Tryz.prog W base spare held m 23 ((cs.drop 3).take (Tryz.prog.cellsOf 23)) = some xs[3] := (hf 3 _ rfl).trans (g 3 (by omega))
  obtain ⟨z3, e3⟩ := hash_in f3
  have f4 : DataW.trod enc Tryz.prog W base spare held m 23 ((cs.drop 35).take (Tryz.prog.cellsOf 23)) = some xs[4] := (hf 4 _ rfl).trans (g 4 (by omega))
  obtain ⟨z4, e4⟩ := hash_in f4
  have f5 : DataW.trod enc Tryz.prog W base spare held m 23 ((cs.drop 67).take (Tryz.prog.cellsOf 23)) = some xs[5] := (hf 5 _ rfl).trans (g 5 (by omega))
  obtain ⟨z5, e5⟩ := hash_in f5
  have f6 : DataW.trod enc Tryz.prog W base spare held m 24 ((cs.drop 99).take (Tryz.prog.cellsOf 24)) = some xs[6] := (hf 6 _ rfl).trans (g 6 (by omega))
  obtain ⟨z6, y6, e6, d6⟩ := two_in f6
  have f7 : DataW.trod enc Tryz.prog W base spare held m 3 ((cs.drop 163).take (Tryz.prog.cellsOf 3)) = some xs[7] := (hf 7 _ rfl).trans (g 7 (by omega))
  rw [cellsN3] at f7
  obtain ⟨z7, e7, _, _⟩ := DataW.trod_int Tryz.underlying3 f7
  have e7 := one_cell e7
  refine ⟨⟨z0, z1, z2, z3, z4, z5, z6, y6, z7⟩, fun j hj => ?_⟩
  unfold Cf.v
  by_cases h : j < 1
  · rw [if_pos h]; rw [show j = 0 by omega]; exact e0
  rw [if_neg h]
  by_cases h : j < 2
  · rw [if_pos h]; rw [show j = 1 by omega]; exact e1
  rw [if_neg h]
  by_cases h : j < 3
  · rw [if_pos h]; rw [show j = 2 by omega]; exact e2
  rw [if_neg h]
  by_cases h : j < 35
  · rw [if_pos h]; have := e3 (j - 3) (by omega); rw [show 3 + (j - 3) = j by omega] at this; exact this
  rw [if_neg h]
  by_cases h : j < 67
  · rw [if_pos h]; have := e4 (j - 35) (by omega); rw [show 35 + (j - 35) = j by omega] at this; exact this
  rw [if_neg h]
  by_cases h : j < 99
  · rw [if_pos h]; have := e5 (j - 67) (by omega); rw [show 67 + (j - 67) = j by omega] at this; exact this
  rw [if_neg h]
  by_cases h : j < 131
  · rw [if_pos h]; have := e6 (j - 99) (by omega); rw [show 99 + (j - 99) = j by omega] at this; exact this
  rw [if_neg h]
  by_cases h : j < 163
  · rw [if_pos h]; have := d6 (j - 131) (by omega); rw [show 131 + (j - 131) = j by omega] at this; exact this
  rw [if_neg h]
  rw [show j = 163 by omega]; exact e7
theorem cellsKCf : Tryz.prog.cellsOf 26 = 164 := by kernel_rfl
set_option maxRecDepth 100000 in
theorem open_cf {v : Value} {d : DataW H} {p : List MemPlace} (hv : Value.okWide Tryz.prog W .any base 26 v) (h : DataW.Trod enc Tryz.prog W 0 (fun _ => true) true 26 v d p) : ∃ V : Cf, v = .agg (tabv V.v 164) := by
  simp only [Value.okWide, Tryz.underlying26] at hv
  obtain ⟨cs, rfl, hsz, _⟩ := hv
  rw [cellsKCf] at hsz
  obtain ⟨fuel, hf⟩ := h
  obtain ⟨V, hV⟩ := cf_cells hf
  refine ⟨V, congrArg Value.agg ?_⟩
  refine tabv_ext _ _ _ hsz fun i hi => ?_
  have := hV i hi
  simpa [Value.cells] using this
set_option maxRecDepth 100000 in
theorem ms_cells {n : Nat} {cs : List Value} {x : DataW H × List MemPlace} (h : DataW.trod enc Tryz.prog W base spare held n 36 cs = some x) : ∃ V : Msg, (∀ j, j < 70 → cs[j]? = some (V.v j)) ∧ I64 V.nxt := by
  obtain ⟨xs, m, _, hx, hl, hlen, hf⟩ := DataW.trod_struct Tryz.underlying36 h
  have hl6 : xs.length = 8 := hlen
  have g : ∀ (i : Nat) (hi : i < xs.length), xs[i]? = some xs[i] := fun i hi => List.getElem?_eq_getElem hi
  have f0 : DataW.trod enc Tryz.prog W base spare held m 3 ((cs.drop 0).take (Tryz.prog.cellsOf 3)) = some xs[0] := (hf 0 _ rfl).trans (g 0 (by omega))
  rw [cellsN3] at f0
  obtain ⟨z0, e0, _, _⟩ := DataW.trod_int Tryz.underlying3 f0
  have e0 := one_cell e0
  have f1 : DataW.trod enc Tryz.prog W base spare held m 2 ((cs.drop 1).take (Tryz.prog.cellsOf 2)) = some xs[1] := (hf 1 _ rfl).trans (g 1 (by omega))
  rw [cellsN2] at f1
  obtain ⟨z1, e1, _, _⟩ := DataW.trod_int Tryz.underlying2 f1
  have e1 := one_cell e1
  have f2 : DataW.trod enc Tryz.prog W base spare held m 2 ((cs.drop 2).take (Tryz.prog.cellsOf 2)) = some xs[2] := (hf 2 _ rfl).trans (g 2 (by omega))
  rw [cellsN2] at f2
  obtain ⟨z2, e2, _, _⟩ := DataW.trod_int Tryz.underlying2 f2
  have e2 := one_cell e2
  have f3 : DataW.trod enc Tryz.prog W base spare held m 2 ((cs.drop 3).take (Tryz.prog.cellsOf 2)) = some xs[3] := (hf 3 _ rfl).trans (g 3 (by omega))
  rw [cellsN2] at f3
  obtain ⟨z3, e3, _, _⟩ := DataW.trod_int Tryz.underlying2 f3
  have e3 := one_cell e3
  have f4 : DataW.trod enc Tryz.prog W base spare held m 2 ((cs.drop 4).take (Tryz.prog.cellsOf 2)) = some xs[4] := (hf 4 _ rfl).trans (g 4 (by omega))
  rw [cellsN2] at f4
  obtain ⟨z4, e4, _, r4⟩ := DataW.trod_int Tryz.underlying2 f4
  have e4 := one_cell e4
  have f5 : DataW.trod enc Tryz.prog W base spare held m 23 ((cs.drop 5).take (Tryz.prog.cellsOf 23)) = some xs[5] := (hf 5 _ rfl).trans (g 5 (by omega))
  obtain ⟨z5, e5⟩ := hash_in f5
  have f6 : DataW.trod enc Tryz.prog W base spare held m 23 ((cs.drop 37).take (Tryz.prog.cellsOf 23)) = some xs[6] := (hf 6 _ rfl).trans (g 6 (by omega))
  obtain ⟨z6, e6⟩ := hash_in f6
  have f7 : DataW.trod enc Tryz.prog W base spare held m 9 ((cs.drop 69).take (Tryz.prog.cellsOf 9)) = some xs[7] := (hf 7 _ rfl).trans (g 7 (by omega))
  rw [cellsN9] at f7
  obtain ⟨z7, e7, _⟩ := DataW.trod_string Tryz.underlying9 f7
  have e7 := one_cell e7
  refine ⟨⟨z0, z1, z2, z3, z4, z5, z6, z7⟩, fun j hj => ?_, i64_of r4⟩
  unfold Msg.v
  by_cases h0 : j = 0
  · subst h0; rw [if_pos rfl]; exact e0
  rw [if_neg h0]
  by_cases h1 : j = 1
  · subst h1; rw [if_pos rfl]; exact e1
  rw [if_neg h1]
  by_cases h2 : j = 2
  · subst h2; rw [if_pos rfl]; exact e2
  rw [if_neg h2]
  by_cases h3 : j = 3
  · subst h3; rw [if_pos rfl]; exact e3
  rw [if_neg h3]
  by_cases h4 : j = 4
  · subst h4; rw [if_pos rfl]; exact e4
  rw [if_neg h4]
  by_cases h5 : j < 37
  · rw [if_pos h5]; have := e5 (j - 5) (by omega); rw [show 5 + (j - 5) = j by omega] at this; exact this
  rw [if_neg h5]
  by_cases h6 : j < 69
  · rw [if_pos h6]; have := e6 (j - 37) (by omega); rw [show 37 + (j - 37) = j by omega] at this; exact this
  · rw [if_neg h6, show j = 69 by omega]; exact e7
theorem cellsKMsg : Tryz.prog.cellsOf 36 = 70 := by kernel_rfl
set_option maxRecDepth 100000 in
theorem open_ms {v : Value} {d : DataW H} {p : List MemPlace} (hv : Value.okWide Tryz.prog W .any base 36 v) (h : DataW.Trod enc Tryz.prog W 0 (fun _ => true) true 36 v d p) : ∃ V : Msg, v = .agg (tabv V.v 70) ∧ I64 V.nxt := by
  simp only [Value.okWide, Tryz.underlying36] at hv
  obtain ⟨cs, rfl, hsz, _⟩ := hv
  rw [cellsKMsg] at hsz
  obtain ⟨fuel, hf⟩ := h
  obtain ⟨V, hV, r4⟩ := ms_cells hf
  refine ⟨V, congrArg Value.agg ?_, r4⟩
  refine tabv_ext _ _ _ hsz fun i hi => ?_
  have := hV i hi
  simpa [Value.cells] using this
end
section
variable {H : Type} {enc : TypeId × Value → H} {W : World} {held : Bool}
theorem open_updsC {fuel : Nat} {cs : List Value} {x : DataW H × List MemPlace} (h : DataW.trod enc Tryz.prog W 0 (fun _ => true) held fuel 27 cs = some x) (hz : Sz 27 x.1) :
    ∃ (s : Sl) (l : List Upd), cs = [s.v] ∧ l.length = s.n ∧ Upds W s.ad l ∧ s.n ≤ s.c ∧ s.c * 72 ≤ 140737488351232 := by
  rcases open_slice Tryz.underlying27 h with ⟨hcs, hx⟩ | ⟨a, len, cap, m, n, D, Pl, hcs, _, hl, hm, hmm, hx, hel⟩
  · exact ⟨⟨none, 0, 0⟩, [], hcs, rfl, .inl rfl, Nat.le_refl _, by show 0 * _ ≤ _; omega⟩
  · simp only [if_true] at hmm
    subst hmm
    rw [hx] at hz
    have hb := hz ((((List.range len).map D).length + ((List.range (m - len)).map fun j => D (len + j)).length) * Tryz.prog.bytesOf 34) (by
      unfold DataW.weights
      rw [Tryz.underlying27]
      exact List.mem_cons_self ..)
    rw [bytesNU] at hb
    simp only [List.length_map, List.length_range] at hb
    unfold reachBytes at hb
    rw [cellsNU] at hel
    have hex : ∀ i, i < len → ∃ V : Upd, ∀ j, j < 36 → W.cell? ((a.add (i * 36)).add j) = some (V.v j) := fun i hi => by
      obtain ⟨cs', h1, h2⟩ := hel i (by omega)
      obtain ⟨_, hln, hget⟩ := World.cells?_some h1
      obtain ⟨V, hV⟩ := upd_cells h2
      exact ⟨V, fun j hj => by rw [hget j hj, hV j hj]⟩
    have hin : Inhabited Upd := ⟨Upd.zero⟩
    obtain ⟨f, hfv⟩ := choose_lt (α := Upd) hex
    refine ⟨⟨some a, len, m⟩, (List.range len).map f, hcs, by simp, ?_, hl, by show m * 72 ≤ _; rw [show len + (m - len) = m by omega] at hb; omega⟩
    by_cases hl0 : len = 0
    · subst hl0; exact .inl rfl
    · obtain ⟨b, off, spot⟩ := a
      have hspot : spot = none := by simpa [Addr.add] using World.cell?_spot (hfv 0 (by omega) 0 (by omega))
      subst hspot
      have hadd : ∀ i j, ((⟨b, off, none⟩ : Addr).add (i * 36)).add j = ⟨b, off + i * 36 + j, none⟩ := fun i j => by
        rw [add_add]; unfold Addr.add; split <;> simp_all <;> omega
      refine .inr ⟨b, off, rfl, ?_, fun i s hs j hj => ?_⟩
      · have := hfv 0 (by omega) 0 (by omega)
        rw [hadd] at this
        exact World.block_lt_of_cell? _ _ this
      · have hi' : i < len := by simpa using (List.getElem?_eq_some_iff.1 hs).1
        rw [List.getElem?_map, List.getElem?_range hi'] at hs
        have hs' : f i = s := by simpa using hs
        have := hfv i hi' j hj
        rw [hadd, hs'] at this
        exact this
theorem open_slotsC {fuel : Nat} {cs : List Value} {x : DataW H × List MemPlace} (h : DataW.trod enc Tryz.prog W 0 (fun _ => true) held fuel 30 cs = some x) (hz : Sz 30 x.1) :
    ∃ (s : Sl) (l : List Slot), cs = [s.v] ∧ l.length = s.n ∧ Slots W s.ad l ∧ s.n ≤ s.c ∧ s.c * 48 ≤ 140737488351232 := by
  rcases open_slice Tryz.underlying30 h with ⟨hcs, hx⟩ | ⟨a, len, cap, m, n, D, Pl, hcs, _, hl, hm, hmm, hx, hel⟩
  · exact ⟨⟨none, 0, 0⟩, [], hcs, rfl, .inl rfl, Nat.le_refl _, by show 0 * _ ≤ _; omega⟩
  · simp only [if_true] at hmm
    subst hmm
    rw [hx] at hz
    have hb := hz ((((List.range len).map D).length + ((List.range (m - len)).map fun j => D (len + j)).length) * Tryz.prog.bytesOf 106) (by
      unfold DataW.weights
      rw [Tryz.underlying30]
      exact List.mem_cons_self ..)
    rw [bytesNS] at hb
    simp only [List.length_map, List.length_range] at hb
    unfold reachBytes at hb
    rw [cellsNS] at hel
    have hex : ∀ i, i < len → ∃ V : Slot, ∀ j, j < 34 → W.cell? ((a.add (i * 34)).add j) = some (V.v j) := fun i hi => by
      obtain ⟨cs', h1, h2⟩ := hel i (by omega)
      obtain ⟨_, hln, hget⟩ := World.cells?_some h1
      obtain ⟨V, hV⟩ := slot_cells h2
      exact ⟨V, fun j hj => by rw [hget j hj, hV j hj]⟩
    have hin : Inhabited Slot := ⟨Slot.zero⟩
    obtain ⟨f, hfv⟩ := choose_lt (α := Slot) hex
    refine ⟨⟨some a, len, m⟩, (List.range len).map f, hcs, by simp, ?_, hl, by show m * 48 ≤ _; rw [show len + (m - len) = m by omega] at hb; omega⟩
    by_cases hl0 : len = 0
    · subst hl0; exact .inl rfl
    · obtain ⟨b, off, spot⟩ := a
      have hspot : spot = none := by simpa [Addr.add] using World.cell?_spot (hfv 0 (by omega) 0 (by omega))
      subst hspot
      have hadd : ∀ i j, ((⟨b, off, none⟩ : Addr).add (i * 34)).add j = ⟨b, off + i * 34 + j, none⟩ := fun i j => by
        rw [add_add]; unfold Addr.add; split <;> simp_all <;> omega
      refine .inr ⟨b, off, rfl, ?_, fun i s hs j hj => ?_⟩
      · have := hfv 0 (by omega) 0 (by omega)
        rw [hadd] at this
        exact World.block_lt_of_cell? _ _ this
      · have hi' : i < len := by simpa using (List.getElem?_eq_some_iff.1 hs).1
        rw [List.getElem?_map, List.getElem?_range hi'] at hs
        have hs' : f i = s := by simpa using hs
        have := hfv i hi' j hj
        rw [hadd, hs'] at this
        exact this
/-- What stands behind a state. -/
structure StAt (W : World) (s : St) (lo lp : List Upd) (ls : List Slot) : Prop where
  no : lo.length = s.ours.n
  np : lp.length = s.peers.n
  ns : ls.length = s.shelf.n
  o : Upds W s.ours.ad lo
  p : Upds W s.peers.ad lp
  f : Slots W s.shelf.ad ls
  co : s.ours.n ≤ s.ours.c
  cp : s.peers.n ≤ s.peers.c
  zo : s.ours.n ≤ 1954687338211
  zp : s.peers.n ≤ 1954687338211
  zs : s.shelf.n ≤ 2932031007317
  rho : I64 s.ho
  rloc : I64 s.loc
  rrem : I64 s.rem
  rack : I64 s.ack
  rso : I64 s.so
end
end Go.Proofs.YtmmcoedgoekhgaaGreatDoor
