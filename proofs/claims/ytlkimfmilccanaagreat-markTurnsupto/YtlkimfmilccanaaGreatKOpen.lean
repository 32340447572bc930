/-
  The statements' arguments, opened.
-/
import Derived.Test.YtlkimfmilccanaaGreatRows
import Derived.Test.YtlkimfmilccanaaGreatKArgs
import Derived.ProofKit
import Derived.OpenShut
import Derived.SizedLaws
import Derived.Deep.Slices
namespace Go.Proofs.YtlkimfmilccanaaGreat
open Go.ChangeShapes Go.WideShapes Go.ChangeAt Go.RowKit Go.Deep
theorem cellsN3 : Tryz.prog.cellsOf 3 = 1 := by kernel_rfl
theorem cellsN4 : Tryz.prog.cellsOf 4 = 1 := by kernel_rfl
theorem cellsN9 : Tryz.prog.cellsOf 9 = 1 := by kernel_rfl
theorem cellsNFs : Tryz.prog.cellsOf 57 = 1 := by kernel_rfl
theorem cellsNF : Tryz.prog.cellsOf 140 = 4 := by kernel_rfl
theorem one_cell {cs : List Value} {o : Nat} {v : Value} (h : (cs.drop o).take 1 = [v]) : cs[o]? = some v := by
  have := congrArg (fun l => l[0]?) h
  simpa [List.getElem?_take, List.getElem?_drop] using this
/-- All that a datum holds is of a size that a machine can have. -/
def Sz {H : Type} (t : TypeId) (d : DataW H) : Prop := ∀ n ∈ d.weights Tryz.prog t, n ≤ reachBytes
section
variable {H : Type}
theorem Sz.arg {ts : List TypeId} {ds : List (DataW H)} (h : (DataW.weightsEach Tryz.prog ts ds).all (· ≤ reachBytes) = true) {j : Nat} {t : TypeId} {d : DataW H} (ht : ts[j]? = some t) (hd : ds[j]? = some d) : Sz t d := fun n hn => by
  have := List.all_eq_true.1 h n (DataW.weights_mem_each ht hd n hn)
  simpa using this
theorem Sz.part {t : TypeId} {fs : Array Field} {parts : List (DataW H)} (h : Sz t (.agg parts)) (hu : Tryz.prog.underlying t = some (.struct fs)) {j : Nat} {t' : TypeId} {d : DataW H} (ht : (fs.toList.map (·.type))[j]? = some t') (hd : parts[j]? = some d) : Sz t' d := fun n hn =>
  h n (by simp only [DataW.weights, hu]; exact DataW.weights_mem_each ht hd n hn)
theorem weights_all {e : TypeId} : ∀ {l : List (DataW H)} {d : DataW H}, d ∈ l → ∀ n ∈ d.weights Tryz.prog e, n ∈ DataW.weightsAll Tryz.prog e l
  | [], _, h, _, _ => by simp at h
  | a :: l, d, h, n, hn => by
    simp only [DataW.weightsAll, List.mem_append]
    rcases List.mem_cons.1 h with rfl | h
    · exact .inl hn
    · exact .inr (weights_all h n hn)
theorem Sz.elem {t e : TypeId} {elems spare : List (DataW H)} (h : Sz t (.slice elems spare)) (hu : Tryz.prog.underlying t = some (.slice e)) {d : DataW H} (hd : d ∈ elems) : Sz e d := fun n hn =>
  h n (by simp only [DataW.weights, hu, List.mem_cons, List.mem_append]; exact .inr (.inl (weights_all hd n hn)))
theorem Sz.str {t : TypeId} {b : List UInt8} (h : Sz (H := H) t (.lit (.string b))) : b.length ≤ reachBytes := h _ (by simp [DataW.weights])
end
section
variable {H : Type} {enc : TypeId × Value → H} {W : World} {base : Nat} {held : Bool}
theorem int_wf {n : Int} (h : (Lit.int .i64 n).wf = true) : -9223372036854775808 ≤ n ∧ n < 9223372036854775808 := by
  have : -9223372036854775808 ≤ n ∧ n ≤ 9223372036854775807 := by simpa [Lit.wf, IntKind.min, IntKind.max, IntKind.signed, IntKind.bits] using h
  omega
theorem open_fate {spare : Nat → Bool} {n : Nat} {cs : List Value} {x : DataW H × List MemPlace} (h : DataW.trod enc Tryz.prog W base spare held n 140 cs = some x) :
    ∃ y : FT, (∀ j, j < 4 → cs[j]? = y.cs[j]?) ∧ y.Ok := by
  obtain ⟨xs, m, _, hx, hl, hlen, hf⟩ := DataW.trod_struct Tryz.underlying140 h
  have hl4 : xs.length = 4 := hlen
  have g : ∀ (i : Nat) (hi : i < xs.length), xs[i]? = some xs[i] := fun i hi => List.getElem?_eq_getElem hi
  have f0 : DataW.trod enc Tryz.prog W base spare held m 9 ((cs.drop 0).take (Tryz.prog.cellsOf 9)) = some xs[0] := (hf 0 _ rfl).trans (g 0 (by omega))
  have f1 : DataW.trod enc Tryz.prog W base spare held m 3 ((cs.drop 1).take (Tryz.prog.cellsOf 3)) = some xs[1] := (hf 1 _ rfl).trans (g 1 (by omega))
  have f2 : DataW.trod enc Tryz.prog W base spare held m 3 ((cs.drop 2).take (Tryz.prog.cellsOf 3)) = some xs[2] := (hf 2 _ rfl).trans (g 2 (by omega))
  have f3 : DataW.trod enc Tryz.prog W base spare held m 9 ((cs.drop 3).take (Tryz.prog.cellsOf 9)) = some xs[3] := (hf 3 _ rfl).trans (g 3 (by omega))
  rw [cellsN9] at f0 f3
  rw [cellsN3] at f1 f2
  obtain ⟨s0, e0, _, _⟩ := DataW.trod_string Tryz.underlying9 f0
  obtain ⟨z1, e1, _, w1⟩ := DataW.trod_int Tryz.underlying3 f1
  obtain ⟨z2, e2, _, w2⟩ := DataW.trod_int Tryz.underlying3 f2
  obtain ⟨s3, e3, _, _⟩ := DataW.trod_string Tryz.underlying9 f3
  refine ⟨⟨s0, z1, z2, s3⟩, fun j hj => ?_, (int_wf w1).1, (int_wf w1).2⟩
  match j, hj with
  | 0, _ => exact one_cell e0
  | 1, _ => exact one_cell e1
  | 2, _ => exact one_cell e2
  | 3, _ => exact one_cell e3
/-- A list of fates among the arguments. -/
theorem open_fates {fuel : Nat} {cs : List Value} {x : DataW H × List MemPlace} (h : DataW.trod enc Tryz.prog W 0 (fun _ => true) held fuel 57 cs = some x) (hz : Sz 57 x.1) :
    ∃ (ad : Option Addr) (ls : List FT) (cap : Nat), cs = [.slice ad ls.length cap] ∧ FatesAt W ad ls ∧ (∀ y ∈ ls, y.Ok) ∧ (ls.length + 1) * 48 ≤ 140737488355328 ∧ ∀ b o, ad = some ⟨b, o, none⟩ → ls ≠ [] → b < W.heap.size := by
  rcases open_slice Tryz.underlying57 h with ⟨hcs, hx⟩ | ⟨a, len, cap, m, n, D, Pl, hcs, _, hl, hm, hmm, hx, hel⟩
  · exact ⟨none, [], 0, hcs, .inl rfl, by simp, by simp, by simp⟩
  · simp only [if_true] at hmm
    subst hmm
    have hbig : len * 48 ≤ reachBytes := by
      rw [hx] at hz
      have h1 := hz ((((List.range len).map D).length + ((List.range (m - len)).map fun j => D (len + j)).length) * Tryz.prog.bytesOf 140) (by
        unfold DataW.weights
        rw [Tryz.underlying57]
        exact List.mem_cons_self ..)
      have hbo : Tryz.prog.bytesOf 140 = 48 := by kernel_rfl
      rw [hbo] at h1
      simp only [List.length_map, List.length_range] at h1
      omega
    rw [cellsNF] at hel
    have hex : ∀ i, i < len → ∃ y : FT, (∀ j, j < 4 → W.cell? ((a.add (i * 4)).add j) = y.cs[j]?) ∧ y.Ok := fun i hi => by
      obtain ⟨cs', h1, h2⟩ := hel i (by omega)
      obtain ⟨_, hln, hget⟩ := World.cells?_some h1
      obtain ⟨y, hy, hok⟩ := open_fate h2
      exact ⟨y, fun j hj => by rw [hget j hj, hy j hj], hok⟩
    have hin : Inhabited FT := ⟨FT.zero⟩
    obtain ⟨f, hfv⟩ := choose_lt (α := FT) hex
    have hlen : ((List.range len).map f).length = len := by simp
    have hat : FatesAt W (some a) ((List.range len).map f) ∧ ∀ b o, (some a : Option Addr) = some ⟨b, o, none⟩ → (List.range len).map f ≠ [] → b < W.heap.size := by
      by_cases hl0 : len = 0
      · subst hl0; exact ⟨.inl rfl, fun b o _ hne => absurd rfl hne⟩
      · obtain ⟨b, off, spot⟩ := a
        have hspot : spot = none := by
          have h00 := (hfv 0 (by omega)).1 0 (by omega)
          have hs : (f 0).cs[0]? = some (.string (f 0).file) := rfl
          rw [hs] at h00
          simpa [Addr.add] using World.cell?_spot h00
        subst hspot
        have hadd : ∀ i j, ((⟨b, off, none⟩ : Addr).add (i * 4)).add j = ⟨b, off + i * 4 + j, none⟩ := fun i j => by
          rw [add_add]; unfold Addr.add; split <;> simp_all <;> omega
        have hlt : b < W.heap.size := by
          have h00 := (hfv 0 (by omega)).1 0 (by omega)
          have hs : (f 0).cs[0]? = some (.string (f 0).file) := rfl
          rw [hadd, hs] at h00
          exact World.block_lt_of_cell? _ _ h00
        refine ⟨.inr ⟨b, off, rfl, hlt, fun i hi j hj => ?_⟩, fun b' o' hb' _ => by cases hb'; exact hlt⟩
        have hi' : i < len := by simpa using hi
        have := (hfv i hi').1 j hj
        rw [hadd] at this
        simpa using this
    refine ⟨some a, (List.range len).map f, _, by rw [hlen]; exact hcs, hat.1, fun y hy => ?_, by rw [hlen]; unfold reachBytes at hbig; omega, hat.2⟩
    obtain ⟨i, hi, rfl⟩ := List.mem_map.1 hy
    exact (hfv i (List.mem_range.1 hi)).2
-- left out in this seat: open_turn
-- left out in this seat: open_turns
-- left out in this seat: open_op
-- left out in this seat: open_ops
end
end Go.Proofs.YtlkimfmilccanaaGreat
