import Derived.Test.YtlkimfmilccanaaGreatKOpen
/-
  The statements' scripts: lists of steps of five cells each.
-/
namespace Go.Proofs.YtlkimfmilccanaaGreat
open Go.RowKit Go.Maps Go.WideMaps
set_option linter.unusedVariables false
structure MOp where
  kind : Int
  two : Bool
  n : Int
  text : ByteArray
  ad : Option Addr
  fates : List FT
  cap : Nat
def MOp.cs (o : MOp) : Array Value := #[.int .i64 o.kind, .bool o.two, .int .i64 o.n, .string o.text, .slice o.ad o.fates.length o.cap]
def MOp.Good (B : Nat) (w : World) (o : MOp) : Prop := KGood B w [o.kind, o.n] [o.text] o.ad o.fates
structure MRows (B : Nat) (w : World) (ad : Option Addr) (xs : List MOp) : Prop where
  at_ : xs = [] ∨ ∃ b o, ad = some ⟨b, o, none⟩ ∧ b < w.heap.size ∧ ∀ i (h : i < xs.length) j, j < 5 → w.cell? ⟨b, o + i * 5 + j, none⟩ = (xs[i].cs)[j]?
  lt : xs ≠ [] → ∀ b o, ad = some ⟨b, o, none⟩ → b < B
  good : ∀ x ∈ xs, x.Good B w
  sz : xs.length * 64 ≤ 140737488355328
theorem MRows.below {B : Nat} {w w' : World} {ad : Option Addr} {xs : List MOp} (h : MRows B w ad xs) (hb : Below B w w') : MRows B w' ad xs := by
  refine ⟨?_, h.lt, fun o ho => (KGood.below (show KGood B w [o.kind, o.n] [o.text] o.ad o.fates from h.good o ho) hb : KGood B w' [o.kind, o.n] [o.text] o.ad o.fates), h.sz⟩
  rcases h.at_ with x | ⟨b, o, ha, hlt, hc⟩
  · exact .inl x
  · refine .inr ⟨b, o, ha, Nat.lt_of_lt_of_le hlt hb.size, fun i hi j hj => ?_⟩
    rw [← hc i hi j hj]
    exact World.cell?_of_block (hb.block b (h.lt (fun e => by rw [e] at hi; simp at hi) b o ha))
theorem MRows.cells {B : Nat} {w : World} {ad : Option Addr} {xs : List MOp} (h : MRows B w ad xs) {k : Nat} (hk : k < xs.length) : ∃ b o, ad = some ⟨b, o, none⟩ ∧ ∀ j, j < 5 → w.cell? ⟨b, o + k * 5 + j, none⟩ = (xs[k].cs)[j]? := by
  rcases h.at_ with x | ⟨b, o, ha, hlt, hc⟩
  · rw [x] at hk; simp at hk
  · exact ⟨b, o, ha, fun j hj => hc k hk j hj⟩
end Go.Proofs.YtlkimfmilccanaaGreat
/-
  The statements' scripts, opened.
-/
namespace Go.Proofs.YtlkimfmilccanaaGreat
open Go.ChangeShapes Go.WideShapes Go.ChangeAt Go.RowKit Go.Deep
set_option linter.unusedVariables false
theorem cellsN2 : Tryz.prog.cellsOf 2 = 1 := by kernel_rfl
section
variable {H : Type} {enc : TypeId × Value → H} {W : World} {base : Nat} {held : Bool}
theorem open_mop {n : Nat} {cs : List Value} {x : DataW H × List MemPlace} (h : DataW.trod enc Tryz.prog W 0 (fun _ => true) held n 59 cs = some x) (hz : Sz 59 x.1) :
    ∃ o : MOp, cs.length = 5 ∧ (∀ j, j < 5 → cs[j]? = o.cs[j]?) ∧ o.Good W.heap.size W := by
  obtain ⟨xs, m, _, hx, hl, hlen, hf⟩ := DataW.trod_struct Tryz.underlying59 h
  have hl5 : xs.length = 5 := hlen
  have g : ∀ (i : Nat) (hi : i < xs.length), xs[i]? = some xs[i] := fun i hi => List.getElem?_eq_getElem hi
  have f0 : DataW.trod enc Tryz.prog W 0 (fun _ => true) held m 3 ((cs.drop 0).take (Tryz.prog.cellsOf 3)) = some xs[0] := (hf 0 _ rfl).trans (g 0 (by omega))
  rw [cellsN3] at f0
  have f1 : DataW.trod enc Tryz.prog W 0 (fun _ => true) held m 4 ((cs.drop 1).take (Tryz.prog.cellsOf 4)) = some xs[1] := (hf 1 _ rfl).trans (g 1 (by omega))
  rw [cellsN4] at f1
  have f2 : DataW.trod enc Tryz.prog W 0 (fun _ => true) held m 2 ((cs.drop 2).take (Tryz.prog.cellsOf 2)) = some xs[2] := (hf 2 _ rfl).trans (g 2 (by omega))
  rw [cellsN2] at f2
  have f3 : DataW.trod enc Tryz.prog W 0 (fun _ => true) held m 9 ((cs.drop 3).take (Tryz.prog.cellsOf 9)) = some xs[3] := (hf 3 _ rfl).trans (g 3 (by omega))
  rw [cellsN9] at f3
  have f4 : DataW.trod enc Tryz.prog W 0 (fun _ => true) held m 57 ((cs.drop 4).take (Tryz.prog.cellsOf 57)) = some xs[4] := (hf 4 _ rfl).trans (g 4 (by omega))
  rw [cellsNFs] at f4
  rw [hx] at hz
  obtain ⟨z0, e0, _, w0⟩ := DataW.trod_int Tryz.underlying3 f0
  obtain ⟨z1, e1, _⟩ := DataW.trod_bool Tryz.underlying4 f1
  obtain ⟨z2, e2, _, w2⟩ := DataW.trod_int Tryz.underlying2 f2
  obtain ⟨z3, e3, y3, w3⟩ := DataW.trod_string Tryz.underlying9 f3
  have hz3 : z3.size ≤ 140737488355328 := by
    have h1 := Sz.part hz Tryz.underlying59 (j := 3) (t' := 9) rfl (d := xs[3].1) (by rw [List.getElem?_map, g 3 (by omega)]; rfl)
    rw [y3] at h1
    have := h1.str
    rw [str_len] at this
    unfold reachBytes at this
    omega
  have hz4 : Sz 57 xs[4].1 := Sz.part hz Tryz.underlying59 (j := 4) (t' := 57) rfl (d := xs[4].1) (by rw [List.getElem?_map, g 4 (by omega)]; rfl)
  obtain ⟨ad, ls, cap, e4, hfa, hok, hln, hlt⟩ := open_fates f4 hz4
  refine ⟨⟨z0, z1, z2, z3, ad, ls, cap⟩, by rw [hl]; kernel_rfl, fun j hj => ?_, ⟨?_, ?_, ⟨hfa, fun hne b f hb => hlt b f hb hne, hok, hln⟩⟩⟩
  · match j, hj with
    | 0, _ => exact one_cell e0
    | 1, _ => exact one_cell e1
    | 2, _ => exact one_cell e2
    | 3, _ => exact one_cell e3
    | 4, _ => exact one_cell e4
  · intro n hn
    simp only [List.mem_cons, List.not_mem_nil, or_false] at hn
    rcases hn with rfl | rfl
    · exact int_wf w0
    · exact int_wf w2
  · intro s hs
    simp only [List.mem_cons, List.not_mem_nil, or_false] at hs
    rcases hs with rfl
    exact hz3
theorem open_mops {ad : Option Addr} {len cap : Nat} {d : DataW H} {p : List MemPlace} (h : DataW.Trod enc Tryz.prog W 0 (fun _ => true) held 51 (.slice ad len cap) d p) (hz : Sz 51 d) :
    ∃ os : List MOp, os.length = len ∧ MRows W.heap.size W ad os := by
  obtain ⟨fuel, hf⟩ := h
  rcases open_slice Tryz.underlying51 hf with ⟨hcs, hx⟩ | ⟨a, len', cap', m, n, D, Pl, hcs, _, hl, hm, hmm, hx, hel⟩
  · simp [Value.cells] at hcs
    obtain ⟨rfl, rfl, rfl⟩ := hcs
    exact ⟨[], rfl, ⟨.inl rfl, by simp, by simp, by simp⟩⟩
  · simp [Value.cells] at hcs
    obtain ⟨rfl, rfl, rfl⟩ := hcs
    simp only [if_true] at hmm
    subst hmm
    simp only [Prod.mk.injEq] at hx
    rw [show Tryz.prog.cellsOf 59 = 5 by kernel_rfl] at hel
    rw [hx.1] at hz
    have hbig : len * 64 ≤ reachBytes := by
      have h1 := hz ((((List.range len).map D).length + ((List.range (m - len)).map fun j => D (len + j)).length) * Tryz.prog.bytesOf 59) (by
        unfold DataW.weights
        rw [Tryz.underlying51]
        exact List.mem_cons_self ..)
      have hbo : Tryz.prog.bytesOf 59 = 64 := by kernel_rfl
      rw [hbo] at h1
      simp only [List.length_map, List.length_range] at h1
      omega
    have hex : ∀ i, i < len → ∃ O : MOp, (∀ j, j < 5 → W.cell? ((a.add (i * 5)).add j) = O.cs[j]?) ∧ O.Good W.heap.size W := fun i hi => by
      obtain ⟨cs', h1, h2⟩ := hel i (by omega)
      obtain ⟨_, hln, hget⟩ := World.cells?_some h1
      obtain ⟨O, _, hO, hok⟩ := open_mop h2 (hz.elem Tryz.underlying51 (List.mem_map.2 ⟨i, List.mem_range.2 hi, rfl⟩))
      exact ⟨O, fun j hj => by rw [hget j hj, hO j hj], hok⟩
    have hin : Inhabited MOp := ⟨⟨0, false, 0, ⟨#[]⟩, none, [], 0⟩⟩
    obtain ⟨f, hfv⟩ := choose_lt (α := MOp) hex
    have hlen : ((List.range len).map f).length = len := by simp
    have hat : ((List.range len).map f = [] ∨ ∃ b o, (some a : Option Addr) = some ⟨b, o, none⟩ ∧ b < W.heap.size ∧ ∀ i (h : i < ((List.range len).map f).length) j, j < 5 → W.cell? ⟨b, o + i * 5 + j, none⟩ = (MOp.cs ((List.range len).map f)[i])[j]?) ∧ ((List.range len).map f ≠ [] → ∀ b o, (some a : Option Addr) = some ⟨b, o, none⟩ → b < W.heap.size) := by
      by_cases hl0 : len = 0
      · subst hl0; exact ⟨.inl rfl, fun hne => absurd rfl hne⟩
      · obtain ⟨b, off, spot⟩ := a
        have hs : (f 0).cs[0]? = some (.int .i64 (f 0).kind) := rfl
        have hspot : spot = none := by
          have h00 := (hfv 0 (by omega)).1 0 (by omega)
          rw [hs] at h00
          simpa [Addr.add] using World.cell?_spot h00
        subst hspot
        have hadd : ∀ i j, ((⟨b, off, none⟩ : Addr).add (i * 5)).add j = ⟨b, off + i * 5 + j, none⟩ := fun i j => by
          rw [add_add]; unfold Addr.add; split <;> simp_all <;> omega
        have hlt : b < W.heap.size := by
          have h00 := (hfv 0 (by omega)).1 0 (by omega)
          rw [hadd, hs] at h00
          exact World.block_lt_of_cell? _ _ h00
        refine ⟨.inr ⟨b, off, rfl, hlt, fun i hi j hj => ?_⟩, fun _ b' o' hb' => by cases hb'; exact hlt⟩
        have hi' : i < len := by simpa using hi
        have := (hfv i hi').1 j hj
        rw [hadd] at this
        simpa using this
    exact ⟨(List.range len).map f, hlen, ⟨hat.1, hat.2, fun O hO => by
      obtain ⟨i, hi, rfl⟩ := List.mem_map.1 hO
      exact (hfv i (List.mem_range.1 hi)).2, by rw [hlen]; unfold reachBytes at hbig; omega⟩⟩
end
end Go.Proofs.YtlkimfmilccanaaGreat
