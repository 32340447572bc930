import Derived.Test.YtdffmmiegpndkaaGreatDoorWKG1
import Derived.Deep.AppendLies
import Derived.Test.YtdffmmiegpndkaaGreatDoorRows
import Derived.Test.YtdffmmiegpndkaaGreatDoorWKL
import Derived.ProofKit
import Derived.OpenShut
import Derived.SizedLaws
import Derived.Deep.Slices
/-
  A copy of fates in a block of its own (out of WRCrash).
-/
namespace Go.Proofs.YtdffmmiegpndkaaGreatDoor
open Go.RowKit Go.Maps
set_option linter.unusedVariables false
def kcellsT : List FT → List Value
  | [] => []
  | x :: r => x.cs.toList ++ kcellsT r
theorem kcellsT_length : ∀ xs : List FT, (kcellsT xs).length = xs.length * 4
  | [] => rfl
  | x :: r => by
    show (x.cs.toList ++ kcellsT r).length = _
    rw [List.length_append, kcellsT_length r, List.length_cons]
    show 4 + _ = _
    omega
theorem kcellsT_get : ∀ (xs : List FT) (k : Nat) (h : k < xs.length) (j : Nat), j < 4 → (kcellsT xs)[k * 4 + j]? = (xs[k].cs)[j]?
  | [], k, h, _, _ => by simp at h
  | x :: r, 0, _, j, hj => by
    show (x.cs.toList ++ kcellsT r)[0 * 4 + j]? = x.cs[j]?
    rw [List.getElem?_append_left (by show _ < 4; omega), Array.getElem?_toList]
    congr 1
    omega
  | x :: r, k + 1, h, j, hj => by
    show (x.cs.toList ++ kcellsT r)[(k + 1) * 4 + j]? = _
    rw [List.getElem?_append_right (by show 4 ≤ _; omega)]
    show (kcellsT r)[(k + 1) * 4 + j - 4]? = _
    rw [show (k + 1) * 4 + j - 4 = k * 4 + j by omega, kcellsT_get r k (by simp at h; omega) j hj]
    rfl
theorem kone_fates : ∀ xs : List FT, ∀ u ∈ kcellsT xs, u.oneCell' = true
  | [], u, hu => by simp [kcellsT] at hu
  | x :: r, u, hu => by
    rcases List.mem_append.1 hu with h | h
    · simp only [FT.cs, List.mem_cons, List.not_mem_nil, or_false] at h
      rcases h with rfl | rfl | rfl | rfl <;> rfl
    · exact kone_fates r u h
theorem kinfoT : (Tryz.prog.info? 85).map (fun i => (i.zero, i.size, i.bytes)) = some (some (.agg #[.string ⟨#[]⟩, .int .i64 0, .int .i64 0, .string ⟨#[]⟩]), 4, 48) := by kernel_rfl
theorem kapp_fates (w : World) (ad : Option Addr) (cap : Nat) (ls : List FT) (hfa : FatesAt w ad ls) (hsz : ls.length * 48 ≤ 140737488355328) (ty : TypeId) :
    ∃ v w', (Builtin.append_ #[35, 35] ty #[.slice none 0 0, .slice ad ls.length cap]).run Tryz.prog w = .ok v w' ∧ w'.ownsRow w.heap.size 85 4 v ls.length (kcellsT ls) ∧ Below w.heap.size w w' := by
  obtain ⟨i, hi, hz0, hz1, hz2⟩ := info_parts kinfoT
  by_cases he : ls = []
  · subst he
    have hs : Src Tryz.prog i.size 35 (.slice ad 0 cap) 0 [] w := by
      cases ad with
      | none => exact Src.ofNil w Tryz.underlying35 cap
      | some a => exact Src.ofSlice w Tryz.underlying35 a 0 cap [] (by simp) (fun j u hu => by simp at hu) (by simp)
    exact ⟨_, _, run_append_nothing (P := Tryz.prog) w _ _ ty _ i Tryz.underlying35 hi none 0 0 (Nat.le_refl _) _ hs, World.ownsRow_nil _ _ _ _, Below.refl _ _⟩
  · rcases hfa with h | ⟨b, o, rfl, hl, hc⟩
    · exact absurd h he
    have hpos : 0 < ls.length := List.length_pos_iff.2 he
    obtain ⟨g, c, w', hr, h2, h3, h4, h5⟩ := run_append_lies (P := Tryz.prog) w 35 ty w.heap.size 85 i _ 4 48 Tryz.underlying35 hi hz0 hz1 hz2 rfl (by decide) (.slice none 0 0) 0 [] (World.ownsRow_nil _ _ _ _) ⟨b, o, none⟩ ls.length cap (kcellsT ls) (kcellsT_length ls) (fun j u hu => by
      have hj := (List.getElem?_eq_some_iff.1 hu).1
      rw [kcellsT_length] at hj
      have e := kcellsT_get ls (j / 4) (by omega) (j % 4) (by omega)
      rw [show j / 4 * 4 + j % 4 = j by omega, hu] at e
      rw [show (⟨b, o, none⟩ : Addr).add j = ⟨b, o + j, none⟩ by unfold Addr.add; split <;> simp_all]
      have := hc (j / 4) (by omega) (j % 4) (by omega)
      rw [show o + j / 4 * 4 + j % 4 = o + j by omega] at this
      rw [this, e]) (kone_fates ls) hpos (by unfold maxLen; omega) (by omega) (Nat.le_refl _) _ rfl
    refine ⟨_, w', hr, ?_, ⟨h3.os, h3.tape, h3.output, h3.size, fun b hb => h3.block b hb (by simp [Value.ownBlock])⟩⟩
    simp only [Nat.zero_add, List.nil_append] at h2
    rw [Nat.zero_add]
    exact h2
section
variable {B : Nat} {w : World} {L : List Item}
theorem fates_copy (h : Lies B w L) (ad : Option Addr) (cap : Nat) (ls : List FT) (hat : FatesAt w ad ls) (hsz : (ls.length + 1) * 48 ≤ 140737488355328) (ty : TypeId) :
    ∃ ad' cap' Z w', (Builtin.append_ #[35, 35] ty #[.slice none 0 0, .slice ad ls.length cap]).run Tryz.prog w = .ok (.slice ad' ls.length cap') w' ∧ Lies B w' (L ++ Z) ∧ FI Z ad' cap' ls ∧ Below w.heap.size w w' := by
  obtain ⟨v, w', hr, ho, hb⟩ := kapp_fates w ad cap ls hat (by omega) ty
  obtain ⟨hol, hov⟩ := ho
  rcases hov with ⟨rfl, hn⟩ | ⟨g, c, cur, rfl, hgb, hkg, hnc, hcm, hcs, htk⟩
  · have he : ls = [] := List.length_eq_zero_iff.1 hn
    subst he
    exact ⟨none, 0, [], w', hr, by rw [List.append_nil]; exact h.below hb, .inl ⟨rfl, rfl, rfl, rfl⟩, hb⟩
  · have h1 : Lies B w' (L ++ [.block g (.cells cur 85 (0, 0))]) := h.push (S' := fun b => b = g) hb ⟨hkg, fun _ => Iff.rfl⟩ (fun b hb => by rw [hb]; exact hgb)
    have hcur : ∀ q v, (kcellsT ls)[q]? = some v → cur[q]? = some v := fun q v hv => by
      rw [← htk] at hv
      rw [List.getElem?_take] at hv
      split at hv
      · rw [← Array.getElem?_toList]; exact hv
      · cases hv
    refine ⟨some ⟨g, 0, none⟩, c, _, w', hr, h1, .inr ⟨g, cur, rfl, rfl, fun q hq t ht => ?_⟩, hb⟩
    have e := kcellsT_get ls q hq t ht
    obtain ⟨v, hv⟩ : ∃ v, (ls[q].cs)[t]? = some v := ⟨_, Array.getElem?_eq_getElem (show t < 4 from ht)⟩
    rw [hv] at e ⊢
    exact hcur _ _ e
end
end Go.Proofs.YtdffmmiegpndkaaGreatDoor
/-
  The statements' scripts among the arguments, opened.
-/
namespace Go.Proofs.YtdffmmiegpndkaaGreatDoor
open Go.ChangeShapes Go.WideShapes Go.ChangeAt Go.RowKit Go.Deep
theorem cellsN3 : Tryz.prog.cellsOf 3 = 1 := by kernel_rfl
theorem cellsN4 : Tryz.prog.cellsOf 4 = 1 := by kernel_rfl
theorem cellsN9 : Tryz.prog.cellsOf 9 = 1 := by kernel_rfl
theorem cellsNFs : Tryz.prog.cellsOf 35 = 1 := by kernel_rfl
theorem cellsNF : Tryz.prog.cellsOf 85 = 4 := by kernel_rfl
theorem cellsN2 : Tryz.prog.cellsOf 2 = 1 := by kernel_rfl
theorem cellsNO : Tryz.prog.cellsOf 37 = 7 := by kernel_rfl
theorem one_cell {cs : List Value} {o : Nat} {v : Value} (h : (cs.drop o).take 1 = [v]) : cs[o]? = some v := by
  have := congrArg (fun l => l[0]?) h
  simpa [List.getElem?_take, List.getElem?_drop] using this
/-- All that a datum holds is of a size that a machine can have. -/
def Sz {H : Type} (t : TypeId) (d : DataW H) : Prop := ∀ n ∈ d.weights Tryz.prog t, n ≤ reachBytes
section
variable {H : Type}
theorem Sz.arg {ts : List TypeId} {ds : List (DataW H)} (h : (DataW.weightsEach Tryz.prog ts ds).all (· ≤ reachBytes) = true) {j : Nat} {t : TypeId} {d : DataW H} (ht : ts[j]? = some t) (hd : ds[j]? = some d) : Sz t d := fun n hn => by
  have := List.all_eq_true.1 h n (DataW.weights_mem_each ht hd n hn)
  simpa using this
theorem Sz.part {t : TypeId} {fs : Array Field} {parts : List (DataW H)} (h : Sz t (.agg parts)) (hu : Tryz.prog.underlying t = some (.struct fs)) {j : Nat} {t' : TypeId} {d : DataW H} (ht : (fs.toList.map (·.type))[j]? = some t') (hd : parts[j]? = some d) : Sz t' d := fun n hn =>
  h n (by simp only [DataW.weights, hu]; exact DataW.weights_mem_each ht hd n hn)
theorem weights_all {e : TypeId} : ∀ {l : List (DataW H)} {d : DataW H}, d ∈ l → ∀ n ∈ d.weights Tryz.prog e, n ∈ DataW.weightsAll Tryz.prog e l
  | [], _, h, _, _ => by simp at h
  | a :: l, d, h, n, hn => by
    simp only [DataW.weightsAll, List.mem_append]
    rcases List.mem_cons.1 h with rfl | h
    · exact .inl hn
    · exact .inr (weights_all h n hn)
theorem Sz.elem {t e : TypeId} {elems spare : List (DataW H)} (h : Sz t (.slice elems spare)) (hu : Tryz.prog.underlying t = some (.slice e)) {d : DataW H} (hd : d ∈ elems) : Sz e d := fun n hn =>
  h n (by simp only [DataW.weights, hu, List.mem_cons, List.mem_append]; exact .inr (.inl (weights_all hd n hn)))
theorem Sz.str {t : TypeId} {b : List UInt8} (h : Sz (H := H) t (.lit (.string b))) : b.length ≤ reachBytes := h _ (by simp [DataW.weights])
end
section
variable {H : Type} {enc : TypeId × Value → H} {W : World} {base : Nat} {held : Bool}
theorem int_wf {n : Int} (h : (Lit.int .i64 n).wf = true) : -9223372036854775808 ≤ n ∧ n < 9223372036854775808 := by
  have : -9223372036854775808 ≤ n ∧ n ≤ 9223372036854775807 := by simpa [Lit.wf, IntKind.min, IntKind.max, IntKind.signed, IntKind.bits] using h
  omega
theorem open_fate {spare : Nat → Bool} {n : Nat} {cs : List Value} {x : DataW H × List MemPlace} (h : DataW.trod enc Tryz.prog W base spare held n 85 cs = some x) :
    ∃ y : FT, (∀ j, j < 4 → cs[j]? = y.cs[j]?) ∧ y.Ok := by
  obtain ⟨xs, m, _, hx, hl, hlen, hf⟩ := DataW.trod_struct Tryz.underlying85 h
  have hl4 : xs.length = 4 := hlen
  have g : ∀ (i : Nat) (hi : i < xs.length), xs[i]? = some xs[i] := fun i hi => List.getElem?_eq_getElem hi
  have f0 : DataW.trod enc Tryz.prog W base spare held m 9 ((cs.drop 0).take (Tryz.prog.cellsOf 9)) = some xs[0] := (hf 0 _ rfl).trans (g 0 (by omega))
  have f1 : DataW.trod enc Tryz.prog W base spare held m 3 ((cs.drop 1).take (Tryz.prog.cellsOf 3)) = some xs[1] := (hf 1 _ rfl).trans (g 1 (by omega))
  have f2 : DataW.trod enc Tryz.prog W base spare held m 3 ((cs.drop 2).take (Tryz.prog.cellsOf 3)) = some xs[2] := (hf 2 _ rfl).trans (g 2 (by omega))
  have f3 : DataW.trod enc Tryz.prog W base spare held m 9 ((cs.drop 3).take (Tryz.prog.cellsOf 9)) = some xs[3] := (hf 3 _ rfl).trans (g 3 (by omega))
  rw [cellsN9] at f0 f3
  rw [cellsN3] at f1 f2
  obtain ⟨s0, e0, _, _⟩ := DataW.trod_string Tryz.underlying9 f0
  obtain ⟨z1, e1, _, w1⟩ := DataW.trod_int Tryz.underlying3 f1
  obtain ⟨z2, e2, _, w2⟩ := DataW.trod_int Tryz.underlying3 f2
  obtain ⟨s3, e3, _, _⟩ := DataW.trod_string Tryz.underlying9 f3
  refine ⟨⟨s0, z1, z2, s3⟩, fun j hj => ?_, (int_wf w1).1, (int_wf w1).2⟩
  match j, hj with
  | 0, _ => exact one_cell e0
  | 1, _ => exact one_cell e1
  | 2, _ => exact one_cell e2
  | 3, _ => exact one_cell e3
/-- A list of fates among the arguments. -/
theorem open_fates {fuel : Nat} {cs : List Value} {x : DataW H × List MemPlace} (h : DataW.trod enc Tryz.prog W 0 (fun _ => true) held fuel 35 cs = some x) (hz : Sz 35 x.1) :
    ∃ (ad : Option Addr) (ls : List FT) (cap : Nat), cs = [.slice ad ls.length cap] ∧ FatesAt W ad ls ∧ (∀ y ∈ ls, y.Ok) ∧ (ls.length + 1) * 48 ≤ 140737488355328 ∧ ∀ b o, ad = some ⟨b, o, none⟩ → ls ≠ [] → b < W.heap.size := by
  rcases open_slice Tryz.underlying35 h with ⟨hcs, hx⟩ | ⟨a, len, cap, m, n, D, Pl, hcs, _, hl, hm, hmm, hx, hel⟩
  · exact ⟨none, [], 0, hcs, .inl rfl, by simp, by simp, by simp⟩
  · simp only [if_true] at hmm
    subst hmm
    have hbig : len * 48 ≤ reachBytes := by
      rw [hx] at hz
      have h1 := hz ((((List.range len).map D).length + ((List.range (m - len)).map fun j => D (len + j)).length) * Tryz.prog.bytesOf 85) (by
        unfold DataW.weights
        rw [Tryz.underlying35]
        exact List.mem_cons_self ..)
      have hbo : Tryz.prog.bytesOf 85 = 48 := by kernel_rfl
      rw [hbo] at h1
      simp only [List.length_map, List.length_range] at h1
      omega
    rw [cellsNF] at hel
    have hex : ∀ i, i < len → ∃ y : FT, (∀ j, j < 4 → W.cell? ((a.add (i * 4)).add j) = y.cs[j]?) ∧ y.Ok := fun i hi => by
      obtain ⟨cs', h1, h2⟩ := hel i (by omega)
      obtain ⟨_, hln, hget⟩ := World.cells?_some h1
      obtain ⟨y, hy, hok⟩ := open_fate h2
      exact ⟨y, fun j hj => by rw [hget j hj, hy j hj], hok⟩
    have hin : Inhabited FT := ⟨FT.zero⟩
    obtain ⟨f, hfv⟩ := choose_lt (α := FT) hex
    have hlen : ((List.range len).map f).length = len := by simp
    have hat : FatesAt W (some a) ((List.range len).map f) ∧ ∀ b o, (some a : Option Addr) = some ⟨b, o, none⟩ → (List.range len).map f ≠ [] → b < W.heap.size := by
      by_cases hl0 : len = 0
      · subst hl0; exact ⟨.inl rfl, fun b o _ hne => absurd rfl hne⟩
      · obtain ⟨b, off, spot⟩ := a
        have hspot : spot = none := by
          have h00 := (hfv 0 (by omega)).1 0 (by omega)
          have hs : (f 0).cs[0]? = some (.string (f 0).file) := rfl
          rw [hs] at h00
          simpa [Addr.add] using World.cell?_spot h00
        subst hspot
        have hadd : ∀ i j, ((⟨b, off, none⟩ : Addr).add (i * 4)).add j = ⟨b, off + i * 4 + j, none⟩ := fun i j => by
          rw [add_add]; unfold Addr.add; split <;> simp_all <;> omega
        have hlt : b < W.heap.size := by
          have h00 := (hfv 0 (by omega)).1 0 (by omega)
          have hs : (f 0).cs[0]? = some (.string (f 0).file) := rfl
          rw [hadd, hs] at h00
          exact World.block_lt_of_cell? _ _ h00
        refine ⟨.inr ⟨b, off, rfl, hlt, fun i hi j hj => ?_⟩, fun b' o' hb' _ => by cases hb'; exact hlt⟩
        have hi' : i < len := by simpa using hi
        have := (hfv i hi').1 j hj
        rw [hadd] at this
        simpa using this
    refine ⟨some a, (List.range len).map f, _, by rw [hlen]; exact hcs, hat.1, fun y hy => ?_, by rw [hlen]; unfold reachBytes at hbig; omega, hat.2⟩
    obtain ⟨i, hi, rfl⟩ := List.mem_map.1 hy
    exact (hfv i (List.mem_range.1 hi)).2
theorem open_op {n : Nat} {cs : List Value} {x : DataW H × List MemPlace} (h : DataW.trod enc Tryz.prog W 0 (fun _ => true) held n 37 cs = some x) (hz : Sz 37 x.1) :
    ∃ o : WOp, cs.length = 7 ∧ (∀ j, j < 7 → cs[j]? = o.cs[j]?) ∧ o.Ok ∧ o.Lie W.heap.size W := by
  obtain ⟨xs, m, _, hx, hl, hlen, hf⟩ := DataW.trod_struct Tryz.underlying37 h
  have hl7 : xs.length = 7 := hlen
  have g : ∀ (i : Nat) (hi : i < xs.length), xs[i]? = some xs[i] := fun i hi => List.getElem?_eq_getElem hi
  have f0 : DataW.trod enc Tryz.prog W 0 (fun _ => true) held m 3 ((cs.drop 0).take (Tryz.prog.cellsOf 3)) = some xs[0] := (hf 0 _ rfl).trans (g 0 (by omega))
  have f1 : DataW.trod enc Tryz.prog W 0 (fun _ => true) held m 9 ((cs.drop 1).take (Tryz.prog.cellsOf 9)) = some xs[1] := (hf 1 _ rfl).trans (g 1 (by omega))
  have f2 : DataW.trod enc Tryz.prog W 0 (fun _ => true) held m 9 ((cs.drop 2).take (Tryz.prog.cellsOf 9)) = some xs[2] := (hf 2 _ rfl).trans (g 2 (by omega))
  have f3 : DataW.trod enc Tryz.prog W 0 (fun _ => true) held m 3 ((cs.drop 3).take (Tryz.prog.cellsOf 3)) = some xs[3] := (hf 3 _ rfl).trans (g 3 (by omega))
  have f4 : DataW.trod enc Tryz.prog W 0 (fun _ => true) held m 3 ((cs.drop 4).take (Tryz.prog.cellsOf 3)) = some xs[4] := (hf 4 _ rfl).trans (g 4 (by omega))
  have f5 : DataW.trod enc Tryz.prog W 0 (fun _ => true) held m 2 ((cs.drop 5).take (Tryz.prog.cellsOf 2)) = some xs[5] := (hf 5 _ rfl).trans (g 5 (by omega))
  have f6 : DataW.trod enc Tryz.prog W 0 (fun _ => true) held m 35 ((cs.drop 6).take (Tryz.prog.cellsOf 35)) = some xs[6] := (hf 6 _ rfl).trans (g 6 (by omega))
  rw [cellsN9] at f1 f2
  rw [cellsN3] at f0 f3 f4
  rw [cellsN2] at f5
  rw [cellsNFs] at f6
  obtain ⟨z0, e0, _, w0⟩ := DataW.trod_int Tryz.underlying3 f0
  obtain ⟨s1, e1, y1, w1⟩ := DataW.trod_string Tryz.underlying9 f1
  obtain ⟨s2, e2, _, w2⟩ := DataW.trod_string Tryz.underlying9 f2
  obtain ⟨z3, e3, _, w3⟩ := DataW.trod_int Tryz.underlying3 f3
  obtain ⟨z4, e4, _, w4⟩ := DataW.trod_int Tryz.underlying3 f4
  obtain ⟨z5, e5, _, w5⟩ := DataW.trod_int Tryz.underlying2 f5
  have hz6 : Sz 35 xs[6].1 := by
    rw [hx] at hz
    exact Sz.part hz Tryz.underlying37 (j := 6) (t' := 35) rfl (d := xs[6].1) (by rw [List.getElem?_map, g 6 (by omega)]; rfl)
  obtain ⟨ad, ls, cap, e6, hfa, hok, hln, hlt⟩ := open_fates f6 hz6
  have hz1 : s1.size ≤ 140737488355328 := by
    rw [hx] at hz
    have h1 := Sz.part hz Tryz.underlying37 (j := 1) (t' := 9) rfl (d := xs[1].1) (by rw [List.getElem?_map, g 1 (by omega)]; rfl)
    rw [y1] at h1
    have := h1.str
    rw [str_len] at this
    unfold reachBytes at this
    omega
  refine ⟨⟨z0, s1, s2, z3, z4, z5, ad, ls, cap⟩, by rw [hl]; exact cellsNO, fun j hj => ?_, ⟨(int_wf w0).1, (int_wf w0).2, w2, hz1, (int_wf w3).1, (int_wf w3).2, (int_wf w4).1, (int_wf w4).2, (int_wf w5).1, (int_wf w5).2, hok, by show ls.length ≤ _; omega⟩, ⟨hfa, fun hne b f hb => hlt b f hb hne⟩⟩
  · match j, hj with
    | 0, _ => exact one_cell e0
    | 1, _ => exact one_cell e1
    | 2, _ => exact one_cell e2
    | 3, _ => exact one_cell e3
    | 4, _ => exact one_cell e4
    | 5, _ => exact one_cell e5
    | 6, _ => exact one_cell e6
/-- A script among the arguments. -/
theorem open_script {ad : Option Addr} {len cap : Nat} {d : DataW H} {p : List MemPlace} (h : DataW.Trod enc Tryz.prog W 0 (fun _ => true) held 22 (.slice ad len cap) d p) (hz : Sz 22 d) :
    ∃ os : List WOp, os.length = len ∧ WScript W.heap.size W ad os := by
  obtain ⟨fuel, hf⟩ := h
  rcases open_slice Tryz.underlying22 hf with ⟨hcs, hx⟩ | ⟨a, len', cap', m, n, D, Pl, hcs, _, hl, hm, hmm, hx, hel⟩
  · simp [Value.cells] at hcs
    obtain ⟨rfl, rfl, rfl⟩ := hcs
    exact ⟨[], rfl, ⟨.inl rfl, by simp, by simp, by simp, Nat.zero_le _⟩⟩
  · simp [Value.cells] at hcs
    obtain ⟨rfl, rfl, rfl⟩ := hcs
    simp only [if_true] at hmm
    subst hmm
    simp only [Prod.mk.injEq] at hx
    rw [cellsNO] at hel
    rw [hx.1] at hz
    have hex : ∀ i, i < len → ∃ O : WOp, (∀ j, j < 7 → W.cell? ((a.add (i * 7)).add j) = O.cs[j]?) ∧ O.Ok ∧ O.Lie W.heap.size W := fun i hi => by
      obtain ⟨cs', h1, h2⟩ := hel i (by omega)
      obtain ⟨_, hln, hget⟩ := World.cells?_some h1
      obtain ⟨O, _, hO, hok, hlie⟩ := open_op h2 (hz.elem Tryz.underlying22 (List.mem_map.2 ⟨i, List.mem_range.2 hi, rfl⟩))
      exact ⟨O, fun j hj => by rw [hget j hj, hO j hj], hok, hlie⟩
    have hin : Inhabited WOp := ⟨⟨0, ⟨#[]⟩, ⟨#[]⟩, 0, 0, 0, none, [], 0⟩⟩
    obtain ⟨f, hfv⟩ := choose_lt (α := WOp) hex
    have hlen : ((List.range len).map f).length = len := by simp
    have hmem : ∀ O ∈ (List.range len).map f, O.Ok ∧ O.Lie W.heap.size W := fun O hO => by
      obtain ⟨i, hi, rfl⟩ := List.mem_map.1 hO
      exact ⟨(hfv i (List.mem_range.1 hi)).2.1, (hfv i (List.mem_range.1 hi)).2.2⟩
    have hat : WOpsAt W (some a) ((List.range len).map f) ∧ ((List.range len).map f ≠ [] → ∀ b o, (some a : Option Addr) = some ⟨b, o, none⟩ → b < W.heap.size) := by
      by_cases hl0 : len = 0
      · subst hl0; exact ⟨.inl rfl, fun hne => absurd rfl hne⟩
      · obtain ⟨b, off, spot⟩ := a
        have hs : (f 0).cs[0]? = some (.int .i64 (f 0).kind) := rfl
        have hspot : spot = none := by
          have h00 := (hfv 0 (by omega)).1 0 (by omega)
          rw [hs] at h00
          simpa [Addr.add] using World.cell?_spot h00
        subst hspot
        have hadd : ∀ i j, ((⟨b, off, none⟩ : Addr).add (i * 7)).add j = ⟨b, off + i * 7 + j, none⟩ := fun i j => by
          rw [add_add]; unfold Addr.add; split <;> simp_all <;> omega
        have hlt : b < W.heap.size := by
          have h00 := (hfv 0 (by omega)).1 0 (by omega)
          rw [hadd, hs] at h00
          exact World.block_lt_of_cell? _ _ h00
        refine ⟨.inr ⟨b, off, rfl, hlt, fun i hi j hj => ?_⟩, fun _ b' o' hb' => by cases hb'; exact hlt⟩
        have hi' : i < len := by simpa using hi
        have := (hfv i hi').1 j hj
        rw [hadd] at this
        simpa using this
    exact ⟨(List.range len).map f, hlen, ⟨hat.1, hat.2, fun O hO => (hmem O hO).1, fun O hO => (hmem O hO).2, by rw [hlen]; omega⟩⟩
end
end Go.Proofs.YtdffmmiegpndkaaGreatDoor
/-
  The statements' scripts among the arguments, opened, with their sizes (made of WArgs by program).
-/
namespace Go.Proofs.YtdffmmiegpndkaaGreatDoor
open Go.ChangeShapes Go.WideShapes Go.ChangeAt Go.RowKit Go.Deep
structure WOp.Sz (o : WOp) : Prop where
  name : o.name.size ≤ 140737488355328
  fates : (o.fates.length + 1) * 48 ≤ 140737488355328
section
variable {H : Type} {enc : TypeId × Value → H} {W : World} {base : Nat} {held : Bool}
theorem open_opP {n : Nat} {cs : List Value} {x : DataW H × List MemPlace} (h : DataW.trod enc Tryz.prog W 0 (fun _ => true) held n 37 cs = some x) (hz : Sz 37 x.1) :
    ∃ o : WOp, cs.length = 7 ∧ (∀ j, j < 7 → cs[j]? = o.cs[j]?) ∧ o.Ok ∧ o.Lie W.heap.size W ∧ o.Sz := by
  obtain ⟨xs, m, _, hx, hl, hlen, hf⟩ := DataW.trod_struct Tryz.underlying37 h
  have hl7 : xs.length = 7 := hlen
  have g : ∀ (i : Nat) (hi : i < xs.length), xs[i]? = some xs[i] := fun i hi => List.getElem?_eq_getElem hi
  have f0 : DataW.trod enc Tryz.prog W 0 (fun _ => true) held m 3 ((cs.drop 0).take (Tryz.prog.cellsOf 3)) = some xs[0] := (hf 0 _ rfl).trans (g 0 (by omega))
  have f1 : DataW.trod enc Tryz.prog W 0 (fun _ => true) held m 9 ((cs.drop 1).take (Tryz.prog.cellsOf 9)) = some xs[1] := (hf 1 _ rfl).trans (g 1 (by omega))
  have f2 : DataW.trod enc Tryz.prog W 0 (fun _ => true) held m 9 ((cs.drop 2).take (Tryz.prog.cellsOf 9)) = some xs[2] := (hf 2 _ rfl).trans (g 2 (by omega))
  have f3 : DataW.trod enc Tryz.prog W 0 (fun _ => true) held m 3 ((cs.drop 3).take (Tryz.prog.cellsOf 3)) = some xs[3] := (hf 3 _ rfl).trans (g 3 (by omega))
  have f4 : DataW.trod enc Tryz.prog W 0 (fun _ => true) held m 3 ((cs.drop 4).take (Tryz.prog.cellsOf 3)) = some xs[4] := (hf 4 _ rfl).trans (g 4 (by omega))
  have f5 : DataW.trod enc Tryz.prog W 0 (fun _ => true) held m 2 ((cs.drop 5).take (Tryz.prog.cellsOf 2)) = some xs[5] := (hf 5 _ rfl).trans (g 5 (by omega))
  have f6 : DataW.trod enc Tryz.prog W 0 (fun _ => true) held m 35 ((cs.drop 6).take (Tryz.prog.cellsOf 35)) = some xs[6] := (hf 6 _ rfl).trans (g 6 (by omega))
  rw [cellsN9] at f1 f2
  rw [cellsN3] at f0 f3 f4
  rw [cellsN2] at f5
  rw [cellsNFs] at f6
  obtain ⟨z0, e0, _, w0⟩ := DataW.trod_int Tryz.underlying3 f0
  obtain ⟨s1, e1, y1, w1⟩ := DataW.trod_string Tryz.underlying9 f1
  obtain ⟨s2, e2, y2, w2⟩ := DataW.trod_string Tryz.underlying9 f2
  obtain ⟨z3, e3, _, w3⟩ := DataW.trod_int Tryz.underlying3 f3
  obtain ⟨z4, e4, _, w4⟩ := DataW.trod_int Tryz.underlying3 f4
  obtain ⟨z5, e5, _, w5⟩ := DataW.trod_int Tryz.underlying2 f5
  have hz6 : Sz 35 xs[6].1 := by
    rw [hx] at hz
    exact Sz.part hz Tryz.underlying37 (j := 6) (t' := 35) rfl (d := xs[6].1) (by rw [List.getElem?_map, g 6 (by omega)]; rfl)
  obtain ⟨ad, ls, cap, e6, hfa, hok, hln, hlt⟩ := open_fates f6 hz6
  have hz1 : s1.size ≤ 140737488355328 := by
    rw [hx] at hz
    have h1 := Sz.part hz Tryz.underlying37 (j := 1) (t' := 9) rfl (d := xs[1].1) (by rw [List.getElem?_map, g 1 (by omega)]; rfl)
    rw [y1] at h1
    have := h1.str
    rw [str_len] at this
    unfold reachBytes at this
    omega
  have hz2 : s2.size ≤ 140737488355328 := by
    rw [hx] at hz
    have h1 := Sz.part hz Tryz.underlying37 (j := 2) (t' := 9) rfl (d := xs[2].1) (by rw [List.getElem?_map, g 2 (by omega)]; rfl)
    rw [y2] at h1
    have := h1.str
    rw [str_len] at this
    unfold reachBytes at this
    omega
  refine ⟨⟨z0, s1, s2, z3, z4, z5, ad, ls, cap⟩, by rw [hl]; exact cellsNO, fun j hj => ?_, ⟨(int_wf w0).1, (int_wf w0).2, w2, hz1, (int_wf w3).1, (int_wf w3).2, (int_wf w4).1, (int_wf w4).2, (int_wf w5).1, (int_wf w5).2, hok, by show ls.length ≤ _; omega⟩, ⟨hfa, fun hne b f hb => hlt b f hb hne⟩, ⟨hz2, hln⟩⟩
  · match j, hj with
    | 0, _ => exact one_cell e0
    | 1, _ => exact one_cell e1
    | 2, _ => exact one_cell e2
    | 3, _ => exact one_cell e3
    | 4, _ => exact one_cell e4
    | 5, _ => exact one_cell e5
    | 6, _ => exact one_cell e6
theorem open_scriptP {ad : Option Addr} {len cap : Nat} {d : DataW H} {p : List MemPlace} (h : DataW.Trod enc Tryz.prog W 0 (fun _ => true) held 22 (.slice ad len cap) d p) (hz : Sz 22 d) :
    ∃ os : List WOp, os.length = len ∧ WScript W.heap.size W ad os ∧ ∀ o ∈ os, o.Sz := by
  obtain ⟨fuel, hf⟩ := h
  rcases open_slice Tryz.underlying22 hf with ⟨hcs, hx⟩ | ⟨a, len', cap', m, n, D, Pl, hcs, _, hl, hm, hmm, hx, hel⟩
  · simp [Value.cells] at hcs
    obtain ⟨rfl, rfl, rfl⟩ := hcs
    exact ⟨[], rfl, ⟨.inl rfl, by simp, by simp, by simp, Nat.zero_le _⟩, by simp⟩
  · simp [Value.cells] at hcs
    obtain ⟨rfl, rfl, rfl⟩ := hcs
    simp only [if_true] at hmm
    subst hmm
    simp only [Prod.mk.injEq] at hx
    rw [cellsNO] at hel
    rw [hx.1] at hz
    have hex : ∀ i, i < len → ∃ O : WOp, (∀ j, j < 7 → W.cell? ((a.add (i * 7)).add j) = O.cs[j]?) ∧ O.Ok ∧ O.Lie W.heap.size W ∧ O.Sz := fun i hi => by
      obtain ⟨cs', h1, h2⟩ := hel i (by omega)
      obtain ⟨_, hln, hget⟩ := World.cells?_some h1
      obtain ⟨O, _, hO, hok, hlie, hoz⟩ := open_opP h2 (hz.elem Tryz.underlying22 (List.mem_map.2 ⟨i, List.mem_range.2 hi, rfl⟩))
      exact ⟨O, fun j hj => by rw [hget j hj, hO j hj], hok, hlie, hoz⟩
    have hin : Inhabited WOp := ⟨⟨0, ⟨#[]⟩, ⟨#[]⟩, 0, 0, 0, none, [], 0⟩⟩
    obtain ⟨f, hfv⟩ := choose_lt (α := WOp) hex
    have hlen : ((List.range len).map f).length = len := by simp
    have hmem : ∀ O ∈ (List.range len).map f, O.Ok ∧ O.Lie W.heap.size W ∧ O.Sz := fun O hO => by
      obtain ⟨i, hi, rfl⟩ := List.mem_map.1 hO
      exact ⟨(hfv i (List.mem_range.1 hi)).2.1, (hfv i (List.mem_range.1 hi)).2.2.1, (hfv i (List.mem_range.1 hi)).2.2.2⟩
    have hat : WOpsAt W (some a) ((List.range len).map f) ∧ ((List.range len).map f ≠ [] → ∀ b o, (some a : Option Addr) = some ⟨b, o, none⟩ → b < W.heap.size) := by
      by_cases hl0 : len = 0
      · subst hl0; exact ⟨.inl rfl, fun hne => absurd rfl hne⟩
      · obtain ⟨b, off, spot⟩ := a
        have hs : (f 0).cs[0]? = some (.int .i64 (f 0).kind) := rfl
        have hspot : spot = none := by
          have h00 := (hfv 0 (by omega)).1 0 (by omega)
          rw [hs] at h00
          simpa [Addr.add] using World.cell?_spot h00
        subst hspot
        have hadd : ∀ i j, ((⟨b, off, none⟩ : Addr).add (i * 7)).add j = ⟨b, off + i * 7 + j, none⟩ := fun i j => by
          rw [add_add]; unfold Addr.add; split <;> simp_all <;> omega
        have hlt : b < W.heap.size := by
          have h00 := (hfv 0 (by omega)).1 0 (by omega)
          rw [hadd, hs] at h00
          exact World.block_lt_of_cell? _ _ h00
        refine ⟨.inr ⟨b, off, rfl, hlt, fun i hi j hj => ?_⟩, fun _ b' o' hb' => by cases hb'; exact hlt⟩
        have hi' : i < len := by simpa using hi
        have := (hfv i hi').1 j hj
        rw [hadd] at this
        simpa using this
    exact ⟨(List.range len).map f, hlen, ⟨hat.1, hat.2, fun O hO => (hmem O hO).1, fun O hO => (hmem O hO).2.1, by rw [hlen]; omega⟩, fun O hO => (hmem O hO).2.2⟩
/-- How long a script may be. -/
theorem open_lenK {ad : Option Addr} {len cap : Nat} {d : DataW H} {p : List MemPlace} (h : DataW.Trod enc Tryz.prog W 0 (fun _ => true) held 22 (.slice ad len cap) d p) (hz : Sz 22 d) : len * 88 ≤ 140737488355328 := by
  obtain ⟨fuel, hf⟩ := h
  rcases open_slice Tryz.underlying22 hf with ⟨hcs, hx⟩ | ⟨a, len', cap', m, n, D, Pl, hcs, _, hl, hm, hmm, hx, hel⟩
  · simp [Value.cells] at hcs
    omega
  · simp [Value.cells] at hcs
    obtain ⟨rfl, rfl, rfl⟩ := hcs
    simp only [if_true] at hmm
    subst hmm
    simp only [Prod.mk.injEq] at hx
    rw [hx.1] at hz
    have h1 := hz ((((List.range len).map D).length + ((List.range (m - len)).map fun j => D (len + j)).length) * Tryz.prog.bytesOf 37) (by
      unfold DataW.weights
      rw [Tryz.underlying22]
      exact List.mem_cons_self ..)
    have hbo : Tryz.prog.bytesOf 37 = 88 := by kernel_rfl
    rw [hbo] at h1
    simp only [List.length_map, List.length_range] at h1
    unfold reachBytes at h1
    omega
end
end Go.Proofs.YtdffmmiegpndkaaGreatDoor
