import Derived.Test.YtlkimfmilccanaaGreatKRef2
import Derived.Test.YtlkimfmilccanaaGreatRows
import Derived.ProofKit
import Derived.OpenShut
import Derived.SizedLaws
import Derived.Deep.Slices
/-
  The statements' arguments: lists of steps with fates; a Crash over a copy of such fates.
-/
namespace Go.Proofs.YtlkimfmilccanaaGreat
open Go.RowKit Go.Maps Go.WideMaps
set_option linter.unusedVariables false
theorem kfates_later {B : Nat} {w w' : World} {ad : Option Addr} {ls : List FT} (h : FatesAt w ad ls) (hb : Below B w w') (hB : ls ≠ [] → ∀ b o, ad = some ⟨b, o, none⟩ → b < B) : FatesAt w' ad ls := by
  by_cases he : ls = []
  · exact .inl he
  · exact h.below hb (hB he)
/-- What the fates of a step need. -/
structure KFt (B : Nat) (w : World) (ad : Option Addr) (ls : List FT) : Prop where
  at_ : FatesAt w ad ls
  lt : ls ≠ [] → ∀ b f, ad = some ⟨b, f, none⟩ → b < B
  ok : ∀ x ∈ ls, x.Ok
  sz : (ls.length + 1) * 48 ≤ 140737488355328
theorem KFt.below {B : Nat} {w w' : World} {ad : Option Addr} {ls : List FT} (h : KFt B w ad ls) (hb : Below B w w') : KFt B w' ad ls := ⟨kfates_later h.at_ hb h.lt, h.lt, h.ok, h.sz⟩
/-- One turn of CheckKeeps. -/
structure KTurn where
  text : ByteArray
  arm : Int
  what : Int
  fall : Int
  ad : Option Addr
  fates : List FT
  cap : Nat
  crash : Bool
def KTurn.cs (o : KTurn) : Array Value := #[.string o.text, .int .i64 o.arm, .int .i64 o.what, .int .i64 o.fall, .slice o.ad o.fates.length o.cap, .bool o.crash]
/-- One step of CheckPlays. -/
structure KOp where
  kind : Int
  name : ByteArray
  text : ByteArray
  at_ : Int
  n : Int
  ad : Option Addr
  fates : List FT
  cap : Nat
def KOp.cs (o : KOp) : Array Value := #[.int .i64 o.kind, .string o.name, .string o.text, .int .i64 o.at_, .int .i64 o.n, .slice o.ad o.fates.length o.cap]
/-- What is known of such a step. -/
structure KGood (B : Nat) (w : World) (ints : List Int) (strs : List ByteArray) (ad : Option Addr) (ls : List FT) : Prop where
  ints : ∀ n ∈ ints, -9223372036854775808 ≤ n ∧ n < 9223372036854775808
  strs : ∀ s ∈ strs, s.size ≤ 140737488355328
  fates : KFt B w ad ls
def KTurn.Good (B : Nat) (w : World) (o : KTurn) : Prop := KGood B w [o.arm, o.what, o.fall] [o.text] o.ad o.fates
def KOp.Good (B : Nat) (w : World) (o : KOp) : Prop := KGood B w [o.kind, o.at_, o.n] [o.name, o.text] o.ad o.fates
theorem KGood.below {B : Nat} {w w' : World} {ints : List Int} {strs : List ByteArray} {ad : Option Addr} {ls : List FT} (h : KGood B w ints strs ad ls) (hb : Below B w w') : KGood B w' ints strs ad ls := ⟨h.ints, h.strs, h.fates.below hb⟩
section
variable {α : Type}
/-- A list of steps of six cells each among the arguments. -/
structure KRows (cs : α → Array Value) (good : Nat → World → α → Prop) (B : Nat) (w : World) (ad : Option Addr) (xs : List α) : Prop where
  at_ : xs = [] ∨ ∃ b o, ad = some ⟨b, o, none⟩ ∧ b < w.heap.size ∧ ∀ i (h : i < xs.length) j, j < 6 → w.cell? ⟨b, o + i * 6 + j, none⟩ = (cs xs[i])[j]?
  lt : xs ≠ [] → ∀ b o, ad = some ⟨b, o, none⟩ → b < B
  good : ∀ x ∈ xs, good B w x
  len : xs.length ≤ maxLen
theorem KRows.below {cs : α → Array Value} {good : Nat → World → α → Prop} (hg : ∀ B w w' x, good B w x → Below B w w' → good B w' x) {B : Nat} {w w' : World} {ad : Option Addr} {xs : List α} (h : KRows cs good B w ad xs) (hb : Below B w w') : KRows cs good B w' ad xs := by
  refine ⟨?_, h.lt, fun o ho => hg _ _ _ _ (h.good o ho) hb, h.len⟩
  rcases h.at_ with x | ⟨b, o, ha, hlt, hc⟩
  · exact .inl x
  · refine .inr ⟨b, o, ha, Nat.lt_of_lt_of_le hlt hb.size, fun i hi j hj => ?_⟩
    rw [← hc i hi j hj]
    exact World.cell?_of_block (hb.block b (h.lt (fun e => by rw [e] at hi; simp at hi) b o ha))
theorem KRows.cells {cs : α → Array Value} {good : Nat → World → α → Prop} {B : Nat} {w : World} {ad : Option Addr} {xs : List α} (h : KRows cs good B w ad xs) {k : Nat} (hk : k < xs.length) : ∃ b o, ad = some ⟨b, o, none⟩ ∧ ∀ j, j < 6 → w.cell? ⟨b, o + k * 6 + j, none⟩ = (cs xs[k])[j]? := by
  rcases h.at_ with x | ⟨b, o, ha, hlt, hc⟩
  · rw [x] at hk; simp at hk
  · exact ⟨b, o, ha, fun j hj => hc k hk j hj⟩
end
/-! ### a copy of fates -/
def kcellsT : List FT → List Value
  | [] => []
  | x :: r => x.cs.toList ++ kcellsT r
theorem kcellsT_length : ∀ xs : List FT, (kcellsT xs).length = xs.length * 4
  | [] => rfl
  | x :: r => by
    show (x.cs.toList ++ kcellsT r).length = _
    rw [List.length_append, kcellsT_length r, List.length_cons]
    show 4 + _ = _
    omega
theorem kcellsT_get : ∀ (xs : List FT) (k : Nat) (h : k < xs.length) (j : Nat), j < 4 → (kcellsT xs)[k * 4 + j]? = (xs[k].cs)[j]?
  | [], k, h, _, _ => by simp at h
  | x :: r, 0, _, j, hj => by
    show (x.cs.toList ++ kcellsT r)[0 * 4 + j]? = x.cs[j]?
    rw [List.getElem?_append_left (by show _ < 4; omega), Array.getElem?_toList]
    congr 1
    omega
  | x :: r, k + 1, h, j, hj => by
    show (x.cs.toList ++ kcellsT r)[(k + 1) * 4 + j]? = _
    rw [List.getElem?_append_right (by show 4 ≤ _; omega)]
    show (kcellsT r)[(k + 1) * 4 + j - 4]? = _
    rw [show (k + 1) * 4 + j - 4 = k * 4 + j by omega, kcellsT_get r k (by simp at h; omega) j hj]
    rfl
theorem kone_fates : ∀ xs : List FT, ∀ u ∈ kcellsT xs, u.oneCell' = true
  | [], u, hu => by simp [kcellsT] at hu
  | x :: r, u, hu => by
    rcases List.mem_append.1 hu with h | h
    · simp only [FT.cs, List.mem_cons, List.not_mem_nil, or_false] at h
      rcases h with rfl | rfl | rfl | rfl <;> rfl
    · exact kone_fates r u h
theorem kinfoT : (Tryz.prog.info? 140).map (fun i => (i.zero, i.size, i.bytes)) = some (some (.agg #[.string ⟨#[]⟩, .int .i64 0, .int .i64 0, .string ⟨#[]⟩]), 4, 48) := by kernel_rfl
theorem kapp_fates (w : World) (ad : Option Addr) (cap : Nat) (ls : List FT) (hfa : FatesAt w ad ls) (hsz : ls.length * 48 ≤ 140737488355328) (ty : TypeId) :
    ∃ v w', (Builtin.append_ #[57, 57] ty #[.slice none 0 0, .slice ad ls.length cap]).run Tryz.prog w = .ok v w' ∧ w'.ownsRow w.heap.size 140 4 v ls.length (kcellsT ls) ∧ Below w.heap.size w w' := by
  obtain ⟨i, hi, hz0, hz1, hz2⟩ := info_parts kinfoT
  by_cases he : ls = []
  · subst he
    have hs : Src Tryz.prog i.size 57 (.slice ad 0 cap) 0 [] w := by
      cases ad with
      | none => exact Src.ofNil w Tryz.underlying57 cap
      | some a => exact Src.ofSlice w Tryz.underlying57 a 0 cap [] (by simp) (fun j u hu => by simp at hu) (by simp)
    exact ⟨_, _, run_append_nothing (P := Tryz.prog) w _ _ ty _ i Tryz.underlying57 hi none 0 0 (Nat.le_refl _) _ hs, World.ownsRow_nil _ _ _ _, Below.refl _ _⟩
  · rcases hfa with h | ⟨b, o, rfl, hl, hc⟩
    · exact absurd h he
    have hpos : 0 < ls.length := List.length_pos_iff.2 he
    obtain ⟨g, c, w', hr, h2, h3, h4, h5⟩ := run_append_lies (P := Tryz.prog) w 57 ty w.heap.size 140 i _ 4 48 Tryz.underlying57 hi hz0 hz1 hz2 rfl (by decide) (.slice none 0 0) 0 [] (World.ownsRow_nil _ _ _ _) ⟨b, o, none⟩ ls.length cap (kcellsT ls) (kcellsT_length ls) (fun j u hu => by
      have hj := (List.getElem?_eq_some_iff.1 hu).1
      rw [kcellsT_length] at hj
      have e := kcellsT_get ls (j / 4) (by omega) (j % 4) (by omega)
      rw [show j / 4 * 4 + j % 4 = j by omega, hu] at e
      rw [show (⟨b, o, none⟩ : Addr).add j = ⟨b, o + j, none⟩ by unfold Addr.add; split <;> simp_all]
      have := hc (j / 4) (by omega) (j % 4) (by omega)
      rw [show o + j / 4 * 4 + j % 4 = o + j by omega] at this
      rw [this, e]) (kone_fates ls) hpos (by unfold maxLen; omega) (by omega) (Nat.le_refl _) _ rfl
    refine ⟨_, w', hr, ?_, ⟨h3.os, h3.tape, h3.output, h3.size, fun b hb => h3.block b hb (by simp [Value.ownBlock])⟩⟩
    simp only [Nat.zero_add, List.nil_append] at h2
    rw [Nat.zero_add]
    exact h2
theorem wpList_kapp {P : Program} {ops : Array Oper} {rest : List Oper} {o : Oper} {a : Act} {w w' : World} {Q : Exit → Act → World → Prop} {v : Value} (hg : o.guard = none) (s x : Operand) (tys : Array TypeId) (ho : o.op = .call { callee := .builtin .append, args := #[s, x], argTypes := tys }) (h : (Builtin.append_ tys o.type #[a.eval s, a.eval x]).run P w = .ok v w') (k : wpList P ops Q rest (a.put o.dst v) w') : wpList P ops Q (o :: rest) a w :=
  wpList_plain hg fun K hK => wpRun (run_append_op s x tys ho h) (hK _ _ k)
section
variable {B : Nat} {w : World} {L : List Item} {i p : Nat} {A : AD}
theorem kset_push {α : Type} {L M : List α} {i : Nat} {y x : α} (h : L[i]? = some y) : (L ++ M).set i x = L.set i x ++ M := List.set_append_left _ _ (List.getElem?_eq_some_iff.1 h).1
theorem kget_push {α : Type} {L M : List α} {i : Nat} {x : α} (h : L[i]? = some x) : (L ++ M)[i]? = some x := by
  rw [List.getElem?_append_left (List.getElem?_eq_some_iff.1 h).1]; exact h
theorem kget_last {α : Type} (L : List α) (x : α) : (L ++ [x])[L.length]? = some x := by simp
theorem kcrash (h : Lies B w L) (hi : L[i]? = some (.disk p A)) (ad : Option Addr) (cap : Nat) (ls : List FT) (hf : KFt B w ad ls) (ty : TypeId) :
    ∃ ad' n' cap' w', (Builtin.append_ #[57, 57] ty #[.slice none 0 0, .slice ad ls.length cap]).run Tryz.prog w = .ok (.slice ad' n' cap') w' ∧ Calls Tryz.prog 25 #[.pointer (some ⟨p, 0, none⟩), .slice ad' n' cap'] w' fun e w'' => e = .returned (.tuple #[]) ∧ Lies B w'' (L.set i (.disk p (A.crash (ls.map FT.abs)))) ∧ Below B w w'' := by
  have hsz := hf.sz
  obtain ⟨v, w', hr, ho, hb⟩ := kapp_fates w ad cap ls hf.at_ (by omega) ty
  have hb' := hb.mono h.base
  obtain ⟨hol, hov⟩ := ho
  rcases hov with ⟨rfl, hn⟩ | ⟨g, c, cur, rfl, hgb, hkg, hnc, hcm, hcs, htk⟩
  · have he : ls = [] := List.length_eq_zero_iff.1 hn
    subst he
    refine ⟨none, 0, 0, w', hr, (s_crash0 (h.below hb) hi).mono ?_⟩
    rintro e w'' ⟨he, h1, h2⟩
    exact ⟨he, h1, hb'.trans h2⟩
  · have h1 : Lies B w' (L ++ [.block g (.cells cur 140 (0, 0))]) := h.push (S' := fun b => b = g) hb ⟨hkg, fun _ => Iff.rfl⟩ (fun b hb => by rw [hb]; exact hgb)
    have hcur : ∀ q v, (kcellsT ls)[q]? = some v → cur[q]? = some v := fun q v hv => by
      rw [← htk] at hv
      rw [List.getElem?_take] at hv
      split at hv
      · rw [← Array.getElem?_toList]; exact hv
      · cases hv
    have hfa : FatesAt w' (some ⟨g, 0, none⟩) ls := .inr ⟨g, 0, rfl, lt_of_some hkg, fun q hq t ht => by
      rw [cell_of_row w' g _ _ _ (0, 0) hkg, Nat.zero_add]
      have e := kcellsT_get ls q hq t ht
      obtain ⟨v, hv⟩ : ∃ v, (ls[q].cs)[t]? = some v := ⟨_, Array.getElem?_eq_getElem (show t < 4 from ht)⟩
      rw [hv] at e ⊢
      exact hcur _ _ e⟩
    refine ⟨some ⟨g, 0, none⟩, ls.length, c, w', hr, (s_crashOwn (i := i) (j := L.length) h1 (kget_push hi) (by have := (List.getElem?_eq_some_iff.1 hi).1; omega) (kget_last _ _) 0 ls c hfa hf.ok (by omega)).mono ?_⟩
    rintro e w'' ⟨he, h2, h3⟩
    rw [kset_push hi] at h2
    exact ⟨he, h2.drop, hb'.trans h3⟩
theorem kblockOf {q g : Nat} {ob : Obj} (h : Lies B w L) (hi : L[q]? = some (.block g ob)) : w.heap[g]? = some ob := by
  obtain ⟨S, hp, _⟩ := h.get hi
  exact hp.1
/-- A cell of a held block. -/
theorem kcell {q g : Nat} {cs : Array Value} {T : TypeId} (h : Lies B w L) (hi : L[q]? = some (.block g (.cells cs T (0, 0)))) (j : Nat) : w.cell? ⟨g, j, none⟩ = cs[j]? := cell_of_row w g j _ _ (0, 0) (kblockOf h hi)
end
end Go.Proofs.YtlkimfmilccanaaGreat
/-
  The statements' arguments, opened.
-/
namespace Go.Proofs.YtlkimfmilccanaaGreat
open Go.ChangeShapes Go.WideShapes Go.ChangeAt Go.RowKit Go.Deep
theorem cellsN3 : Tryz.prog.cellsOf 3 = 1 := by kernel_rfl
theorem cellsN4 : Tryz.prog.cellsOf 4 = 1 := by kernel_rfl
theorem cellsN9 : Tryz.prog.cellsOf 9 = 1 := by kernel_rfl
theorem cellsNFs : Tryz.prog.cellsOf 57 = 1 := by kernel_rfl
theorem cellsNF : Tryz.prog.cellsOf 140 = 4 := by kernel_rfl
theorem one_cell {cs : List Value} {o : Nat} {v : Value} (h : (cs.drop o).take 1 = [v]) : cs[o]? = some v := by
  have := congrArg (fun l => l[0]?) h
  simpa [List.getElem?_take, List.getElem?_drop] using this
/-- All that a datum holds is of a size that a machine can have. -/
def Sz {H : Type} (t : TypeId) (d : DataW H) : Prop := ∀ n ∈ d.weights Tryz.prog t, n ≤ reachBytes
section
variable {H : Type}
theorem Sz.arg {ts : List TypeId} {ds : List (DataW H)} (h : (DataW.weightsEach Tryz.prog ts ds).all (· ≤ reachBytes) = true) {j : Nat} {t : TypeId} {d : DataW H} (ht : ts[j]? = some t) (hd : ds[j]? = some d) : Sz t d := fun n hn => by
  have := List.all_eq_true.1 h n (DataW.weights_mem_each ht hd n hn)
  simpa using this
theorem Sz.part {t : TypeId} {fs : Array Field} {parts : List (DataW H)} (h : Sz t (.agg parts)) (hu : Tryz.prog.underlying t = some (.struct fs)) {j : Nat} {t' : TypeId} {d : DataW H} (ht : (fs.toList.map (·.type))[j]? = some t') (hd : parts[j]? = some d) : Sz t' d := fun n hn =>
  h n (by simp only [DataW.weights, hu]; exact DataW.weights_mem_each ht hd n hn)
theorem weights_all {e : TypeId} : ∀ {l : List (DataW H)} {d : DataW H}, d ∈ l → ∀ n ∈ d.weights Tryz.prog e, n ∈ DataW.weightsAll Tryz.prog e l
  | [], _, h, _, _ => by simp at h
  | a :: l, d, h, n, hn => by
    simp only [DataW.weightsAll, List.mem_append]
    rcases List.mem_cons.1 h with rfl | h
    · exact .inl hn
    · exact .inr (weights_all h n hn)
theorem Sz.elem {t e : TypeId} {elems spare : List (DataW H)} (h : Sz t (.slice elems spare)) (hu : Tryz.prog.underlying t = some (.slice e)) {d : DataW H} (hd : d ∈ elems) : Sz e d := fun n hn =>
  h n (by simp only [DataW.weights, hu, List.mem_cons, List.mem_append]; exact .inr (.inl (weights_all hd n hn)))
theorem Sz.str {t : TypeId} {b : List UInt8} (h : Sz (H := H) t (.lit (.string b))) : b.length ≤ reachBytes := h _ (by simp [DataW.weights])
end
section
variable {H : Type} {enc : TypeId × Value → H} {W : World} {base : Nat} {held : Bool}
theorem int_wf {n : Int} (h : (Lit.int .i64 n).wf = true) : -9223372036854775808 ≤ n ∧ n < 9223372036854775808 := by
  have : -9223372036854775808 ≤ n ∧ n ≤ 9223372036854775807 := by simpa [Lit.wf, IntKind.min, IntKind.max, IntKind.signed, IntKind.bits] using h
  omega
theorem open_fate {spare : Nat → Bool} {n : Nat} {cs : List Value} {x : DataW H × List MemPlace} (h : DataW.trod enc Tryz.prog W base spare held n 140 cs = some x) :
    ∃ y : FT, (∀ j, j < 4 → cs[j]? = y.cs[j]?) ∧ y.Ok := by
  obtain ⟨xs, m, _, hx, hl, hlen, hf⟩ := DataW.trod_struct Tryz.underlying140 h
  have hl4 : xs.length = 4 := hlen
  have g : ∀ (i : Nat) (hi : i < xs.length), xs[i]? = some xs[i] := fun i hi => List.getElem?_eq_getElem hi
  have f0 : DataW.trod enc Tryz.prog W base spare held m 9 ((cs.drop 0).take (Tryz.prog.cellsOf 9)) = some xs[0] := (hf 0 _ rfl).trans (g 0 (by omega))
  have f1 : DataW.trod enc Tryz.prog W base spare held m 3 ((cs.drop 1).take (Tryz.prog.cellsOf 3)) = some xs[1] := (hf 1 _ rfl).trans (g 1 (by omega))
  have f2 : DataW.trod enc Tryz.prog W base spare held m 3 ((cs.drop 2).take (Tryz.prog.cellsOf 3)) = some xs[2] := (hf 2 _ rfl).trans (g 2 (by omega))
  have f3 : DataW.trod enc Tryz.prog W base spare held m 9 ((cs.drop 3).take (Tryz.prog.cellsOf 9)) = some xs[3] := (hf 3 _ rfl).trans (g 3 (by omega))
  rw [cellsN9] at f0 f3
  rw [cellsN3] at f1 f2
  obtain ⟨s0, e0, _, _⟩ := DataW.trod_string Tryz.underlying9 f0
  obtain ⟨z1, e1, _, w1⟩ := DataW.trod_int Tryz.underlying3 f1
  obtain ⟨z2, e2, _, w2⟩ := DataW.trod_int Tryz.underlying3 f2
  obtain ⟨s3, e3, _, _⟩ := DataW.trod_string Tryz.underlying9 f3
  refine ⟨⟨s0, z1, z2, s3⟩, fun j hj => ?_, (int_wf w1).1, (int_wf w1).2⟩
  match j, hj with
  | 0, _ => exact one_cell e0
  | 1, _ => exact one_cell e1
  | 2, _ => exact one_cell e2
  | 3, _ => exact one_cell e3
/-- A list of fates among the arguments. -/
theorem open_fates {fuel : Nat} {cs : List Value} {x : DataW H × List MemPlace} (h : DataW.trod enc Tryz.prog W 0 (fun _ => true) held fuel 57 cs = some x) (hz : Sz 57 x.1) :
    ∃ (ad : Option Addr) (ls : List FT) (cap : Nat), cs = [.slice ad ls.length cap] ∧ FatesAt W ad ls ∧ (∀ y ∈ ls, y.Ok) ∧ (ls.length + 1) * 48 ≤ 140737488355328 ∧ ∀ b o, ad = some ⟨b, o, none⟩ → ls ≠ [] → b < W.heap.size := by
  rcases open_slice Tryz.underlying57 h with ⟨hcs, hx⟩ | ⟨a, len, cap, m, n, D, Pl, hcs, _, hl, hm, hmm, hx, hel⟩
  · exact ⟨none, [], 0, hcs, .inl rfl, by simp, by simp, by simp⟩
  · simp only [if_true] at hmm
    subst hmm
    have hbig : len * 48 ≤ reachBytes := by
      rw [hx] at hz
      have h1 := hz ((((List.range len).map D).length + ((List.range (m - len)).map fun j => D (len + j)).length) * Tryz.prog.bytesOf 140) (by
        unfold DataW.weights
        rw [Tryz.underlying57]
        exact List.mem_cons_self ..)
      have hbo : Tryz.prog.bytesOf 140 = 48 := by kernel_rfl
      rw [hbo] at h1
      simp only [List.length_map, List.length_range] at h1
      omega
    rw [cellsNF] at hel
    have hex : ∀ i, i < len → ∃ y : FT, (∀ j, j < 4 → W.cell? ((a.add (i * 4)).add j) = y.cs[j]?) ∧ y.Ok := fun i hi => by
      obtain ⟨cs', h1, h2⟩ := hel i (by omega)
      obtain ⟨_, hln, hget⟩ := World.cells?_some h1
      obtain ⟨y, hy, hok⟩ := open_fate h2
      exact ⟨y, fun j hj => by rw [hget j hj, hy j hj], hok⟩
    have hin : Inhabited FT := ⟨FT.zero⟩
    obtain ⟨f, hfv⟩ := choose_lt (α := FT) hex
    have hlen : ((List.range len).map f).length = len := by simp
    have hat : FatesAt W (some a) ((List.range len).map f) ∧ ∀ b o, (some a : Option Addr) = some ⟨b, o, none⟩ → (List.range len).map f ≠ [] → b < W.heap.size := by
      by_cases hl0 : len = 0
      · subst hl0; exact ⟨.inl rfl, fun b o _ hne => absurd rfl hne⟩
      · obtain ⟨b, off, spot⟩ := a
        have hspot : spot = none := by
          have h00 := (hfv 0 (by omega)).1 0 (by omega)
          have hs : (f 0).cs[0]? = some (.string (f 0).file) := rfl
          rw [hs] at h00
          simpa [Addr.add] using World.cell?_spot h00
        subst hspot
        have hadd : ∀ i j, ((⟨b, off, none⟩ : Addr).add (i * 4)).add j = ⟨b, off + i * 4 + j, none⟩ := fun i j => by
          rw [add_add]; unfold Addr.add; split <;> simp_all <;> omega
        have hlt : b < W.heap.size := by
          have h00 := (hfv 0 (by omega)).1 0 (by omega)
          have hs : (f 0).cs[0]? = some (.string (f 0).file) := rfl
          rw [hadd, hs] at h00
          exact World.block_lt_of_cell? _ _ h00
        refine ⟨.inr ⟨b, off, rfl, hlt, fun i hi j hj => ?_⟩, fun b' o' hb' _ => by cases hb'; exact hlt⟩
        have hi' : i < len := by simpa using hi
        have := (hfv i hi').1 j hj
        rw [hadd] at this
        simpa using this
    refine ⟨some a, (List.range len).map f, _, by rw [hlen]; exact hcs, hat.1, fun y hy => ?_, by rw [hlen]; unfold reachBytes at hbig; omega, hat.2⟩
    obtain ⟨i, hi, rfl⟩ := List.mem_map.1 hy
    exact (hfv i (List.mem_range.1 hi)).2
-- left out in this seat: open_turn
-- left out in this seat: open_turns
-- left out in this seat: open_op
-- left out in this seat: open_ops
end
end Go.Proofs.YtlkimfmilccanaaGreat
