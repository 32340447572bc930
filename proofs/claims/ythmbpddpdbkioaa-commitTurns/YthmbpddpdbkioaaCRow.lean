/-
  A store into a row of open adds of one's own; CommitTurns' variables.
-/
import Derived.Test.YthmbpddpdbkioaaCTurnsM
import Derived.Test.YthmbpddpdbkioaaCLent
namespace Go.Proofs.Ythmbpddpdbkioaa
open Go.RowKit S
set_option linter.unusedVariables false
set_option linter.unusedSimpArgs false
section
variable {ops : Array Oper} {rest : List Oper} {o : Oper} {a : Act} {w : World} {Q : Exit → Act → World → Prop}
theorem enc_get (s : Pen) (r : Nat) (hr : r < 35) : s.enc[r]? = some (s.v r) := by
  unfold Pen.enc
  rw [Array.getElem?_toList, tabv_get _ _ _ hr]
theorem set_cells (f : Nat → Value) (l : List Pen) (j : Nat) (p : Pen) (N : Nat) (hj : j < l.length) (hN : l.length * 35 ≤ N) (h : (tabv f N).toList.take (l.length * 35) = cellsP l) : (tabv (splice f (j * 35) p.v 35) N).toList.take (l.length * 35) = cellsP (l.set j p) := by
  apply List.ext_getElem?
  intro i
  by_cases hi : i < l.length * 35
  · obtain ⟨k, r, hr, rfl⟩ : ∃ k r, r < 35 ∧ i = k * 35 + r := ⟨i / 35, i % 35, Nat.mod_lt _ (by omega), by omega⟩
    have hk : k < l.length := by omega
    have h0 := congrArg (fun m => m[k * 35 + r]?) h
    try simp only at h0
    rw [List.getElem?_take_of_lt hi, Array.getElem?_toList, tabv_get _ _ _ (by omega), cellsP_get l k l[k] (List.getElem?_eq_getElem hk) r hr, enc_get _ _ hr] at h0
    rw [List.getElem?_take_of_lt hi, Array.getElem?_toList, tabv_get _ _ _ (by omega)]
    by_cases e : k = j
    · subst e
      rw [cellsP_get (l.set k p) k p (by simp [hk]) r hr, enc_get _ _ hr]
      unfold splice
      rw [if_pos (by omega), Nat.add_sub_cancel_left]
    · rw [cellsP_get (l.set j p) k l[k] (by rw [List.getElem?_set_ne (fun x => e x.symm)]; exact List.getElem?_eq_getElem hk) r hr, enc_get _ _ hr, ← h0]
      unfold splice
      rw [if_neg (by omega)]
  · rw [List.getElem?_eq_none (by rw [List.length_take]; omega), List.getElem?_eq_none (by rw [cellsP_length, List.length_set]; omega)]
theorem wpList_storeRowP (hgd : o.guard = none) (x y : Operand) (ho : o.op = .store 36 x y) (hd : o.dst = none) (g n cap j B : Nat) (p : Pen) (l : List Pen) (hx : a.eval x = .pointer (some ⟨g, j * 35, none⟩)) (hy : a.eval y = .agg (tabv p.v 35)) (hown : OwnP B w (.slice (some ⟨g, 0, none⟩) n cap) l) (hj : j < l.length)
    (hk : ∀ w', OwnP B w' (.slice (some ⟨g, 0, none⟩) n cap) (l.set j p) → Keep (· = g) w w' → wpList Try.prog ops Q rest a w') : wpList Try.prog ops Q (o :: rest) a w := by
  obtain ⟨hl, ⟨e, _⟩ | ⟨g', cap', cur, e, hB, hg, h1, h2, h3, h4⟩⟩ := hown
  · cases e
  · cases e
    have hcur : cur = tabv (fun i => cur.getD i undef) (cap * 35) := by
      refine (tabv_ext _ _ _ h3 fun i hi => ?_)
      have : i < cur.size := by omega
      simp [Array.getD, this]
    have hH : Has w g 36 (fun i => cur.getD i undef) (cap * 35) := by unfold Has; rw [← hcur]; exact hg
    have hle : l.length * 35 ≤ cap * 35 := Nat.mul_le_mul_right _ h1
    have hjc : j * 35 + 35 ≤ cap * 35 := by omega
    have h4' : (tabv (fun i => cur.getD i undef) (cap * 35)).toList.take (l.length * 35) = cellsP l := by rw [← hcur]; exact h4
    refine wpList_store_part hgd 36 x y ho hd g (j * 35) p.v 35 hx hy 36 _ (cap * 35) hH hjc infoP (fun i _ => onePv p i) _ (fun i hi => rfl) (hk _ ?_ (keep_row _ _ _ rfl))
    have h5 := set_cells _ l j p (cap * 35) hj hle h4'
    unfold OwnP
    rw [List.length_set]
    exact ⟨by rw [cellsP_length, List.length_set], .inr ⟨g, cap, _, rfl, hB, setRow_heap w g cur _ _ _ hg, h1, h2, by rw [tabv_size], h5⟩⟩
end
def m1 : Pen := ⟨false, -1, 0, fun _ => 0⟩
def m2 : Pen := ⟨false, -2, 0, fun _ => 0⟩
set_option maxRecDepth 100000 in
theorem built_m1 : Try.prog.built 36 [(1, .int .i64 (-1))] = some (tabv m1.v 35) := by kernel_rfl
set_option maxRecDepth 100000 in
theorem built_m2 : Try.prog.built 36 [(1, .int .i64 (-2))] = some (tabv m2.v 35) := by kernel_rfl
theorem rep_set {l : List Pen} {j : Nat} (hj : j < l.length) : (List.replicate j m1 ++ l.drop j).set j m1 = List.replicate (j + 1) m1 ++ l.drop (j + 1) := by
  rw [List.set_append_right _ _ (by rw [List.length_replicate]; exact Nat.le_refl _), List.length_replicate, Nat.sub_self, List.drop_eq_getElem_cons hj, List.set_cons_zero, List.replicate_succ', List.append_assoc]
  rfl
theorem OwnP.ne {B : Nat} {w : World} {v : Value} {l : List Pen} {g : Nat} {f : Nat → Value} (h : OwnP B w v l) (hH : Has w g 24 f 3) : ∀ i, v.ownBlock = some i → i ≠ g := fun i hi e => by
  subst e
  obtain ⟨hl, ⟨e, _⟩ | ⟨g', cap', cur, e, hB, hg, _⟩⟩ := h
  · subst e; cases hi
  · subst e
    have : g' = i := by simpa [Value.ownBlock] using hi
    subst this
    unfold Has at hH
    rw [hH] at hg
    simp at hg
/-- CommitTurns' variables: a, t, s, back, keep. -/
structure LV (w : World) (g0 ga gt gs gb gk : Nat) (X Y : Int) (ada adt ads adb adk : Option Addr) (na nt ca ct cs cb ck : Nat) (M Lt : List Pen) (wr : World) : Prop where
  ra : Has wr ga 24 (ledv X Y (.slice ada na ca)) 3
  oa : OwnP (g0 + 1) wr (.slice ada na ca) M
  rt : Has wr gt 24 (ledv Y X (.slice adt nt ct)) 3
  ot : OwnP (ga + 1) wr (.slice adt nt ct) Lt
  rs : Has wr gs 24 (ledv Y X (.slice ads na cs)) 3
  os : OwnP (gt + 1) wr (.slice ads na cs) (turnP M)
  rb : Has wr gb 24 (ledv X Y (.slice adb na cb)) 3
  ob : OwnP (gs + 1) wr (.slice adb na cb) M
  ok : OwnP (gk + 1) wr (.slice adk na ck) (turnP M)
  bel : Below g0 w wr
  sz : g0 ≤ wr.heap.size
section
variable {w : World} {g0 ga gt gs gb gk : Nat} {X Y : Int} {ada adt ads adb adk : Option Addr} {na nt ca ct cs cb ck : Nat} {M Lt : List Pen} {wr w' : World}
theorem LV.below (k : LV w g0 ga gt gs gb gk X Y ada adt ads adb adk na nt ca ct cs cb ck M Lt wr) (hb : Below wr.heap.size wr w') : LV w g0 ga gt gs gb gk X Y ada adt ads adb adk na nt ca ct cs cb ck M Lt w' :=
  ⟨k.ra.below hb k.ra.lt, k.oa.below hb, k.rt.below hb k.rt.lt, k.ot.below hb, k.rs.below hb k.rs.lt, k.os.below hb, k.rb.below hb k.rb.lt, k.ob.below hb, k.ok.below hb, k.bel.trans (hb.mono k.sz), Nat.le_trans k.sz hb.size⟩
/-- What no block of t's row is. -/
structure Off (g0 ga gt gs gb gk : Nat) (ada ads adb : Option Addr) (na ca cs cb : Nat) : Prop where
  ord : g0 < ga ∧ ga < gt ∧ gt < gs ∧ gs < gb ∧ gb ≤ gk
  ua : ∀ k, (Value.slice ada na ca).ownBlock = some k → k < ga
theorem LV.wrote {q : Nat} {Lt' : List Pen} (k : LV w g0 ga gt gs gb gk X Y ada adt ads adb adk na nt ca ct cs cb ck M Lt wr) (f : Off g0 ga gt gs gb gk ada ads adb na ca cs cb) (hq : ga < q ∧ q < gt) (hk : Keep (· = q) wr w') (hO : OwnP (ga + 1) w' (.slice adt nt ct) Lt') : LV w g0 ga gt gs gb gk X Y ada adt ads adb adk na nt ca ct cs cb ck M Lt' w' := by
  have ho := f.ord
  exact ⟨k.ra.same (hk.block _ k.ra.lt (by omega)), k.oa.keep hk (fun i hi e => by have := f.ua i hi; omega), k.rt.same (hk.block _ k.rt.lt (by omega)), hO, k.rs.same (hk.block _ k.rs.lt (by omega)), k.os.keep hk (fun i hi e => by have := (k.os.lt i hi).1; omega), k.rb.same (hk.block _ k.rb.lt (by omega)), k.ob.keep hk (fun i hi e => by have := (k.ob.lt i hi).1; omega), k.ok.keep hk (fun i hi e => by have := (k.ok.lt i hi).1; omega), k.bel.trans (hk.below k.sz (fun i hi e => by omega)), Nat.le_trans k.sz hk.size⟩
theorem LV.app {ad2 : Option Addr} {n2 c2 : Nat} {L2 : List Pen} (k : LV w g0 ga gt gs gb gk X Y ada adt ads adb adk na nt ca ct cs cb ck M Lt wr) (f : Off g0 ga gt gs gb gk ada ads adb na ca cs cb) (hq : ∀ i, (Value.slice adt nt ct).ownBlock = some i → ga < i ∧ i < gt) (hO : OwnP (ga + 1) w' (.slice ad2 n2 c2) L2) (gr : ∀ g, g < wr.heap.size → (Value.slice adt nt ct).ownBlock ≠ some g → w'.heap[g]? = wr.heap[g]?) (hB : Below (ga + 1) wr w') : LV w g0 ga gt gs gb gk X Y ada ad2 ads adb adk na n2 ca c2 cs cb ck M L2 (w'.setCell ⟨gt, 2, none⟩ (.slice ad2 n2 c2)) := by
  have ho := f.ord
  have st : ∀ i, i ≠ gt → (w'.setCell ⟨gt, 2, none⟩ (.slice ad2 n2 c2)).heap[i]? = w'.heap[i]? := fun i hi => Below.heap_setCell w' ⟨gt, 2, none⟩ _ i (by show i ≠ gt; exact hi)
  have gg : ∀ i, i < wr.heap.size → (i ≤ ga ∨ gt ≤ i) → w'.heap[i]? = wr.heap[i]? := fun i hi hc => gr i hi (fun e => by have := hq i e; omega)
  have hT : Has w' gt 24 (ledv Y X (.slice adt nt ct)) 3 := k.rt.same (gg _ k.rt.lt (by omega))
  have en : ∀ {v : Value} {B : Nat} {l : List Pen}, OwnP B wr v l → (∀ i, v.ownBlock = some i → (i ≤ ga ∨ gt < i)) → OwnP B (w'.setCell ⟨gt, 2, none⟩ (.slice ad2 n2 c2)) v l := fun h hh => h.same fun i hi => (st i (by have := hh i hi; omega)).trans (gg i (h.lt i hi).2 (by have := hh i hi; omega))
  refine ⟨k.ra.same ((st _ (by omega)).trans (gg _ k.ra.lt (by omega))), en k.oa (fun i hi => by have := f.ua i hi; omega), hT.openL _, hO.same (fun i hi => st i (hO.ne hT i hi)), k.rs.same ((st _ (by omega)).trans (gg _ k.rs.lt (by omega))), en k.os (fun i hi => by have := (k.os.lt i hi).1; omega), k.rb.same ((st _ (by omega)).trans (gg _ k.rb.lt (by omega))), en k.ob (fun i hi => by have := (k.ob.lt i hi).1; omega), en k.ok (fun i hi => by have := (k.ok.lt i hi).1; omega), ?_, ?_⟩
  · exact (k.bel.trans (hB.mono (by omega))).setCell (show g0 ≤ gt by omega) _
  · have := hB.size; have := k.sz; simp; omega
end
end Go.Proofs.Ythmbpddpdbkioaa
