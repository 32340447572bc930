import Derived.Test.YtdffmmiegpndkaaGreatDoorWNum
import Derived.Test.YtdffmmiegpndkaaGreatDoorWFind
import Derived.Test.YtdffmmiegpndkaaGreatDoorKeeps
import Derived.Test.YtdffmmiegpndkaaGreatDoorWFile
/-
  OPEN AND OPEN AGAIN, PLAIN: what a second reading tells.
-/
namespace Go.Proofs.YtdffmmiegpndkaaGreatDoor
open Go.RowKit Go.Maps
set_option linter.unusedVariables false
/-! ### what is read hangs on the texts alone -/
theorem rdK_congr {A A' : AD} {nm : Key} {s : RSt} {N : Nat} (h : ∀ q, q < N → textOf A' nm ((s.segs.getD q ⟨0, 0, 0⟩).num) = textOf A nm ((s.segs.getD q ⟨0, 0, 0⟩).num)) : ∀ k, k ≤ N → rdK A' nm s k = rdK A nm s k
  | 0, _ => rfl
  | k + 1, hk => by
    show rdStep A' nm (rdK A' nm s k) k = rdStep A nm (rdK A nm s k) k
    rw [rdK_congr h k (by omega)]
    have hn := rdK_num A nm s k k
    unfold rdStep
    simp only
    rw [hn, h k (by omega)]
theorem rdFin_congr {A A' : AD} {nm : Key} {s : RSt} {N : Nat} (h : ∀ q, q < N → textOf A' nm ((s.segs.getD q ⟨0, 0, 0⟩).num) = textOf A nm ((s.segs.getD q ⟨0, 0, 0⟩).num)) : ∀ f k, k + f ≤ N → rdFin A' nm s f k = rdFin A nm s f k
  | 0, k, hk => by unfold rdFin; rw [rdK_congr h k (by omega)]
  | f + 1, k, hk => by
    unfold rdFin
    rw [rdK_congr h (k + 1) (by omega), rdFin_congr h f (k + 1) (by omega)]
/-! ### frames -/
def framesL : Int → List Key → Key
  | _, [] => []
  | n, p :: ps => Fr.frameL n.toNat p ++ framesL (n + 1) ps
theorem told_split : ∀ {ps : List Key} {t t' : Key} {n : Int}, Fr.Told t n ps t' → t = framesL n ps ++ t'
  | [], t, t', n, h => by have e : t' = t := h; rw [e]; rfl
  | p :: ps, t, t', n, h => by
    have h1 := h.1.split
    have h2 := told_split h.2
    rw [h1]
    show _ = (Fr.frameL n.toNat p ++ framesL (n + 1) ps) ++ t'
    rw [List.append_assoc, ← h2]
theorem told_frames : ∀ {ps : List Key} {t t' : Key} {n : Int}, Fr.Told t n ps t' → ∀ r, Fr.Told (framesL n ps ++ r) n ps r
  | [], t, t', n, h, r => rfl
  | p :: ps, t, t', n, h, r => by
    have e : framesL n (p :: ps) ++ r = Fr.frameL n.toNat p ++ (framesL (n + 1) ps ++ r) := by show (Fr.frameL n.toNat p ++ framesL (n + 1) ps) ++ r = _; rw [List.append_assoc]
    rw [e]
    refine ⟨⟨h.1.1, h.1.2.1, h.1.2.2.1, List.prefix_append _ _⟩, ?_⟩
    rw [List.drop_left' (Fr.frameL_length _ _)]
    exact told_frames h.2 r
theorem whole_nil (n : Int) : Fr.wholeT [] n = none := by
  rw [Fr.wholeT_none]
  intro p hp
  have h1 := hp.len
  have h2 := Fr.room_ge p.length
  simp only [List.length_nil] at h1
  omega
theorem scan_found : ∀ (f : Nat) (t : Key) (n : Int), t.length ≤ f → Fr.Found t n (scanF f t n).1 (scanF f t n).2
  | 0, t, n, h => by
    have e : t = [] := List.length_eq_zero_iff.1 (by omega)
    subst e
    exact ⟨rfl, whole_nil _⟩
  | f + 1, t, n, h => by
    unfold scanF
    cases hw : Fr.wholeT t n with
    | none =>
      refine ⟨rfl, ?_⟩
      simp only [List.length_nil, Int.natCast_zero, Int.add_zero]
      exact hw
    | some p =>
      have hp := Fr.wholeT_some.1 hw
      have hl := hp.len
      have hr := Fr.room_ge p.length
      have ih := scan_found f (t.drop (Fr.room p.length)) (n + 1) (by rw [List.length_drop]; omega)
      simp only
      refine ⟨⟨hp, ih.told⟩, ?_⟩
      have := ih.none
      rw [List.length_cons, show n + (((scanF f (t.drop (Fr.room p.length)) (n + 1)).1.length + 1 : Nat) : Int) = n + 1 + ((scanF f (t.drop (Fr.room p.length)) (n + 1)).1.length : Int) by omega]
      exact this
theorem scanA_found (t : Key) (n : Int) : Fr.Found t n (scanA t n).1 (scanA t n).2 := scan_found _ _ _ (Nat.le_refl _)
/-- What a cut leaves is read as before, and nothing stands behind it. -/
theorem scan_cut (t : Key) (n : Int) : scanA (t.take (t.length - (scanA t n).2.length)) n = ((scanA t n).1, []) := by
  have hf := scanA_found t n
  obtain ⟨x, hx⟩ : ∃ x, scanA t n = x := ⟨_, rfl⟩
  rw [hx] at hf ⊢
  have hs := told_split hf.told
  have e : t.take (t.length - x.2.length) = framesL n x.1 ++ [] := by
    rw [List.append_nil, hs, List.length_append, Nat.add_sub_cancel, List.take_left]
  rw [e]
  exact scanA_of ⟨told_frames hf.told [], whole_nil _⟩
theorem scan_rest_le (t : Key) (n : Int) : (scanA t n).2.length ≤ t.length := by
  have hs := told_split (scanA_found t n).told
  have : t.length = (framesL n (scanA t n).1).length + (scanA t n).2.length := by conv => lhs; rw [hs]; rw [List.length_append]
  omega
/-! ### a disk that nothing refuses -/
theorem sync_calm {A : AD} {k : Key} {F : AF} (hp : A.pow = p0) (hk : fget A.fs k = some F) : A.sync k = (0, ⟨A.cap, fset A.fs k F.sync, p0⟩) := by
  have h1 : A.pow.off = false := by rw [hp]; rfl
  have h2 : A.pow.count 2 = (0, p0) := by rw [hp]; exact p0_count 2
  rw [sync_some h1 hk (by rw [h2]), h2]
/-- What the syncs of a list of files leave. -/
structure Synced (A A' : AD) (fs : List Key) : Prop where
  pow : A'.pow = p0
  cap : A'.cap = A.cap
  keys : fkeys A'.fs = fkeys A.fs
  file : ∀ k F, fget A.fs k = some F → ∃ F', fget A'.fs k = some F' ∧ F'.seen = F.seen ∧ (k ∈ fs → Clean F' F.seen) ∧ (∀ l, Clean F l → Clean F' l) ∧ (k ∉ fs → F' = F)
theorem syncs_calm : ∀ {fs : List Key} {A : AD}, A.pow = p0 → (∀ f ∈ fs, ∃ F, fget A.fs f = some F) → (A.syncs fs).1 = 0 ∧ Synced A (A.syncs fs).2 fs
  | [], A, hp, _ => ⟨rfl, hp, rfl, rfl, fun k F h => ⟨F, h, rfl, fun hm => absurd hm (by simp), fun l hl => hl, fun _ => rfl⟩⟩
  | f :: r, A, hp, hall => by
    obtain ⟨F0, hF0⟩ := hall f (by simp)
    have hs := sync_calm hp hF0
    have hnext : ∀ k F, fget A.fs k = some F → ∃ F1, fget (fset A.fs f F0.sync) k = some F1 ∧ F1.seen = F.seen ∧ (k = f → Clean F1 F.seen) ∧ (∀ l, Clean F l → Clean F1 l) ∧ (k ≠ f → F1 = F) := fun k F hk => by
      by_cases e : k = f
      · subst e
        rw [hF0] at hk
        cases hk
        exact ⟨F0.sync, fget_fset_same hF0, rfl, fun _ => Clean.sync F0, fun l hl => by have := Clean.sync F0; rw [hl.seen] at this; exact this, fun h => absurd rfl h⟩
      · exact ⟨F, by rw [fget_fset_ne e]; exact hk, rfl, fun h => absurd h e, fun l hl => hl, fun _ => rfl⟩
    have ih := syncs_calm (fs := r) (A := ⟨A.cap, fset A.fs f F0.sync, p0⟩) rfl (fun q hq => by
      obtain ⟨F, hF⟩ := hall q (by simp [hq])
      obtain ⟨F1, h1, _⟩ := hnext q F hF
      exact ⟨F1, h1⟩)
    have hst : A.syncs (f :: r) = (⟨A.cap, fset A.fs f F0.sync, p0⟩ : AD).syncs r := by
      show (if (A.sync f).1 ≠ 0 then A.sync f else (A.sync f).2.syncs r) = _
      rw [hs]; simp
    rw [hst]
    refine ⟨ih.1, ih.2.pow, ih.2.cap, ih.2.keys.trans fset_keys, fun k F hk => ?_⟩
    obtain ⟨F1, h1, h2, h3, h4, h5⟩ := hnext k F hk
    obtain ⟨F2, g1, g2, g3, g4, g5⟩ := ih.2.file k F1 h1
    refine ⟨F2, g1, g2.trans h2, fun hm => ?_, fun l hl => g4 l (h4 l hl), fun hm => ?_⟩
    · rcases List.mem_cons.1 hm with e | e
      · exact g4 _ (h3 e)
      · have := g3 e; rw [h2] at this; exact this
    · rw [g5 (fun h => hm (by simp [h])), h5 (fun h => hm (by simp [h]))]
theorem crash_fget (ls : List AFate) (k : Key) : ∀ fs : FList, fget (fs.map (fun p => (p.1, p.2.crash (fateOf ls p.1)))) k = (fget fs k).map (fun F => F.crash (fateOf ls k))
  | [] => rfl
  | p :: r => by
    rw [List.map_cons, fget_cons, fget_cons]
    by_cases e : p.1 = k
    · rw [if_pos e, if_pos e, e]; rfl
    · rw [if_neg e, if_neg e]; exact crash_fget ls k r
/-- A loss of power, and the power again. -/
theorem crash_on {A : AD} (hp : A.pow = p0) (ls : List AFate) : (A.crash ls).on.pow = p0 ∧ (A.crash ls).on.cap = A.cap ∧ fkeys (A.crash ls).on.fs = fkeys A.fs ∧ ∀ k F, fget A.fs k = some F → fget (A.crash ls).on.fs k = some (F.crash (fateOf ls k)) := by
  have hc : A.crash ls = ⟨A.cap, A.fs.map (fun p => (p.1, p.2.crash (fateOf ls p.1))), ⟨true, false, 0, 0, 0⟩⟩ := by
    unfold AD.crash
    rw [if_neg (by rw [hp]; simp [p0])]
  have ho : (A.crash ls).on = ⟨A.cap, A.fs.map (fun p => (p.1, p.2.crash (fateOf ls p.1))), p0⟩ := by
    rw [hc]; rfl
  rw [ho]
  refine ⟨rfl, rfl, by simp [fkeys], fun k F hk => ?_⟩
  show fget (A.fs.map _) k = _
  rw [crash_fget, hk]; rfl
end Go.Proofs.YtdffmmiegpndkaaGreatDoor
/-
  A log's cells stored anew: next, and a segment's.
-/
namespace Go.Proofs.YtdffmmiegpndkaaGreatDoor
open Go.RowKit
set_option linter.unusedVariables false
theorem cellsG_set (gs : List ASeg) (k : Nat) (hk : k < gs.length) (s' : ASeg) (c : Nat) (hc : c < 3) (x : Value) (hs : s'.cs = (gs[k]).cs.set c x) : cellsG (gs.set k s') = (cellsG gs).set (3 * k + c) x := by
  induction gs generalizing k with
  | nil => simp at hk
  | cons y r ih =>
    cases k with
    | zero =>
      show s'.cs ++ cellsG r = (y.cs ++ cellsG r).set (3 * 0 + c) x
      rw [List.set_append_left _ _ (by show _ < 3; omega), hs]
      simp
    | succ k =>
      show y.cs ++ cellsG (r.set k s') = (y.cs ++ cellsG r).set (3 * (k + 1) + c) x
      rw [List.set_append_right _ _ (by show 3 ≤ _; omega), ih k (by simpa using hk) (by simpa using hs)]
      congr 2
      show _ = 3 * (k + 1) + c - 3
      omega
section
variable {B : Nat} {w : World} {L : List Item} {j l p : Nat} {g : AL} {v : Value}
theorem Lies.setNext (h : Lies B w L) (hj : L[j]? = some (.logv l p g v)) (x : Int) : Lies B (w.setCell ⟨l, 4, none⟩ (.int .i64 x)) (L.set j (.logv l p { g with next := x } v)) ∧ Below B w (w.setCell ⟨l, 4, none⟩ (.int .i64 x)) := by
  obtain ⟨S, ⟨r, hat, hS⟩, hB, _, hu⟩ := h.upd hj
  have h1 := heap_setCell_same w l 4 _ _ (.int .i64 x) hat.cells
  have h2 : ∀ b, b ≠ l → (w.setCell ⟨l, 4, none⟩ (.int .i64 x)).heap[b]? = w.heap[b]? := fun b hb => Below.heap_setCell w ⟨l, 4, none⟩ (.int .i64 x) b hb
  refine hu _ (.logv l p { g with next := x } v) S ⟨r, ⟨h1, hat.row.same (fun b hb => h2 b (fun e => hat.ne (by rw [hb, e]))), hat.ne⟩, hS⟩ ⟨⟨rfl, rfl, rfl, by simp [World.setCell], fun b hb hn => ?_⟩, fun b hb => .inl hb⟩
  exact h2 b (fun e => hn ((hS b).2 (.inl e)))
theorem Lies.setSeg {b off n cap : Nat} (h : Lies B w L) (hj : L[j]? = some (.logv l p g (.slice (some ⟨b, off, none⟩) n cap))) (k : Nat) (hk : k < g.segs.length) (c : Nat) (hc : c < 3) (x : Int) (s' : ASeg) (hs : s'.cs = (g.segs[k]).cs.set c (.int .i64 x)) :
    Lies B (w.setCell ⟨b, off + k * 3 + c, none⟩ (.int .i64 x)) (L.set j (.logv l p { g with segs := g.segs.set k s' } (.slice (some ⟨b, off, none⟩) n cap))) ∧ Below B w (w.setCell ⟨b, off + k * 3 + c, none⟩ (.int .i64 x)) := by
  obtain ⟨S, ⟨r, hat, hS⟩, hB, _, hu⟩ := h.upd hj
  obtain ⟨ad, cp, hv, hle, hrow⟩ := hat.row
  cases hv
  rcases hrow with ⟨h1, _⟩ | ⟨b', off', h1, hr, hbl, hcs, hsm, hfz⟩
  · cases h1
  cases h1
  have hbl2 : b ≠ l := fun e => hat.ne (by rw [hr, e])
  have h2 : ∀ x', x' ≠ b → (w.setCell ⟨b, off + k * 3 + c, none⟩ (.int .i64 x)).heap[x']? = w.heap[x']? := fun x' hx => Below.heap_setCell w ⟨b, off + k * 3 + c, none⟩ (.int .i64 x) x' hx
  have hsz : (w.setCell ⟨b, off + k * 3 + c, none⟩ (.int .i64 x)).heap.size = w.heap.size := by simp [World.setCell]
  have hold := hcs (3 * k + c) (by omega)
  have hcell : ∀ q, (w.setCell ⟨b, off + k * 3 + c, none⟩ (.int .i64 x)).cell? ⟨b, off + q, none⟩ = if q = 3 * k + c then some (.int .i64 x) else w.cell? ⟨b, off + q, none⟩ := fun q => by
    by_cases e : q = 3 * k + c
    · rw [if_pos e, e, show off + (3 * k + c) = off + k * 3 + c by omega]
      refine World.cell?_setCell_same' _ _ _ ?_
      rw [show off + k * 3 + c = off + (3 * k + c) by omega, hsm (3 * k + c) (by omega)]
    · rw [if_neg e]
      exact World.cell?_setCell_other _ _ _ _ (fun e2 => e (by have := congrArg Addr.off e2; simp at this; omega))
  refine hu _ (.logv l p { g with segs := g.segs.set k s' } (.slice (some ⟨b, off, none⟩) g.segs.length cap)) S ⟨r, ⟨?_, ⟨some ⟨b, off, none⟩, cap, ?_, ?_, .inr ⟨b, off, rfl, hr, by rw [hsz]; exact hbl, fun q hq => ?_, fun q hq => ?_, fun q => ?_⟩⟩, hat.ne⟩, hS⟩ ⟨⟨rfl, rfl, rfl, by rw [hsz]; exact Nat.le_refl _, fun x' hx hn => ?_⟩, fun x' hx => .inl hx⟩
  · rw [h2 l (fun e => hbl2 e.symm)]; exact hat.cells
  · show _ = Value.slice _ (g.segs.set k s').length _
    rw [List.length_set]
  · show (g.segs.set k s').length ≤ _
    rw [List.length_set]; exact hle
  · have hq' : q < 3 * g.segs.length := by
      have : (g.segs.set k s').length = g.segs.length := List.length_set
      simp only at hq
      omega
    show _ = (cellsG (g.segs.set k s'))[q]?
    rw [hcell q, cellsG_set _ k hk s' c hc _ hs]
    by_cases e : q = 3 * k + c
    · rw [if_pos e, e, List.getElem?_set_self (by rw [cellsG_length]; omega)]
    · rw [if_neg e, List.getElem?_set_ne (fun e2 => e e2.symm)]; exact hcs q hq'
  · rw [hcell q]
    by_cases e : q = 3 * k + c
    · rw [if_pos e]; rfl
    · rw [if_neg e]; exact hsm q hq
  · rw [World.frozen?_setCell]; exact hfz q
  · exact h2 x' (fun e => hn ((hS x').2 (.inr (by rw [hr, e]))))
end
end Go.Proofs.YtdffmmiegpndkaaGreatDoor
/-
  Names: the segments' names, in a list of the caller's own.
-/
namespace Go.Proofs.YtdffmmiegpndkaaGreatDoor
open Go.RowKit Go.Maps
set_option linter.unusedVariables false
attribute [local go_sem] Oper.semAt_some
theorem wpListIn_kapp {F : Fence} {n : Nat} {P : Program} {w w' : World} {ops : Array Oper} {rest : List Oper} {o : Oper} {a : Act} {Q : Exit → Act → World → Prop} {v : Value}
    (hg : o.guard = none) (s x : Operand) (tys : Array TypeId) (hop : o.op = .call { callee := .builtin .append, args := #[s, x], argTypes := tys })
    (h : (Builtin.append_ tys o.type #[a.eval s, a.eval x]).run P w = .ok v w') (hK : wpListIn F n P ops Q rest (a.put o.dst v) w') : wpListIn F n P ops Q (o :: rest) a w := by
  refine wpListIn_plain hg fun K hK' => ?_
  unfold Oper.wpIn
  refine ⟨?_, ?_⟩
  · simp [Oper.about, hop, resolve, Target.leads, Sem.run_pure]
  · rw [Oper.semAt_plain F _ _ (by rw [hop]; intro c hc'; cases hc')]
    simp [execOp, hop, resolve, invoke, builtin, h, Result.andThen]
    exact hK' _ _ hK
theorem infoStr : (Tryz.prog.info? 9).map (fun i => (i.zero, i.size, i.bytes)) = some (some (.string ⟨#[]⟩), 1, 16) := by kernel_rfl
/-- append(v, f): the list grows by one text that lies in a block of its own. -/
theorem app_text {B : Nat} {W W1 : World} {L : List Item} {q : Nat} {v : Value} {xs : List Value} (h : Lies B W L) (hq : L[q]? = some (.row 9 v xs)) (f : ByteArray) (hlen : xs.length + 1 ≤ 1000000000) (ty : TypeId) (hW1 : W.alloc (.cells #[.string f] 9) = W1) {g1 : Nat} (hg1 : W.heap.size = g1) :
    ∃ ad n cap W2, (Builtin.append_ #[30, 30] ty #[v, .slice (some ⟨g1, 0, none⟩) 1 1]).run Tryz.prog W1 = .ok (.slice ad n cap) W2 ∧ Lies B W2 (L.set q (.row 9 (.slice ad n cap) (xs ++ [.string f]))) ∧ Below B W W2 := by
  have hb1 : Below W.heap.size W W1 := by rw [← hW1]; exact (Below.refl _ _).alloc (Nat.le_refl _) _
  have h1 := h.below hb1
  have hk1 : W1.heap[g1]? = some (.cells #[.string f] 9 (0, 0)) := by rw [← hW1, ← hg1]; exact heap_alloc_new W _
  have hsrc : Src Tryz.prog 1 30 (.slice (some ⟨g1, 0, none⟩) 1 1) [Value.string f].length [.string f] W1 := Src.ofSlice W1 Tryz.underlying30 ⟨g1, 0, none⟩ 1 1 [.string f] (by simp) (World.news_of_block hk1) (by intro u hu; simp at hu; subst hu; rfl)
  obtain ⟨v', W2, hr, hown, hmv⟩ := run_append_rows (t := 30) (e := 9) (z := .string ⟨#[]⟩) (by_ := 16) Tryz.underlying30 infoStr rfl (by decide) W1 ty 30 v xs [.string f] (h1.rowOf hq) _ hsrc (by simp; omega)
  obtain ⟨ad, cap, hv, _⟩ := row_at hown
  subst hv
  obtain ⟨h2, hb2⟩ := h1.moved hq hown hmv
  exact ⟨ad, _, cap, W2, hr, h2, (hb1.mono h.base).trans hb2⟩
section
variable {B : Nat} {w : World} {L : List Item} {j l p : Nat} {g : AL}
set_option maxRecDepth 100000 in
set_option maxHeartbeats 8000000 in
theorem names_any (h : Lies B w L) (hj : L[j]? = some (.log l p g)) (hg : g.Ok) (he : Env B w) :
    Calls Tryz.prog 18 #[.pointer (some ⟨l, 0, none⟩)] w fun e w' => ∃ v, e = .returned v ∧ Lies B w' (L ++ [.row 9 v (g.files.map encStr)]) ∧ Below B w w' := by
  obtain ⟨v0, hp⟩ := h.pin hj
  obtain ⟨M, hM⟩ : ∃ M, L.set j (.logv l p g v0) = M := ⟨_, rfl⟩
  rw [hM] at hp
  have hMj : M[j]? = some (.logv l p g v0) := by rw [← hM, List.getElem?_set_self (List.getElem?_eq_some_iff.1 hj).1]
  obtain ⟨r, hat, hBl⟩ := hp.logv hMj
  obtain ⟨ad, cap, b, off, hv, had⟩ := form_of hat
  subst hv
  have HFIN : Hid (∀ (X : List Item) (W : World), Lies B W (M ++ X) → Lies B W (L ++ X)) := fun X W hl => by
    have := hl.unpin (j := j) (get_head hMj)
    rw [hset_app _ (List.getElem?_eq_some_iff.1 hMj).1, ← hM, List.set_set, hset_keep hj] at this
    exact this
  obtain ⟨g0, hg0⟩ : ∃ x, w.heap.size = x := ⟨_, rfl⟩
  obtain ⟨w1, hw1⟩ : ∃ x, w.alloc (.cells #[.slice none 0 0] 30) = x := ⟨_, rfl⟩
  obtain ⟨hl1, hb1⟩ := hp.newCells #[.slice none 0 0] 30
  rw [hw1, hg0] at hl1
  rw [hw1] at hb1
  obtain ⟨g1, hg1⟩ : ∃ x, w1.heap.size = x := ⟨_, rfl⟩
  obtain ⟨w2, hw2⟩ : ∃ x, w1.alloc (.cells #[.pointer (some ⟨l, 0, none⟩)] 29) = x := ⟨_, rfl⟩
  obtain ⟨hl2, hb2⟩ := hl1.newCells #[.pointer (some ⟨l, 0, none⟩)] 29
  rw [hw2, hg1] at hl2
  rw [hw2] at hb2
  have hl3 := hl2.pushNil 9
  have hb3' := hb1.trans hb2
  rw [List.append_assoc, List.append_assoc] at hl3
  obtain ⟨X3, hX3⟩ : ∃ X : Value → List Key → List Item, X = fun v ks => [.block g0 (.cells #[v] 30 (0, 0)), .block g1 (.cells #[.pointer (some ⟨l, 0, none⟩)] 29 (0, 0)), .row 9 v (ks.map encStr)] := ⟨_, rfl⟩
  have hl3' : Lies B w2 (M ++ X3 (.slice none 0 0) []) := by rw [hX3]; exact hl3
  have HX0 : Hid (∀ v ks, (X3 v ks)[0]? = some (.block g0 (.cells #[v] 30 (0, 0)))) := fun v ks => by rw [hX3]; rfl
  have HX1 : Hid (∀ v ks, (X3 v ks)[1]? = some (.block g1 (.cells #[.pointer (some ⟨l, 0, none⟩)] 29 (0, 0)))) := fun v ks => by rw [hX3]; rfl
  have HX2 : Hid (∀ v ks, (X3 v ks)[2]? = some (.row 9 v (ks.map encStr))) := fun v ks => by rw [hX3]; rfl
  have HXs : Hid (∀ v v' ks f, ((X3 v ks).set 2 (.row 9 v' (ks.map encStr ++ [.string ⟨f⟩]))).set 0 (.block g0 (.cells (#[v].setIfInBounds 0 v') 30 (0, 0))) = X3 v' (ks ++ [f.toList])) := fun v v' ks f => by
    rw [hX3]
    simp [encStr]
  have HL3 := hide hl3'
  have HB3 := hide hb3'
  have HE := hide he
  have HG := hide hg
  have HAD := hide had
  have HMj := hide hMj
  clear h hj hp hat hl1 hl2 hl3 hl3' hb1 hb2 hb3' he hg had hM hMj hX3 hBl
  refine (callsIn_wide (n := 6)).1 ?_
  refine callsIn_of_wp_marks Tryz.func18 rfl trivial ?_ rfl
  simp only [Tryz.ntmps18, List.size_toArray, List.length_cons, List.length_nil, Nat.reduceAdd, Nat.reduceSub, Array.replicate_succ, Array.replicate_zero, List.push_toArray, List.append_toArray, List.nil_append, List.cons_append]
  have f38 : Fence.wide.fn 31 := trivial
  have hio : Calls Tryz.prog 31 #[.pointer (some ⟨l, 0, none⟩)] w1 fun e w' => e = .returned (.func (.func 55) #[] #[.pointer (some ⟨g1, 0, none⟩)]) ∧ w' = w2 := by
    have := inOrder_any l w1
    rw [hg1, hw2] at this
    exact this
  have HIO := hide hio
  clear hio
  gi_wp2_with (gi_at_call 31; refine ((callsIn_wide (n := _)).2 HIO.out).mono ?_; rintro e w' ⟨rfl, hw⟩; obtain rfl := hw.symm)
  clear HIO hw2 hw1 hg1 hg0 f38
  refine wp_rangeFunc_held 6 (by omega) (gf := 55) (lb := #[.pointer (some ⟨g1, 0, none⟩)]) rfl (enters_of Tryz.func55 (by kernel_rfl) rfl) (encs b off g.fileAt) g.segs.length (fun _ => rfl)
    (fun ob k W => ∃ v : Value, Lies B W ((M ++ X3 v (g.files.take k)) ++ [.block w2.heap.size (.deferred (some [])), .block (w2.heap.size + 1) ob]) ∧ Below B w W)
    (fun c ob W => False)
    (fun ob k W ⟨v, hl, _⟩ => held_get hl)
    (fun ob ob' k W ⟨v, hl, hb⟩ => ⟨v, (held_put ob' hl).1, hb.trans (held_put ob' hl).2⟩)
    (fun c ob W h => h.elim)
    (fun c ob ob' W h => h.elim)
    (fun ob => ⟨_, (held_new HL3.out _ _).1, HB3.out.trans (held_new HL3.out _ _).2⟩)
    ?seq
    (fun k => { tmps := #[.pointer (some ⟨l, 0, none⟩), undef, .slice none 0 0, .pointer (some ⟨g0, 0, none⟩), undef, .string (g.fileAt k), .pointer (some ⟨l, 0, none⟩), .func (.func 55) #[] #[.pointer (some ⟨g1, 0, none⟩)], .pointer (some ⟨b, off + k * 3, none⟩), .string (g.fileAt k), undef, undef, undef, undef, undef], defers := [] }) ?assign ?body ?done ?stop
  case seq =>
    intro ob Jx hY W h0
    refine iter_in 5 (w2.heap.size + 1) (by omega) g1 l b off g.segs.length cap ad HAD.out HG.out.len (fun k => (g.segs.getD k ⟨0, 0, 0⟩).num) g.fileAt _ Jx ?_ ?_ ?_ hY W h0
    · rintro k W ⟨v, hl, _⟩
      obtain ⟨r, hat, _⟩ := hl.logv (j := j) (get_head (get_head HMj.out))
      refine view_of hat HAD.out ?_
      rw [Lies.cellAt (L := (M ++ X3 v (g.files.take k)) ++ _) (q := M.length + 1) hl (get_head (by rw [get_tail]; exact HX1.out _ _))]; rfl
    · rintro k W W' ⟨v, hl, hb⟩ hb'
      exact ⟨v, hl.below hb', hb.trans (hb'.mono hl.base)⟩
    · rintro k W z f hk ⟨v, hl, hb⟩
      obtain ⟨r, hat, hBl⟩ := hl.logv (j := j) (get_head (get_head HMj.out))
      exact file_any l _ z f g.name W hat.c1 (lt_of_some hat.cells) HG.out.name (HG.out.num k).1 (HG.out.num k).2 (HE.out.below hb) hl.base
  case assign =>
    intro k W K hK
    unfold encs
    gi_wp2
    exact hK
  case body =>
    rintro ob k W hk ⟨v, hl, hb⟩
    have hf := g.fileAt_list k hk
    have htk : g.files.take (k + 1) = g.files.take k ++ [(g.fileAt k).data.toList] := by
      obtain ⟨hfl, hfe⟩ := List.getElem?_eq_some_iff.1 hf
      rw [List.take_succ_eq_append_getElem hfl, hfe]
    have q0 : ((M ++ X3 v (g.files.take k)) ++ [Item.block w2.heap.size (.deferred (some [])), Item.block (w2.heap.size + 1) ob])[M.length + 0]? = some (.block g0 (.cells #[v] 30 (0, 0))) := get_head (by rw [get_tail]; exact HX0.out _ _)
    have q2 : ((M ++ X3 v (g.files.take k)) ++ [Item.block w2.heap.size (.deferred (some [])), Item.block (w2.heap.size + 1) ob])[M.length + 2]? = some (.row 9 v ((g.files.take k).map encStr)) := get_head (by rw [get_tail]; exact HX2.out _ _)
    have z0 : W.cell? ⟨g0, 0, none⟩ = some v := by rw [hl.cellAt q0]; rfl
    obtain ⟨ga, hga⟩ : ∃ x, W.heap.size = x := ⟨_, rfl⟩
    obtain ⟨Wa, hWa⟩ : ∃ x, W.alloc (.cells #[.string (g.fileAt k)] 9) = x := ⟨_, rfl⟩
    obtain ⟨ad2, n2, cap2, W2, hap, hl2, hb2⟩ := app_text hl q2 (g.fileAt k) (by rw [List.length_map, List.length_take]; have := HG.out.len; unfold AL.files; rw [List.length_map]; omega) 30 hWa hga
    have hl3i : M.length + 3 ≤ (M ++ X3 v (g.files.take k)).length := by
      have := (List.getElem?_eq_some_iff.1 (HX2.out v (g.files.take k))).1
      rw [List.length_append]; omega
    rw [hset_app _ (by omega), List.set_append_right _ _ (by omega), Nat.add_sub_cancel_left] at hl2
    have q0' : ((M ++ (X3 v (g.files.take k)).set 2 (.row 9 (.slice ad2 n2 cap2) ((g.files.take k).map encStr ++ [.string (g.fileAt k)]))) ++ [Item.block w2.heap.size (.deferred (some [])), Item.block (w2.heap.size + 1) ob])[M.length + 0]? = some (.block g0 (.cells #[v] 30 (0, 0))) := get_head (by rw [get_tail, List.getElem?_set_ne (by decide)]; exact HX0.out _ _)
    have z1 : W2.cell? ⟨g0, 0, none⟩ = some v := by rw [hl2.cellAt q0']; rfl
    have z2 : W2.frozen? ⟨g0, 0, none⟩ = false := hl2.frozenAt q0' 0
    have hset := hl2.setAt q0' 0 (.slice ad2 n2 cap2)
    rw [hset_app _ (by rw [List.length_append, List.length_set]; rw [List.length_append] at hl3i; omega), List.set_append_right _ _ (by omega), Nat.add_sub_cancel_left, HXs.out v (.slice ad2 n2 cap2) (g.files.take k) (g.fileAt k).data, ← htk] at hset
    have HSET := hide hset
    have HBW := hide ((hb.trans hb2).trans hset.2)
    have HAP := hide hap
    clear hl hb hl2 hb2 hset hf htk q0 q2 q0' hl3i hap
    gi_wp2_with (gi_at_builtin; refine wpListIn_kapp rfl _ _ _ rfl HAP.out ?_)
    exact ⟨_, HSET.out.1, HBW.out⟩
  case done =>
    rintro ob W ⟨v, hl, hb⟩
    rw [show g.files.take g.segs.length = g.files from List.take_of_length_le (by unfold AL.files; rw [List.length_map]; exact Nat.le_refl _)] at hl
    have z0 : W.cell? ⟨g0, 0, none⟩ = some v := by rw [Lies.cellAt (L := (M ++ X3 v g.files) ++ _) (q := M.length + 0) hl (get_head (by rw [get_tail]; exact HX0.out _ _))]; rfl
    obtain ⟨hd1, hd2⟩ := held_drop hl (.deferred none)
    have HK := hide (held_get hl).2
    have HD1 := hide (HFIN.out _ _ (hd1.keep1 (n := 2) (HX2.out _ _)))
    have HBD := hide (hb.trans hd2)
    clear hl hb hd1 hd2
    gi_wp2
    refine ⟨by simp, .inl ⟨_, _, rfl, run_takeDeferred HK.out, ?_⟩⟩
    refine ⟨v, ?_, v, rfl, HD1.out, HBD.out⟩
    simp [results, Tryz.f18, go_sem]
  case stop =>
    rintro c ob W h
    exact h.elim
end
end Go.Proofs.YtdffmmiegpndkaaGreatDoor
