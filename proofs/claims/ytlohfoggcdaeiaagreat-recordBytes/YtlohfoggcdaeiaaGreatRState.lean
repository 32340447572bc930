/-
  States with lists of their own; copied (printed by gen_r7.py).
-/
import Derived.Test.YtlohfoggcdaeiaaGreatRWrite
import Derived.Test.YtlohfoggcdaeiaaGreatPLaw
import Derived.Maps.AppendAt
namespace Go.Proofs.YtlohfoggcdaeiaaGreat
open Go.RowKit S
set_option linter.unusedVariables false
set_option linter.unusedSimpArgs false
open Cu (nb be hl ofL CW Mw CR Mr RS takeS takeA hOf nil8 num doneS)
def setSl (s : St) (a b c : Sl) : St := ⟨s.side, s.cap, s.bo, s.bp, a, b, s.loc, s.rem, s.ack, s.ao, s.ap, s.so, s.sp, s.ho, s.hp, s.beh, s.p0, s.p1, s.sig, c, s.fail, s.closed⟩
/-- A state's lists, each in memory of its own, from block B on. -/
structure OS (B : Nat) (w : World) (s : St) (lo lp : List Upd) (ls : List Slot) : Prop where
  o : OwnU B w s.ours.v lo
  p : OwnU B w s.peers.v lp
  f : OwnS B w s.shelf.v ls
  op : ∀ k, s.ours.v.ownBlock = some k → s.peers.v.ownBlock ≠ some k
  os : ∀ k, s.ours.v.ownBlock = some k → s.shelf.v.ownBlock ≠ some k
  ps : ∀ k, s.peers.v.ownBlock = some k → s.shelf.v.ownBlock ≠ some k
section
variable {B : Nat} {w w' : World} {s s' : St} {lo lp : List Upd} {ls : List Slot}
theorem OS.same (h : OS B w s lo lp ls) (ho : ∀ k, s.ours.v.ownBlock = some k → w'.heap[k]? = w.heap[k]?) (hp : ∀ k, s.peers.v.ownBlock = some k → w'.heap[k]? = w.heap[k]?) (hs : ∀ k, s.shelf.v.ownBlock = some k → w'.heap[k]? = w.heap[k]?) : OS B w' s lo lp ls :=
  ⟨h.o.same ho, h.p.same hp, h.f.same hs, h.op, h.os, h.ps⟩
theorem OS.below (h : OS B w s lo lp ls) (hb : Below w.heap.size w w') : OS B w' s lo lp ls :=
  h.same (fun k hk => hb.block k (h.o.lt k hk).2) (fun k hk => hb.block k (h.p.lt k hk).2) (fun k hk => hb.block k (h.f.lt k hk).2)
theorem OS.mono {B' : Nat} (h : OS B w s lo lp ls) (hb : B' ≤ B) : OS B' w s lo lp ls := ⟨h.o.mono hb, h.p.mono hb, h.f.mono hb, h.op, h.os, h.ps⟩
theorem OS.sl (h : OS B w s lo lp ls) (e1 : s'.ours = s.ours) (e2 : s'.peers = s.peers) (e3 : s'.shelf = s.shelf) : OS B w s' lo lp ls := by
  obtain ⟨a, b, c, d, e, f⟩ := h
  exact ⟨by rw [e1]; exact a, by rw [e2]; exact b, by rw [e3]; exact c, by rw [e1, e2]; exact d, by rw [e1, e3]; exact e, by rw [e2, e3]; exact f⟩
theorem OwnU.sl {B : Nat} {w : World} {x : Sl} {l : List Upd} (h : OwnU B w x.v l) : l.length = x.n ∧ Upds w x.ad l ∧ l.length ≤ x.c := by
  obtain ⟨ad, cap, e, h1, h2, h3, h4⟩ := h.upds
  simp only [Sl.v, Value.slice.injEq] at e
  exact ⟨e.2.1.symm, by rw [e.1]; exact h1, by rw [e.2.2]; exact h3⟩
theorem OwnS.sl {B : Nat} {w : World} {x : Sl} {l : List Slot} (h : OwnS B w x.v l) : l.length = x.n ∧ Slots w x.ad l ∧ l.length ≤ x.c := by
  obtain ⟨ad, cap, e, h1, h2, h3, h4⟩ := h.slots
  simp only [Sl.v, Value.slice.injEq] at e
  exact ⟨e.2.1.symm, by rw [e.1]; exact h1, by rw [e.2.2]; exact h3⟩
end
theorem slOf {B : Nat} {w : World} {v : Value} {l : List Upd} (h : OwnU B w v l) : ∃ x : Sl, v = x.v := by
  obtain ⟨ad, cap, e, _⟩ := h.upds
  exact ⟨⟨ad, l.length, cap⟩, e⟩
theorem slOfS {B : Nat} {w : World} {v : Value} {l : List Slot} (h : OwnS B w v l) : ∃ x : Sl, v = x.v := by
  obtain ⟨ad, cap, e, _⟩ := h.slots
  exact ⟨⟨ad, l.length, cap⟩, e⟩
/-- append of one update, and where the row then lies. -/
theorem appU_at (w : World) (B : Nat) (v : Value) (l : List Upd) (s : Upd) (hown : OwnU B w v l) (hsz : (l.length + 1) * 72 ≤ 140737488355328) (hB : B ≤ w.heap.size) :
    ∃ v' w1 w', (Instr.buildSlice 27 1 #[(0, .agg (tabv s.v 36))]).run Tryz.prog w = .ok (.slice (some ⟨w.heap.size, 0, none⟩) 1 1) w1 ∧ (Builtin.append_ #[27, 27] 27 #[v, .slice (some ⟨w.heap.size, 0, none⟩) 1 1]).run Tryz.prog w1 = .ok v' w' ∧
      OwnU B w' v' (l ++ [s]) ∧ (∀ g, g < w.heap.size → v.ownBlock ≠ some g → w'.heap[g]? = w.heap[g]?) ∧ Below B w w' ∧ (∀ k, v'.ownBlock = some k → v.ownBlock = some k ∨ w.heap.size ≤ k) ∧ w1 = w.alloc (.cells (tabv s.v 36) 36) := by
  obtain ⟨i, h1, h2, h3, h4⟩ := infoUP
  have hb : Has (w.alloc (.cells (tabv s.v 36) 36)) w.heap.size 36 s.v 36 := Has.new w 36 s.v 36 _ rfl
  have ho : OwnU B (w.alloc (.cells (tabv s.v 36) 36)) v l := World.ownsRow.alloc hown _
  obtain ⟨v', w', e1, e2, e3, _, e5⟩ := run_append_own_at (P := Tryz.prog) (w.alloc (.cells (tabv s.v 36) 36)) B 27 27 36 i _ 36 72 Tryz.underlying27 h1 h2 h3 h4 (by rfl) (by omega) v l.length (cellsU l) ho ⟨w.heap.size, 0, none⟩ 1 1 (cellsU [s]) (by rw [cellsU_length]; rfl)
    (fun j u hj => by
      have hj' : j < 36 := by have := (List.getElem?_eq_some_iff.1 hj).1; rw [cellsU_length] at this; simpa using this
      have hadd : (⟨w.heap.size, 0, none⟩ : Addr).add j = ⟨w.heap.size, j, none⟩ := by unfold Addr.add; split <;> simp_all
      rw [hadd, hb.cell j hj', ← hj, cellsU_one, Array.getElem?_toList, tabv_get _ _ _ hj'])
    (oneCell_U _) (by unfold maxLen; omega) hsz (by rw [size_alloc]; omega)
  obtain ⟨q1, q2⟩ := grown_all e3 (fun k hk => (hown.lt k hk).1) hB
  refine ⟨v', _, w', run_sliceU w s, e1, ?_, q1, q2, ?_, rfl⟩
  · unfold OwnU
    rw [List.length_append, cellsU_append]
    exact e2
  · intro k hk
    rcases e5 with e5 | e5
    · exact .inl (by rw [← e5]; exact hk)
    · rw [e5] at hk
      cases hk
      exact .inr (by rw [size_alloc]; omega)
section
variable {w : World} {g : Nat} {s : St}
theorem Has.sOurs (h : Has w g 31 s.v 115) (x : Sl) : Has (w.setCell ⟨g, 4, none⟩ (x.v)) g 31 (St.v ⟨s.side, s.cap, s.bo, s.bp, x, s.peers, s.loc, s.rem, s.ack, s.ao, s.ap, s.so, s.sp, s.ho, s.hp, s.beh, s.p0, s.p1, s.sig, s.shelf, s.fail, s.closed⟩) 115 :=
  (h.set 4 _).congr _ (fun i hi => by
    unfold upd
    by_cases e : i = 4
    · subst e; rfl
    · rw [if_neg e]
      unfold St.v
      by_cases e2 : i < 4
      · simp only [e2, if_true]
      · first | (exfalso; omega) | simp only [show (i < 1) = False from eq_false (by omega), show (i < 2) = False from eq_false (by omega), show (i < 3) = False from eq_false (by omega), show (i < 4) = False from eq_false (by omega), show (i < 5) = False from eq_false (by omega), if_false])
theorem Has.sPeers (h : Has w g 31 s.v 115) (x : Sl) : Has (w.setCell ⟨g, 5, none⟩ (x.v)) g 31 (St.v ⟨s.side, s.cap, s.bo, s.bp, s.ours, x, s.loc, s.rem, s.ack, s.ao, s.ap, s.so, s.sp, s.ho, s.hp, s.beh, s.p0, s.p1, s.sig, s.shelf, s.fail, s.closed⟩) 115 :=
  (h.set 5 _).congr _ (fun i hi => by
    unfold upd
    by_cases e : i = 5
    · subst e; rfl
    · rw [if_neg e]
      unfold St.v
      by_cases e2 : i < 5
      · simp only [e2, if_true]
      · first | (exfalso; omega) | simp only [show (i < 1) = False from eq_false (by omega), show (i < 2) = False from eq_false (by omega), show (i < 3) = False from eq_false (by omega), show (i < 4) = False from eq_false (by omega), show (i < 5) = False from eq_false (by omega), show (i < 6) = False from eq_false (by omega), if_false])
theorem Has.sShelf (h : Has w g 31 s.v 115) (x : Sl) : Has (w.setCell ⟨g, 112, none⟩ (x.v)) g 31 (St.v ⟨s.side, s.cap, s.bo, s.bp, s.ours, s.peers, s.loc, s.rem, s.ack, s.ao, s.ap, s.so, s.sp, s.ho, s.hp, s.beh, s.p0, s.p1, s.sig, x, s.fail, s.closed⟩) 115 :=
  (h.set 112 _).congr _ (fun i hi => by
    unfold upd
    by_cases e : i = 112
    · subst e; rfl
    · rw [if_neg e]
      unfold St.v
      by_cases e2 : i < 112
      · simp only [e2, if_true]
      · first | (exfalso; omega) | simp only [show (i < 1) = False from eq_false (by omega), show (i < 2) = False from eq_false (by omega), show (i < 3) = False from eq_false (by omega), show (i < 4) = False from eq_false (by omega), show (i < 5) = False from eq_false (by omega), show (i < 6) = False from eq_false (by omega), show (i < 7) = False from eq_false (by omega), show (i < 8) = False from eq_false (by omega), show (i < 9) = False from eq_false (by omega), show (i < 10) = False from eq_false (by omega), show (i < 11) = False from eq_false (by omega), show (i < 12) = False from eq_false (by omega), show (i < 13) = False from eq_false (by omega), show (i < 14) = False from eq_false (by omega), show (i < 15) = False from eq_false (by omega), show (i < 16) = False from eq_false (by omega), show (i < 48) = False from eq_false (by omega), show (i < 80) = False from eq_false (by omega), show (i < 112) = False from eq_false (by omega), show (i < 113) = False from eq_false (by omega), if_false])
theorem Has.sLoc (h : Has w g 31 s.v 115) (x : Int) : Has (w.setCell ⟨g, 6, none⟩ (.int .i64 x)) g 31 (St.v ⟨s.side, s.cap, s.bo, s.bp, s.ours, s.peers, x, s.rem, s.ack, s.ao, s.ap, s.so, s.sp, s.ho, s.hp, s.beh, s.p0, s.p1, s.sig, s.shelf, s.fail, s.closed⟩) 115 :=
  (h.set 6 _).congr _ (fun i hi => by
    unfold upd
    by_cases e : i = 6
    · subst e; rfl
    · rw [if_neg e]
      unfold St.v
      by_cases e2 : i < 6
      · simp only [e2, if_true]
      · first | (exfalso; omega) | simp only [show (i < 1) = False from eq_false (by omega), show (i < 2) = False from eq_false (by omega), show (i < 3) = False from eq_false (by omega), show (i < 4) = False from eq_false (by omega), show (i < 5) = False from eq_false (by omega), show (i < 6) = False from eq_false (by omega), show (i < 7) = False from eq_false (by omega), if_false])
theorem Has.sRem (h : Has w g 31 s.v 115) (x : Int) : Has (w.setCell ⟨g, 7, none⟩ (.int .i64 x)) g 31 (St.v ⟨s.side, s.cap, s.bo, s.bp, s.ours, s.peers, s.loc, x, s.ack, s.ao, s.ap, s.so, s.sp, s.ho, s.hp, s.beh, s.p0, s.p1, s.sig, s.shelf, s.fail, s.closed⟩) 115 :=
  (h.set 7 _).congr _ (fun i hi => by
    unfold upd
    by_cases e : i = 7
    · subst e; rfl
    · rw [if_neg e]
      unfold St.v
      by_cases e2 : i < 7
      · simp only [e2, if_true]
      · first | (exfalso; omega) | simp only [show (i < 1) = False from eq_false (by omega), show (i < 2) = False from eq_false (by omega), show (i < 3) = False from eq_false (by omega), show (i < 4) = False from eq_false (by omega), show (i < 5) = False from eq_false (by omega), show (i < 6) = False from eq_false (by omega), show (i < 7) = False from eq_false (by omega), show (i < 8) = False from eq_false (by omega), if_false])
theorem Has.sAck (h : Has w g 31 s.v 115) (x : Int) : Has (w.setCell ⟨g, 8, none⟩ (.int .i64 x)) g 31 (St.v ⟨s.side, s.cap, s.bo, s.bp, s.ours, s.peers, s.loc, s.rem, x, s.ao, s.ap, s.so, s.sp, s.ho, s.hp, s.beh, s.p0, s.p1, s.sig, s.shelf, s.fail, s.closed⟩) 115 :=
  (h.set 8 _).congr _ (fun i hi => by
    unfold upd
    by_cases e : i = 8
    · subst e; rfl
    · rw [if_neg e]
      unfold St.v
      by_cases e2 : i < 8
      · simp only [e2, if_true]
      · first | (exfalso; omega) | simp only [show (i < 1) = False from eq_false (by omega), show (i < 2) = False from eq_false (by omega), show (i < 3) = False from eq_false (by omega), show (i < 4) = False from eq_false (by omega), show (i < 5) = False from eq_false (by omega), show (i < 6) = False from eq_false (by omega), show (i < 7) = False from eq_false (by omega), show (i < 8) = False from eq_false (by omega), show (i < 9) = False from eq_false (by omega), if_false])
theorem Has.sBeh (h : Has w g 31 s.v 115) (x : Bool) : Has (w.setCell ⟨g, 15, none⟩ (.bool x)) g 31 (St.v ⟨s.side, s.cap, s.bo, s.bp, s.ours, s.peers, s.loc, s.rem, s.ack, s.ao, s.ap, s.so, s.sp, s.ho, s.hp, x, s.p0, s.p1, s.sig, s.shelf, s.fail, s.closed⟩) 115 :=
  (h.set 15 _).congr _ (fun i hi => by
    unfold upd
    by_cases e : i = 15
    · subst e; rfl
    · rw [if_neg e]
      unfold St.v
      by_cases e2 : i < 15
      · simp only [e2, if_true]
      · first | (exfalso; omega) | simp only [show (i < 1) = False from eq_false (by omega), show (i < 2) = False from eq_false (by omega), show (i < 3) = False from eq_false (by omega), show (i < 4) = False from eq_false (by omega), show (i < 5) = False from eq_false (by omega), show (i < 6) = False from eq_false (by omega), show (i < 7) = False from eq_false (by omega), show (i < 8) = False from eq_false (by omega), show (i < 9) = False from eq_false (by omega), show (i < 10) = False from eq_false (by omega), show (i < 11) = False from eq_false (by omega), show (i < 12) = False from eq_false (by omega), show (i < 13) = False from eq_false (by omega), show (i < 14) = False from eq_false (by omega), show (i < 15) = False from eq_false (by omega), show (i < 16) = False from eq_false (by omega), if_false])
theorem Has.sFail (h : Has w g 31 s.v 115) (x : Int) : Has (w.setCell ⟨g, 113, none⟩ (.int .i64 x)) g 31 (St.v ⟨s.side, s.cap, s.bo, s.bp, s.ours, s.peers, s.loc, s.rem, s.ack, s.ao, s.ap, s.so, s.sp, s.ho, s.hp, s.beh, s.p0, s.p1, s.sig, s.shelf, x, s.closed⟩) 115 :=
  (h.set 113 _).congr _ (fun i hi => by
    unfold upd
    by_cases e : i = 113
    · subst e; rfl
    · rw [if_neg e]
      unfold St.v
      by_cases e2 : i < 113
      · simp only [e2, if_true]
      · first | (exfalso; omega) | simp only [show (i < 1) = False from eq_false (by omega), show (i < 2) = False from eq_false (by omega), show (i < 3) = False from eq_false (by omega), show (i < 4) = False from eq_false (by omega), show (i < 5) = False from eq_false (by omega), show (i < 6) = False from eq_false (by omega), show (i < 7) = False from eq_false (by omega), show (i < 8) = False from eq_false (by omega), show (i < 9) = False from eq_false (by omega), show (i < 10) = False from eq_false (by omega), show (i < 11) = False from eq_false (by omega), show (i < 12) = False from eq_false (by omega), show (i < 13) = False from eq_false (by omega), show (i < 14) = False from eq_false (by omega), show (i < 15) = False from eq_false (by omega), show (i < 16) = False from eq_false (by omega), show (i < 48) = False from eq_false (by omega), show (i < 80) = False from eq_false (by omega), show (i < 112) = False from eq_false (by omega), show (i < 113) = False from eq_false (by omega), show (i < 114) = False from eq_false (by omega), if_false])
theorem Has.sClosed (h : Has w g 31 s.v 115) (x : Int) : Has (w.setCell ⟨g, 114, none⟩ (.int .i64 x)) g 31 (St.v ⟨s.side, s.cap, s.bo, s.bp, s.ours, s.peers, s.loc, s.rem, s.ack, s.ao, s.ap, s.so, s.sp, s.ho, s.hp, s.beh, s.p0, s.p1, s.sig, s.shelf, s.fail, x⟩) 115 :=
  (h.set 114 _).congr _ (fun i hi => by
    unfold upd
    by_cases e : i = 114
    · subst e; rfl
    · rw [if_neg e]
      unfold St.v
      by_cases e2 : i < 114
      · simp only [e2, if_true]
      · first | (exfalso; omega) | simp only [show (i < 1) = False from eq_false (by omega), show (i < 2) = False from eq_false (by omega), show (i < 3) = False from eq_false (by omega), show (i < 4) = False from eq_false (by omega), show (i < 5) = False from eq_false (by omega), show (i < 6) = False from eq_false (by omega), show (i < 7) = False from eq_false (by omega), show (i < 8) = False from eq_false (by omega), show (i < 9) = False from eq_false (by omega), show (i < 10) = False from eq_false (by omega), show (i < 11) = False from eq_false (by omega), show (i < 12) = False from eq_false (by omega), show (i < 13) = False from eq_false (by omega), show (i < 14) = False from eq_false (by omega), show (i < 15) = False from eq_false (by omega), show (i < 16) = False from eq_false (by omega), show (i < 48) = False from eq_false (by omega), show (i < 80) = False from eq_false (by omega), show (i < 112) = False from eq_false (by omega), show (i < 113) = False from eq_false (by omega), show (i < 114) = False from eq_false (by omega), if_false])
end
theorem splice_cAt (s : St) (a b : Int) (i : Nat) (hi : i < 115) : splice s.v 9 (ctv a b) 2 i = St.v ⟨s.side, s.cap, s.bo, s.bp, s.ours, s.peers, s.loc, s.rem, s.ack, a, b, s.so, s.sp, s.ho, s.hp, s.beh, s.p0, s.p1, s.sig, s.shelf, s.fail, s.closed⟩ i := by
  unfold splice
  by_cases e : 9 ≤ i ∧ i < 9 + 2
  · rw [if_pos e]
    rcases (show i = 9 ∨ i = 10 by omega) with rfl | rfl <;> rfl
  · rw [if_neg e]
    unfold St.v
    by_cases e2 : i < 9
    · simp only [e2, if_true]
    · simp only [show (i < 1) = False from eq_false (by omega), show (i < 2) = False from eq_false (by omega), show (i < 3) = False from eq_false (by omega), show (i < 4) = False from eq_false (by omega), show (i < 5) = False from eq_false (by omega), show (i < 6) = False from eq_false (by omega), show (i < 7) = False from eq_false (by omega), show (i < 8) = False from eq_false (by omega), show (i < 9) = False from eq_false (by omega), show (i < 10) = False from eq_false (by omega), show (i < 11) = False from eq_false (by omega), if_false]
theorem splice_cSg (s : St) (a b : Int) (i : Nat) (hi : i < 115) : splice s.v 11 (ctv a b) 2 i = St.v ⟨s.side, s.cap, s.bo, s.bp, s.ours, s.peers, s.loc, s.rem, s.ack, s.ao, s.ap, a, b, s.ho, s.hp, s.beh, s.p0, s.p1, s.sig, s.shelf, s.fail, s.closed⟩ i := by
  unfold splice
  by_cases e : 11 ≤ i ∧ i < 11 + 2
  · rw [if_pos e]
    rcases (show i = 11 ∨ i = 12 by omega) with rfl | rfl <;> rfl
  · rw [if_neg e]
    unfold St.v
    by_cases e2 : i < 11
    · simp only [e2, if_true]
    · simp only [show (i < 1) = False from eq_false (by omega), show (i < 2) = False from eq_false (by omega), show (i < 3) = False from eq_false (by omega), show (i < 4) = False from eq_false (by omega), show (i < 5) = False from eq_false (by omega), show (i < 6) = False from eq_false (by omega), show (i < 7) = False from eq_false (by omega), show (i < 8) = False from eq_false (by omega), show (i < 9) = False from eq_false (by omega), show (i < 10) = False from eq_false (by omega), show (i < 11) = False from eq_false (by omega), show (i < 12) = False from eq_false (by omega), show (i < 13) = False from eq_false (by omega), if_false]
theorem splice_cHd (s : St) (a b : Int) (i : Nat) (hi : i < 115) : splice s.v 13 (ctv a b) 2 i = St.v ⟨s.side, s.cap, s.bo, s.bp, s.ours, s.peers, s.loc, s.rem, s.ack, s.ao, s.ap, s.so, s.sp, a, b, s.beh, s.p0, s.p1, s.sig, s.shelf, s.fail, s.closed⟩ i := by
  unfold splice
  by_cases e : 13 ≤ i ∧ i < 13 + 2
  · rw [if_pos e]
    rcases (show i = 13 ∨ i = 14 by omega) with rfl | rfl <;> rfl
  · rw [if_neg e]
    unfold St.v
    by_cases e2 : i < 13
    · simp only [e2, if_true]
    · simp only [show (i < 1) = False from eq_false (by omega), show (i < 2) = False from eq_false (by omega), show (i < 3) = False from eq_false (by omega), show (i < 4) = False from eq_false (by omega), show (i < 5) = False from eq_false (by omega), show (i < 6) = False from eq_false (by omega), show (i < 7) = False from eq_false (by omega), show (i < 8) = False from eq_false (by omega), show (i < 9) = False from eq_false (by omega), show (i < 10) = False from eq_false (by omega), show (i < 11) = False from eq_false (by omega), show (i < 12) = False from eq_false (by omega), show (i < 13) = False from eq_false (by omega), show (i < 14) = False from eq_false (by omega), show (i < 15) = False from eq_false (by omega), if_false]
theorem splice_sSig (s : St) (h : Nat → UInt8) (i : Nat) (hi : i < 115) : splice s.v 80 (bv h) 32 i = St.v ⟨s.side, s.cap, s.bo, s.bp, s.ours, s.peers, s.loc, s.rem, s.ack, s.ao, s.ap, s.so, s.sp, s.ho, s.hp, s.beh, s.p0, s.p1, h, s.shelf, s.fail, s.closed⟩ i := by
  unfold splice
  by_cases e : 80 ≤ i ∧ i < 80 + 32
  · rw [if_pos e]
    have := St.v_sig ⟨s.side, s.cap, s.bo, s.bp, s.ours, s.peers, s.loc, s.rem, s.ack, s.ao, s.ap, s.so, s.sp, s.ho, s.hp, s.beh, s.p0, s.p1, h, s.shelf, s.fail, s.closed⟩ (i - 80) (by omega)
    rw [show 80 + (i - 80) = i by omega] at this
    exact this.symm
  · rw [if_neg e]
    unfold St.v
    by_cases e2 : i < 80
    · simp only [e2, if_true]
    · simp only [show (i < 1) = False from eq_false (by omega), show (i < 2) = False from eq_false (by omega), show (i < 3) = False from eq_false (by omega), show (i < 4) = False from eq_false (by omega), show (i < 5) = False from eq_false (by omega), show (i < 6) = False from eq_false (by omega), show (i < 7) = False from eq_false (by omega), show (i < 8) = False from eq_false (by omega), show (i < 9) = False from eq_false (by omega), show (i < 10) = False from eq_false (by omega), show (i < 11) = False from eq_false (by omega), show (i < 12) = False from eq_false (by omega), show (i < 13) = False from eq_false (by omega), show (i < 14) = False from eq_false (by omega), show (i < 15) = False from eq_false (by omega), show (i < 16) = False from eq_false (by omega), show (i < 48) = False from eq_false (by omega), show (i < 80) = False from eq_false (by omega), show (i < 112) = False from eq_false (by omega), if_false]
def pv (a b : Nat → UInt8) : Nat → Value := fun i => if i < 32 then .int .u8 ((a i).toNat : Int) else .int .u8 ((b (i - 32)).toNat : Int)
theorem splice_pts (s : St) (a b : Nat → UInt8) (i : Nat) (hi : i < 115) : splice s.v 16 (pv a b) 64 i = St.v ⟨s.side, s.cap, s.bo, s.bp, s.ours, s.peers, s.loc, s.rem, s.ack, s.ao, s.ap, s.so, s.sp, s.ho, s.hp, s.beh, a, b, s.sig, s.shelf, s.fail, s.closed⟩ i := by
  unfold splice
  by_cases e : 16 ≤ i ∧ i < 16 + 64
  · rw [if_pos e]
    unfold pv
    by_cases e3 : i < 48
    · rw [if_pos (by omega)]
      have := St.v_p0 ⟨s.side, s.cap, s.bo, s.bp, s.ours, s.peers, s.loc, s.rem, s.ack, s.ao, s.ap, s.so, s.sp, s.ho, s.hp, s.beh, a, b, s.sig, s.shelf, s.fail, s.closed⟩ (i - 16) (by omega)
      rw [show 16 + (i - 16) = i by omega] at this
      exact this.symm
    · rw [if_neg (by omega)]
      have := St.v_p1 ⟨s.side, s.cap, s.bo, s.bp, s.ours, s.peers, s.loc, s.rem, s.ack, s.ao, s.ap, s.so, s.sp, s.ho, s.hp, s.beh, a, b, s.sig, s.shelf, s.fail, s.closed⟩ (i - 48) (by omega)
      rw [show 48 + (i - 48) = i by omega] at this
      rw [this, show i - 16 - 32 = i - 48 by omega]
      rfl
  · rw [if_neg e]
    unfold St.v
    by_cases e2 : i < 16
    · simp only [e2, if_true]
    · simp only [show (i < 1) = False from eq_false (by omega), show (i < 2) = False from eq_false (by omega), show (i < 3) = False from eq_false (by omega), show (i < 4) = False from eq_false (by omega), show (i < 5) = False from eq_false (by omega), show (i < 6) = False from eq_false (by omega), show (i < 7) = False from eq_false (by omega), show (i < 8) = False from eq_false (by omega), show (i < 9) = False from eq_false (by omega), show (i < 10) = False from eq_false (by omega), show (i < 11) = False from eq_false (by omega), show (i < 12) = False from eq_false (by omega), show (i < 13) = False from eq_false (by omega), show (i < 14) = False from eq_false (by omega), show (i < 15) = False from eq_false (by omega), show (i < 16) = False from eq_false (by omega), show (i < 48) = False from eq_false (by omega), show (i < 80) = False from eq_false (by omega), if_false]
set_option maxRecDepth 100000 in
set_option maxHeartbeats 40000000 in
theorem copied_any (s : St) (lo lp : List Upd) (ls : List Slot) (hno : lo.length = s.ours.n) (hnp : lp.length = s.peers.n) (hns : ls.length = s.shelf.n) (zo : lo.length * 72 ≤ 140737488355328) (zp : lp.length * 72 ≤ 140737488355328) (zs : ls.length * 48 ≤ 140737488355328) (w : World) (hO : Upds w s.ours.ad lo) (hP : Upds w s.peers.ad lp) (hH : Slots w s.shelf.ad ls) : Calls Tryz.prog 29 #[.agg (tabv s.v 115)] w fun e w' => (∃ x1 x2 x3 : Sl, e = .returned (.agg (tabv (setSl s x1 x2 x3).v 115)) ∧ OS w.heap.size w' (setSl s x1 x2 x3) lo lp ls) ∧ Below w.heap.size w w' := by
  obtain ⟨w2, hW⟩ : ∃ w2, (w.alloc (.cells (tabv s.v 115) 31)).alloc (.cells (tabv St.zero.v 115) 31) = w2 := ⟨_, rfl⟩
  have r1 : Has w2 w.heap.size 31 s.v 115 := by rw [← hW]; exact (Has.new w 31 s.v 115 _ rfl).old _
  have r2 : Has w2 (w.heap.size + 1) 31 St.zero.v 115 := by
    rw [← hW]
    have := Has.new (w.alloc (.cells (tabv s.v 115) 31)) 31 St.zero.v 115 _ rfl
    rw [size_alloc] at this
    exact this
  have gb : Below w.heap.size w w2 := by rw [← hW]; exact ((Below.refl w.heap.size w).alloc (Nat.le_refl _) _).alloc (by simp) _
  rw [← zeroSt] at hW
  have hs2 : w.heap.size + 2 ≤ w2.heap.size := by have := r2.lt; omega
  -- ours
  obtain ⟨v1, w3, a1, o1, b3⟩ := run_app_all w2 s.ours.ad s.ours.c lo (hO.below gb) zo
  rw [hno] at a1
  obtain ⟨x1, rfl⟩ := slOf o1
  have q1 := r1.below b3 r1.lt
  have q2 := r2.below b3 r2.lt
  obtain ⟨w4, hW4⟩ : ∃ x, w3.setCell ⟨w.heap.size, 4, none⟩ x1.v = x := ⟨_, rfl⟩
  have m4 : Mr w.heap.size w3 w4 := by rw [← hW4]; exact Mr.set _
  have k1 : Has w4 w.heap.size 31 (St.v ⟨s.side, s.cap, s.bo, s.bp, x1, s.peers, s.loc, s.rem, s.ack, s.ao, s.ap, s.so, s.sp, s.ho, s.hp, s.beh, s.p0, s.p1, s.sig, s.shelf, s.fail, s.closed⟩) 115 := by rw [← hW4]; exact q1.sOurs x1
  have k2 : Has w4 (w.heap.size + 1) 31 St.zero.v 115 := by rw [← hW4]; exact q2.other _ _ (by show w.heap.size + 1 ≠ w.heap.size; omega)
  have O1 : OwnU w2.heap.size w4 x1.v lo := o1.same fun k hk => m4.block k (o1.lt k hk).2 (by have := (o1.lt k hk).1; omega)
  have gb4 : Below w.heap.size w w4 := (gb.trans (b3.mono gb.size)).trans (m4.below (Nat.le_refl _) (Nat.le_trans gb.size b3.size))
  -- peers
  obtain ⟨v2, w5, a2, o2, b5⟩ := run_app_all w4 s.peers.ad s.peers.c lp (hP.below gb4) zp
  rw [hnp] at a2
  obtain ⟨x2, rfl⟩ := slOf o2
  have q3 := k1.below b5 k1.lt
  have q4 := k2.below b5 k2.lt
  obtain ⟨w6, hW6⟩ : ∃ x, w5.setCell ⟨w.heap.size, 5, none⟩ x2.v = x := ⟨_, rfl⟩
  have m6 : Mr w.heap.size w5 w6 := by rw [← hW6]; exact Mr.set _
  have k3 : Has w6 w.heap.size 31 (St.v ⟨s.side, s.cap, s.bo, s.bp, x1, x2, s.loc, s.rem, s.ack, s.ao, s.ap, s.so, s.sp, s.ho, s.hp, s.beh, s.p0, s.p1, s.sig, s.shelf, s.fail, s.closed⟩) 115 := by rw [← hW6]; exact q3.sPeers x2
  have k4 : Has w6 (w.heap.size + 1) 31 St.zero.v 115 := by rw [← hW6]; exact q4.other _ _ (by show w.heap.size + 1 ≠ w.heap.size; omega)
  have hs4 : w2.heap.size ≤ w4.heap.size := Nat.le_trans b3.size m4.size
  have O2 : OwnU w4.heap.size w6 x2.v lp := o2.same fun k hk => m6.block k (o2.lt k hk).2 (by have := (o2.lt k hk).1; omega)
  have O1b : OwnU w2.heap.size w6 x1.v lo := (O1.below b5 (Nat.le_refl _)).same fun k hk => m6.block k (Nat.lt_of_lt_of_le (O1.lt k hk).2 b5.size) (by have := (O1.lt k hk).1; omega)
  have gb6 : Below w.heap.size w w6 := (gb4.trans (b5.mono gb4.size)).trans (m6.below (Nat.le_refl _) (Nat.le_trans gb4.size b5.size))
  -- shelf
  obtain ⟨v3, w7, a3, o3, b7⟩ := run_app_allH w6 s.shelf.ad s.shelf.c ls (hH.below gb6) zs
  rw [hns] at a3
  obtain ⟨x3, rfl⟩ := slOfS o3
  have q5 := k3.below b7 k3.lt
  have q6 := k4.below b7 k4.lt
  obtain ⟨w8, hW8⟩ : ∃ x, w7.setCell ⟨w.heap.size, 112, none⟩ x3.v = x := ⟨_, rfl⟩
  have m8 : Mr w.heap.size w7 w8 := by rw [← hW8]; exact Mr.set _
  have k5 : Has w8 w.heap.size 31 (St.v ⟨s.side, s.cap, s.bo, s.bp, x1, x2, s.loc, s.rem, s.ack, s.ao, s.ap, s.so, s.sp, s.ho, s.hp, s.beh, s.p0, s.p1, s.sig, x3, s.fail, s.closed⟩) 115 := by rw [← hW8]; exact q5.sShelf x3
  have k6 : Has w8 (w.heap.size + 1) 31 St.zero.v 115 := by rw [← hW8]; exact q6.other _ _ (by show w.heap.size + 1 ≠ w.heap.size; omega)
  have hs6 : w4.heap.size ≤ w6.heap.size := Nat.le_trans b5.size m6.size
  have O3 : OwnS w6.heap.size w8 x3.v ls := o3.same fun k hk => m8.block k (o3.lt k hk).2 (by have := (o3.lt k hk).1; omega)
  have O2b : OwnU w4.heap.size w8 x2.v lp := (O2.below b7 (Nat.le_refl _)).same fun k hk => m8.block k (Nat.lt_of_lt_of_le (O2.lt k hk).2 b7.size) (by have := (O2.lt k hk).1; omega)
  have O1c : OwnU w2.heap.size w8 x1.v lo := (O1b.below b7 (Nat.le_refl _)).same fun k hk => m8.block k (Nat.lt_of_lt_of_le (O1b.lt k hk).2 b7.size) (by have := (O1b.lt k hk).1; omega)
  have gb8 : Below w.heap.size w w8 := (gb6.trans (b7.mono gb6.size)).trans (m8.below (Nat.le_refl _) (Nat.le_trans gb6.size b7.size))
  have OF : Hid (OS (w.heap.size + 2) w8 (setSl s x1 x2 x3) lo lp ls) := ⟨O1c.mono hs2, O2b.mono (by omega), O3.mono (by omega), fun k hk e => by have h1 := (O1.lt k hk).2; have h2 := (O2.lt k e).1; omega, fun k hk e => by have h1 := (O1b.lt k hk).2; have h2 := (O3.lt k e).1; omega, fun k hk e => by have h1 := (O2.lt k hk).2; have h2 := (O3.lt k e).1; omega⟩
  have c4 : w2.cell? ⟨w.heap.size, 4, none⟩ = some (.slice s.ours.ad s.ours.n s.ours.c) := r1.cell 4 (by omega)
  have c5 : w4.cell? ⟨w.heap.size, 5, none⟩ = some (.slice s.peers.ad s.peers.n s.peers.c) := k1.cell 5 (by omega)
  have c6 : w6.cell? ⟨w.heap.size, 112, none⟩ = some (.slice s.shelf.ad s.shelf.n s.shelf.c) := k3.cell 112 (by omega)
  have d4 : w3.cell? ⟨w.heap.size, 4, none⟩ = some (.slice s.ours.ad s.ours.n s.ours.c) := q1.cell 4 (by omega)
  have d5 : w5.cell? ⟨w.heap.size, 5, none⟩ = some (.slice s.peers.ad s.peers.n s.peers.c) := q3.cell 5 (by omega)
  have d6 : w7.cell? ⟨w.heap.size, 112, none⟩ = some (.slice s.shelf.ad s.shelf.n s.shelf.c) := q5.cell 112 (by omega)
  have f4 := q1.frozen 4
  have f5 := q3.frozen 5
  have f6 := q5.frozen 112
  have a1 : _ = Result.ok (Value.slice x1.ad x1.n x1.c) w3 := a1
  have A1 := hide a1
  have a2 : _ = Result.ok (Value.slice x2.ad x2.n x2.c) w5 := a2
  have A2 := hide a2
  have a3 : _ = Result.ok (Value.slice x3.ad x3.n x3.c) w7 := a3
  have A3 := hide a3
  have K5 := hide k5
  have K6 := hide k6
  have GB := hide gb8
  have hW4 : w3.setCell ⟨w.heap.size, 4, none⟩ (.slice x1.ad x1.n x1.c) = w4 := hW4
  have hW6 : w5.setCell ⟨w.heap.size, 5, none⟩ (.slice x2.ad x2.n x2.c) = w6 := hW6
  have hW8 : w7.setCell ⟨w.heap.size, 112, none⟩ (.slice x3.ad x3.n x3.c) = w8 := hW8
  clear a1 a2 a3 o1 o2 o3 b3 b5 b7 m4 m6 m8 O1 O1b O1c O2 O2b O3 gb gb4 gb6 gb8 k1 k2 k3 k4 k5 k6 q1 q2 q3 q4 q5 q6 r1 r2 hs2 hs4 hs6 hno hnp hns zo zp zs hO hP hH
  go_enter Tryz.func29, Tryz.ntmps29
  go_wp2_with (first | rw [hW4] | rw [hW6] | rw [hW8] | refine wpList_app rfl (.const (.slice none 0 0)) (.tmp 4) _ rfl A1.out ?_ | refine wpList_app rfl (.const (.slice none 0 0)) (.tmp 8) _ rfl A2.out ?_ | refine wpList_app rfl (.const (.slice none 0 0)) (.tmp 12) _ rfl A3.out ?_ | refine wpW_load_at 31 _ rfl (w.heap.size) (0) (by rfl) (by rfl) _ 115 _ (K5.out.at_ 0 (by omega) (fun i hi => by rw [Nat.zero_add])) Tryz.underlying31 rfl infoSt ?_ | refine wpList_storeSt rfl _ _ rfl rfl (w.heap.size + 1) (setSl s x1 x2 x3) rfl rfl _ K6.out ?_ | fail)
  (try simp only [Exit.inBlock, Exit.then])
  exact bodyPost_ret (results_cell_row rfl _ _ (w.heap.size + 1) 31 _ (0, 0) _ rfl (K6.out.row _ (St.v (setSl s x1 x2 x3)) rfl) Tryz.underlying31 rfl (by rw [tabv_size]; exact infoSt)) rfl ⟨⟨x1, x2, x3, rfl, (OF.out.same (fun k hk => setRow_other _ _ _ _ (by have := (OF.out.o.lt k hk).1; omega)) (fun k hk => setRow_other _ _ _ _ (by have := (OF.out.p.lt k hk).1; omega)) (fun k hk => setRow_other _ _ _ _ (by have := (OF.out.f.lt k hk).1; omega))).mono (by omega)⟩, below_setRow GB.out (by omega) _⟩
end Go.Proofs.YtlohfoggcdaeiaaGreat
