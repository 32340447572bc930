import Derived.Test.YtmmcoedgoekhgaaGreatDoorDStart
import Derived.Test.YtmmcoedgoekhgaaGreatDoorGLast
import Derived.Test.YtmmcoedgoekhgaaGreatDoorPLaw
import Derived.Test.YtmmcoedgoekhgaaGreatDoorULent
import Derived.Maps.AppendAt
import Derived.Test.YtmmcoedgoekhgaaGreatDoorDMsg
/-
  slices.Clone of updates.
-/
namespace Go.Proofs.YtmmcoedgoekhgaaGreatDoor
open Go.RowKit S
set_option linter.unusedVariables false
set_option linter.unusedSimpArgs false
theorem eqNilD (d : Nat) (ad : Option Addr) (n c : Nat) (w : World) : (Op.equalIn (d + 1) 27 (Value.slice ad n c) (Value.slice none 0 0)).run Tryz.prog w = .ok ad.isNone w := by
  cases ad <;> simp [Op.equalIn, run_underlying Tryz.underlying27]
theorem eqNil (ad : Option Addr) (n c : Nat) (w : World) : (binOp BinOp.eql 27 (Value.slice ad n c) (Value.slice none 0 0)).run Tryz.prog w = .ok (.bool ad.isNone) w := by
  have e : (Op.equalIn Op.maxDepth 27 (Value.slice ad n c) (Value.slice none 0 0)).run Tryz.prog w = .ok ad.isNone w := eqNilD 9999 ad n c w
  simp [binOp, Op.equal, e]
theorem wpW_slice0 {P : Program} {ops : Array Oper} {rest : List Oper} {o : Oper} {a : Act} {w w' : World} {Q : Exit → Act → World → Prop} {v : Value} (hg : o.guard = none) (T : TypeId) (ho : o.op = .buildSlice T 0 #[]) (h : (Instr.buildSlice T 0 #[]).run P w = .ok v w') (k : wpList P ops Q rest (a.put o.dst v) w') : wpList P ops Q (o :: rest) a w :=
  wpList_plain hg fun K hK => wpRun (by simp [execOp, ho, h, Result.andThen]) (hK _ _ k)
set_option maxRecDepth 100000 in
set_option maxHeartbeats 40000000 in
theorem uclone_any (ad : Option Addr) (n c : Nat) (l : List Upd) (hn : l.length = n) (hz : n * 72 ≤ 140737488355328) (h0 : ad = none → l = []) (w : World) (hS : Upds w ad l) : Calls Tryz.prog 52 #[.slice ad n c] w fun e w' => (∃ v, e = .returned v ∧ OwnU w.heap.size w' v l) ∧ Below w.heap.size w w' := by
  subst hn
  cases ad with
  | none =>
    obtain rfl := h0 rfl
    have hq : ∀ w, (binOp BinOp.eql 27 (Value.slice none 0 c) (Value.slice none 0 0)).run Tryz.prog w = .ok (.bool true) w := fun w => eqNil none 0 c w
    go_enter Tryz.func52, Tryz.ntmps52
    go_wp2
    go_ret
    exact ⟨⟨_, rfl, OwnU.nil _ _⟩, Below.refl _ _⟩
  | some x =>
    obtain ⟨w1, r1, o1, b1⟩ := run_slice0 w
    obtain ⟨v, w2, r2, o2, b2⟩ := run_appUU w1 w.heap.size _ [] l (some x) c 27 o1 (hS.below b1) (fun h => by cases h) (by simpa using hz) b1.size
    have R1 := hide r1
    have R2 := hide r2
    have O2 := hide o2
    have hb : Below w.heap.size w w2 := ⟨b2.os.trans b1.os, b2.tape.trans b1.tape, b2.output.trans b1.output, Nat.le_trans b1.size b2.size, fun k hk => by rw [b2.block k (Nat.lt_of_lt_of_le hk b1.size) (fun e => by simp [Value.ownBlock] at e; omega)]; exact b1.block k hk⟩
    have HB := hide hb
    obtain ⟨xa, xc, rfl, _⟩ := o2.upds
    have hq : ∀ w, (binOp BinOp.eql 27 (Value.slice (some x) l.length c) (Value.slice none 0 0)).run Tryz.prog w = .ok (.bool false) w := fun w => eqNil (some x) _ c w
    clear r1 r2 o1 o2 b1 b2 hb
    go_enter Tryz.func52, Tryz.ntmps52
    go_wp2_with (first | refine wpW_slice0 rfl 27 rfl R1.out ?_ | (at_builtin; refine wpList_app rfl _ _ _ rfl R2.out ?_) | fail)
    go_ret
    exact ⟨⟨_, rfl, O2.out⟩, HB.out⟩
end Go.Proofs.YtmmcoedgoekhgaaGreatDoor
/-
  STATES WITH LISTS OF THEIR OWN (picked out of record's texts by mkstate.sh).
-/
namespace Go.Proofs.YtmmcoedgoekhgaaGreatDoor
open Go.RowKit S
set_option linter.unusedVariables false
set_option linter.unusedSimpArgs false
open Cu (nb be hl ofL CW Mw Mr)
def ctv (a b : Int) : Nat → Value := fun i => if i < 1 then .int .i64 a else .int .i64 b
def setSl (s : St) (a b c : Sl) : St := ⟨s.side, s.cap, s.bo, s.bp, a, b, s.loc, s.rem, s.ack, s.ao, s.ap, s.so, s.sp, s.ho, s.hp, s.beh, s.p0, s.p1, s.sig, c, s.fail, s.closed⟩
/-- A state's lists, each in memory of its own, from block B on. -/
structure OS (B : Nat) (w : World) (s : St) (lo lp : List Upd) (ls : List Slot) : Prop where
  o : OwnU B w s.ours.v lo
  p : OwnU B w s.peers.v lp
  f : OwnS B w s.shelf.v ls
  op : ∀ k, s.ours.v.ownBlock = some k → s.peers.v.ownBlock ≠ some k
  os : ∀ k, s.ours.v.ownBlock = some k → s.shelf.v.ownBlock ≠ some k
  ps : ∀ k, s.peers.v.ownBlock = some k → s.shelf.v.ownBlock ≠ some k
section
variable {B : Nat} {w w' : World} {s s' : St} {lo lp : List Upd} {ls : List Slot}
theorem OS.same (h : OS B w s lo lp ls) (ho : ∀ k, s.ours.v.ownBlock = some k → w'.heap[k]? = w.heap[k]?) (hp : ∀ k, s.peers.v.ownBlock = some k → w'.heap[k]? = w.heap[k]?) (hs : ∀ k, s.shelf.v.ownBlock = some k → w'.heap[k]? = w.heap[k]?) : OS B w' s lo lp ls :=
  ⟨h.o.same ho, h.p.same hp, h.f.same hs, h.op, h.os, h.ps⟩
theorem OS.below (h : OS B w s lo lp ls) (hb : Below w.heap.size w w') : OS B w' s lo lp ls :=
  h.same (fun k hk => hb.block k (h.o.lt k hk).2) (fun k hk => hb.block k (h.p.lt k hk).2) (fun k hk => hb.block k (h.f.lt k hk).2)
theorem OS.mono {B' : Nat} (h : OS B w s lo lp ls) (hb : B' ≤ B) : OS B' w s lo lp ls := ⟨h.o.mono hb, h.p.mono hb, h.f.mono hb, h.op, h.os, h.ps⟩
theorem OS.sl (h : OS B w s lo lp ls) (e1 : s'.ours = s.ours) (e2 : s'.peers = s.peers) (e3 : s'.shelf = s.shelf) : OS B w s' lo lp ls := by
  obtain ⟨a, b, c, d, e, f⟩ := h
  exact ⟨by rw [e1]; exact a, by rw [e2]; exact b, by rw [e3]; exact c, by rw [e1, e2]; exact d, by rw [e1, e3]; exact e, by rw [e2, e3]; exact f⟩
theorem OwnU.sl {B : Nat} {w : World} {x : Sl} {l : List Upd} (h : OwnU B w x.v l) : l.length = x.n ∧ Upds w x.ad l ∧ l.length ≤ x.c := by
  obtain ⟨ad, cap, e, h1, h2, h3, h4⟩ := h.upds
  simp only [Sl.v, Value.slice.injEq] at e
  exact ⟨e.2.1.symm, by rw [e.1]; exact h1, by rw [e.2.2]; exact h3⟩
theorem OwnS.sl {B : Nat} {w : World} {x : Sl} {l : List Slot} (h : OwnS B w x.v l) : l.length = x.n ∧ Slots w x.ad l ∧ l.length ≤ x.c := by
  obtain ⟨ad, cap, e, h1, h2, h3, h4⟩ := h.slots
  simp only [Sl.v, Value.slice.injEq] at e
  exact ⟨e.2.1.symm, by rw [e.1]; exact h1, by rw [e.2.2]; exact h3⟩
end
theorem slOf {B : Nat} {w : World} {v : Value} {l : List Upd} (h : OwnU B w v l) : ∃ x : Sl, v = x.v := by
  obtain ⟨ad, cap, e, _⟩ := h.upds
  exact ⟨⟨ad, l.length, cap⟩, e⟩
theorem slOfS {B : Nat} {w : World} {v : Value} {l : List Slot} (h : OwnS B w v l) : ∃ x : Sl, v = x.v := by
  obtain ⟨ad, cap, e, _⟩ := h.slots
  exact ⟨⟨ad, l.length, cap⟩, e⟩
section
variable {w : World} {g : Nat} {s : St}
theorem Has.sOurs (h : Has w g 32 s.v 115) (x : Sl) : Has (w.setCell ⟨g, 4, none⟩ (x.v)) g 32 (St.v ⟨s.side, s.cap, s.bo, s.bp, x, s.peers, s.loc, s.rem, s.ack, s.ao, s.ap, s.so, s.sp, s.ho, s.hp, s.beh, s.p0, s.p1, s.sig, s.shelf, s.fail, s.closed⟩) 115 :=
  (h.set 4 _).congr _ (fun i hi => by
    unfold upd
    by_cases e : i = 4
    · subst e; rfl
    · rw [if_neg e]
      unfold St.v
      by_cases e2 : i < 4
      · simp only [e2, if_true]
      · first | (exfalso; omega) | simp only [show (i < 1) = False from eq_false (by omega), show (i < 2) = False from eq_false (by omega), show (i < 3) = False from eq_false (by omega), show (i < 4) = False from eq_false (by omega), show (i < 5) = False from eq_false (by omega), if_false])
theorem Has.sPeers (h : Has w g 32 s.v 115) (x : Sl) : Has (w.setCell ⟨g, 5, none⟩ (x.v)) g 32 (St.v ⟨s.side, s.cap, s.bo, s.bp, s.ours, x, s.loc, s.rem, s.ack, s.ao, s.ap, s.so, s.sp, s.ho, s.hp, s.beh, s.p0, s.p1, s.sig, s.shelf, s.fail, s.closed⟩) 115 :=
  (h.set 5 _).congr _ (fun i hi => by
    unfold upd
    by_cases e : i = 5
    · subst e; rfl
    · rw [if_neg e]
      unfold St.v
      by_cases e2 : i < 5
      · simp only [e2, if_true]
      · first | (exfalso; omega) | simp only [show (i < 1) = False from eq_false (by omega), show (i < 2) = False from eq_false (by omega), show (i < 3) = False from eq_false (by omega), show (i < 4) = False from eq_false (by omega), show (i < 5) = False from eq_false (by omega), show (i < 6) = False from eq_false (by omega), if_false])
theorem Has.sShelf (h : Has w g 32 s.v 115) (x : Sl) : Has (w.setCell ⟨g, 112, none⟩ (x.v)) g 32 (St.v ⟨s.side, s.cap, s.bo, s.bp, s.ours, s.peers, s.loc, s.rem, s.ack, s.ao, s.ap, s.so, s.sp, s.ho, s.hp, s.beh, s.p0, s.p1, s.sig, x, s.fail, s.closed⟩) 115 :=
  (h.set 112 _).congr _ (fun i hi => by
    unfold upd
    by_cases e : i = 112
    · subst e; rfl
    · rw [if_neg e]
      unfold St.v
      by_cases e2 : i < 112
      · simp only [e2, if_true]
      · first | (exfalso; omega) | simp only [show (i < 1) = False from eq_false (by omega), show (i < 2) = False from eq_false (by omega), show (i < 3) = False from eq_false (by omega), show (i < 4) = False from eq_false (by omega), show (i < 5) = False from eq_false (by omega), show (i < 6) = False from eq_false (by omega), show (i < 7) = False from eq_false (by omega), show (i < 8) = False from eq_false (by omega), show (i < 9) = False from eq_false (by omega), show (i < 10) = False from eq_false (by omega), show (i < 11) = False from eq_false (by omega), show (i < 12) = False from eq_false (by omega), show (i < 13) = False from eq_false (by omega), show (i < 14) = False from eq_false (by omega), show (i < 15) = False from eq_false (by omega), show (i < 16) = False from eq_false (by omega), show (i < 48) = False from eq_false (by omega), show (i < 80) = False from eq_false (by omega), show (i < 112) = False from eq_false (by omega), show (i < 113) = False from eq_false (by omega), if_false])
end
theorem infoSQ3 : (Tryz.prog.info? 106).map (fun i => (i.zero, i.size, i.bytes)) = some (some (.agg (tabv Slot.zero.v 34)), 34, 48) := by kernel_rfl
theorem infoSP : ∃ i, Tryz.prog.info? 106 = some i ∧ i.zero = some (.agg (tabv Slot.zero.v 34)) ∧ i.size = 34 ∧ i.bytes = 48 := by
  have h := infoSQ3
  cases hq : Tryz.prog.info? 106 with
  | none => simp [hq] at h
  | some i => simp [hq] at h; exact ⟨i, rfl, h.1, h.2.1, h.2.2⟩
theorem run_slice0S (w : World) : ∃ w', (Instr.buildSlice 30 0 #[]).run Tryz.prog w = .ok (.slice (some ⟨w.heap.size, 0, none⟩) 0 0) w' ∧ OwnS w.heap.size w' (.slice (some ⟨w.heap.size, 0, none⟩) 0 0) [] ∧ Below w.heap.size w w' := by
  obtain ⟨i, h1, h2, h3, h4⟩ := infoSP
  refine ⟨w.alloc (.cells #[] 106), ?_, ⟨rfl, .inr ⟨w.heap.size, 0, #[], rfl, Nat.le_refl _, heap_alloc_new w _, Nat.le_refl _, by decide, rfl, rfl⟩⟩, (Below.refl _ _).alloc (Nat.le_refl _) _⟩
  simp only [Instr.buildSlice, Sem.run_bind, run_underlying Tryz.underlying30, Result.andThen_ok, sizeOf, typeInfo, h1, h3]
  simp [zeroValue, typeInfo, h1, h2, newRow, Instr.fill]
  have e : Array.map (fun (_ : Nat) => (default : Value)) (Array.range 0) = #[] := by first | rfl | (apply Array.ext <;> simp) | (simp [Array.range])
  first | rw [e] | (congr 2)
theorem run_appSS (w : World) (B : Nat) (v : Value) (l news : List Slot) (ad : Option Addr) (cap : Nat) (ty : TypeId) (hown : OwnS B w v l) (hS : Slots w ad news) (hn : ad = none → news = []) (hsz : (l.length + news.length) * 48 ≤ 140737488355328) (hB : B ≤ w.heap.size) :
    ∃ v' w', (Builtin.append_ #[30, 30] ty #[v, .slice ad news.length cap]).run Tryz.prog w = .ok v' w' ∧ OwnS B w' v' (l ++ news) ∧ w.grownBy w' v.ownBlock := by
  obtain ⟨i, h1, h2, h3, h4⟩ := infoSP
  cases ad with
  | none =>
    have := hn rfl
    subst this
    refine ⟨v, w, ?_, by rw [List.append_nil]; exact hown, ⟨rfl, rfl, rfl, Nat.le_refl _, fun _ _ _ => rfl⟩⟩
    obtain ⟨_, ⟨rfl, _⟩ | ⟨g, c, cur, rfl, hb, hg, q1, q2, q3, q4⟩⟩ := hown
    · simp [Builtin.append_, run_underlying Tryz.underlying30, sizeOf, typeInfo, h1, Builtin.lenOf, Builtin.firstCells, storeCells, loadCells, loadCellsFrom]
    · simp [Builtin.append_, run_underlying Tryz.underlying30, sizeOf, typeInfo, h1, Builtin.lenOf, Builtin.firstCells, storeCells, loadCells, loadCellsFrom, q1]
  | some a =>
    obtain ⟨v', w', e1, e2, e3, _⟩ := run_append_own (P := Tryz.prog) w B 30 ty 106 i _ 34 48 Tryz.underlying30 h1 h2 h3 h4 (by rfl) (by omega) v l.length (cellsS l) hown a news.length cap (cellsS news) (cellsS_length news)
      (fun j u hj => by
        have hjl : j < news.length * 34 := by have := (List.getElem?_eq_some_iff.1 hj).1; rw [cellsS_length] at this; exact this
        rcases hS with rfl | ⟨b, o, ha, _, h⟩
        · simp at hjl
        · cases ha
          have hk : j / 34 < news.length := by omega
          have hs : news[j / 34]? = some news[j / 34] := List.getElem?_eq_getElem hk
          have hc := h (j / 34) _ hs (j % 34) (by omega)
          have hg := cellsS_get news (j / 34) _ hs (j % 34) (by omega)
          rw [show j / 34 * 34 + j % 34 = j by omega, hj] at hg
          have hadd : (⟨b, o, none⟩ : Addr).add j = ⟨b, o + j, none⟩ := by unfold Addr.add; split <;> simp_all
          rw [hadd, hg, ← hc, show o + j / 34 * 34 + j % 34 = o + j by omega])
      (oneCell_S _) (by unfold maxLen; omega) hsz hB
    refine ⟨v', w', e1, ?_, e3⟩
    unfold OwnS
    rw [List.length_append, cellsS_append]
    exact e2
end Go.Proofs.YtmmcoedgoekhgaaGreatDoor
/-
  == OF COUNTS, UPDATES, HASHES; parts of a record (picked out of record's texts by mkstate.sh).
-/
namespace Go.Proofs.YtmmcoedgoekhgaaGreatDoor
open Go.RowKit S
set_option linter.unusedVariables false
set_option linter.unusedSimpArgs false
theorem guardC : Tryz.prog.eqGuardType Tryz.prog.depth 29 = false := by kernel_rfl
theorem fieldsC : (Tryz.prog.fieldsOf 29).toList.map (fun f => (f.name, f.type, f.offset)) = [("Ours", 3, 0), ("Peers", 3, 1)] := by kernel_rfl
theorem eqCD (w : World) (a b c d : Int) : (Op.equalIn 10000 29 (.agg (tabv (ctv a b) 2)) (.agg (tabv (ctv c d) 2))).run Tryz.prog w = .ok ((a == c) && (b == d)) w := by
  rw [run_equalIn_struct w 9999 29 _ _ (by kernel_rfl) (by kernel_rfl)]
  have hf := fieldsC
  generalize (Tryz.prog.fieldsOf 29).toList = fs at hf
  rcases fs with _ | ⟨f0, _ | ⟨f1, _ | ⟨f2, fs⟩⟩⟩
  · simp at hf
  · simp at hf
  · simp only [List.map_cons, List.map_nil, List.cons.injEq, Prod.mk.injEq, and_true] at hf
    obtain ⟨⟨n0, t0, o0⟩, n1, t1, o1⟩ := hf
    have p0 : ∀ a b : Int, (part 3 (tabv (ctv a b) 2) 0).run Tryz.prog w = .ok (.int .i64 a) w := fun a b => by simp [part, isAgg, run_underlying Tryz.underlying3, tabv_get _ _ _ (show 0 < 2 by omega), ctv]
    have p1 : ∀ a b : Int, (part 3 (tabv (ctv a b) 2) 1).run Tryz.prog w = .ok (.int .i64 b) w := fun a b => by simp [part, isAgg, run_underlying Tryz.underlying3, tabv_get _ _ _ (show 1 < 2 by omega), ctv]
    have q0 : ∀ a b : Int, (Op.equalIn 9999 3 (.int .i64 a) (.int .i64 b)).run Tryz.prog w = .ok (a == b) w := fun a b => run_equalIn_int w 9998 3 .i64 .i64 _ _ Tryz.underlying3
    have m0 : f0.name ≠ "_" := by rw [n0]; decide
    have m1 : f1.name ≠ "_" := by rw [n1]; decide
    simp only [Op.eqFields, if_pos m0, if_pos m1, t0, t1, o0, o1, Sem.run_bind, p0, q0, Result.andThen_ok]
    cases a == c
    · simp
    · cases hq : b == d <;> simp [p1, q0, hq]
  · simp at hf
theorem run_eqC {o : Oper} {a : Act} (w : World) (x y : Operand) (A B : Array Value) (R : Bool) (ho : o.op = .binOp .eql 29 x y 29) (hx : a.eval x = .agg A) (hy : a.eval y = .agg B)
    (hq : ∀ w : World, (Op.equalIn 10000 29 (.agg A) (.agg B)).run Tryz.prog w = .ok R w) : (execOp a.eval o).run Tryz.prog w = .ok (.value (.bool R)) w := by
  have gh := guardC
  unfold execOp
  simp only [ho, hx, hy]
  go_simp
theorem wpW_eqC {ops : Array Oper} {rest : List Oper} {o : Oper} {a : Act} {w : World} {Q : Exit → Act → World → Prop} (hw : Region.wanted o (yielded ops a.tmps) = true) (x y : Operand) (ho : o.op = .binOp .eql 29 x y 29) (A B : Array Value) (R : Bool) (hx : a.eval x = .agg A) (hy : a.eval y = .agg B)
    (hq : ∀ w : World, (Op.equalIn 10000 29 (.agg A) (.agg B)).run Tryz.prog w = .ok R w) (k : wpList Tryz.prog ops Q rest (a.put o.dst (.bool R)) w) : wpList Tryz.prog ops Q (o :: rest) a w := by
  refine wpList_step fun K hK => ?_
  rw [if_pos hw]
  exact wpRun (run_eqC w x y A B R ho hx hy hq) (hK _ _ k)
theorem run_eqU {o : Oper} {a : Act} (w : World) (x y : Operand) (A B : Array Value) (R : Bool) (ho : o.op = .binOp .eql 34 x y 34) (hx : a.eval x = .agg A) (hy : a.eval y = .agg B)
    (hq : ∀ w : World, (Op.equalIn 10000 34 (.agg A) (.agg B)).run Tryz.prog w = .ok R w) : (execOp a.eval o).run Tryz.prog w = .ok (.value (.bool R)) w := by
  have gh := guardU
  unfold execOp
  simp only [ho, hx, hy]
  go_simp
theorem wpW_eqU {ops : Array Oper} {rest : List Oper} {o : Oper} {a : Act} {w : World} {Q : Exit → Act → World → Prop} (hw : Region.wanted o (yielded ops a.tmps) = true) (x y : Operand) (ho : o.op = .binOp .eql 34 x y 34) (A B : Array Value) (R : Bool) (hx : a.eval x = .agg A) (hy : a.eval y = .agg B)
    (hq : ∀ w : World, (Op.equalIn 10000 34 (.agg A) (.agg B)).run Tryz.prog w = .ok R w) (k : wpList Tryz.prog ops Q rest (a.put o.dst (.bool R)) w) : wpList Tryz.prog ops Q (o :: rest) a w := by
  refine wpList_step fun K hK => ?_
  rw [if_pos hw]
  exact wpRun (run_eqU w x y A B R ho hx hy hq) (hK _ _ k)
theorem Has.atUpd {w : World} {g : Nat} {r : Rc} (h : Has w g 42 r.v 138) : At w g 1 r.upd.v 36 := fun j hj => by rw [h.cell (1 + j) (by omega), Rc.v_upd r j hj]
end Go.Proofs.YtmmcoedgoekhgaaGreatDoor
