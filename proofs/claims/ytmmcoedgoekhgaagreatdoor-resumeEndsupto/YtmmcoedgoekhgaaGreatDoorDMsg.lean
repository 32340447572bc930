import Derived.Test.YtmmcoedgoekhgaaGreatDoorDClone
import Derived.Test.YtmmcoedgoekhgaaGreatDoorPLaw
import Derived.Test.YtmmcoedgoekhgaaGreatDoorLast
import Derived.Maps.AppendAt
import Derived.Deep.CutRange
import Derived.Test.YtmmcoedgoekhgaaGreatDoorGLast
import Derived.Test.YtmmcoedgoekhgaaGreatDoorCText
import Derived.Test.YtmmcoedgoekhgaaGreatDoorCTurn
import Derived.Test.YtmmcoedgoekhgaaGreatDoorECode
/-
  STATES WITH LISTS OF THEIR OWN (picked out of record's texts by mkstate.sh).
-/
namespace Go.Proofs.YtmmcoedgoekhgaaGreatDoor
open Go.RowKit S
set_option linter.unusedVariables false
set_option linter.unusedSimpArgs false
open Cu (nb be hl ofL CW Mw Mr)
def ctv (a b : Int) : Nat → Value := fun i => if i < 1 then .int .i64 a else .int .i64 b
def setSl (s : St) (a b c : Sl) : St := ⟨s.side, s.cap, s.bo, s.bp, a, b, s.loc, s.rem, s.ack, s.ao, s.ap, s.so, s.sp, s.ho, s.hp, s.beh, s.p0, s.p1, s.sig, c, s.fail, s.closed⟩
/-- A state's lists, each in memory of its own, from block B on. -/
structure OS (B : Nat) (w : World) (s : St) (lo lp : List Upd) (ls : List Slot) : Prop where
  o : OwnU B w s.ours.v lo
  p : OwnU B w s.peers.v lp
  f : OwnS B w s.shelf.v ls
  op : ∀ k, s.ours.v.ownBlock = some k → s.peers.v.ownBlock ≠ some k
  os : ∀ k, s.ours.v.ownBlock = some k → s.shelf.v.ownBlock ≠ some k
  ps : ∀ k, s.peers.v.ownBlock = some k → s.shelf.v.ownBlock ≠ some k
section
variable {B : Nat} {w w' : World} {s s' : St} {lo lp : List Upd} {ls : List Slot}
theorem OS.same (h : OS B w s lo lp ls) (ho : ∀ k, s.ours.v.ownBlock = some k → w'.heap[k]? = w.heap[k]?) (hp : ∀ k, s.peers.v.ownBlock = some k → w'.heap[k]? = w.heap[k]?) (hs : ∀ k, s.shelf.v.ownBlock = some k → w'.heap[k]? = w.heap[k]?) : OS B w' s lo lp ls :=
  ⟨h.o.same ho, h.p.same hp, h.f.same hs, h.op, h.os, h.ps⟩
theorem OS.below (h : OS B w s lo lp ls) (hb : Below w.heap.size w w') : OS B w' s lo lp ls :=
  h.same (fun k hk => hb.block k (h.o.lt k hk).2) (fun k hk => hb.block k (h.p.lt k hk).2) (fun k hk => hb.block k (h.f.lt k hk).2)
theorem OS.mono {B' : Nat} (h : OS B w s lo lp ls) (hb : B' ≤ B) : OS B' w s lo lp ls := ⟨h.o.mono hb, h.p.mono hb, h.f.mono hb, h.op, h.os, h.ps⟩
theorem OS.sl (h : OS B w s lo lp ls) (e1 : s'.ours = s.ours) (e2 : s'.peers = s.peers) (e3 : s'.shelf = s.shelf) : OS B w s' lo lp ls := by
  obtain ⟨a, b, c, d, e, f⟩ := h
  exact ⟨by rw [e1]; exact a, by rw [e2]; exact b, by rw [e3]; exact c, by rw [e1, e2]; exact d, by rw [e1, e3]; exact e, by rw [e2, e3]; exact f⟩
theorem OwnU.sl {B : Nat} {w : World} {x : Sl} {l : List Upd} (h : OwnU B w x.v l) : l.length = x.n ∧ Upds w x.ad l ∧ l.length ≤ x.c := by
  obtain ⟨ad, cap, e, h1, h2, h3, h4⟩ := h.upds
  simp only [Sl.v, Value.slice.injEq] at e
  exact ⟨e.2.1.symm, by rw [e.1]; exact h1, by rw [e.2.2]; exact h3⟩
theorem OwnS.sl {B : Nat} {w : World} {x : Sl} {l : List Slot} (h : OwnS B w x.v l) : l.length = x.n ∧ Slots w x.ad l ∧ l.length ≤ x.c := by
  obtain ⟨ad, cap, e, h1, h2, h3, h4⟩ := h.slots
  simp only [Sl.v, Value.slice.injEq] at e
  exact ⟨e.2.1.symm, by rw [e.1]; exact h1, by rw [e.2.2]; exact h3⟩
end
theorem slOf {B : Nat} {w : World} {v : Value} {l : List Upd} (h : OwnU B w v l) : ∃ x : Sl, v = x.v := by
  obtain ⟨ad, cap, e, _⟩ := h.upds
  exact ⟨⟨ad, l.length, cap⟩, e⟩
theorem slOfS {B : Nat} {w : World} {v : Value} {l : List Slot} (h : OwnS B w v l) : ∃ x : Sl, v = x.v := by
  obtain ⟨ad, cap, e, _⟩ := h.slots
  exact ⟨⟨ad, l.length, cap⟩, e⟩
section
variable {w : World} {g : Nat} {s : St}
theorem Has.sOurs (h : Has w g 32 s.v 115) (x : Sl) : Has (w.setCell ⟨g, 4, none⟩ (x.v)) g 32 (St.v ⟨s.side, s.cap, s.bo, s.bp, x, s.peers, s.loc, s.rem, s.ack, s.ao, s.ap, s.so, s.sp, s.ho, s.hp, s.beh, s.p0, s.p1, s.sig, s.shelf, s.fail, s.closed⟩) 115 :=
  (h.set 4 _).congr _ (fun i hi => by
    unfold upd
    by_cases e : i = 4
    · subst e; rfl
    · rw [if_neg e]
      unfold St.v
      by_cases e2 : i < 4
      · simp only [e2, if_true]
      · first | (exfalso; omega) | simp only [show (i < 1) = False from eq_false (by omega), show (i < 2) = False from eq_false (by omega), show (i < 3) = False from eq_false (by omega), show (i < 4) = False from eq_false (by omega), show (i < 5) = False from eq_false (by omega), if_false])
theorem Has.sPeers (h : Has w g 32 s.v 115) (x : Sl) : Has (w.setCell ⟨g, 5, none⟩ (x.v)) g 32 (St.v ⟨s.side, s.cap, s.bo, s.bp, s.ours, x, s.loc, s.rem, s.ack, s.ao, s.ap, s.so, s.sp, s.ho, s.hp, s.beh, s.p0, s.p1, s.sig, s.shelf, s.fail, s.closed⟩) 115 :=
  (h.set 5 _).congr _ (fun i hi => by
    unfold upd
    by_cases e : i = 5
    · subst e; rfl
    · rw [if_neg e]
      unfold St.v
      by_cases e2 : i < 5
      · simp only [e2, if_true]
      · first | (exfalso; omega) | simp only [show (i < 1) = False from eq_false (by omega), show (i < 2) = False from eq_false (by omega), show (i < 3) = False from eq_false (by omega), show (i < 4) = False from eq_false (by omega), show (i < 5) = False from eq_false (by omega), show (i < 6) = False from eq_false (by omega), if_false])
theorem Has.sShelf (h : Has w g 32 s.v 115) (x : Sl) : Has (w.setCell ⟨g, 112, none⟩ (x.v)) g 32 (St.v ⟨s.side, s.cap, s.bo, s.bp, s.ours, s.peers, s.loc, s.rem, s.ack, s.ao, s.ap, s.so, s.sp, s.ho, s.hp, s.beh, s.p0, s.p1, s.sig, x, s.fail, s.closed⟩) 115 :=
  (h.set 112 _).congr _ (fun i hi => by
    unfold upd
    by_cases e : i = 112
    · subst e; rfl
    · rw [if_neg e]
      unfold St.v
      by_cases e2 : i < 112
      · simp only [e2, if_true]
      · first | (exfalso; omega) | simp only [show (i < 1) = False from eq_false (by omega), show (i < 2) = False from eq_false (by omega), show (i < 3) = False from eq_false (by omega), show (i < 4) = False from eq_false (by omega), show (i < 5) = False from eq_false (by omega), show (i < 6) = False from eq_false (by omega), show (i < 7) = False from eq_false (by omega), show (i < 8) = False from eq_false (by omega), show (i < 9) = False from eq_false (by omega), show (i < 10) = False from eq_false (by omega), show (i < 11) = False from eq_false (by omega), show (i < 12) = False from eq_false (by omega), show (i < 13) = False from eq_false (by omega), show (i < 14) = False from eq_false (by omega), show (i < 15) = False from eq_false (by omega), show (i < 16) = False from eq_false (by omega), show (i < 48) = False from eq_false (by omega), show (i < 80) = False from eq_false (by omega), show (i < 112) = False from eq_false (by omega), show (i < 113) = False from eq_false (by omega), if_false])
end
def pv (a b : Nat → UInt8) : Nat → Value := fun i => if i < 32 then .int .u8 ((a i).toNat : Int) else .int .u8 ((b (i - 32)).toNat : Int)
end Go.Proofs.YtmmcoedgoekhgaaGreatDoor
/-
  Offer of the code (printed by gen_d8.py).
-/
namespace Go.Proofs.YtmmcoedgoekhgaaGreatDoor
open Go.RowKit S
set_option linter.unusedVariables false
set_option linter.unusedSimpArgs false
theorem run_buildG {o : Oper} {a : Act} (w : World) (T : TypeId) (ps : Array (Nat × Operand)) (ho : o.op = .build T ps) (vals : List (Nat × Value)) (he : (ps.map fun (i, y) => (i, a.eval y)).toList = vals) (cs : Array Value) (hb : Tryz.prog.built T vals = some cs) : (execOp a.eval o).run Tryz.prog w = .ok (.value (.agg cs)) w := by
  unfold execOp
  simp only [ho, Sem.run_bind, run_build w T _ _ (by rw [he]; exact hb), Result.andThen_ok, Sem.run_pure]
end Go.Proofs.YtmmcoedgoekhgaaGreatDoor
/-
  signedText, ownText of the code: parts (printed by gen_d9.py).
-/
namespace Go.Proofs.YtmmcoedgoekhgaaGreatDoor
open Go.RowKit S
set_option linter.unusedVariables false
set_option linter.unusedSimpArgs false
theorem kasg {o : Oper} {a : Act} (w : World) (x : Operand) (v : Value) (ho : o.op = .assign x) (hx : a.eval x = v) : (execOp a.eval o).run Tryz.prog w = .ok (.value v) w := by
  unfold execOp
  simp only [ho, hx]
  rfl
theorem kext0 {o : Oper} {a : Act} (w : World) (x : Operand) (u v : Value) (ho : o.op = .extract x 0) (hx : a.eval x = .tuple #[u, v]) : (execOp a.eval o).run Tryz.prog w = .ok (.value u) w := by
  unfold execOp
  simp only [ho, hx]
  rfl
theorem kext1 {o : Oper} {a : Act} (w : World) (x : Operand) (u v : Value) (ho : o.op = .extract x 1) (hx : a.eval x = .tuple #[u, v]) : (execOp a.eval o).run Tryz.prog w = .ok (.value v) w := by
  unfold execOp
  simp only [ho, hx]
  rfl
theorem infoLg : (Tryz.prog.info? 143).map (·.size) = some 3 := by kernel_rfl
theorem fold_len (bO bP : Int) (mine others : List Upd) (fO fP : Int) (h1 : mine.length ≤ 1955000000000) (h2 : others.length ≤ 1955000000000) : (foldA bO bP mine others fO fP).l.length ≤ 3910000000000 := by
  have ff : ∀ (a b : List Upd), a.length ≤ 1955000000000 → b.length ≤ 1955000000000 → (foldL a b).length ≤ 3910000000000 := fun a b h1 h2 => by
    unfold foldL
    have e1 := opens_len true b a
    have e2 := opens_len false a b
    rw [List.length_append, sortP_length, sortP_length]
    omega
  unfold foldA
  split
  · simp
  · split
    · simp
    · split
      · simp
      · split
        · simp
        · exact ff _ _ (by rw [List.length_take]; omega) (by rw [List.length_take]; omega)
theorem turn_len (l : List Pen) : (turnP l).length = l.length := by
  unfold turnP
  rw [List.length_append, List.length_map, List.length_map]
  induction l with
  | nil => rfl
  | cons p l ih => cases h : p.ours <;> simp [h] at ih ⊢ <;> omega
theorem newLd (w : World) (x y : Int) (v : Value) : ∃ V1 V2, w.alloc (.cells #[.int .i64 0, .int .i64 0, .slice none 0 0] 143) = V1 ∧ Has V1 w.heap.size 143 (ledv 0 0 (.slice none 0 0)) 3 ∧ V1.setRow w.heap.size (tabv (ledv x y v) 3) = V2 ∧ Has V2 w.heap.size 143 (ledv x y v) 3 ∧ Below w.heap.size w V2 := by
  have q1 : Has (w.alloc (.cells #[.int .i64 0, .int .i64 0, .slice none 0 0] 143)) w.heap.size 143 (ledv 0 0 (.slice none 0 0)) 3 := Has.new w _ _ 3 _ rfl
  have b1 : Below w.heap.size w (w.alloc (.cells #[.int .i64 0, .int .i64 0, .slice none 0 0] 143)) := (Below.refl w.heap.size w).alloc (Nat.le_refl _) _
  exact ⟨_, _, rfl, q1, rfl, q1.row _ _ rfl, below_setRow b1 (Nat.le_refl _) _⟩
theorem newHs (w : World) (h : Nat → UInt8) : ∃ V1 V2, w.alloc (.cells (tabv (fun _ => (.int .u8 0 : Value)) 32) 23) = V1 ∧ Has V1 w.heap.size 23 (fun _ => .int .u8 0) 32 ∧ V1.setRow w.heap.size (tabv (bv h) 32) = V2 ∧ Has V2 w.heap.size 23 (bv h) 32 ∧ Below w.heap.size w V2 := by
  have q1 : Has (w.alloc (.cells (tabv (fun _ => (.int .u8 0 : Value)) 32) 23)) w.heap.size 23 (fun _ => .int .u8 0) 32 := Has.new w _ _ 32 _ rfl
  have b1 : Below w.heap.size w (w.alloc (.cells (tabv (fun _ => (.int .u8 0 : Value)) 32) 23)) := (Below.refl w.heap.size w).alloc (Nat.le_refl _) _
  exact ⟨_, _, rfl, q1, rfl, q1.row _ _ rfl, below_setRow b1 (Nat.le_refl _) _⟩
theorem wpList_storeHs {ops : Array Oper} {rest : List Oper} {o : Oper} {a : Act} {w : World} {Q : Exit → Act → World → Prop} (hgd : o.guard = none) (x y : Operand) (ho : o.op = .store 23 x y) (hd : o.dst = none) (g : Nat) (s : Nat → UInt8) (hx : a.eval x = .pointer (some ⟨g, 0, none⟩)) (hy : a.eval y = .agg (tabv (bv s) 32)) (f : Nat → Value) (hg : Has w g 23 f 32)
    (hk : wpList Tryz.prog ops Q rest a (w.setRow g (tabv (bv s) 32))) : wpList Tryz.prog ops Q (o :: rest) a w :=
  wpList_store_part hgd 23 x y ho hd g 0 (bv s) 32 hx hy 23 f 32 hg (by omega) info26 (fun i _ => rfl) (bv s) (fun i hi => by unfold splice; rw [if_pos (by omega), Nat.sub_zero]) hk
/-- What a text's call answers: no ledger, no text; else commit's. -/
structure TX (F : FA) (oo nn : Int) (h : Nat → UInt8) (x y : Int) (l : List Pen) (b : ByteArray) (c : Int) : Prop where
  no : F.e ≠ 0 → b = nilB ∧ c = F.e
  yes : F.e = 0 → TA oo nn h x y l b c
end Go.Proofs.YtmmcoedgoekhgaaGreatDoor
/-
  MESSAGES (picked out of msg's texts by mkmsg.sh).
-/
namespace Go.Proofs.YtmmcoedgoekhgaaGreatDoor
open Go.RowKit S
set_option linter.unusedVariables false
set_option linter.unusedSimpArgs false
structure Msg where
  kind : Int
  id : Int
  amt : Int
  idx : Int
  nxt : Int
  hash : Nat → UInt8
  sec : Nat → UInt8
  note : ByteArray
def z32 : Nat → UInt8 := fun _ => 0
def Msg.v (s : Msg) : Nat → Value := fun i => if i = 0 then .int .i64 s.kind else if i = 1 then .int .i64 s.id else if i = 2 then .int .i64 s.amt else if i = 3 then .int .i64 s.idx else if i = 4 then .int .i64 s.nxt else if i < 37 then .int .u8 ((s.hash (i - 5)).toNat : Int) else if i < 69 then .int .u8 ((s.sec (i - 37)).toNat : Int) else .string s.note
def Msg.zero : Msg := ⟨0, 0, 0, 0, 0, z32, z32, nilB⟩
theorem Msg.v_kind (s : Msg) : s.v 0 = .int .i64 s.kind := rfl
theorem Msg.v_id (s : Msg) : s.v 1 = .int .i64 s.id := rfl
theorem Msg.v_amt (s : Msg) : s.v 2 = .int .i64 s.amt := rfl
theorem Msg.v_idx (s : Msg) : s.v 3 = .int .i64 s.idx := rfl
theorem Msg.v_nxt (s : Msg) : s.v 4 = .int .i64 s.nxt := rfl
theorem Msg.v_note (s : Msg) : s.v 69 = .string s.note := rfl
theorem Msg.v_hash (s : Msg) (i : Nat) (hi : i < 32) : s.v (5 + i) = bv s.hash i := by
  unfold Msg.v bv
  rw [if_neg (by omega), if_neg (by omega), if_neg (by omega), if_neg (by omega), if_neg (by omega), if_pos (by omega), show 5 + i - 5 = i by omega]
theorem Msg.v_sec (s : Msg) (i : Nat) (hi : i < 32) : s.v (37 + i) = bv s.sec i := by
  unfold Msg.v bv
  rw [if_neg (by omega), if_neg (by omega), if_neg (by omega), if_neg (by omega), if_neg (by omega), if_neg (by omega), if_pos (by omega), show 37 + i - 37 = i by omega]
theorem oneM (s : Msg) (i : Nat) : (s.v i).oneCell' = true := by
  unfold Msg.v
  repeat' split
  all_goals rfl
theorem infoM : (Tryz.prog.info? 36).map (·.size) = some 70 := by kernel_rfl
def eqM (s t : Msg) : Bool := (s.kind == t.kind) && ((s.id == t.id) && ((s.amt == t.amt) && ((s.idx == t.idx) && ((s.nxt == t.nxt) && (eqH s.hash t.hash && (eqH s.sec t.sec && (s.note.toList == t.note.toList)))))))
theorem eqM_refl (s : Msg) : eqM s s = true := by unfold eqM; rw [eqH_refl, eqH_refl]; simp
theorem fieldsMsg : (Tryz.prog.fieldsOf 36).toList.map (fun f => (f.name, f.type, f.offset)) = [("Kind", 3, 0), ("ID", 2, 1), ("Amount", 2, 2), ("Index", 2, 3), ("Next", 2, 4), ("Hash", 23, 5), ("Secret", 23, 37), ("Note", 9, 69)] := by kernel_rfl
theorem partHash_M (w : World) (s : Msg) : (part 23 (tabv s.v 70) 5).run Tryz.prog w = .ok (.agg (tabv (bv s.hash) 32)) w := by
  have hi : (Tryz.prog.info? 23).map (·.size) = some 32 := by kernel_rfl
  cases hq : Tryz.prog.info? 23 with
  | none => simp [hq] at hi
  | some i =>
    have hs : i.size = 32 := by simpa [hq] using hi
    have e : (tabv s.v 70).extract 5 37 = tabv (bv s.hash) 32 := by
      refine tabv_ext _ _ _ (by simp [tabv_size]) fun i hi => ?_
      rw [Array.getElem?_extract, tabv_get _ _ _ (by omega)]
      simp only [tabv_size]
      rw [if_pos (by omega), Msg.v_hash s i hi]
    simp [part, isAgg, run_underlying Tryz.underlying23, sizeOf, typeInfo, hq, hs, e]
theorem partSec_M (w : World) (s : Msg) : (part 23 (tabv s.v 70) 37).run Tryz.prog w = .ok (.agg (tabv (bv s.sec) 32)) w := by
  have hi : (Tryz.prog.info? 23).map (·.size) = some 32 := by kernel_rfl
  cases hq : Tryz.prog.info? 23 with
  | none => simp [hq] at hi
  | some i =>
    have hs : i.size = 32 := by simpa [hq] using hi
    have e : (tabv s.v 70).extract 37 69 = tabv (bv s.sec) 32 := by
      refine tabv_ext _ _ _ (by simp [tabv_size]) fun i hi => ?_
      rw [Array.getElem?_extract, tabv_get _ _ _ (by omega)]
      simp only [tabv_size]
      rw [if_pos (by omega), Msg.v_sec s i hi]
    simp [part, isAgg, run_underlying Tryz.underlying23, sizeOf, typeInfo, hq, hs, e]
set_option maxRecDepth 100000 in
set_option maxHeartbeats 4000000 in
theorem eqMD (w : World) (s t : Msg) : (Op.equalIn 10000 36 (.agg (tabv s.v 70)) (.agg (tabv t.v 70))).run Tryz.prog w = .ok (eqM s t) w := by
  rw [run_equalIn_struct w 9999 36 _ _ (by kernel_rfl) (by kernel_rfl)]
  have hf := fieldsMsg
  generalize (Tryz.prog.fieldsOf 36).toList = fs at hf
  rcases fs with _ | ⟨f0, _ | ⟨f1, _ | ⟨f2, _ | ⟨f3, _ | ⟨f4, _ | ⟨f5, _ | ⟨f6, _ | ⟨f7, _ | ⟨f8, fs⟩⟩⟩⟩⟩⟩⟩⟩⟩
  · simp at hf
  · simp at hf
  · simp at hf
  · simp at hf
  · simp at hf
  · simp at hf
  · simp at hf
  · simp at hf
  · simp only [List.map_cons, List.map_nil, List.cons.injEq, Prod.mk.injEq, and_true] at hf
    obtain ⟨⟨n0, t0, o0⟩, ⟨n1, t1, o1⟩, ⟨n2, t2, o2⟩, ⟨n3, t3, o3⟩, ⟨n4, t4, o4⟩, ⟨n5, t5, o5⟩, ⟨n6, t6, o6⟩, n7, t7, o7⟩ := hf
    have p0 : ∀ s : Msg, (part 3 (tabv s.v 70) 0).run Tryz.prog w = .ok (.int .i64 s.kind) w := fun s => by simp [part, isAgg, run_underlying Tryz.underlying3, tabv_get _ _ _ (show 0 < 70 by omega), Msg.v_kind]
    have p1 : ∀ s : Msg, (part 2 (tabv s.v 70) 1).run Tryz.prog w = .ok (.int .i64 s.id) w := fun s => by simp [part, isAgg, run_underlying Tryz.underlying2, tabv_get _ _ _ (show 1 < 70 by omega), Msg.v_id]
    have p2 : ∀ s : Msg, (part 2 (tabv s.v 70) 2).run Tryz.prog w = .ok (.int .i64 s.amt) w := fun s => by simp [part, isAgg, run_underlying Tryz.underlying2, tabv_get _ _ _ (show 2 < 70 by omega), Msg.v_amt]
    have p3 : ∀ s : Msg, (part 2 (tabv s.v 70) 3).run Tryz.prog w = .ok (.int .i64 s.idx) w := fun s => by simp [part, isAgg, run_underlying Tryz.underlying2, tabv_get _ _ _ (show 3 < 70 by omega), Msg.v_idx]
    have p4 : ∀ s : Msg, (part 2 (tabv s.v 70) 4).run Tryz.prog w = .ok (.int .i64 s.nxt) w := fun s => by simp [part, isAgg, run_underlying Tryz.underlying2, tabv_get _ _ _ (show 4 < 70 by omega), Msg.v_nxt]
    have p7 : ∀ s : Msg, (part 9 (tabv s.v 70) 69).run Tryz.prog w = .ok (.string s.note) w := fun s => by simp [part, isAgg, run_underlying Tryz.underlying9, tabv_get _ _ _ (show 69 < 70 by omega), Msg.v_note]
    have q0 : (Op.equalIn 9999 3 (.int .i64 s.kind) (.int .i64 t.kind)).run Tryz.prog w = .ok (s.kind == t.kind) w := run_equalIn_int w 9998 3 .i64 .i64 _ _ Tryz.underlying3
    have q1 : (Op.equalIn 9999 2 (.int .i64 s.id) (.int .i64 t.id)).run Tryz.prog w = .ok (s.id == t.id) w := run_equalIn_int w 9998 2 .i64 .i64 _ _ Tryz.underlying2
    have q2 : (Op.equalIn 9999 2 (.int .i64 s.amt) (.int .i64 t.amt)).run Tryz.prog w = .ok (s.amt == t.amt) w := run_equalIn_int w 9998 2 .i64 .i64 _ _ Tryz.underlying2
    have q3 : (Op.equalIn 9999 2 (.int .i64 s.idx) (.int .i64 t.idx)).run Tryz.prog w = .ok (s.idx == t.idx) w := run_equalIn_int w 9998 2 .i64 .i64 _ _ Tryz.underlying2
    have q4 : (Op.equalIn 9999 2 (.int .i64 s.nxt) (.int .i64 t.nxt)).run Tryz.prog w = .ok (s.nxt == t.nxt) w := run_equalIn_int w 9998 2 .i64 .i64 _ _ Tryz.underlying2
    have q5 : (Op.equalIn 9999 23 (.agg (tabv (bv s.hash) 32)) (.agg (tabv (bv t.hash) 32))).run Tryz.prog w = .ok (eqH s.hash t.hash) w := eqHD 9997 w _ _
    have q6 : (Op.equalIn 9999 23 (.agg (tabv (bv s.sec) 32)) (.agg (tabv (bv t.sec) 32))).run Tryz.prog w = .ok (eqH s.sec t.sec) w := eqHD 9997 w _ _
    have q7 : (Op.equalIn 9999 9 (.string s.note) (.string t.note)).run Tryz.prog w = .ok (s.note.toList == t.note.toList) w := run_equalIn_string _ 9998 9 _ _ Tryz.underlying9
    have m0 : f0.name ≠ "_" := by rw [n0]; decide
    have m1 : f1.name ≠ "_" := by rw [n1]; decide
    have m2 : f2.name ≠ "_" := by rw [n2]; decide
    have m3 : f3.name ≠ "_" := by rw [n3]; decide
    have m4 : f4.name ≠ "_" := by rw [n4]; decide
    have m5 : f5.name ≠ "_" := by rw [n5]; decide
    have m6 : f6.name ≠ "_" := by rw [n6]; decide
    have m7 : f7.name ≠ "_" := by rw [n7]; decide
    simp only [Op.eqFields, if_pos m0, if_pos m1, if_pos m2, if_pos m3, if_pos m4, if_pos m5, if_pos m6, if_pos m7, t0, t1, t2, t3, t4, t5, t6, t7, o0, o1, o2, o3, o4, o5, o6, o7, Sem.run_bind, p0, p1, p2, p3, p4, p7, partHash_M, partSec_M, q0, q1, q2, q3, q4, q5, q6, q7, Result.andThen_ok]
    unfold eqM
    generalize (s.kind == t.kind) = b0 at *
    generalize (s.id == t.id) = b1 at *
    generalize (s.amt == t.amt) = b2 at *
    generalize (s.idx == t.idx) = b3 at *
    generalize (s.nxt == t.nxt) = b4 at *
    generalize eqH s.hash t.hash = b5 at *
    generalize eqH s.sec t.sec = b6 at *
    generalize (s.note.toList == t.note.toList) = b7 at *
    cases b0
    · simp
    cases b1
    · simp [p1, q1]
    cases b2
    · simp [p1, p2, q1, q2]
    cases b3
    · simp [p1, p2, p3, q1, q2, q3]
    cases b4
    · simp [p1, p2, p3, p4, q1, q2, q3, q4]
    cases b5
    · simp [p1, p2, p3, p4, q1, q2, q3, q4, partHash_M, q5]
    cases b6
    · simp [p1, p2, p3, p4, q1, q2, q3, q4, partHash_M, q5, partSec_M, q6]
    cases b7 <;> simp [p1, p2, p3, p4, q1, q2, q3, q4, partHash_M, q5, partSec_M, q6, p7, q7]
  · simp at hf
theorem guardM : Tryz.prog.eqGuardType Tryz.prog.depth 36 = false := by kernel_rfl
section
variable {ops : Array Oper} {rest : List Oper} {o : Oper} {a : Act} {w : World} {Q : Exit → Act → World → Prop}
theorem wpList_storeM (hgd : o.guard = none) (x y : Operand) (ho : o.op = .store 36 x y) (hd : o.dst = none) (g : Nat) (s : Msg) (hx : a.eval x = .pointer (some ⟨g, 0, none⟩)) (hy : a.eval y = .agg (tabv s.v 70)) (f : Nat → Value) (hg : Has w g 36 f 70)
    (hk : wpList Tryz.prog ops Q rest a (w.setRow g (tabv s.v 70))) : wpList Tryz.prog ops Q (o :: rest) a w :=
  wpList_store_part hgd 36 x y ho hd g 0 s.v 70 hx hy 36 f 70 hg (by omega) infoM (fun i _ => oneM s i) s.v (fun i hi => by unfold splice; rw [if_pos (by omega), Nat.sub_zero]) hk
end
theorem zero70 : Tryz.zeroCells36 = tabv Msg.zero.v 70 := by kernel_rfl
/-- A new variable that takes a message. -/
theorem newM (w5 : World) (s : Msg) : ∃ w6 w7, w5.alloc (.cells Tryz.zeroCells36 36) = w6 ∧ Has w6 w5.heap.size 36 Msg.zero.v 70 ∧ w6.setRow w5.heap.size (tabv s.v 70) = w7 ∧ Has w7 w5.heap.size 36 s.v 70 ∧ Below w5.heap.size w5 w7 ∧ Below w5.heap.size w5 w6 := by
  have q1 : Has (w5.alloc (.cells (tabv Msg.zero.v 70) 36)) w5.heap.size 36 Msg.zero.v 70 := Has.new w5 36 Msg.zero.v 70 _ rfl
  have b1 : Below w5.heap.size w5 (w5.alloc (.cells (tabv Msg.zero.v 70) 36)) := (Below.refl w5.heap.size w5).alloc (Nat.le_refl _) _
  exact ⟨_, _, by rw [zero70], q1, rfl, q1.row _ s.v rfl, below_setRow b1 (Nat.le_refl _) _, b1⟩
end Go.Proofs.YtmmcoedgoekhgaaGreatDoor
