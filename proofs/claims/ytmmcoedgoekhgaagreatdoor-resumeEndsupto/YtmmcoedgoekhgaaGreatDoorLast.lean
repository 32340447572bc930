import Derived.Test.YtmmcoedgoekhgaaGreatDoorUValid
import Derived.Laws.AppendOwn
import Derived.BigQuiet
import Derived.Deep.RegionHeld3
/-
  The Add with an ID, the removal of an ID, how many Adds (printed by gen_lists.py).
-/
namespace Go.Proofs.YtmmcoedgoekhgaaGreatDoor
set_option maxRecDepth 20000
open Go.RowKit S
set_option linter.unusedVariables false
set_option linter.unusedSimpArgs false
theorem oneV (s : Upd) (i : Nat) : (s.v i).oneCell' = true := by
  unfold Upd.v
  repeat' split
  all_goals rfl
section
variable {ops : Array Oper} {rest : List Oper} {o : Oper} {a : Act} {w : World} {Q : Exit → Act → World → Prop}
theorem wpList_storeU (hgd : o.guard = none) (x y : Operand) (ho : o.op = .store 34 x y) (hd : o.dst = none) (g : Nat) (s : Upd) (hx : a.eval x = .pointer (some ⟨g, 0, none⟩)) (hy : a.eval y = .agg (tabv s.v 36)) (f : Nat → Value) (hg : Has w g 34 f 36)
    (hk : wpList Tryz.prog ops Q rest a (w.setRow g (tabv s.v 36))) : wpList Tryz.prog ops Q (o :: rest) a w :=
  wpList_store_part hgd 34 x y ho hd g 0 s.v 36 hx hy 34 f 36 hg (by omega) infoU (fun i _ => oneV s i) s.v (fun i hi => by unfold splice; rw [if_pos (by omega), Nat.sub_zero]) hk
end
section
variable {p : Upd → Bool} {l : List Upd} {j : Nat} {x : Upd}
theorem take_snoc (hx : l[j]? = some x) : l.take (j + 1) = l.take j ++ [x] := by
  obtain ⟨h, rfl⟩ := List.getElem?_eq_some_iff.1 hx
  exact List.take_succ_eq_append_getElem h
end
end Go.Proofs.YtmmcoedgoekhgaaGreatDoor
/-
  Next, the code's and the document's (printed by gen_next.py).
-/
namespace Go.Proofs.YtmmcoedgoekhgaaGreatDoor
set_option maxRecDepth 20000
open Go.RowKit S
set_option linter.unusedVariables false
set_option linter.unusedSimpArgs false
def listOf (h : Nat → UInt8) : List UInt8 := (List.range 32).map h
theorem skH {P : Program} {ops : Array Oper} {Q : Exit → Act → World → Prop} {md : Region.Mode} {S : World → Prop} (i : Nat) (d : Option Tmp) {oi : Oper} {fuel : Nat} {listed : Array Bool} {a : Act} {w : World} (hi : ops[i]? = some oi)
    (hS : S w) (h : wpAnyH P md ops Q S fuel (listed.setIfInBounds i true) (a.put d undef) w) (hd : oi.dst = d := by rfl)
    (hs : Region.noSelect ops = true := by kernel_rfl) (hf : Region.free md ops listed i = true := by kernel_rfl) (hr : (Region.ready md ops listed).contains i = true := by kernel_rfl)
    (hQ : ∀ c a w, Q (.panic c) (a.put oi.dst undef) w → Q (.panic c) a w := by exact fun _ _ _ h => h) (hw : Region.wanted oi (yielded ops a.tmps) = false := by rfl) : wpAnyH P md ops Q S (fuel + 1) listed a w :=
  wpAnyH_take hi hs hf hr hQ (.inr ⟨hw, rfl⟩) hS (by rw [hd]; exact h)
theorem run_eqH {o : Oper} {a : Act} (w : World) (x y : Operand) (A B : Array Value) (R : Bool) (ho : o.op = .binOp .eql 23 x y 23) (hx : a.eval x = .agg A) (hy : a.eval y = .agg B)
    (hq : (Op.equalIn 10000 23 (.agg A) (.agg B)).run Tryz.prog w = .ok R w) : (execOp a.eval o).run Tryz.prog w = .ok (.value (.bool R)) w := by
  have gh := guard26
  unfold execOp
  simp only [ho, hx, hy]
  go_simp
theorem run_neH {o : Oper} {a : Act} (w : World) (x y : Operand) (A B : Array Value) (R : Bool) (ho : o.op = .binOp .neq 23 x y 23) (hx : a.eval x = .agg A) (hy : a.eval y = .agg B)
    (hq : (Op.equalIn 10000 23 (.agg A) (.agg B)).run Tryz.prog w = .ok R w) : (execOp a.eval o).run Tryz.prog w = .ok (.value (.bool (!R))) w := by
  have gh := guard26
  unfold execOp
  simp only [ho, hx, hy]
  go_simp
/-- A new variable that takes an update. -/
theorem newU (w5 : World) (s : Upd) : ∃ w6 w7, w5.alloc (.cells #[.int .i64 0, .int .i64 0, .int .i64 0, .int .u8 0, .int .u8 0, .int .u8 0, .int .u8 0, .int .u8 0, .int .u8 0, .int .u8 0, .int .u8 0, .int .u8 0, .int .u8 0, .int .u8 0, .int .u8 0, .int .u8 0, .int .u8 0, .int .u8 0, .int .u8 0, .int .u8 0, .int .u8 0, .int .u8 0, .int .u8 0, .int .u8 0, .int .u8 0, .int .u8 0, .int .u8 0, .int .u8 0, .int .u8 0, .int .u8 0, .int .u8 0, .int .u8 0, .int .u8 0, .int .u8 0, .int .u8 0, .string { data := #[] }] 34) = w6 ∧ Has w6 w5.heap.size 34 Upd.zero.v 36 ∧ w6.setRow w5.heap.size (tabv s.v 36) = w7 ∧ Has w7 w5.heap.size 34 s.v 36 ∧ Below w5.heap.size w5 w7 := by
  have q1 : Has (w5.alloc (.cells (tabv Upd.zero.v 36) 34)) w5.heap.size 34 Upd.zero.v 36 := Has.new w5 34 Upd.zero.v 36 _ rfl
  exact ⟨_, _, by rw [zero36], q1, rfl, q1.row _ s.v rfl, below_setRow ((Below.refl w5.heap.size w5).alloc (Nat.le_refl _) _) (Nat.le_refl _) _⟩
end Go.Proofs.YtmmcoedgoekhgaaGreatDoor
/-
  Write of the code (printed by gen_write.py).
-/
namespace Go.Proofs.YtmmcoedgoekhgaaGreatDoor
set_option maxRecDepth 20000
open Go.RowKit S
set_option linter.unusedVariables false
set_option linter.unusedSimpArgs false
open Cu (nb hl ofL CW Mw Mr)
theorem Has.mw {w w' : World} {g p m : Nat} {t : TypeId} {f : Nat → Value} {v v' : Value} {s : Option (List UInt8)} (h : Has w g t f m) (hM : Mw p w v w' v') (hg : g < p) (hC : CW w p v s) : Has w' g t f m := by
  unfold Has
  rw [hM.block g h.lt (by omega) (fun e => by have := hC.own g e; omega)]
  exact h
theorem below_mw {B p : Nat} {w0 w w' : World} {v v' : Value} {s : Option (List UInt8)} (hb : Below B w0 w) (hM : Mw p w v w' v') (hp : B ≤ p) (hB : B ≤ w.heap.size) (hC : CW w p v s) : Below B w0 w' :=
  hb.trans (hM.below hp hB (fun k hk => by have := hC.own k hk; omega))
theorem Has.mr {w w' : World} {g p m : Nat} {t : TypeId} {f : Nat → Value} (h : Has w g t f m) (hM : Mr p w w') (hg : g ≠ p) : Has w' g t f m := by
  unfold Has; rw [hM.block g h.lt hg]; exact h
-- left out in this seat: wr_add
-- left out in this seat: wr_ful
-- left out in this seat: wr_fail
-- left out in this seat: wr_no
end Go.Proofs.YtmmcoedgoekhgaaGreatDoor
/-
  Read of the code (printed by gen_read.py).
-/
namespace Go.Proofs.YtmmcoedgoekhgaaGreatDoor
set_option maxRecDepth 20000
open Go.RowKit S
set_option linter.unusedVariables false
set_option linter.unusedSimpArgs false
open Cu (nb hl ofL CW Mw Mr RS takeS takeA hOf textA textS)
section
variable {w : World} {g : Nat} {u : Upd}
end
section
variable {ops : Array Oper} {rest : List Oper} {o : Oper} {a : Act} {w : World} {Q : Exit → Act → World → Prop}
end
end Go.Proofs.YtmmcoedgoekhgaaGreatDoor
/-
  Rows of updates, grown by append; literals.
-/
namespace Go.Proofs.YtmmcoedgoekhgaaGreatDoor
set_option maxRecDepth 20000
open Go.RowKit S
set_option linter.unusedVariables false
set_option linter.unusedSimpArgs false
set_option maxRecDepth 100000 in
theorem run_sliceU (w : World) (s : Upd) : (Instr.buildSlice 27 1 #[(0, .agg (tabv s.v 36))]).run Tryz.prog w = .ok (.slice (some ⟨w.heap.size, 0, none⟩) 1 1) (w.alloc (.cells (tabv s.v 36) 34)) := by
  obtain ⟨i, h1, h2, h3, h4⟩ := infoUP
  have e : Instr.fill (fun i => some (i * 36, 36)) ((Array.range 36).map ((tabv Upd.zero.v 36)[· % 36]!)) [(0, .agg (tabv s.v 36))] = some (tabv s.v 36) := by kernel_rfl
  have ez : (Value.agg (tabv Upd.zero.v 36)).cells = tabv Upd.zero.v 36 := rfl
  simp only [Instr.buildSlice, Sem.run_bind, run_underlying Tryz.underlying27, Result.andThen_ok, sizeOf, typeInfo, h1, h3]
  simp [zeroValue, typeInfo, h1, h2, ez, tabv_size]
  rw [h3, if_neg (by omega), if_neg (by omega), e]
  simp [newRow]
theorem grown_all {w w' : World} {o : Obj} {r : Option Nat} {B : Nat} (h : (w.alloc o).grownBy w' r) (hr : ∀ k, r = some k → B ≤ k) (hB : B ≤ w.heap.size) : (∀ g, g < w.heap.size → r ≠ some g → w'.heap[g]? = w.heap[g]?) ∧ Below B w w' := by
  have h1 : ∀ g, g < w.heap.size → r ≠ some g → w'.heap[g]? = w.heap[g]? := fun g hg hne => by
    rw [h.block g (by rw [size_alloc]; omega) (fun e => hne e.symm)]
    exact heap_alloc_old w o hg
  refine ⟨h1, ⟨h.os, h.tape, h.output, Nat.le_trans (by rw [size_alloc]; omega) h.size, fun k hk => h1 k (by omega) (fun e => by have := hr k e; omega)⟩⟩
theorem wpRun {P : Program} {o : Oper} {a : Act} {w w' : World} {next : Act → World → Prop} {Q : Exit → Act → World → Prop} {v : Value} (h : (execOp a.eval o).run P w = .ok (.value v) w') (k : next (a.put o.dst v) w') : Oper.wp P o a w next Q := by
  unfold Oper.wp; rw [h]; exact k
theorem wpList_app {P : Program} {ops : Array Oper} {rest : List Oper} {o : Oper} {a : Act} {w w' : World} {Q : Exit → Act → World → Prop} {v : Value} (hg : o.guard = none) (s x : Operand) (tys : Array TypeId) (ho : o.op = .call { callee := .builtin .append, args := #[s, x], argTypes := tys }) (h : (Builtin.append_ tys o.type #[a.eval s, a.eval x]).run P w = .ok v w') (k : wpList P ops Q rest (a.put o.dst v) w') : wpList P ops Q (o :: rest) a w :=
  wpList_plain hg fun K hK => wpRun (by simp [execOp, ho, resolve, invoke, builtin, h, Result.andThen]) (hK _ _ k)
theorem wpList_slice1 {P : Program} {ops : Array Oper} {rest : List Oper} {o : Oper} {a : Act} {w w' : World} {Q : Exit → Act → World → Prop} {v : Value} (hg : o.guard = none) (T : TypeId) (x : Operand) (ho : o.op = .buildSlice T 1 #[(0, x)]) (y : Value) (hy : a.eval x = y) (h : (Instr.buildSlice T 1 #[(0, y)]).run P w = .ok v w') (k : wpList P ops Q rest (a.put o.dst v) w') : wpList P ops Q (o :: rest) a w :=
  wpList_plain hg fun K hK => wpRun (by simp [execOp, ho, hy, h, Result.andThen]) (hK _ _ k)
theorem run_app_all (w : World) (ad : Option Addr) (cap : Nat) (l : List Upd) (hS : Upds w ad l) (hz : l.length * 72 ≤ 140737488355328) :
    ∃ v' w', (Builtin.append_ #[27, 27] 27 #[.slice none 0 0, .slice ad l.length cap]).run Tryz.prog w = .ok v' w' ∧ OwnU w.heap.size w' v' l ∧ Below w.heap.size w w' := by
  obtain ⟨i, h1, h2, h3, h4⟩ := infoUP
  cases ad with
  | none =>
    have hl : l = [] := by
      rcases hS with rfl | ⟨b, o, h, _⟩
      · rfl
      · cases h
    subst hl
    refine ⟨.slice none 0 0, w, ?_, OwnU.nil _ _, Below.refl _ _⟩
    simp [Builtin.append_, run_underlying Tryz.underlying27, sizeOf, typeInfo, h1, Builtin.lenOf, Builtin.firstCells, storeCells, loadCells, loadCellsFrom]
  | some a =>
    obtain ⟨v', w', e1, e2, e3, _⟩ := run_append_own (P := Tryz.prog) w w.heap.size 27 27 34 i _ 36 72 Tryz.underlying27 h1 h2 h3 h4 (by rfl) (by omega) (.slice none 0 0) 0 [] (World.ownsRow_nil w _ _ _) a l.length cap (cellsU l) (cellsU_length l)
      (fun j u hj => by
        have hjl : j < l.length * 36 := by have := (List.getElem?_eq_some_iff.1 hj).1; rw [cellsU_length] at this; exact this
        rcases hS with rfl | ⟨b, o, ha, _, h⟩
        · simp at hjl
        · cases ha
          have hk : j / 36 < l.length := by omega
          have hs : l[j / 36]? = some l[j / 36] := List.getElem?_eq_getElem hk
          have hc := h (j / 36) _ hs (j % 36) (by omega)
          have hg := cellsU_get l (j / 36) _ hs (j % 36) (by omega)
          rw [show j / 36 * 36 + j % 36 = j by omega, hj] at hg
          have hadd : (⟨b, o, none⟩ : Addr).add j = ⟨b, o + j, none⟩ := by unfold Addr.add; split <;> simp_all
          rw [hadd, hg, ← hc, show o + j / 36 * 36 + j % 36 = o + j by omega])
      (oneCell_U _) (by unfold maxLen; omega) (by omega) (Nat.le_refl _)
    refine ⟨v', w', e1, ?_, ⟨e3.os, e3.tape, e3.output, e3.size, fun k hk => e3.block k hk (by simp [Value.ownBlock])⟩⟩
    unfold OwnU
    rw [Nat.zero_add, List.nil_append] at e2
    exact e2
theorem upds_one (w : World) (s : Upd) : Upds (w.alloc (.cells (tabv s.v 36) 34)) (some ⟨w.heap.size, 0, none⟩) [s] := .inr ⟨w.heap.size, 0, rfl, by simp, fun i u hu => by
  have hi : i = 0 := by have := (List.getElem?_eq_some_iff.1 hu).1; simp at this; exact this
  subst hi
  simp only [List.getElem?_cons_zero, Option.some.injEq] at hu
  subst hu
  have h := Has.new w 34 s.v 36 _ rfl
  intro j hj
  rw [show 0 + 0 * 36 + j = j by omega]
  exact h.cell j hj⟩
section
variable {ops : Array Oper} {rest : List Oper} {o : Oper} {a : Act} {w w' : World} {Q : Exit → Act → World → Prop}
theorem wpW_slice1 {P : Program} {v : Value} (hw : Region.wanted o (yielded ops a.tmps) = true) (T : TypeId) (x : Operand) (ho : o.op = .buildSlice T 1 #[(0, x)]) (y : Value) (hy : a.eval x = y) (h : (Instr.buildSlice T 1 #[(0, y)]).run P w = .ok v w') (k : wpList P ops Q rest (a.put o.dst v) w') : wpList P ops Q (o :: rest) a w := by
  refine wpList_step fun K hK => ?_
  rw [if_pos hw]
  exact wpRun (by simp [execOp, ho, hy, h, Result.andThen]) (hK _ _ k)
theorem wpW_build (hw : Region.wanted o (yielded ops a.tmps) = true) (T : TypeId) (ps : Array (Nat × Operand)) (ho : o.op = .build T ps) (vals : List (Nat × Value)) (he : (ps.map fun (i, y) => (i, a.eval y)).toList = vals) (cs : Array Value) (hb : Tryz.prog.built T vals = some cs)
    (hk : wpList Tryz.prog ops Q rest (a.put o.dst (.agg cs)) w) : wpList Tryz.prog ops Q (o :: rest) a w := by
  refine wpList_step fun K hK => ?_
  rw [if_pos hw]
  refine wp_build _ _ ho (by rw [he, hb]; rfl) ?_
  rw [he, hb]
  exact hK _ _ hk
end
end Go.Proofs.YtmmcoedgoekhgaaGreatDoor
/-
  head: the chapter's examples in short (printed by gen_head.py).
-/
namespace Go.Proofs.YtmmcoedgoekhgaaGreatDoor
set_option maxRecDepth 20000
open Go.RowKit S
set_option linter.unusedVariables false
set_option linter.unusedSimpArgs false
end Go.Proofs.YtmmcoedgoekhgaaGreatDoor
/-
  UpdateNexts: lent, Same, the walk (printed by gen_nexts.py).
-/
namespace Go.Proofs.YtmmcoedgoekhgaaGreatDoor
set_option maxRecDepth 20000
open Go.RowKit S
set_option linter.unusedVariables false
set_option linter.unusedSimpArgs false
-- left out in this seat: same_any
def mark1 : Upd := ⟨77, 0, 0, fun _ => 0, nilB⟩
def mark2 : Upd := ⟨0, 0, 0, fun _ => 0, ⟨#[109, 97, 114, 107]⟩⟩
section
variable {ops : Array Oper} {rest : List Oper} {o : Oper} {a : Act} {w w' : World} {Q : Exit → Act → World → Prop}
end
/-- What lent answers: the updates, with two marks behind them. -/
def Lent (B : Nat) (w : World) (v : Value) (l : List Upd) : Prop := ∃ g cap, v = .slice (some ⟨g, 0, none⟩) (l.length + 2) cap ∧ OwnU B w v (l ++ [mark1, mark2])
-- left out in this seat: lent_any
theorem Lent.below {B B' : Nat} {w w' : World} {v : Value} {l : List Upd} (h : Lent B w v l) (hb : Below B' w w') (hB : w.heap.size ≤ B') : Lent B w' v l := by
  obtain ⟨g, cap, h1, h2⟩ := h
  exact ⟨g, cap, h1, h2.below hb hB⟩
theorem Lent.form {B : Nat} {w : World} {v : Value} {l : List Upd} (h : Lent B w v l) : ∃ g cap, v = .slice (some ⟨g, 0, none⟩) (l.length + 2) cap ∧ Upds w (some ⟨g, 0, none⟩) (l ++ [mark1, mark2]) ∧ Upds w (some ⟨g, 0, none⟩) l ∧ l.length + 2 ≤ cap ∧ g < w.heap.size ∧ cap ≤ maxLen := by
  obtain ⟨g, cap, rfl, h2⟩ := h
  have hlen : (l ++ [mark1, mark2]).length = l.length + 2 := by simp
  obtain ⟨ad, c, e, hs, hlt, hc, hm⟩ := h2.upds
  rw [hlen] at e
  cases e
  have hb := hlt _ rfl
  refine ⟨g, cap, rfl, hs, .inr ⟨g, 0, rfl, hb.1, fun i s hi => ?_⟩, by rw [hlen] at hc; exact hc, hb.1, hm⟩
  have hil : i < l.length := (List.getElem?_eq_some_iff.1 hi).1
  obtain ⟨b', o', e', _, hA⟩ := hs.get i s (by rw [List.getElem?_append_left hil]; exact hi)
  cases e'
  exact hA
end Go.Proofs.YtmmcoedgoekhgaaGreatDoor
/-
  A region that draws its order and whose last operation, for which all others must have come, turns what the others read: S holds behind every operation but that one.
-/
namespace Go.Proofs.YtmmcoedgoekhgaaGreatDoor
set_option maxRecDepth 20000
section
variable {P : Program} {ops : Array Oper} {md : Region.Mode} {Q : Exit → Act → World → Prop} {S : World → Prop} {st : Nat}
def wpAnyT (P : Program) (md : Region.Mode) (ops : Array Oper) (Q : Exit → Act → World → Prop) (S : World → Prop) (st : Nat) : Nat → Array Bool → Act → World → Prop
  | 0, listed, a, w => Region.ready md ops listed = [] ∧ Q .normal a w
  | fuel + 1, listed, a, w =>
    (Region.ready md ops listed = [] → Q .normal a w) ∧
    ∀ i ∈ Region.ready md ops listed, wpOp P ops Q i (fun a' w' => (i ≠ st → S w') ∧ wpAnyT P md ops Q S st fuel (listed.setIfInBounds i true) a' w') a w
theorem wpAny_of_T : ∀ (fuel : Nat) (listed : Array Bool) (a : Act) (w : World), wpAnyT P md ops Q S st fuel listed a w → wpAny P md ops Q fuel listed a w
  | 0, _, _, _, h => h
  | fuel + 1, _, _, _, h => ⟨h.1, fun i hi => wpOp_mono (fun a' w' h' => wpAny_of_T fuel _ a' w' h'.2) (h.2 i hi)⟩
/-- Operation st waits for operation i. -/
def waitsB (md : Region.Mode) (ops : Array Oper) (st i : Nat) : Bool := match ops[st]? with
  | some o => o.after.any (fun e => Region.binds md e && e.on == i)
  | none => false
theorem first_T {i : Nat} {oi : Oper} {v : Value} (hi : ops[i]? = some oi) (hsel : ∀ (j : Nat) (o : Oper) cs b, ops[j]? = some o → o.op ≠ .select cs b)
    (hQ : ∀ c a w, Q (.panic c) (a.put oi.dst v) w → Q (.panic c) a w) (hw : waitsB md ops st i = true) (hist : i ≠ st) :
    ∀ (fuel : Nat) (listed : Array Bool) (a : Act) (w : World),
      (∀ j oj, ops[j]? = some oj → j ≠ i → listed.getD j true = false → (∀ e ∈ oj.after, Region.binds md e = true → e.on ≠ i) → oi.apart ops oj = true) →
      i ∈ Region.ready md ops listed → YieldsIf P ops S oi v a → S w →
      wpAnyT P md ops Q S st fuel (listed.setIfInBounds i true) (a.put oi.dst v) w → wpAnyT P md ops Q S st (fuel + 1) listed a w := by
  intro fuel
  induction fuel with
  | zero =>
    intro listed a w _ hr hy hS H
    refine ⟨fun h => (by rw [h] at hr; cases hr), fun j hj => ?_⟩
    by_cases hji : j = i
    · subst hji; exact hy.wpOp hi hS ⟨fun _ => hS, H⟩
    · have := ready_mono hj hji
      rw [H.1] at this
      cases this
  | succ fuel ih =>
    intro listed a w hfree hr hy hS H
    refine ⟨fun h => (by rw [h] at hr; cases hr), fun j hj => ?_⟩
    by_cases hji : j = i
    · subst hji; exact hy.wpOp hi hS ⟨fun _ => hS, H⟩
    · have h1 := H.2 j (ready_mono hj hji)
      obtain ⟨hjun, oj, hoj, hall⟩ := mem_ready.1 hj
      have hnot : ∀ e ∈ oj.after, Region.binds md e = true → e.on ≠ i := fun e he hb heq => by
        have h1 := hall e he hb
        have h0 := (mem_ready.1 hr).1
        rw [heq] at h1
        rcases Nat.lt_or_ge i listed.size with h' | h'
        · simp [h'] at h0 h1; rw [h0] at h1; cases h1
        · simp [Array.getElem?_eq_none h'] at h1
      have hjst : j ≠ st := fun e => by
        subst e
        unfold waitsB at hw
        rw [hoj] at hw
        obtain ⟨e, he, hb⟩ := Array.any_eq_true'.1 hw
        simp only [Bool.and_eq_true, beq_iff_eq] at hb
        exact hnot e he hb.1 hb.2
      have h2 := wpOp_putIf hoj (hfree j oj hoj hji hjun hnot) (fun cs b => hsel i oi cs b hi) (fun cs b => hsel j oj cs b hoj) hQ hy h1
      have hfree' : ∀ k ok, ops[k]? = some ok → k ≠ i → (listed.setIfInBounds j true).getD k true = false →
          (∀ e ∈ ok.after, Region.binds md e = true → e.on ≠ i) → oi.apart ops ok = true := fun k ok hk hki hun hno => by
        refine hfree k ok hk hki ?_ hno
        by_cases hjk : j = k
        · subst hjk; exact hjun
        · rw [getD_set_ne true hjk] at hun; exact hun
      refine wpOp_mono (fun a' w' h3 => ⟨h3.2.1, ih (listed.setIfInBounds j true) a' w' hfree' (ready_mono hr (Ne.symm hji)) h3.1 (h3.2.1 hjst) ?_⟩) h2
      rw [Array.setIfInBounds_comm _ _ hji]
      exact h3.2.2
theorem takeT (i : Nat) (d : Option Tmp) (v : Value) {oi : Oper} {fuel : Nat} {listed : Array Bool} {a : Act} {w : World} (hi : ops[i]? = some oi) (hd : oi.dst = d)
    (hs : Region.noSelect ops = true) (hf : Region.free md ops listed i = true) (hr : (Region.ready md ops listed).contains i = true) (hwt : waitsB md ops st i = true) (hst : i ≠ st)
    (hQ : ∀ c a w, Q (.panic c) (a.put oi.dst v) w → Q (.panic c) a w) (hw : Region.wanted oi (yielded ops a.tmps) = true) (hy : ∀ w, S w → (execOp a.eval oi).run P w = .ok (.value v) w) (hS : S w)
    (h : wpAnyT P md ops Q S st fuel (listed.setIfInBounds i true) (a.put d v) w) : wpAnyT P md ops Q S st (fuel + 1) listed a w :=
  first_T hi (Region.noSelect_spec hs) hQ hwt hst fuel listed a w (Region.free_spec hi hf) (by simpa using hr) (.inl ⟨hw, hy⟩) hS (by rw [hd]; exact h)
theorem tU (i : Nat) (d : Option Tmp) (v : Value) {oi : Oper} {fuel : Nat} {listed : Array Bool} {a : Act} {w : World} (hi : ops[i]? = some oi)
    (hy : ∀ w, S w → (execOp a.eval oi).run P w = .ok (.value v) w) (hS : S w) (h : wpAnyT P md ops Q S st fuel (listed.setIfInBounds i true) (a.put d v) w) (hd : oi.dst = d := by rfl)
    (hs : Region.noSelect ops = true := by kernel_rfl) (hf : Region.free md ops listed i = true := by kernel_rfl) (hr : (Region.ready md ops listed).contains i = true := by kernel_rfl) (hwt : waitsB md ops st i = true := by kernel_rfl) (hst : i ≠ st := by decide)
    (hQ : ∀ c a w, Q (.panic c) (a.put oi.dst v) w → Q (.panic c) a w := by exact fun _ _ _ h => h) (hw : Region.wanted oi (yielded ops a.tmps) = true := by rfl) : wpAnyT P md ops Q S st (fuel + 1) listed a w :=
  takeT i d v hi hd hs hf hr hwt hst hQ hw hy hS h
/-- Just one may come up. -/
theorem readyT (i : Nat) {o : Oper} {fuel : Nat} {listed : Array Bool} {a : Act} {w : World} (hr : Region.ready md ops listed = [i]) (ho : ops[i]? = some o) (hw : Region.wanted o (yielded ops a.tmps) = true)
    (h : ∀ K' : Act → World → Prop, Shut (∀ a w, (i ≠ st → S w) → ((i ≠ st → S w) → wpAnyT P md ops Q S st fuel (listed.setIfInBounds i true) a w) → K' a w) → Oper.wp P o a w K' Q) : wpAnyT P md ops Q S st (fuel + 1) listed a w := by
  refine ⟨fun h0 => (by rw [hr] at h0; cases h0), fun j hj => ?_⟩
  rw [hr] at hj
  obtain rfl : j = i := by simpa using hj
  exact wpOp_step ho (fun K' hK => by
    rw [if_pos hw]
    exact h K' (fun a w hS hW => hK a w ⟨hS, hW hS⟩))
theorem wp_region_T {id : Nat} {a : Act} {w : World} (st : Nat) (hm : P.follows .mixedOrders = true) (hS : S w.drew)
    (h : S w.drew → wpAnyT P .any ops Q S st ops.size (Array.replicate ops.size false) a w.drew) : (Code.region id ops true).wp P Q a w :=
  wp_region_any hm (wpAny_of_T _ _ _ _ (h hS))
end
end Go.Proofs.YtmmcoedgoekhgaaGreatDoor
