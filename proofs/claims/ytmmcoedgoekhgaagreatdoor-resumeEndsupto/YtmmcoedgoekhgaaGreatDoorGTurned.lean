import Derived.Test.YtmmcoedgoekhgaaGreatDoorGSortM
import Derived.Test.YtmmcoedgoekhgaaGreatDoorGFold
/-
  Ledgers against one another; the answers that the document fixes.
-/
namespace Go.Proofs.YtmmcoedgoekhgaaGreatDoor
set_option maxRecDepth 20000
open Go.RowKit S Go.Shelf Go.Sort
set_option linter.unusedVariables false
set_option linter.unusedSimpArgs false
/-- Open adds behind a slice's address. -/
def Pens (w : World) (ad : Option Addr) (l : List Pen) : Prop := l = [] ∨ ∃ b o, ad = some ⟨b, o, none⟩ ∧ b < w.heap.size ∧ ∀ i s, l[i]? = some s → At w b (o + i * 35) s.v 35
theorem Pens.get {w : World} {ad : Option Addr} {l : List Pen} (h : Pens w ad l) (k : Nat) (s : Pen) (hk : l[k]? = some s) : ∃ b o, ad = some ⟨b, o, none⟩ ∧ b < w.heap.size ∧ At w b (o + k * 35) s.v 35 := by
  rcases h with rfl | ⟨b, o, h1, h2, h3⟩
  · simp at hk
  · exact ⟨b, o, h1, h2, h3 k s hk⟩
theorem Pens.below {w w' : World} {ad : Option Addr} {l : List Pen} (h : Pens w ad l) (hb : Below w.heap.size w w') : Pens w' ad l := by
  rcases h with rfl | ⟨b, o, h1, h2, h3⟩
  · exact .inl rfl
  · exact .inr ⟨b, o, h1, Nat.lt_of_lt_of_le h2 hb.size, fun i s hs => (h3 i s hs).below hb h2⟩
theorem OwnP.pens {B : Nat} {w : World} {v : Value} {l : List Pen} (h : OwnP B w v l) : ∃ ad cap, v = .slice ad l.length cap ∧ Pens w ad l ∧ (∀ x, ad = some x → x.block < w.heap.size ∧ B ≤ x.block) ∧ l.length ≤ cap ∧ cap ≤ maxLen := by
  obtain ⟨hl, ⟨rfl, hn⟩ | ⟨g, cap, cur, rfl, hb, hg, h1, h2, h3, h4⟩⟩ := h
  · have : l = [] := List.length_eq_zero_iff.1 hn
    subst this
    exact ⟨none, 0, rfl, .inl rfl, (fun x hx => by cases hx), by simp, by decide⟩
  · have hlt : g < w.heap.size := by
      rcases Nat.lt_or_ge g w.heap.size with h | h
      · exact h
      · rw [Array.getElem?_eq_none h] at hg; cases hg
    refine ⟨some ⟨g, 0, none⟩, cap, rfl, .inr ⟨g, 0, rfl, hlt, fun i s hs j hj => ?_⟩, (fun x hx => by cases hx; exact ⟨hlt, hb⟩), h1, h2⟩
    rw [cell_of_row w g _ cur _ (0, 0) hg]
    have hi : i < l.length := (List.getElem?_eq_some_iff.1 hs).1
    have e := cellsP_get l i s hs j hj
    rw [← h4, List.getElem?_take] at e
    rw [if_pos (by omega), Array.getElem?_toList] at e
    rw [show 0 + i * 35 + j = i * 35 + j by omega, e]
    unfold Pen.enc
    rw [Array.getElem?_toList, tabv_get _ _ _ hj]
def eqP (s t : Pen) : Bool := (s.ours == t.ours) && ((s.id == t.id) && ((s.amt == t.amt) && eqH s.hash t.hash))
theorem eqP_refl (s : Pen) : eqP s s = true := by unfold eqP; rw [eqH_refl]; simp
theorem fieldsPen : (Tryz.prog.fieldsOf 186).toList.map (fun f => (f.name, f.type, f.offset)) = [("Ours", 4, 0), ("ID", 2, 1), ("Amount", 2, 2), ("Hash", 23, 3)] := by kernel_rfl
theorem Pen.v_hash (s : Pen) (j : Nat) (hj : j < 32) : s.v (3 + j) = bv s.hash j := by
  unfold Pen.v bv
  rw [if_neg (by omega), if_neg (by omega), if_neg (by omega), Nat.add_sub_cancel_left]
theorem partHashP (w : World) (s : Pen) : (part 23 (tabv s.v 35) 3).run Tryz.prog w = .ok (.agg (tabv (bv s.hash) 32)) w := by
  have hi : (Tryz.prog.info? 23).map (·.size) = some 32 := by kernel_rfl
  cases hq : Tryz.prog.info? 23 with
  | none => simp [hq] at hi
  | some i =>
    have hs : i.size = 32 := by simpa [hq] using hi
    have e : (tabv s.v 35).extract 3 35 = tabv (bv s.hash) 32 := by
      refine tabv_ext _ _ _ (by simp [tabv_size]) fun i hi => ?_
      rw [Array.getElem?_extract, tabv_get _ _ _ (by omega)]
      simp only [tabv_size]
      rw [if_pos (by omega), Pen.v_hash s i hi]
    simp [part, isAgg, run_underlying Tryz.underlying23, sizeOf, typeInfo, hq, hs, e]
set_option maxRecDepth 100000 in
theorem eqPD (w : World) (s t : Pen) : (Op.equalIn 10000 186 (.agg (tabv s.v 35)) (.agg (tabv t.v 35))).run Tryz.prog w = .ok (eqP s t) w := by
  rw [run_equalIn_struct w 9999 186 _ _ (by kernel_rfl) (by kernel_rfl)]
  have hf := fieldsPen
  generalize (Tryz.prog.fieldsOf 186).toList = fs at hf
  rcases fs with _ | ⟨f0, _ | ⟨f1, _ | ⟨f2, _ | ⟨f3, _ | ⟨f4, fs⟩⟩⟩⟩⟩
  · simp at hf
  · simp at hf
  · simp at hf
  · simp at hf
  · simp only [List.map_cons, List.map_nil, List.cons.injEq, Prod.mk.injEq, and_true] at hf
    obtain ⟨⟨n0, t0, o0⟩, ⟨n1, t1, o1⟩, ⟨n2, t2, o2⟩, n3, t3, o3⟩ := hf
    have p0 : ∀ s : Pen, (part 4 (tabv s.v 35) 0).run Tryz.prog w = .ok (.bool s.ours) w := fun s => by simp [part, isAgg, run_underlying Tryz.underlying4, tabv_get _ _ _ (show 0 < 35 by omega), Pen.v]
    have p1 : ∀ s : Pen, (part 2 (tabv s.v 35) 1).run Tryz.prog w = .ok (.int .i64 s.id) w := fun s => by simp [part, isAgg, run_underlying Tryz.underlying2, tabv_get _ _ _ (show 1 < 35 by omega), Pen.v]
    have p2 : ∀ s : Pen, (part 2 (tabv s.v 35) 2).run Tryz.prog w = .ok (.int .i64 s.amt) w := fun s => by simp [part, isAgg, run_underlying Tryz.underlying2, tabv_get _ _ _ (show 2 < 35 by omega), Pen.v]
    have q0 : (Op.equalIn 9999 4 (.bool s.ours) (.bool t.ours)).run Tryz.prog w = .ok (s.ours == t.ours) w := run_equalIn_bool w 9998 4 _ _ Tryz.underlying4
    have q1 : (Op.equalIn 9999 2 (.int .i64 s.id) (.int .i64 t.id)).run Tryz.prog w = .ok (s.id == t.id) w := run_equalIn_int w 9998 2 .i64 .i64 _ _ Tryz.underlying2
    have q2 : (Op.equalIn 9999 2 (.int .i64 s.amt) (.int .i64 t.amt)).run Tryz.prog w = .ok (s.amt == t.amt) w := run_equalIn_int w 9998 2 .i64 .i64 _ _ Tryz.underlying2
    have q3 : (Op.equalIn 9999 23 (.agg (tabv (bv s.hash) 32)) (.agg (tabv (bv t.hash) 32))).run Tryz.prog w = .ok (eqH s.hash t.hash) w := eqHD 9997 w _ _
    have m0 : f0.name ≠ "_" := by rw [n0]; decide
    have m1 : f1.name ≠ "_" := by rw [n1]; decide
    have m2 : f2.name ≠ "_" := by rw [n2]; decide
    have m3 : f3.name ≠ "_" := by rw [n3]; decide
    simp only [Op.eqFields, if_pos m0, if_pos m1, if_pos m2, if_pos m3, t0, t1, t2, t3, o0, o1, o2, o3, Sem.run_bind, p0, p1, p2, partHashP, q0, q1, q2, q3, Result.andThen_ok]
    unfold eqP
    generalize (s.ours == t.ours) = b0 at *
    generalize (s.id == t.id) = b1 at *
    generalize (s.amt == t.amt) = b2 at *
    generalize eqH s.hash t.hash = b3 at *
    cases b0 <;> cases b1 <;> cases b2 <;> cases b3 <;> simp [partHashP, p1, p2, q1, q2, q3]
  · simp at hf
theorem guardP : Tryz.prog.eqGuardType Tryz.prog.depth 186 = false := by kernel_rfl
-- left out in this seat: sameL_any
end Go.Proofs.YtmmcoedgoekhgaaGreatDoor
/-
  The answers that the document fixes.
-/
namespace Go.Proofs.YtmmcoedgoekhgaaGreatDoor
set_option maxRecDepth 20000
open Go.RowKit S Go.Shelf Go.Sort
set_option linter.unusedVariables false
set_option linter.unusedSimpArgs false
end Go.Proofs.YtmmcoedgoekhgaaGreatDoor
/-
  LedgerSpends: the walk (printed by gen_spends.py).
-/
namespace Go.Proofs.YtmmcoedgoekhgaaGreatDoor
set_option maxRecDepth 20000
open Go.RowKit S Go.Shelf Go.Sort
set_option linter.unusedVariables false
set_option linter.unusedSimpArgs false
theorem Upds.left {w : World} {ad : Option Addr} {l t : List Upd} (h : Upds w ad (l ++ t)) : Upds w ad l := by
  have := h.take l.length
  rwa [List.take_left' rfl] at this
-- left out in this seat: lend2
-- left out in this seat: more2
theorem OwnU.read {B : Nat} {w : World} {g n c : Nat} {l t : List Upd} (h : OwnU B w (.slice (some ⟨g, 0, none⟩) n c) (l ++ t)) : Upds w (some ⟨g, 0, none⟩) (l ++ t) := by
  obtain ⟨ad, c', e, hs, _⟩ := h.upds
  cases e
  exact hs
section
variable {ops : Array Oper} {rest : List Oper} {o : Oper} {a : Act} {w w' : World} {Q : Exit → Act → World → Prop}
end
def cnv (x y : Int) : Nat → Value := fun i => .int .i64 (if i = 0 then x else y)
end Go.Proofs.YtmmcoedgoekhgaaGreatDoor
/-
  The law's own: bases, Made, counts (printed by gen_made.py).
-/
namespace Go.Proofs.YtmmcoedgoekhgaaGreatDoor
set_option maxRecDepth 20000
open Go.RowKit S Go.Shelf Go.Sort
set_option linter.unusedVariables false
set_option linter.unusedSimpArgs false
section
variable {ops : Array Oper} {rest : List Oper} {o : Oper} {a : Act} {w : World} {Q : Exit → Act → World → Prop}
end
end Go.Proofs.YtmmcoedgoekhgaaGreatDoor
/-
  whole: nothing is lost, and the open adds stand in order (printed by gen_whole.py).
-/
namespace Go.Proofs.YtmmcoedgoekhgaaGreatDoor
set_option maxRecDepth 20000
open Go.RowKit S Go.Shelf Go.Sort
set_option linter.unusedVariables false
set_option linter.unusedSimpArgs false
theorem zero35 : (#[.bool false, .int .i64 0, .int .i64 0, .int .u8 0, .int .u8 0, .int .u8 0, .int .u8 0, .int .u8 0, .int .u8 0, .int .u8 0, .int .u8 0, .int .u8 0, .int .u8 0, .int .u8 0, .int .u8 0, .int .u8 0, .int .u8 0, .int .u8 0, .int .u8 0, .int .u8 0, .int .u8 0, .int .u8 0, .int .u8 0, .int .u8 0, .int .u8 0, .int .u8 0, .int .u8 0, .int .u8 0, .int .u8 0, .int .u8 0, .int .u8 0, .int .u8 0, .int .u8 0, .int .u8 0, .int .u8 0] : Array Value) = tabv Pen.zv 35 := rfl
theorem newP (w5 : World) (s : Pen) : ∃ w6 w7, w5.alloc (.cells #[.bool false, .int .i64 0, .int .i64 0, .int .u8 0, .int .u8 0, .int .u8 0, .int .u8 0, .int .u8 0, .int .u8 0, .int .u8 0, .int .u8 0, .int .u8 0, .int .u8 0, .int .u8 0, .int .u8 0, .int .u8 0, .int .u8 0, .int .u8 0, .int .u8 0, .int .u8 0, .int .u8 0, .int .u8 0, .int .u8 0, .int .u8 0, .int .u8 0, .int .u8 0, .int .u8 0, .int .u8 0, .int .u8 0, .int .u8 0, .int .u8 0, .int .u8 0, .int .u8 0, .int .u8 0, .int .u8 0] 186) = w6 ∧ Has w6 w5.heap.size 186 Pen.zv 35 ∧ w6.setRow w5.heap.size (tabv s.v 35) = w7 ∧ Has w7 w5.heap.size 186 s.v 35 ∧ Below w5.heap.size w5 w7 := by
  have q1 : Has (w5.alloc (.cells (tabv Pen.zv 35) 186)) w5.heap.size 186 Pen.zv 35 := Has.new w5 186 Pen.zv 35 _ rfl
  exact ⟨_, _, by rw [zero35], q1, rfl, q1.row _ s.v rfl, below_setRow ((Below.refl w5.heap.size w5).alloc (Nat.le_refl _) _) (Nat.le_refl _) _⟩
theorem onePv (s : Pen) (i : Nat) : (s.v i).oneCell' = true := by unfold Pen.v; repeat' split
                                                                  all_goals rfl
section
variable {ops : Array Oper} {rest : List Oper} {o : Oper} {a : Act} {w : World} {Q : Exit → Act → World → Prop}
theorem wpList_storeP (hgd : o.guard = none) (x y : Operand) (ho : o.op = .store 186 x y) (hd : o.dst = none) (g : Nat) (s : Pen) (hx : a.eval x = .pointer (some ⟨g, 0, none⟩)) (hy : a.eval y = .agg (tabv s.v 35)) (f : Nat → Value) (hg : Has w g 186 f 35)
    (hk : wpList Tryz.prog ops Q rest a (w.setRow g (tabv s.v 35))) : wpList Tryz.prog ops Q (o :: rest) a w :=
  wpList_store_part hgd 186 x y ho hd g 0 s.v 35 hx hy 186 f 35 hg (by omega) infoP (fun i _ => onePv s i) s.v (fun i hi => by unfold splice; rw [if_pos (by omega), Nat.sub_zero]) hk
end
end Go.Proofs.YtmmcoedgoekhgaaGreatDoor
/-
  What Fold's answer is, in plain words: nothing is lost, the order, the other side's view.
-/
namespace Go.Proofs.YtmmcoedgoekhgaaGreatDoor
set_option maxRecDepth 20000
open Go.RowKit S Go.Shelf Go.Sort
set_option linter.unusedVariables false
set_option linter.unusedSimpArgs false
/-- The open adds that Fold tells. -/
def foldL (a b : List Upd) : List Pen := sortP (opensL true b a) ++ sortP (opensL false a b)
/-- An open add as the other side sees it. -/
def flipP (p : Pen) : Pen := ⟨!p.ours, p.id, p.amt, p.hash⟩
def turnP (l : List Pen) : List Pen := (l.filter (fun p => !p.ours)).map flipP ++ (l.filter (fun p => p.ours)).map flipP
end Go.Proofs.YtmmcoedgoekhgaaGreatDoor
/-
  counts; a ledger turned (printed by gen_counts.py).
-/
namespace Go.Proofs.YtmmcoedgoekhgaaGreatDoor
set_option maxRecDepth 20000
open Go.RowKit S Go.Shelf Go.Sort
set_option linter.unusedVariables false
set_option linter.unusedSimpArgs false
theorem wp_store_part {P : Program} {o : Oper} {a : Act} {w : World} {K : Act → World → Prop} {Q : Exit → Act → World → Prop} (ty : TypeId) (x y : Operand) (ho : o.op = .store ty x y) (hd : o.dst = none)
    (g of : Nat) (h : Nat → Value) (m : Nat) (hx : a.eval x = .pointer (some ⟨g, of, none⟩)) (hy : a.eval y = .agg (tabv h m))
    (t : TypeId) (f : Nat → Value) (M : Nat) (hg : Has w g t f M) (hm : of + m ≤ M) (hi : (P.info? ty).map (·.size) = some m)
    (h1 : ∀ i, i < m → (h i).oneCell' = true) (f' : Nat → Value) (hf : ∀ i, i < M → splice f of h m i = f' i)
    (hk : K a (w.setRow g (tabv f' M))) : o.wp P a w K Q := by
  unfold Oper.wp execOp
  simp only [ho, hx, hy, Instr.storeAt, Instr.sureAddr, Sem.run_bind, Sem.run_pure, Result.andThen_ok, run_storeVar_part w g of t ty f h M m hg hm hi h1]
  rw [tabv_congr _ f' M hf]
  show K (a.put o.dst undef) _
  rw [hd]
  exact hk
end Go.Proofs.YtmmcoedgoekhgaaGreatDoor
/-
  A ledger as the other side sees it (printed by gen_turned.py).
-/
namespace Go.Proofs.YtmmcoedgoekhgaaGreatDoor
set_option maxRecDepth 20000
open Go.RowKit S Go.Shelf Go.Sort
set_option linter.unusedVariables false
set_option linter.unusedSimpArgs false
def fB (b : Bool) (l : List Pen) : List Pen := (l.filter (fun p => p.ours == b)).map flipP
theorem fB_next {b : Bool} {l : List Pen} {j : Nat} {x : Pen} (h : l[j]? = some x) : fB b (l.take (j + 1)) = fB b (l.take j) ++ (if (x.ours == b) = true then [flipP x] else []) := by
  have e : l.take (j + 1) = l.take j ++ [x] := by rw [List.take_add_one, h]; rfl
  unfold fB
  rw [e, List.filter_append, List.map_append]
  by_cases hb : (x.ours == b) = true <;> simp [hb]
theorem fB_len (b : Bool) (l : List Pen) : (fB b l).length ≤ l.length := by unfold fB; rw [List.length_map]; exact List.length_filter_le _ _
def accK (l : List Pen) (k : Nat) : List Pen := if k = 0 then [] else if k = 1 then fB false l else fB false l ++ fB true l
theorem accK_next (l : List Pen) (k : Nat) (h : k < 2) : accK l (k + 1) = accK l k ++ fB (((k : Int) == 1)) l := by
  match k, h with
  | 0, _ => simp [accK]
  | 1, _ => simp [accK]
theorem fB_both : ∀ l : List Pen, (fB false l).length + (fB true l).length = l.length
  | [] => rfl
  | p :: l => by
    have := fB_both l
    unfold fB at *
    simp only [List.filter_cons]
    cases p.ours <;> simp at * <;> omega
theorem fB_take (b : Bool) (l : List Pen) (j : Nat) : (fB b (l.take j)).length ≤ (fB b l).length := by
  unfold fB
  rw [List.length_map, List.length_map]
  exact ((List.take_sublist j l).filter _).length_le
theorem accK_tot (l : List Pen) (k j : Nat) (h : k < 2) : (accK l k).length + (fB (((k : Int) == 1)) (l.take j)).length ≤ l.length := by
  have h1 := fB_both l
  have h2 := fB_take false l j
  have h3 := fB_take true l j
  match k, h with
  | 0, _ => simp [accK]; omega
  | 1, _ => simp [accK]; omega
theorem accK_len (l : List Pen) (k : Nat) : (accK l k).length ≤ 2 * l.length := by
  have h1 := fB_len false l
  have h2 := fB_len true l
  unfold accK
  split
  · simp
  · split
    · omega
    · rw [List.length_append]; omega
theorem accK_turn (l : List Pen) : accK l 2 = turnP l := by
  unfold accK turnP fB
  rw [if_neg (by omega), if_neg (by omega)]
  congr 2
  · congr 1; funext p; cases p.ours <;> rfl
  · congr 1; funext p; cases p.ours <;> rfl
theorem run_appPW (w : World) (B : Nat) (v : Value) (l : List Pen) (s : Pen) (hown : OwnP B w v l) (hsz : l.length ≤ 3910000000000) (hB : B ≤ w.heap.size) :
    ∃ v' w1 w', (Instr.buildSlice 141 1 #[(0, .agg (tabv s.v 35))]).run Tryz.prog w = .ok (.slice (some ⟨w.heap.size, 0, none⟩) 1 1) w1 ∧ (Builtin.append_ #[141, 141] 141 #[v, .slice (some ⟨w.heap.size, 0, none⟩) 1 1]).run Tryz.prog w1 = .ok v' w' ∧ OwnP B w' v' (l ++ [s]) ∧ (∀ g, g < w.heap.size → v.ownBlock ≠ some g → w'.heap[g]? = w.heap[g]?) ∧ Below B w w' := by
  obtain ⟨i, h1, h2, h3, h4⟩ := infoPP
  have hb : Has (w.alloc (.cells (tabv s.v 35) 186)) w.heap.size 186 s.v 35 := Has.new w 186 s.v 35 _ rfl
  have ho : OwnP B (w.alloc (.cells (tabv s.v 35) 186)) v l := World.ownsRow.alloc hown _
  obtain ⟨v', w', e1, e2, e3, _⟩ := run_append_own_wide (P := Tryz.prog) (w.alloc (.cells (tabv s.v 35) 186)) B 141 141 186 i _ 35 56 Tryz.underlying141 h1 h2 h3 h4 (by rfl) (by omega) v l.length (cellsP l) ho ⟨w.heap.size, 0, none⟩ 1 1 (cellsP [s]) (by rw [cellsP_length]; rfl)
    (fun j u hj => by
      have hj' : j < 35 := by have := (List.getElem?_eq_some_iff.1 hj).1; rw [cellsP_length] at this; simpa using this
      have hadd : (⟨w.heap.size, 0, none⟩ : Addr).add j = ⟨w.heap.size, j, none⟩ := by unfold Addr.add; split <;> simp_all
      rw [hadd, hb.cell j hj', ← hj, cellsP_one]
      unfold Pen.enc
      rw [Array.getElem?_toList, tabv_get _ _ _ hj'])
    (by rw [cellsP_one]; exact s.one) (by unfold maxLen; omega) (by omega) (by rw [size_alloc]; omega)
  obtain ⟨g1, g2⟩ := grown_all e3 (fun k hk => (hown.lt k hk).1) hB
  refine ⟨v', _, w', run_sliceP w s, e1, ?_, g1, g2⟩
  unfold OwnP
  rw [List.length_append, cellsP_append]
  exact e2
/-- The new ledger under way. -/
def TL (W : World) (g3 : Nat) (y x : Int) (wr : World) (l : List Pen) : Prop := ∃ v, Has wr g3 143 (ledv y x v) 3 ∧ OwnP W.heap.size wr v l ∧ Keep (· = g3) W wr
theorem built_turn (x y : Int) : Tryz.prog.built 143 [(0, .int .i64 x), (1, .int .i64 y)] = some (tabv (ledv x y (.slice none 0 0)) 3) := by kernel_rfl
theorem Has.openL {w : World} {g : Nat} {x y : Int} {v : Value} (h : Has w g 143 (ledv x y v) 3) (v' : Value) : Has (w.setCell ⟨g, 2, none⟩ v') g 143 (ledv x y v') 3 :=
  (h.set 2 v').congr _ (fun i hi => by unfold upd ledv; match i, hi with
                                       | 0, _ => rfl
                                       | 1, _ => rfl
                                       | 2, _ => rfl)
theorem Has.flipO {w : World} {g : Nat} {s : Pen} (h : Has w g 186 s.v 35) : Has (w.setCell ⟨g, 0, none⟩ (.bool (!s.ours))) g 186 (flipP s).v 35 :=
  (h.set 0 (.bool (!s.ours))).congr _ (fun i hi => by unfold upd; by_cases e : i = 0
                                                      · subst e; rfl
                                                      · rw [if_neg e]; unfold Pen.v flipP; rw [if_neg e, if_neg e])
-- left out in this seat: turned_any
end Go.Proofs.YtmmcoedgoekhgaaGreatDoor
