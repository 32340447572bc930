/-
  LedgerFolds: the walk (printed by gen_folds.py).
-/
import Derived.Test.YtbeoojnofblnjaaGFoldU
namespace Go.Proofs.Ytbeoojnofblnjaa
open Go.RowKit S Go.Shelf Go.Sort
set_option linter.unusedVariables false
set_option linter.unusedSimpArgs false
/-- A row of open adds of one's own, whatever they are. -/
def OwnN (B : Nat) (w : World) (v : Value) (n : Nat) : Prop := ∃ xs, w.ownsRow B 55 35 v n xs
theorem OwnP.any {B : Nat} {w : World} {v : Value} {l : List Pen} (h : OwnP B w v l) : OwnN B w v l.length := ⟨_, h⟩
theorem OwnN.lt {B : Nat} {w : World} {v : Value} {n : Nat} (h : OwnN B w v n) : ∀ k, v.ownBlock = some k → B ≤ k ∧ k < w.heap.size := World.ownsRow.lt h.choose_spec
section
variable {ops : Array Oper} {rest : List Oper} {o : Oper} {a : Act} {w : World} {Q : Exit → Act → World → Prop}
theorem wpList_storeRow (hgd : o.guard = none) (x y : Operand) (ho : o.op = .store 55 x y) (hd : o.dst = none) (g n cap j B : Nat) (p : Pen) (hx : a.eval x = .pointer (some ⟨g, j * 35, none⟩)) (hy : a.eval y = .agg (tabv p.v 35)) (hown : OwnN B w (.slice (some ⟨g, 0, none⟩) n cap) n) (hj : j < n)
    (hk : ∀ w', OwnN B w' (.slice (some ⟨g, 0, none⟩) n cap) n → Keep (· = g) w w' → wpList Try.prog ops Q rest a w') : wpList Try.prog ops Q (o :: rest) a w := by
  obtain ⟨xs, hl, ⟨e, _⟩ | ⟨g', cap', cur, e, hB, hg, h1, h2, h3, h4⟩⟩ := hown
  · cases e
  · cases e
    have hcur : cur = tabv (fun i => cur.getD i undef) (cap * 35) := by
      refine (tabv_ext _ _ _ h3 fun i hi => ?_)
      have : i < cur.size := by omega
      simp [Array.getD, this]
    have hH : Has w g 55 (fun i => cur.getD i undef) (cap * 35) := by unfold Has; rw [← hcur]; exact hg
    refine wpList_store_part hgd 55 x y ho hd g (j * 35) p.v 35 hx hy 55 _ (cap * 35) hH (by omega) infoP (fun i _ => onePv p i) _ (fun i hi => rfl) (hk _ ⟨_, ?_, .inr ⟨g, cap, _, rfl, hB, setRow_heap w g cur _ _ _ hg, h1, h2, by rw [tabv_size], rfl⟩⟩ (keep_row _ _ _ rfl))
    rw [List.length_take, Array.length_toList, tabv_size]
    have : n * 35 ≤ cap * 35 := Nat.mul_le_mul_right _ h1
    omega
end
theorem OwnN.app {B : Nat} {w : World} {v : Value} {n : Nat} (h : OwnN B w v n) (s : Pen) (hn : n ≤ 3910000000000) (hB : B ≤ w.heap.size) : ∃ v' wa w', (Instr.buildSlice 44 1 #[(0, .agg (tabv s.v 35))]).run Try.prog w = .ok (.slice (some ⟨w.heap.size, 0, none⟩) 1 1) wa ∧ (Builtin.append_ #[44, 44] 44 #[v, .slice (some ⟨w.heap.size, 0, none⟩) 1 1]).run Try.prog wa = .ok v' w' ∧ (∃ ad c, v' = .slice ad (n + 1) c) ∧ (∀ g, g < w.heap.size → v.ownBlock ≠ some g → w'.heap[g]? = w.heap[g]?) ∧ Below B w w' := by
  obtain ⟨xs, hown⟩ := h
  obtain ⟨i, h1, h2, h3, h4⟩ := infoPP
  have hb : Has (w.alloc (.cells (tabv s.v 35) 55)) w.heap.size 55 s.v 35 := Has.new w 55 s.v 35 _ rfl
  have ho := World.ownsRow.alloc hown (.cells (tabv s.v 35) 55)
  obtain ⟨v', w', e1, e2, e3, _⟩ := run_append_own_wide (P := Try.prog) (w.alloc (.cells (tabv s.v 35) 55)) B 44 44 55 i _ 35 56 Try.underlying44 h1 h2 h3 h4 (by rfl) (by omega) v n xs ho ⟨w.heap.size, 0, none⟩ 1 1 (cellsP [s]) (by rw [cellsP_length]; rfl)
    (fun j u hj => by
      have hj' : j < 35 := by have := (List.getElem?_eq_some_iff.1 hj).1; rw [cellsP_length] at this; simpa using this
      have hadd : (⟨w.heap.size, 0, none⟩ : Addr).add j = ⟨w.heap.size, j, none⟩ := by unfold Addr.add; split <;> simp_all
      rw [hadd, hb.cell j hj', ← hj, cellsP_one]
      unfold Pen.enc
      rw [Array.getElem?_toList, tabv_get _ _ _ hj'])
    (by rw [cellsP_one]; exact s.one) (by unfold maxLen; omega) (by omega) (by rw [size_alloc]; omega)
  obtain ⟨g1, g2⟩ := grown_all e3 (fun k hk => (World.ownsRow.lt hown k hk).1) hB
  refine ⟨v', _, w', run_sliceP w s, e1, ?_, g1, g2⟩
  obtain ⟨_, ⟨rfl, h⟩ | ⟨g, c, cur, rfl, _⟩⟩ := e2
  · omega
  · exact ⟨_, _, rfl⟩
def pm1 : Pen := ⟨false, -1, 0, fun _ => 0⟩
def pm2 : Pen := ⟨false, -2, 0, fun _ => 0⟩
set_option maxRecDepth 100000 in
theorem built_pm1 : Try.prog.built 55 [(1, .int .i64 (-1))] = some (tabv pm1.v 35) := by kernel_rfl
set_option maxRecDepth 100000 in
theorem built_pm2 : Try.prog.built 55 [(1, .int .i64 (-2))] = some (tabv pm2.v 35) := by kernel_rfl
/-- What is held at every step: the counts, the two lists that were lent. -/
structure BkF (g0 : Nat) (fO fP : Int) (gx gy cx cy n1 n2 : Nat) (l1 l2 : List Upd) (B : Nat) (w : World) : Prop where
  cnt : Has w g0 51 (cnv fO fP) 2
  x : OwnU B w (.slice (some ⟨gx, 0, none⟩) (n1 + 1) cx) (l1 ++ [mark7])
  y : OwnU B w (.slice (some ⟨gy, 0, none⟩) (n2 + 1) cy) (l2 ++ [mark7])
theorem BkF.keep {S : Nat → Prop} {g0 : Nat} {fO fP : Int} {gx gy cx cy n1 n2 : Nat} {l1 l2 : List Upd} {B : Nat} {w w' : World} (h : BkF g0 fO fP gx gy cx cy n1 n2 l1 l2 B w) (k : Keep S w w') (h0 : ¬ S g0) (h1 : ¬ S gx) (h2 : ¬ S gy) : BkF g0 fO fP gx gy cx cy n1 n2 l1 l2 B w' :=
  ⟨h.cnt.keep k h0, h.x.same (fun i hi => by cases hi; exact k.block _ (h.x.lt _ rfl).2 h1), h.y.same (fun i hi => by cases hi; exact k.block _ (h.y.lt _ rfl).2 h2)⟩
theorem BkF.below {g0 : Nat} {fO fP : Int} {gx gy cx cy n1 n2 : Nat} {l1 l2 : List Upd} {B : Nat} {w w' : World} (h : BkF g0 fO fP gx gy cx cy n1 n2 l1 l2 B w) (k : Below w.heap.size w w') : BkF g0 fO fP gx gy cx cy n1 n2 l1 l2 B w' :=
  ⟨h.cnt.below k h.cnt.lt, h.x.below k (Nat.le_refl _), h.y.below k (Nat.le_refl _)⟩
/-- A ledger in a variable, its open adds a row of its own. -/
structure LgF (g B : Nat) (x y : Int) (v : Value) (l : List Pen) (w : World) : Prop where
  at_ : Has w g 46 (ledv x y v) 3
  row : OwnP B w v l
theorem LgF.below {g B : Nat} {x y : Int} {v : Value} {l : List Pen} {w w' : World} (h : LgF g B x y v l w) (k : Below w.heap.size w w') : LgF g B x y v l w' := ⟨h.at_.below k h.at_.lt, h.row.below k⟩
theorem LgF.keep {S : Nat → Prop} {g B : Nat} {x y : Int} {v : Value} {l : List Pen} {w w' : World} (h : LgF g B x y v l w) (k : Keep S w w') (h1 : ¬ S g) (h2 : ∀ i, B ≤ i → i < w.heap.size → ¬ S i) : LgF g B x y v l w' := ⟨h.at_.keep k h1, h.row.keep k (fun i hi => h2 i (h.row.lt i hi).1 (h.row.lt i hi).2)⟩
/-- A new variable takes what Fold answered. -/
theorem newLg {w0 w : World} {x y : Int} {v : Value} {l : List Pen} (ho : OwnP w0.heap.size w v l) (hb : Below w0.heap.size w0 w) : ∃ wa ws, w.alloc (.cells #[.int .i64 0, .int .i64 0, .slice none 0 0] 46) = wa ∧ Has wa w.heap.size 46 (ledv 0 0 (.slice none 0 0)) 3 ∧ wa.setRow w.heap.size (tabv (ledv x y v) 3) = ws ∧ LgF w.heap.size w0.heap.size x y v l ws ∧ Below w0.heap.size w0 ws := by
  obtain ⟨wa, ws, h1, h2, h3, h4, h5⟩ := newL w x y v
  exact ⟨wa, ws, h1, h2, h3, ⟨h4, ho.below h5⟩, hb.trans (h5.mono hb.size)⟩
end Go.Proofs.Ytbeoojnofblnjaa
