import Derived.Test.YtbeoojnofblnjaaGMade
import Derived.Test.YtbeoojnofblnjaaGViewM
/-
  counts; a ledger turned (printed by gen_counts.py).
-/
namespace Go.Proofs.Ytbeoojnofblnjaa
open Go.RowKit S Go.Shelf Go.Sort
set_option linter.unusedVariables false
set_option linter.unusedSimpArgs false
theorem wp_store_part {P : Program} {o : Oper} {a : Act} {w : World} {K : Act → World → Prop} {Q : Exit → Act → World → Prop} (ty : TypeId) (x y : Operand) (ho : o.op = .store ty x y) (hd : o.dst = none)
    (g of : Nat) (h : Nat → Value) (m : Nat) (hx : a.eval x = .pointer (some ⟨g, of, none⟩)) (hy : a.eval y = .agg (tabv h m))
    (t : TypeId) (f : Nat → Value) (M : Nat) (hg : Has w g t f M) (hm : of + m ≤ M) (hi : (P.info? ty).map (·.size) = some m)
    (h1 : ∀ i, i < m → (h i).oneCell' = true) (f' : Nat → Value) (hf : ∀ i, i < M → splice f of h m i = f' i)
    (hk : K a (w.setRow g (tabv f' M))) : o.wp P a w K Q := by
  unfold Oper.wp execOp
  simp only [ho, hx, hy, Instr.storeAt, Instr.sureAddr, Sem.run_bind, Sem.run_pure, Result.andThen_ok, run_storeVar_part w g of t ty f h M m hg hm hi h1]
  rw [tabv_congr _ f' M hf]
  show K (a.put o.dst undef) _
  rw [hd]
  exact hk
theorem at_nat (z : Int) (s : Nat) (h : 0 < s) (hs : s ≤ 140737488351232) : ∃ p : Nat, (IntKind.u64.wrap z).tmod (s : Int) = (p : Int) ∧ p < s := by
  have h0 : 0 ≤ IntKind.u64.wrap z := by simp [IntKind.wrap, IntKind.bits, IntKind.signed]; omega
  refine ⟨((IntKind.u64.wrap z).tmod (s : Int)).toNat, ?_, ?_⟩
  · rw [Int.toNat_of_nonneg (Int.tmod_nonneg _ h0)]
  · have := Int.tmod_lt_of_pos (IntKind.u64.wrap z) (show (0 : Int) < s by omega)
    have := Int.tmod_nonneg (s : Int) h0
    omega
theorem built_cnt (x y : Int) : Try.prog.built 51 [(0, .int .i64 x), (1, .int .i64 y)] = some (tabv (cnv x y) 2) := by kernel_rfl
theorem oneC (x y : Int) (i : Nat) : (cnv x y i).oneCell' = true := rfl
-- left out in this seat: counts_any
end Go.Proofs.Ytbeoojnofblnjaa
/-
  A ledger as the other side sees it (printed by gen_turned.py).
-/
namespace Go.Proofs.Ytbeoojnofblnjaa
open Go.RowKit S Go.Shelf Go.Sort
set_option linter.unusedVariables false
set_option linter.unusedSimpArgs false
def fB (b : Bool) (l : List Pen) : List Pen := (l.filter (fun p => p.ours == b)).map flipP
theorem fB_next {b : Bool} {l : List Pen} {j : Nat} {x : Pen} (h : l[j]? = some x) : fB b (l.take (j + 1)) = fB b (l.take j) ++ (if (x.ours == b) = true then [flipP x] else []) := by
  have e : l.take (j + 1) = l.take j ++ [x] := by rw [List.take_add_one, h]; rfl
  unfold fB
  rw [e, List.filter_append, List.map_append]
  by_cases hb : (x.ours == b) = true <;> simp [hb]
theorem fB_len (b : Bool) (l : List Pen) : (fB b l).length ≤ l.length := by unfold fB; rw [List.length_map]; exact List.length_filter_le _ _
def accK (l : List Pen) (k : Nat) : List Pen := if k = 0 then [] else if k = 1 then fB false l else fB false l ++ fB true l
theorem accK_next (l : List Pen) (k : Nat) (h : k < 2) : accK l (k + 1) = accK l k ++ fB (((k : Int) == 1)) l := by
  match k, h with
  | 0, _ => simp [accK]
  | 1, _ => simp [accK]
theorem fB_both : ∀ l : List Pen, (fB false l).length + (fB true l).length = l.length
  | [] => rfl
  | p :: l => by
    have := fB_both l
    unfold fB at *
    simp only [List.filter_cons]
    cases p.ours <;> simp at * <;> omega
theorem fB_take (b : Bool) (l : List Pen) (j : Nat) : (fB b (l.take j)).length ≤ (fB b l).length := by
  unfold fB
  rw [List.length_map, List.length_map]
  exact ((List.take_sublist j l).filter _).length_le
theorem accK_tot (l : List Pen) (k j : Nat) (h : k < 2) : (accK l k).length + (fB (((k : Int) == 1)) (l.take j)).length ≤ l.length := by
  have h1 := fB_both l
  have h2 := fB_take false l j
  have h3 := fB_take true l j
  match k, h with
  | 0, _ => simp [accK]; omega
  | 1, _ => simp [accK]; omega
theorem accK_len (l : List Pen) (k : Nat) : (accK l k).length ≤ 2 * l.length := by
  have h1 := fB_len false l
  have h2 := fB_len true l
  unfold accK
  split
  · simp
  · split
    · omega
    · rw [List.length_append]; omega
theorem accK_turn (l : List Pen) : accK l 2 = turnP l := by
  unfold accK turnP fB
  rw [if_neg (by omega), if_neg (by omega)]
  congr 2
  · congr 1; funext p; cases p.ours <;> rfl
  · congr 1; funext p; cases p.ours <;> rfl
theorem run_appPW (w : World) (B : Nat) (v : Value) (l : List Pen) (s : Pen) (hown : OwnP B w v l) (hsz : l.length ≤ 3910000000000) (hB : B ≤ w.heap.size) :
    ∃ v' w1 w', (Instr.buildSlice 44 1 #[(0, .agg (tabv s.v 35))]).run Try.prog w = .ok (.slice (some ⟨w.heap.size, 0, none⟩) 1 1) w1 ∧ (Builtin.append_ #[44, 44] 44 #[v, .slice (some ⟨w.heap.size, 0, none⟩) 1 1]).run Try.prog w1 = .ok v' w' ∧ OwnP B w' v' (l ++ [s]) ∧ (∀ g, g < w.heap.size → v.ownBlock ≠ some g → w'.heap[g]? = w.heap[g]?) ∧ Below B w w' := by
  obtain ⟨i, h1, h2, h3, h4⟩ := infoPP
  have hb : Has (w.alloc (.cells (tabv s.v 35) 55)) w.heap.size 55 s.v 35 := Has.new w 55 s.v 35 _ rfl
  have ho : OwnP B (w.alloc (.cells (tabv s.v 35) 55)) v l := World.ownsRow.alloc hown _
  obtain ⟨v', w', e1, e2, e3, _⟩ := run_append_own_wide (P := Try.prog) (w.alloc (.cells (tabv s.v 35) 55)) B 44 44 55 i _ 35 56 Try.underlying44 h1 h2 h3 h4 (by rfl) (by omega) v l.length (cellsP l) ho ⟨w.heap.size, 0, none⟩ 1 1 (cellsP [s]) (by rw [cellsP_length]; rfl)
    (fun j u hj => by
      have hj' : j < 35 := by have := (List.getElem?_eq_some_iff.1 hj).1; rw [cellsP_length] at this; simpa using this
      have hadd : (⟨w.heap.size, 0, none⟩ : Addr).add j = ⟨w.heap.size, j, none⟩ := by unfold Addr.add; split <;> simp_all
      rw [hadd, hb.cell j hj', ← hj, cellsP_one]
      unfold Pen.enc
      rw [Array.getElem?_toList, tabv_get _ _ _ hj'])
    (by rw [cellsP_one]; exact s.one) (by unfold maxLen; omega) (by omega) (by rw [size_alloc]; omega)
  obtain ⟨g1, g2⟩ := grown_all e3 (fun k hk => (hown.lt k hk).1) hB
  refine ⟨v', _, w', run_sliceP w s, e1, ?_, g1, g2⟩
  unfold OwnP
  rw [List.length_append, cellsP_append]
  exact e2
/-- The new ledger under way. -/
def TL (W : World) (g3 : Nat) (y x : Int) (wr : World) (l : List Pen) : Prop := ∃ v, Has wr g3 46 (ledv y x v) 3 ∧ OwnP W.heap.size wr v l ∧ Keep (· = g3) W wr
theorem built_turn (x y : Int) : Try.prog.built 46 [(0, .int .i64 x), (1, .int .i64 y)] = some (tabv (ledv x y (.slice none 0 0)) 3) := by kernel_rfl
theorem Has.openL {w : World} {g : Nat} {x y : Int} {v : Value} (h : Has w g 46 (ledv x y v) 3) (v' : Value) : Has (w.setCell ⟨g, 2, none⟩ v') g 46 (ledv x y v') 3 :=
  (h.set 2 v').congr _ (fun i hi => by unfold upd ledv; match i, hi with
                                       | 0, _ => rfl
                                       | 1, _ => rfl
                                       | 2, _ => rfl)
theorem Has.flipO {w : World} {g : Nat} {s : Pen} (h : Has w g 55 s.v 35) : Has (w.setCell ⟨g, 0, none⟩ (.bool (!s.ours))) g 55 (flipP s).v 35 :=
  (h.set 0 (.bool (!s.ours))).congr _ (fun i hi => by unfold upd; by_cases e : i = 0
                                                      · subst e; rfl
                                                      · rw [if_neg e]; unfold Pen.v flipP; rw [if_neg e, if_neg e])
-- left out in this seat: turned_any
end Go.Proofs.Ytbeoojnofblnjaa
