import Derived.Test.YtmmcoedgoekhgaaGreatDoorUBase
import Derived.Test.YtmmcoedgoekhgaaGreatDoorLast
import Derived.Test.YtmmcoedgoekhgaaGreatDoorGNum
import Derived.Test.YtmmcoedgoekhgaaGreatDoorGFold2
import Derived.Test.YtmmcoedgoekhgaaGreatDoorGSortM
import Derived.Test.YtmmcoedgoekhgaaGreatDoorGTurned
import Derived.Test.YtmmcoedgoekhgaaGreatDoorGRot
import Derived.Test.YtmmcoedgoekhgaaGreatDoorGSort
import Derived.Test.YtmmcoedgoekhgaaGreatDoorGSet
import Derived.Test.YtmmcoedgoekhgaaGreatDoorGFold
import Derived.Test.YtmmcoedgoekhgaaGreatDoorBytesText
import Derived.Test.YtmmcoedgoekhgaaGreatDoorCurHashRead
import Derived.Laws.OwnMore
import Derived.Laws.StructEq
import Derived.Laws.AppendOwn
import Derived.Deep.DeepAppendWide
import Derived.OwnWalk
import Derived.Deep.CutRange
import Derived.Deep.DeepCutAuto
/-
  Open adds and ledgers in memory: picked by wip/pick.py out of the texts of layers 12 and 13.
-/
namespace Go.Proofs.YtmmcoedgoekhgaaGreatDoor
set_option maxRecDepth 20000
open Go.RowKit S
set_option linter.unusedVariables false
set_option linter.unusedSimpArgs false
-- stands in another text: nilB
theorem take_snocC {α : Type} {l : List α} {j : Nat} {x : α} (hx : l[j]? = some x) : l.take (j + 1) = l.take j ++ [x] := by
  obtain ⟨h, rfl⟩ := List.getElem?_eq_some_iff.1 hx
  exact List.take_succ_eq_append_getElem h
-- stands in another text: belowD
-- stands in another text: tabv_len
-- stands in another text: At
-- stands in another text: At.below
section
variable {P : Program}
-- stands in another text: run_loadVar_at
-- stands in another text: wpW_load_at
-- stands in another text: run_load_at
end
-- stands in another text: Has.at_
-- stands in another text: eqH
-- stands in another text: eqH_refl
-- stands in another text: eqH_iff
-- stands in another text: eqH_tab
-- stands in another text: eqItemsD
-- stands in another text: eqHD
-- stands in another text: grown_all
-- stands in another text: wpRun
-- stands in another text: wpList_app
-- stands in another text: wpList_slice1
section
variable {ops : Array Oper} {rest : List Oper} {o : Oper} {a : Act} {w w' : World} {Q : Exit → Act → World → Prop}
-- stands in another text: wpW_slice1
-- stands in another text: wpW_build
end
-- stands in another text: run_eqH
-- stands in another text: run_neH
-- stands in another text: Keep
section
variable {S S' : Nat → Prop} {w w1 w2 w' : World} {B : Nat}
-- stands in another text: Keep.refl
-- stands in another text: Keep.trans
-- stands in another text: Keep.mono
-- stands in another text: Keep.of_below
-- stands in another text: Keep.all
-- stands in another text: Keep.below
-- stands in another text: Keep.grown
-- stands in another text: Keep.transR
-- stands in another text: keep_set
end
-- stands in another text: Has.same
-- stands in another text: Has.keep
-- stands in another text: keep_row
-- stands in another text: takeH
-- stands in another text: skH
-- stands in another text: wp_store_part
-- stands in another text: Pen
instance : Inhabited Pen := ⟨⟨false, 0, 0, fun _ => 0⟩⟩
-- stands in another text: Pen.v
-- stands in another text: Pen.zero
-- stands in another text: Pen.enc
-- stands in another text: Pen.enc_arr
-- stands in another text: Pen.enc_len
-- stands in another text: Pen.one
-- stands in another text: infoP
-- stands in another text: cellsP
-- stands in another text: cellsP_length
-- stands in another text: cellsP_append
-- stands in another text: cellsP_one
-- stands in another text: cellsP_get
-- stands in another text: OwnP
-- stands in another text: Pen.zv
-- stands in another text: infoPP
-- stands in another text: run_sliceP
-- stands in another text: OwnP.nil
-- stands in another text: OwnP.lt
-- stands in another text: OwnP.same
-- stands in another text: OwnP.below
-- stands in another text: OwnP.keep
-- stands in another text: run_appP
-- stands in another text: Keep.then_
-- stands in another text: ledv
-- stands in another text: zeroL
-- stands in another text: infoL
-- stands in another text: OwnP.mono
-- stands in another text: run_appPP
-- stands in another text: OwnP.form
-- stands in another text: OwnP.one
-- stands in another text: one_ledv
-- stands in another text: Pens
-- stands in another text: Pens.get
-- stands in another text: Pens.below
-- stands in another text: OwnP.pens
-- stands in another text: eqP
-- stands in another text: eqP_refl
-- stands in another text: fieldsPen
-- stands in another text: Pen.v_hash
-- stands in another text: partHashP
-- stands in another text: eqPD
-- stands in another text: guardP
section
variable {P : Program} {o : Oper} {a : Act} {w w' : World} {v : Value} {K : Act → World → Prop} {Q : Exit → Act → World → Prop}
-- stands in another text: wp_app
-- stands in another text: wp_slice1
-- stands in another text: wp_slice0
end
-- stands in another text: run_buildQ
-- stands in another text: run_eqP
-- stands in another text: run_appPW
-- stands in another text: zero35
-- stands in another text: newP
-- stands in another text: onePv
section
variable {ops : Array Oper} {rest : List Oper} {o : Oper} {a : Act} {w : World} {Q : Exit → Act → World → Prop}
-- stands in another text: wpList_storeP
end
-- stands in another text: flipP
-- stands in another text: turnP
section
variable {ops : Array Oper} {rest : List Oper} {o : Oper} {a : Act} {w : World} {Q : Exit → Act → World → Prop}
-- stands in another text: wpList_storeL
end
-- stands in another text: newL
/-- A row of open adds of one's own, whatever they are. -/
def OwnN (B : Nat) (w : World) (v : Value) (n : Nat) : Prop := ∃ xs, w.ownsRow B 186 35 v n xs
theorem OwnP.any {B : Nat} {w : World} {v : Value} {l : List Pen} (h : OwnP B w v l) : OwnN B w v l.length := ⟨_, h⟩
theorem OwnN.lt {B : Nat} {w : World} {v : Value} {n : Nat} (h : OwnN B w v n) : ∀ k, v.ownBlock = some k → B ≤ k ∧ k < w.heap.size := World.ownsRow.lt h.choose_spec
section
variable {ops : Array Oper} {rest : List Oper} {o : Oper} {a : Act} {w : World} {Q : Exit → Act → World → Prop}
end
theorem OwnN.app {B : Nat} {w : World} {v : Value} {n : Nat} (h : OwnN B w v n) (s : Pen) (hn : n ≤ 3910000000000) (hB : B ≤ w.heap.size) : ∃ v' wa w', (Instr.buildSlice 141 1 #[(0, .agg (tabv s.v 35))]).run Tryz.prog w = .ok (.slice (some ⟨w.heap.size, 0, none⟩) 1 1) wa ∧ (Builtin.append_ #[141, 141] 141 #[v, .slice (some ⟨w.heap.size, 0, none⟩) 1 1]).run Tryz.prog wa = .ok v' w' ∧ (∃ ad c, v' = .slice ad (n + 1) c) ∧ (∀ g, g < w.heap.size → v.ownBlock ≠ some g → w'.heap[g]? = w.heap[g]?) ∧ Below B w w' := by
  obtain ⟨xs, hown⟩ := h
  obtain ⟨i, h1, h2, h3, h4⟩ := infoPP
  have hb : Has (w.alloc (.cells (tabv s.v 35) 186)) w.heap.size 186 s.v 35 := Has.new w 186 s.v 35 _ rfl
  have ho := World.ownsRow.alloc hown (.cells (tabv s.v 35) 186)
  obtain ⟨v', w', e1, e2, e3, _⟩ := run_append_own_wide (P := Tryz.prog) (w.alloc (.cells (tabv s.v 35) 186)) B 141 141 186 i _ 35 56 Tryz.underlying141 h1 h2 h3 h4 (by rfl) (by omega) v n xs ho ⟨w.heap.size, 0, none⟩ 1 1 (cellsP [s]) (by rw [cellsP_length]; rfl)
    (fun j u hj => by
      have hj' : j < 35 := by have := (List.getElem?_eq_some_iff.1 hj).1; rw [cellsP_length] at this; simpa using this
      have hadd : (⟨w.heap.size, 0, none⟩ : Addr).add j = ⟨w.heap.size, j, none⟩ := by unfold Addr.add; split <;> simp_all
      rw [hadd, hb.cell j hj', ← hj, cellsP_one]
      unfold Pen.enc
      rw [Array.getElem?_toList, tabv_get _ _ _ hj'])
    (by rw [cellsP_one]; exact s.one) (by unfold maxLen; omega) (by omega) (by rw [size_alloc]; omega)
  obtain ⟨g1, g2⟩ := grown_all e3 (fun k hk => (World.ownsRow.lt hown k hk).1) hB
  refine ⟨v', _, w', run_sliceP w s, e1, ?_, g1, g2⟩
  obtain ⟨_, ⟨rfl, h⟩ | ⟨g, c, cur, rfl, _⟩⟩ := e2
  · omega
  · exact ⟨_, _, rfl⟩
/-- A ledger in a variable, its open adds a row of its own. -/
structure LgF (g B : Nat) (x y : Int) (v : Value) (l : List Pen) (w : World) : Prop where
  at_ : Has w g 143 (ledv x y v) 3
  row : OwnP B w v l
theorem LgF.below {g B : Nat} {x y : Int} {v : Value} {l : List Pen} {w w' : World} (h : LgF g B x y v l w) (k : Below w.heap.size w w') : LgF g B x y v l w' := ⟨h.at_.below k h.at_.lt, h.row.below k⟩
theorem LgF.keep {S : Nat → Prop} {g B : Nat} {x y : Int} {v : Value} {l : List Pen} {w w' : World} (h : LgF g B x y v l w) (k : Keep S w w') (h1 : ¬ S g) (h2 : ∀ i, B ≤ i → i < w.heap.size → ¬ S i) : LgF g B x y v l w' := ⟨h.at_.keep k h1, h.row.keep k (fun i hi => h2 i (h.row.lt i hi).1 (h.row.lt i hi).2)⟩
end Go.Proofs.YtmmcoedgoekhgaaGreatDoor
/-
  Layer 14 in plain words: which ledgers are sound, a commitment's bytes.
-/
namespace Go.Proofs.YtmmcoedgoekhgaaGreatDoor
set_option maxRecDepth 20000
open Go.RowKit S
set_option linter.unusedVariables false
set_option linter.unusedSimpArgs false
open Cu (nb be hl ofL CW Mw Mr)
def amB (a : Int) : Bool := !(decide (a < 0) || decide (1152921504606846976 < a))
def okP (p : Pen) : Bool := !(decide (p.id < 0) || (decide (p.amt < 1) || decide (1152921504606846976 < p.amt)))
/-- May p stand right behind q? -/
def foll (q p : Pen) : Bool := if q.ours != p.ours then q.ours else decide (q.id < p.id)
def goodAt (l : List Pen) (i : Nat) : Prop := ∀ p, l[i]? = some p → okP p = true ∧ ∀ q, 0 < i → l[i - 1]? = some q → foll q p = true
def cntP (o : Bool) (l : List Pen) : Nat := (l.filter fun p => p.ours == o).length
theorem cnt_next {l : List Pen} {j : Nat} {x : Pen} (h : l[j]? = some x) (o : Bool) : cntP o (l.take (j + 1)) = cntP o (l.take j) + (if (x.ours == o) = true then 1 else 0) := by
  rw [take_snocC h]
  unfold cntP
  rw [List.filter_append, List.length_append]
  by_cases hc : (x.ours == o) = true <;> simp [hc]
theorem cnt_le (o : Bool) (l : List Pen) : cntP o l ≤ l.length := List.length_filter_le _ _
theorem cnt_both (l : List Pen) : cntP true l + cntP false l = l.length := by
  induction l with
  | nil => rfl
  | cons p l ih => unfold cntP at *; simp only [List.filter_cons, List.length_cons]; cases h : p.ours <;> simp only [beq_self_eq_true, if_true, show (false == true) = false from rfl, show (true == false) = false from rfl, Bool.false_eq_true, if_false, List.length_cons] <;> omega
/-- A sound ledger. -/
def Snd (x y : Int) (l : List Pen) : Prop := (amB x = true ∧ amB y = true) ∧ (∀ i, i < l.length → goodAt l i) ∧ cntP true l ≤ 483 ∧ cntP false l ≤ 483
theorem Snd.len {x y : Int} {l : List Pen} (h : Snd x y l) : l.length ≤ 966 := by have := cnt_both l; have := h.2.2; omega
theorem Snd.ok {x y : Int} {l : List Pen} (h : Snd x y l) {p : Pen} (hp : p ∈ l) : okP p = true := by
  obtain ⟨i, hi⟩ := List.mem_iff_getElem?.1 hp
  exact (h.2.1 i (List.getElem?_eq_some_iff.1 hi).1 p hi).1
/-- A commitment. -/
structure Cm where
  owner : Int
  index : Int
  point : Nat → UInt8
  x : Int
  y : Int
  l : List Pen
def Arg (o n : Int) : Prop := 0 ≤ o ∧ o ≤ 1 ∧ 0 ≤ n ∧ n ≤ 281474976710655
/-- What a number of 64 bits is as bytes. -/
def u64 (z : Int) : Nat := (IntKind.u64.wrap z).toNat
theorem u64_wrap (z : Int) : IntKind.u64.wrap z = ((u64 z : Nat) : Int) := by
  unfold u64
  rw [Int.toNat_of_nonneg]
  simp [IntKind.wrap, IntKind.bits, IntKind.signed]; omega
def penB (p : Pen) : List UInt8 := ((nb (if p.ours = true then 1 else 0) 1 ++ nb (u64 p.id) 8) ++ nb (u64 p.amt) 8) ++ hl p.hash
theorem penB_length (p : Pen) : (penB p).length = 49 := by simp [penB, Cu.nb_length, Cu.hl_length]
def headB (o n : Int) (h : Nat → UInt8) (x y : Int) (k : Nat) : List UInt8 := ((((nb o.toNat 1 ++ nb (u64 n) 8) ++ hl h) ++ nb (u64 x) 8) ++ nb (u64 y) 8) ++ nb k 2
theorem headB_length (o n : Int) (h : Nat → UInt8) (x y : Int) (k : Nat) : (headB o n h x y k).length = 59 := by simp [headB, Cu.nb_length, Cu.hl_length]
def opensB (l : List Pen) : List UInt8 := l.flatMap penB
theorem opensB_length (l : List Pen) : (opensB l).length = 49 * l.length := by
  induction l with
  | nil => rfl
  | cons p l ih => unfold opensB at *; rw [List.flatMap_cons, List.length_append, penB_length, ih, List.length_cons]; omega
theorem opensB_next {l : List Pen} {j : Nat} {p : Pen} (h : l[j]? = some p) : opensB (l.take (j + 1)) = opensB (l.take j) ++ penB p := by
  rw [take_snocC h]; unfold opensB; rw [List.flatMap_append]; simp
def textB (o n : Int) (h : Nat → UInt8) (x y : Int) (l : List Pen) : List UInt8 := headB o n h x y l.length ++ opensB l
theorem textB_length (o n : Int) (h : Nat → UInt8) (x y : Int) (l : List Pen) : (textB o n h x y l).length = 59 + 49 * l.length := by unfold textB; rw [List.length_append, headB_length, opensB_length]
/-- What Text answers. -/
structure TA (o n : Int) (h : Nat → UInt8) (x y : Int) (l : List Pen) (b : ByteArray) (e : Int) : Prop where
  arg : ¬ Arg o n → b = nilB ∧ e = 1
  form : Arg o n → ¬ Snd x y l → b = nilB ∧ e = 4
  good : Arg o n → Snd x y l → b = ofL (textB o n h x y l) ∧ e = 0
theorem TA.one {o n : Int} {h : Nat → UInt8} {x y : Int} {l : List Pen} {b c : ByteArray} {e f : Int} (p : TA o n h x y l b e) (q : TA o n h x y l c f) : b = c ∧ e = f := by
  by_cases ha : Arg o n
  · by_cases hs : Snd x y l
    · have := p.good ha hs; have := q.good ha hs; simp_all
    · have := p.form ha hs; have := q.form ha hs; simp_all
  · have := p.arg ha; have := q.arg ha; simp_all
theorem TA.ok {o n : Int} {h : Nat → UInt8} {x y : Int} {l : List Pen} {b : ByteArray} {e : Int} (p : TA o n h x y l b e) (he : e = 0) : Arg o n ∧ Snd x y l ∧ b = ofL (textB o n h x y l) := by
  by_cases ha : Arg o n
  · by_cases hs : Snd x y l
    · exact ⟨ha, hs, (p.good ha hs).1⟩
    · have := (p.form ha hs).2; omega
  · have := (p.arg ha).2; omega
end Go.Proofs.YtmmcoedgoekhgaaGreatDoor
