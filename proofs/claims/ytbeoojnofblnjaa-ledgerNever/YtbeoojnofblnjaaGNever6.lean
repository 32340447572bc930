/-
  LedgerNever: the book as it lies in memory; what an append, what a fix leaves of it.
-/
import Derived.Test.YtbeoojnofblnjaaGNever3
import Derived.Test.YtbeoojnofblnjaaGNever5
import Derived.Test.YtbeoojnofblnjaaLast
import Derived.Deep.AppendLies
namespace Go.Proofs.Ytbeoojnofblnjaa
open Go.RowKit S Go.Shelf Go.Sort
set_option linter.unusedVariables false
set_option linter.unusedSimpArgs false
theorem spend_never {b0 b1 : Int} {l0 l1 : List Upd} {f0 f1 : Nat} (bd0 : 0 ≤ b0 ∧ b0 ≤ 576460752303423487) (bd1 : 0 ≤ b1 ∧ b1 ≤ 576460752303423487) (h : Nv b0 b1 l0 l1 f0 f1) : spendA b0 l0 l1 f0 f1 = leftN b0 l0 l1 f0 f1 ∧ 0 ≤ leftN b0 l0 l1 f0 f1 ∧ leftN b0 l0 l1 f0 f1 ≤ b0 + b1 := by
  have hm := h.most
  have hp := h.p0
  have e0 : inL (f0 : Int) l0.length = f0 := by have := (inL_eq (f0 : Int) l0.length).2 ⟨by omega, by have := h.c0; omega⟩; omega
  have e1 : inL (f1 : Int) l1.length = f1 := by have := (inL_eq (f1 : Int) l1.length).2 ⟨by omega, by have := h.c1; omega⟩; omega
  have ec : capB b0 = b0 := by unfold capB; rw [if_neg (by omega)]
  have el : leftS b0 l0 l1 f0 f1 = leftN b0 l0 l1 f0 f1 := by unfold leftS leftN; rw [e0, e1, ec]
  refine ⟨?_, hp, hm⟩
  unfold spendA
  rw [if_neg (by omega), el, clamp_in hp (by omega)]
/-- append(v, s), with where it lies. -/
theorem run_appL (w : World) (B : Nat) (v : Value) (l : List Upd) (s : Upd) (ty : TypeId) (hown : OwnU B w v l) (hsz : (l.length + 1) * 72 ≤ 140737488355328) (hB : B ≤ w.heap.size) :
    ∃ g cap w', (Builtin.append_ #[25, 25] ty #[v, .slice (some ⟨w.heap.size, 0, none⟩) 1 1]).run Try.prog (w.alloc (.cells (tabv s.v 36) 43)) = .ok (.slice (some ⟨g, 0, none⟩) (l.length + 1) cap) w' ∧ OwnU B w' (.slice (some ⟨g, 0, none⟩) (l.length + 1) cap) (l ++ [s]) ∧ (w.alloc (.cells (tabv s.v 36) 43)).grownBy w' v.ownBlock ∧ (v.ownBlock = some g ∨ g = w.heap.size + 1) := by
  obtain ⟨i, h1, h2, h3, h4⟩ := infoUP
  have hb : Has (w.alloc (.cells (tabv s.v 36) 43)) w.heap.size 43 s.v 36 := Has.new w 43 s.v 36 _ rfl
  have ho : OwnU B (w.alloc (.cells (tabv s.v 36) 43)) v l := World.ownsRow.alloc hown _
  obtain ⟨g, cap, w', e1, e2, e3, e4, _⟩ := run_append_lies (P := Try.prog) (w.alloc (.cells (tabv s.v 36) 43)) 25 ty B 43 i _ 36 72 Try.underlying25 h1 h2 h3 h4 (by rfl) (by omega) v l.length (cellsU l) ho ⟨w.heap.size, 0, none⟩ 1 1 (cellsU [s]) (by rw [cellsU_length]; rfl)
    (fun j u hj => by
      have hj' : j < 36 := by have := (List.getElem?_eq_some_iff.1 hj).1; rw [cellsU_length] at this; simpa using this
      have hadd : (⟨w.heap.size, 0, none⟩ : Addr).add j = ⟨w.heap.size, j, none⟩ := by unfold Addr.add; split <;> simp_all
      rw [hadd, hb.cell j hj', ← hj, cellsU_one, Array.getElem?_toList, tabv_get _ _ _ hj'])
    (oneCell_U _) (by omega) (by unfold maxLen; omega) hsz (by rw [size_alloc]; omega) (w.heap.size + 1) (by rw [size_alloc])
  refine ⟨g, cap, w', e1, ?_, e3, e4⟩
  unfold OwnU
  rw [List.length_append, cellsU_append]
  exact e2
theorem wpRunS {P : Program} {o : Oper} {a : Act} {w w' : World} {next : Act → World → Prop} {Q : Exit → Act → World → Prop} (s x : Operand) (tys : Array TypeId) (ho : o.op = .call { callee := .builtin .append, args := #[s, x], argTypes := tys }) (v : Value) (h : (Builtin.append_ tys o.type #[a.eval s, a.eval x]).run P w = .ok v w') (k : next (a.put o.dst v) w') : Oper.wp P o a w next Q :=
  wpRun (by simp [execOp, ho, resolve, invoke, builtin, h, Result.andThen]) k
/-- Two may come up. -/
theorem readyT2 {P : Program} {ops : Array Oper} {md : Region.Mode} {Q : Exit → Act → World → Prop} {S : World → Prop} {st : Nat} (i j : Nat) {oi oj : Oper} {fuel : Nat} {listed : Array Bool} {a : Act} {w : World} (hr : Region.ready md ops listed = [i, j]) (hi : ops[i]? = some oi) (hj : ops[j]? = some oj) (hwi : Region.wanted oi (yielded ops a.tmps) = true) (hwj : Region.wanted oj (yielded ops a.tmps) = true)
    (h1 : ∀ K' : Act → World → Prop, Shut (∀ a w, (i ≠ st → S w) → ((i ≠ st → S w) → wpAnyT P md ops Q S st fuel (listed.setIfInBounds i true) a w) → K' a w) → Oper.wp P oi a w K' Q)
    (h2 : ∀ K' : Act → World → Prop, Shut (∀ a w, (j ≠ st → S w) → ((j ≠ st → S w) → wpAnyT P md ops Q S st fuel (listed.setIfInBounds j true) a w) → K' a w) → Oper.wp P oj a w K' Q) : wpAnyT P md ops Q S st (fuel + 1) listed a w := by
  refine ⟨fun h0 => (by rw [hr] at h0; cases h0), fun k hk => ?_⟩
  rw [hr] at hk
  have hk' : k = i ∨ k = j := by simpa using hk
  rcases hk' with rfl | rfl
  · exact wpOp_step hi (fun K' hK => by
      rw [if_pos hwi]
      exact h1 K' (fun a w hS hW => hK a w ⟨hS, hW hS⟩))
  · exact wpOp_step hj (fun K' hK => by
      rw [if_pos hwj]
      exact h2 K' (fun a w hS hW => hK a w ⟨hS, hW hS⟩))
/-- The book, as it lies at g: its lists are its own. -/
structure NB (B g : Nat) (b0 b1 : Int) (v0 v1 : Value) (l0 l1 : List Upd) (f0 f1 : Nat) (w : World) : Prop where
  arr : Has w g 30 (bkv v0 v1 f0 f1 b0 b1) 6
  o0 : OwnU (g + 1) w v0 l0
  o1 : OwnU (g + 1) w v1 l1
  apart : ∀ k, v0.ownBlock = some k → v1.ownBlock ≠ some k
  ge : B ≤ g
theorem NB.below {B g : Nat} {b0 b1 : Int} {v0 v1 : Value} {l0 l1 : List Upd} {f0 f1 : Nat} {w wx : World} (h : NB B g b0 b1 v0 v1 l0 l1 f0 f1 w) (hb : Below w.heap.size w wx) : NB B g b0 b1 v0 v1 l0 l1 f0 f1 wx :=
  ⟨h.arr.below hb h.arr.lt, h.o0.below hb (Nat.le_refl _), h.o1.below hb (Nat.le_refl _), h.apart, h.ge⟩
theorem NB.fix0 {B g : Nat} {b0 b1 : Int} {v0 v1 : Value} {l0 l1 : List Upd} {f0 f1 : Nat} {w : World} (h : NB B g b0 b1 v0 v1 l0 l1 f0 f1 w) (k : Nat) : NB B g b0 b1 v0 v1 l0 l1 k f1 (w.setCell ⟨g, 2, none⟩ (.int .i64 (k : Int))) ∧ Below B w (w.setCell ⟨g, 2, none⟩ (.int .i64 (k : Int))) := by
  refine ⟨⟨(h.arr.set 2 _).congr _ (fun i hi => ?_), h.o0.same (fun j hj => Below.heap_setCell w ⟨g, 2, none⟩ _ j (by have := (h.o0.lt j hj).1; show j ≠ g; omega)), h.o1.same (fun j hj => Below.heap_setCell w ⟨g, 2, none⟩ _ j (by have := (h.o1.lt j hj).1; show j ≠ g; omega)), h.apart, h.ge⟩, (Below.refl _ _).setCell h.ge _⟩
  have : i = 0 ∨ i = 1 ∨ i = 2 ∨ i = 3 ∨ i = 4 ∨ i = 5 := by omega
  rcases this with rfl | rfl | rfl | rfl | rfl | rfl <;> simp [upd, bkv]
theorem NB.fix1 {B g : Nat} {b0 b1 : Int} {v0 v1 : Value} {l0 l1 : List Upd} {f0 f1 : Nat} {w : World} (h : NB B g b0 b1 v0 v1 l0 l1 f0 f1 w) (k : Nat) : NB B g b0 b1 v0 v1 l0 l1 f0 k (w.setCell ⟨g, 3, none⟩ (.int .i64 (k : Int))) ∧ Below B w (w.setCell ⟨g, 3, none⟩ (.int .i64 (k : Int))) := by
  refine ⟨⟨(h.arr.set 3 _).congr _ (fun i hi => ?_), h.o0.same (fun j hj => Below.heap_setCell w ⟨g, 3, none⟩ _ j (by have := (h.o0.lt j hj).1; show j ≠ g; omega)), h.o1.same (fun j hj => Below.heap_setCell w ⟨g, 3, none⟩ _ j (by have := (h.o1.lt j hj).1; show j ≠ g; omega)), h.apart, h.ge⟩, (Below.refl _ _).setCell h.ge _⟩
  have : i = 0 ∨ i = 1 ∨ i = 2 ∨ i = 3 ∨ i = 4 ∨ i = 5 := by omega
  rcases this with rfl | rfl | rfl | rfl | rfl | rfl <;> simp [upd, bkv]
theorem NB.app0 {B g : Nat} {b0 b1 : Int} {wE w2 : World} {q m cp : Nat} {v0 v1 : Value} {l0 l1 : List Upd} {f0 f1 : Nat} {u : Upd} (h : NB B g b0 b1 v0 v1 l0 l1 f0 f1 wE) (ho2 : OwnU (g + 1) w2 (.slice (some ⟨q, 0, none⟩) m cp) (l0 ++ [u])) (hgr : (wE.alloc (.cells (tabv u.v 36) 43)).grownBy w2 v0.ownBlock) (hg : v0.ownBlock = some q ∨ q = wE.heap.size + 1) (ha : Has w2 g 30 (bkv v0 v1 f0 f1 b0 b1) 6) :
    NB B g b0 b1 (.slice (some ⟨q, 0, none⟩) m cp) v1 (l0 ++ [u]) l1 f0 f1 (w2.setCell ⟨g, 0, none⟩ (.slice (some ⟨q, 0, none⟩) m cp)) ∧ Below B wE (w2.setCell ⟨g, 0, none⟩ (.slice (some ⟨q, 0, none⟩) m cp)) := by
  have hlt := h.arr.lt
  have hge := h.ge
  refine ⟨⟨(ha.set 0 _).congr _ (fun i hi => by
      have : i = 0 ∨ i = 1 ∨ i = 2 ∨ i = 3 ∨ i = 4 ∨ i = 5 := by omega
      rcases this with rfl | rfl | rfl | rfl | rfl | rfl <;> simp [upd, bkv]), ho2.same (fun k hk => Below.heap_setCell w2 ⟨g, 0, none⟩ _ k (by have := (ho2.lt k hk).1; show k ≠ g; omega)), h.o1.same (fun k hk => by
      have hlt := (h.o1.lt k hk)
      rw [Below.heap_setCell w2 ⟨g, 0, none⟩ _ k (by show k ≠ g; omega), hgr.block k (by rw [size_alloc]; omega) (fun e => h.apart k e.symm hk)]
      exact heap_alloc_old wE _ hlt.2), fun k hk => by
      have hk' : k = q := by simpa [Value.ownBlock] using hk.symm
      subst hk'
      intro h1
      rcases hg with e | e
      · exact h.apart k e h1
      · have := (h.o1.lt k h1).2; omega, h.ge⟩, ?_⟩
  have hb : Below B wE w2 := by
    refine ((Below.refl B wE).alloc (by omega) _).trans ⟨hgr.os, hgr.tape, hgr.output, hgr.size, fun k hk => hgr.block k (by rw [size_alloc]; omega) (fun e => by have := (h.o0.lt k e.symm).1; omega)⟩
  exact hb.setCell h.ge _
theorem NB.app1 {B g : Nat} {b0 b1 : Int} {wE w2 : World} {q m cp : Nat} {v0 v1 : Value} {l0 l1 : List Upd} {f0 f1 : Nat} {u : Upd} (h : NB B g b0 b1 v0 v1 l0 l1 f0 f1 wE) (ho2 : OwnU (g + 1) w2 (.slice (some ⟨q, 0, none⟩) m cp) (l1 ++ [u])) (hgr : (wE.alloc (.cells (tabv u.v 36) 43)).grownBy w2 v1.ownBlock) (hg : v1.ownBlock = some q ∨ q = wE.heap.size + 1) (ha : Has w2 g 30 (bkv v0 v1 f0 f1 b0 b1) 6) :
    NB B g b0 b1 v0 (.slice (some ⟨q, 0, none⟩) m cp) l0 (l1 ++ [u]) f0 f1 (w2.setCell ⟨g, 1, none⟩ (.slice (some ⟨q, 0, none⟩) m cp)) ∧ Below B wE (w2.setCell ⟨g, 1, none⟩ (.slice (some ⟨q, 0, none⟩) m cp)) := by
  have hlt := h.arr.lt
  have hge := h.ge
  refine ⟨⟨(ha.set 1 _).congr _ (fun i hi => by
      have : i = 0 ∨ i = 1 ∨ i = 2 ∨ i = 3 ∨ i = 4 ∨ i = 5 := by omega
      rcases this with rfl | rfl | rfl | rfl | rfl | rfl <;> simp [upd, bkv]), h.o0.same (fun k hk => by
      have hlt := (h.o0.lt k hk)
      rw [Below.heap_setCell w2 ⟨g, 1, none⟩ _ k (by show k ≠ g; omega), hgr.block k (by rw [size_alloc]; omega) (fun e => h.apart k hk e.symm)]
      exact heap_alloc_old wE _ hlt.2), ho2.same (fun k hk => Below.heap_setCell w2 ⟨g, 1, none⟩ _ k (by have := (ho2.lt k hk).1; show k ≠ g; omega)), fun k hk h1 => by
      have hk' : k = q := by simpa [Value.ownBlock] using h1.symm
      subst hk'
      rcases hg with e | e
      · exact h.apart k hk e
      · have := (h.o0.lt k hk).2; omega, h.ge⟩, ?_⟩
  have hb : Below B wE w2 := by
    refine ((Below.refl B wE).alloc (by omega) _).trans ⟨hgr.os, hgr.tape, hgr.output, hgr.size, fun k hk => hgr.block k (by rw [size_alloc]; omega) (fun e => by have := (h.o1.lt k e.symm).1; omega)⟩
  exact hb.setCell h.ge _
/-- The book, and that it is in order. -/
def NS (B g : Nat) (b0 b1 : Int) (w : World) : Prop := ∃ v0 v1 l0 l1 f0 f1, NB B g b0 b1 v0 v1 l0 l1 f0 f1 w ∧ Nv b0 b1 l0 l1 f0 f1 ∧ l0.length ≤ 2048 ∧ l1.length ≤ 2048
/-- A step, as it lies. -/
def stv (k s n : Int) : Nat → Value := fun i => if i = 0 then .int .i64 k else if i = 1 then .int .i64 s else .int .i64 n
theorem OwnZ.get {B : Nat} {w : World} {v : Value} {l : List Int} (h : OwnZ B w v l) {k : Nat} {z : Int} (hk : l[k]? = some z) : ∃ g cap, v = .slice (some ⟨g, 0, none⟩) l.length cap ∧ w.cell? ⟨g, k, none⟩ = some (.int .i64 z) ∧ B ≤ g ∧ g < w.heap.size := by
  have hb := h.lt
  obtain ⟨hl, ⟨rfl, hn⟩ | ⟨g, cap, cur, rfl, hb', hg, h1, h2, h3, h4⟩⟩ := h
  · have := List.length_eq_zero_iff.1 hn; subst this; simp at hk
  · refine ⟨g, cap, rfl, ?_, (hb g rfl).1, (hb g rfl).2⟩
    rw [cell_of_row w g _ cur _ (0, 0) hg]
    have e : (cellsZ l)[k]? = some (.int .i64 z) := by unfold cellsZ; rw [List.getElem?_map, hk]; rfl
    have hkl : k < l.length := (List.getElem?_eq_some_iff.1 hk).1
    have e2 : (cur.toList.take (l.length * 1))[k]? = some (.int .i64 z) := by rw [h4]; exact e
    rw [List.getElem?_take_of_lt (by omega), Array.getElem?_toList] at e2
    exact e2
theorem OwnZ.len {B : Nat} {w : World} {v : Value} {l : List Int} (h : OwnZ B w v l) : ∃ ad cap, v = .slice ad l.length cap := by
  obtain ⟨hl, ⟨rfl, hn⟩ | ⟨g, cap, cur, rfl, hb', hg, h1, h2, h3, h4⟩⟩ := h
  · exact ⟨none, 0, by rw [hn]⟩
  · exact ⟨_, cap, rfl⟩
theorem nval1 {i m : Int} (hi : 0 ≤ i ∧ i < 2048) (hm : 1 ≤ m ∧ m ≤ 1152921504606846976) : addB (⟨1, i, m, fun _ => 0, nilB⟩ : Upd) = true := by
  have i0 : decide (i < 0) = false := decide_eq_false (by omega)
  have i1 : decide (2048 ≤ i) = false := decide_eq_false (by omega)
  have i2 : decide (1 ≤ m) = true := decide_eq_true hm.1
  have i3 : decide (m ≤ 1152921504606846976) = true := decide_eq_true hm.2
  have n0 : nilB.toList.isEmpty = true := by decide +kernel
  unfold addB validB noteE
  simp [i0, i1, i2, i3, n0]
theorem nval2 {i k : Int} (hk : k = 2 ∨ k = 3) (hi : 0 ≤ i ∧ i < 2048) : validB (⟨k, i, 0, fun _ => 0, nilB⟩ : Upd) = true := by
  have i0 : decide (i < 0) = false := decide_eq_false (by omega)
  have i1 : decide (2048 ≤ i) = false := decide_eq_false (by omega)
  have n0 : nilB.toList.isEmpty = true := by decide +kernel
  have n1 : decide (((nilB.size : Nat) : Int) ≤ 64) = true := by decide +kernel
  have n2 : zeroH (fun _ => (0 : UInt8)) = true := by decide +kernel
  rcases hk with rfl | rfl <;> unfold validB noteE <;> simp [i0, i1, n0, n1, n2]
set_option maxRecDepth 100000 in
theorem built_uR (k i : Int) : Try.prog.built 43 [(0, .int .i64 k), (1, .int .i64 i)] = some (tabv (⟨k, i, 0, fun _ => 0, nilB⟩ : Upd).v 36) := by kernel_rfl
end Go.Proofs.Ytbeoojnofblnjaa
