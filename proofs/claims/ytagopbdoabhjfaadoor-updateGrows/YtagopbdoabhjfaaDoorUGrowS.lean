/-
  UpdateGrows: words among the arguments, two lists in an array, one more update.
-/
import Derived.Test.YtagopbdoabhjfaaDoorUGrow3
import Derived.Test.YtagopbdoabhjfaaDoorLast
import Derived.Deep.AppendLies
import Derived.Deep.CutRange
namespace Go.Proofs.YtagopbdoabhjfaaDoor
open Go.RowKit S
set_option linter.unusedVariables false
set_option linter.unusedSimpArgs false
structure Wd where
  two : Bool
  u : Upd
  most : Int
  right : Bool
def Wd.v (x : Wd) : Nat → Value := fun i => if i = 0 then .bool x.two else if i < 37 then x.u.v (i - 1) else if i = 37 then .int .i64 x.most else .bool x.right
def Wd.zero : Wd := ⟨false, Upd.zero, 0, false⟩
theorem Wd.v_u (x : Wd) (j : Nat) (hj : j < 36) : x.v (1 + j) = x.u.v j := by
  unfold Wd.v
  rw [if_neg (by omega), if_pos (by omega), Nat.add_sub_cancel_left]
theorem Wd.one (x : Wd) (i : Nat) : (x.v i).oneCell' = true := by
  unfold Wd.v
  split
  · rfl
  · split
    · exact oneV _ _
    · split <;> rfl
def Words (w : World) (ad : Option Addr) (l : List Wd) : Prop := l = [] ∨ ∃ b o, ad = some ⟨b, o, none⟩ ∧ b < w.heap.size ∧ ∀ i x, l[i]? = some x → At w b (o + i * 39) x.v 39
theorem Words.get {w : World} {ad : Option Addr} {l : List Wd} (h : Words w ad l) (k : Nat) (s : Wd) (hk : l[k]? = some s) : ∃ b o, ad = some ⟨b, o, none⟩ ∧ b < w.heap.size ∧ At w b (o + k * 39) s.v 39 := by
  rcases h with rfl | ⟨b, o, h1, h2, h3⟩
  · simp at hk
  · exact ⟨b, o, h1, h2, h3 k s hk⟩
theorem Words.below {w w' : World} {ad : Option Addr} {l : List Wd} (h : Words w ad l) (hb : Below w.heap.size w w') : Words w' ad l := by
  rcases h with rfl | ⟨b, o, h1, h2, h3⟩
  · exact .inl rfl
  · exact .inr ⟨b, o, h1, Nat.lt_of_lt_of_le h2 hb.size, fun i s hs => (h3 i s hs).below hb h2⟩
theorem infoW : (Tryd.prog.info? 43).map (·.size) = some 39 := by kernel_rfl
theorem zero39 : (#[.bool false, .int .i64 0, .int .i64 0, .int .i64 0, .int .u8 0, .int .u8 0, .int .u8 0, .int .u8 0, .int .u8 0, .int .u8 0, .int .u8 0, .int .u8 0, .int .u8 0, .int .u8 0, .int .u8 0, .int .u8 0, .int .u8 0, .int .u8 0, .int .u8 0, .int .u8 0, .int .u8 0, .int .u8 0, .int .u8 0, .int .u8 0, .int .u8 0, .int .u8 0, .int .u8 0, .int .u8 0, .int .u8 0, .int .u8 0, .int .u8 0, .int .u8 0, .int .u8 0, .int .u8 0, .int .u8 0, .int .u8 0, .string { data := #[] }, .int .i64 0, .bool false] : Array Value) = tabv Wd.zero.v 39 := rfl
section
variable {ops : Array Oper} {rest : List Oper} {o : Oper} {a : Act} {w : World} {Q : Exit → Act → World → Prop}
theorem wpList_storeW (hgd : o.guard = none) (x y : Operand) (ho : o.op = .store 43 x y) (hd : o.dst = none) (g : Nat) (s : Wd) (hx : a.eval x = .pointer (some ⟨g, 0, none⟩)) (hy : a.eval y = .agg (tabv s.v 39)) (f : Nat → Value) (hg : Has w g 43 f 39)
    (hk : wpList Tryd.prog ops Q rest a (w.setRow g (tabv s.v 39))) : wpList Tryd.prog ops Q (o :: rest) a w :=
  wpList_store_part hgd 43 x y ho hd g 0 s.v 39 hx hy 43 f 39 hg (by omega) infoW (fun i _ => s.one i) s.v (fun i hi => by unfold splice; rw [if_pos (by omega), Nat.sub_zero]) hk
end
theorem newW (w5 : World) (s : Wd) : ∃ w6 w7, w5.alloc (.cells #[.bool false, .int .i64 0, .int .i64 0, .int .i64 0, .int .u8 0, .int .u8 0, .int .u8 0, .int .u8 0, .int .u8 0, .int .u8 0, .int .u8 0, .int .u8 0, .int .u8 0, .int .u8 0, .int .u8 0, .int .u8 0, .int .u8 0, .int .u8 0, .int .u8 0, .int .u8 0, .int .u8 0, .int .u8 0, .int .u8 0, .int .u8 0, .int .u8 0, .int .u8 0, .int .u8 0, .int .u8 0, .int .u8 0, .int .u8 0, .int .u8 0, .int .u8 0, .int .u8 0, .int .u8 0, .int .u8 0, .int .u8 0, .string { data := #[] }, .int .i64 0, .bool false] 43) = w6 ∧ Has w6 w5.heap.size 43 Wd.zero.v 39 ∧ w6.setRow w5.heap.size (tabv s.v 39) = w7 ∧ Has w7 w5.heap.size 43 s.v 39 ∧ Below w5.heap.size w5 w7 := by
  have q1 : Has (w5.alloc (.cells (tabv Wd.zero.v 39) 43)) w5.heap.size 43 Wd.zero.v 39 := Has.new w5 43 Wd.zero.v 39 _ rfl
  exact ⟨_, _, by rw [zero39], q1, rfl, q1.row _ s.v rfl, below_setRow ((Below.refl w5.heap.size w5).alloc (Nat.le_refl _) _) (Nat.le_refl _) _⟩
def pairV (v0 v1 : Value) : Nat → Value := fun i => if i = 0 then v0 else v1
/-- The two lists, in an array at gL. -/
structure GS (w0 : World) (gL : Nat) (wr : World) (v0 v1 : Value) (l0 l1 : List Upd) : Prop where
  arr : Has wr gL 41 (pairV v0 v1) 2
  o0 : OwnU (gL + 1) wr v0 l0
  o1 : OwnU (gL + 1) wr v1 l1
  apart : ∀ k, v0.ownBlock = some k → v1.ownBlock ≠ some k
  bel : Below w0.heap.size w0 wr
  ge : w0.heap.size ≤ gL
  s0 : Sound l0 l1
  s1 : Sound l1 l0
theorem GS.below {w0 wr wx : World} {gL : Nat} {v0 v1 : Value} {l0 l1 : List Upd} (h : GS w0 gL wr v0 v1 l0 l1) (hb : Below wr.heap.size wr wx) : GS w0 gL wx v0 v1 l0 l1 :=
  ⟨h.arr.below hb h.arr.lt, h.o0.below hb (Nat.le_refl _), h.o1.below hb (Nat.le_refl _), h.apart, h.bel.trans (hb.mono h.bel.size), h.ge, h.s0, h.s1⟩
theorem GS.belowC {w0 wr wx : World} {gL g : Nat} {v0 v1 : Value} {l0 l1 : List Upd} (h : GS w0 gL wr v0 v1 l0 l1) (hb : Below g wr wx) (hg : gL < g) (h0 : ∀ k, v0.ownBlock = some k → k < g) (h1 : ∀ k, v1.ownBlock = some k → k < g) : GS w0 gL wx v0 v1 l0 l1 :=
  ⟨h.arr.below hb hg, h.o0.same (fun k hk => hb.block k (h0 k hk)), h.o1.same (fun k hk => hb.block k (h1 k hk)), h.apart, h.bel.trans (hb.mono (by have := h.ge; omega)), h.ge, h.s0, h.s1⟩
/-- append(v, s), with where it lies. -/
theorem run_appL (w : World) (B : Nat) (v : Value) (l : List Upd) (s : Upd) (ty : TypeId) (hown : OwnU B w v l) (hsz : (l.length + 1) * 72 ≤ 140737488355328) (hB : B ≤ w.heap.size) :
    ∃ g cap w', (Builtin.append_ #[38, 38] ty #[v, .slice (some ⟨w.heap.size, 0, none⟩) 1 1]).run Tryd.prog (w.alloc (.cells (tabv s.v 36) 25)) = .ok (.slice (some ⟨g, 0, none⟩) (l.length + 1) cap) w' ∧ OwnU B w' (.slice (some ⟨g, 0, none⟩) (l.length + 1) cap) (l ++ [s]) ∧ (w.alloc (.cells (tabv s.v 36) 25)).grownBy w' v.ownBlock ∧ (v.ownBlock = some g ∨ g = w.heap.size + 1) := by
  obtain ⟨i, h1, h2, h3, h4⟩ := infoUP
  have hb : Has (w.alloc (.cells (tabv s.v 36) 25)) w.heap.size 25 s.v 36 := Has.new w 25 s.v 36 _ rfl
  have ho : OwnU B (w.alloc (.cells (tabv s.v 36) 25)) v l := World.ownsRow.alloc hown _
  obtain ⟨g, cap, w', e1, e2, e3, e4, _⟩ := run_append_lies (P := Tryd.prog) (w.alloc (.cells (tabv s.v 36) 25)) 38 ty B 25 i _ 36 72 Tryd.underlying38 h1 h2 h3 h4 (by rfl) (by omega) v l.length (cellsU l) ho ⟨w.heap.size, 0, none⟩ 1 1 (cellsU [s]) (by rw [cellsU_length]; rfl)
    (fun j u hj => by
      have hj' : j < 36 := by have := (List.getElem?_eq_some_iff.1 hj).1; rw [cellsU_length] at this; simpa using this
      have hadd : (⟨w.heap.size, 0, none⟩ : Addr).add j = ⟨w.heap.size, j, none⟩ := by unfold Addr.add; split <;> simp_all
      rw [hadd, hb.cell j hj', ← hj, cellsU_one, Array.getElem?_toList, tabv_get _ _ _ hj'])
    (oneCell_U _) (by omega) (by unfold maxLen; omega) hsz (by rw [size_alloc]; omega) (w.heap.size + 1) (by rw [size_alloc])
  refine ⟨g, cap, w', e1, ?_, e3, e4⟩
  unfold OwnU
  rw [List.length_append, cellsU_append]
  exact e2
theorem GS.app0 {w0 wE w2 : World} {gL g m cp : Nat} {v0 v1 : Value} {l0 l1 : List Upd} {u : Upd} (h : GS w0 gL wE v0 v1 l0 l1) (ho2 : OwnU (gL + 1) w2 (.slice (some ⟨g, 0, none⟩) m cp) (l0 ++ [u])) (hgr : (wE.alloc (.cells (tabv u.v 36) 25)).grownBy w2 v0.ownBlock) (hg : v0.ownBlock = some g ∨ g = wE.heap.size + 1) (ha : Has w2 gL 41 (pairV v0 v1) 2) (hs : Sound (l0 ++ [u]) l1) (hs2 : Sound l1 (l0 ++ [u])) :
    GS w0 gL (w2.setCell ⟨gL, 0, none⟩ (.slice (some ⟨g, 0, none⟩) m cp)) (.slice (some ⟨g, 0, none⟩) m cp) v1 (l0 ++ [u]) l1 := by
  have hlt := h.arr.lt
  have hge := h.ge
  refine ⟨(ha.set 0 _).congr (pairV (.slice (some ⟨g, 0, none⟩) m cp) v1) (fun i hi => by
      have : i = 0 ∨ i = 1 := by omega
      rcases this with rfl | rfl <;> simp [upd, pairV]), ho2.same (fun k hk => Below.heap_setCell w2 ⟨gL, 0, none⟩ _ k (by have := (ho2.lt k hk).1; show k ≠ gL; omega)), h.o1.same (fun k hk => by
      have hlt := (h.o1.lt k hk)
      rw [Below.heap_setCell w2 ⟨gL, 0, none⟩ _ k (by show k ≠ gL; omega), hgr.block k (by rw [size_alloc]; omega) (fun e => h.apart k e.symm hk)]
      exact heap_alloc_old wE _ hlt.2), fun k hk => by
      have hk' : k = g := by simpa [Value.ownBlock] using hk.symm
      subst hk'
      intro h1
      rcases hg with e | e
      · exact h.apart k e h1
      · have := (h.o1.lt k h1).2; omega, ?_, h.ge, hs, hs2⟩
  have hb : Below w0.heap.size w0 w2 := by
    refine (h.bel.alloc h.bel.size _).trans ⟨hgr.os, hgr.tape, hgr.output, hgr.size, fun k hk => hgr.block k (by rw [size_alloc]; omega) (fun e => by have := (h.o0.lt k e.symm).1; omega)⟩
  exact hb.setCell h.ge _
theorem GS.app1 {w0 wE w2 : World} {gL g m cp : Nat} {v0 v1 : Value} {l0 l1 : List Upd} {u : Upd} (h : GS w0 gL wE v0 v1 l0 l1) (ho2 : OwnU (gL + 1) w2 (.slice (some ⟨g, 0, none⟩) m cp) (l1 ++ [u])) (hgr : (wE.alloc (.cells (tabv u.v 36) 25)).grownBy w2 v1.ownBlock) (hg : v1.ownBlock = some g ∨ g = wE.heap.size + 1) (ha : Has w2 gL 41 (pairV v0 v1) 2) (hs : Sound (l1 ++ [u]) l0) (hs2 : Sound l0 (l1 ++ [u])) :
    GS w0 gL (w2.setCell ⟨gL, 1, none⟩ (.slice (some ⟨g, 0, none⟩) m cp)) v0 (.slice (some ⟨g, 0, none⟩) m cp) l0 (l1 ++ [u]) := by
  have hlt := h.arr.lt
  have hge := h.ge
  refine ⟨(ha.set 1 _).congr (pairV v0 (.slice (some ⟨g, 0, none⟩) m cp)) (fun i hi => by
      have : i = 0 ∨ i = 1 := by omega
      rcases this with rfl | rfl <;> simp [upd, pairV]), h.o0.same (fun k hk => by
      have hlt := (h.o0.lt k hk)
      rw [Below.heap_setCell w2 ⟨gL, 1, none⟩ _ k (by show k ≠ gL; omega), hgr.block k (by rw [size_alloc]; omega) (fun e => h.apart k hk e.symm)]
      exact heap_alloc_old wE _ hlt.2), ho2.same (fun k hk => Below.heap_setCell w2 ⟨gL, 1, none⟩ _ k (by have := (ho2.lt k hk).1; show k ≠ gL; omega)), fun k hk h1 => by
      have hk' : k = g := by simpa [Value.ownBlock] using h1.symm
      subst hk'
      rcases hg with e | e
      · exact h.apart k hk e
      · have := (h.o0.lt k hk).2; omega, ?_, h.ge, hs2, hs⟩
  have hb : Below w0.heap.size w0 w2 := by
    refine (h.bel.alloc h.bel.size _).trans ⟨hgr.os, hgr.tape, hgr.output, hgr.size, fun k hk => hgr.block k (by rw [size_alloc]; omega) (fun e => by have := (h.o1.lt k e.symm).1; omega)⟩
  exact hb.setCell h.ge _
theorem wpRunS {P : Program} {o : Oper} {a : Act} {w w' : World} {next : Act → World → Prop} {Q : Exit → Act → World → Prop} (s x : Operand) (tys : Array TypeId) (ho : o.op = .call { callee := .builtin .append, args := #[s, x], argTypes := tys }) (v : Value) (h : (Builtin.append_ tys o.type #[a.eval s, a.eval x]).run P w = .ok v w') (k : next (a.put o.dst v) w') : Oper.wp P o a w next Q :=
  wpRun (by simp [execOp, ho, resolve, invoke, builtin, h, Result.andThen]) k
end Go.Proofs.YtagopbdoabhjfaaDoor
