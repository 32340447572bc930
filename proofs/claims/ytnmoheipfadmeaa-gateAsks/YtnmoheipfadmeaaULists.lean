/-
  The Add with an ID, the removal of an ID, how many Adds (printed by gen_lists.py).
-/
import Derived.Test.YtnmoheipfadmeaaUValid
namespace Go.Proofs.Ytnmoheipfadmeaa
open Go.RowKit S
set_option linter.unusedVariables false
set_option linter.unusedSimpArgs false
theorem oneV (s : Upd) (i : Nat) : (s.v i).oneCell' = true := by
  unfold Upd.v
  repeat' split
  all_goals rfl
section
variable {ops : Array Oper} {rest : List Oper} {o : Oper} {a : Act} {w : World} {Q : Exit → Act → World → Prop}
theorem wpList_storeU (hgd : o.guard = none) (x y : Operand) (ho : o.op = .store 40 x y) (hd : o.dst = none) (g : Nat) (s : Upd) (hx : a.eval x = .pointer (some ⟨g, 0, none⟩)) (hy : a.eval y = .agg (tabv s.v 36)) (f : Nat → Value) (hg : Has w g 40 f 36)
    (hk : wpList Try.prog ops Q rest a (w.setRow g (tabv s.v 36))) : wpList Try.prog ops Q (o :: rest) a w :=
  wpList_store_part hgd 40 x y ho hd g 0 s.v 36 hx hy 40 f 36 hg (by omega) infoU (fun i _ => oneV s i) s.v (fun i hi => by unfold splice; rw [if_pos (by omega), Nat.sub_zero]) hk
set_option maxRecDepth 100000 in
theorem builtZ : Try.prog.built 40 [] = some (tabv Upd.zero.v 36) := by kernel_rfl
theorem wpList_buildZ (hgd : o.guard = none) (ho : o.op = .build 40 #[])
    (hk : wpList Try.prog ops Q rest (a.put o.dst (.agg (tabv Upd.zero.v 36))) w) : wpList Try.prog ops Q (o :: rest) a w :=
  wpList_plain hgd fun K hK => by
    have e : ((#[] : Array (Nat × Operand)).map fun (i, y) => (i, a.eval y)).toList = [] := by simp
    refine wp_build _ _ ho (by rw [e, builtZ]; rfl) ?_
    rw [e, builtZ]
    exact hK _ _ hk
end
theorem resU2 (w : World) (g : Nat) (f : Nat → Value) (tmps : Array Value) (k : Value) (c t : Nat) (hg : Has w g 40 f 36) (hp : tmps.getD c undef = .pointer (some ⟨g, 0, none⟩)) (hq : tmps.getD t undef = k) (fn : Func) (h : fn.results = #[.cell c 40, .tmp t]) :
    (results fn tmps).run Try.prog w = .ok (.tuple #[.agg (tabv f 36), k]) w := by
  rw [results_cell_tmp h, hp, hq]
  have := run_loadVar_row (P := Try.prog) w g 40 40 (tabv f 36) (0, 0) _ hg Try.underlying40 rfl (by rw [tabv_size]; exact infoU)
  simp [asAddr, this]
/-- The Add with an ID; the removal of an ID. -/
def isAdd (id : Int) (u : Upd) : Bool := (u.kind == 1) && (u.id == id)
def remB (u : Upd) : Bool := (u.kind == 2) || (u.kind == 3)
def isRem (id : Int) (u : Upd) : Bool := remB u && (u.id == id)
def addsN (l : List Upd) : Nat := (l.filter fun u => u.kind == 1).length
def orZ (o : Option Upd) : Upd := o.getD Upd.zero
section
variable {p : Upd → Bool} {l : List Upd} {j : Nat} {x : Upd}
theorem take_snoc (hx : l[j]? = some x) : l.take (j + 1) = l.take j ++ [x] := by
  obtain ⟨h, rfl⟩ := List.getElem?_eq_some_iff.1 hx
  exact List.take_succ_eq_append_getElem h
theorem find_next (hx : l[j]? = some x) (h0 : (l.take j).find? p = none) (hp : p x = false) : (l.take (j + 1)).find? p = none := by
  rw [take_snoc hx, List.find?_append, h0]; simp [hp]
theorem find_at (hx : l[j]? = some x) (h0 : (l.take j).find? p = none) (hp : p x = true) : l.find? p = some x := by
  have e : (l.take (j + 1) ++ l.drop (j + 1)).find? p = some x := by
    rw [List.find?_append, take_snoc hx, List.find?_append, h0]; simp [hp]
  rwa [List.take_append_drop] at e
theorem find_end (h0 : (l.take l.length).find? p = none) : l.find? p = none := by rwa [List.take_length] at h0
theorem adds_next (hx : l[j]? = some x) (b : Bool) (hb : (x.kind == 1) = b) : addsN (l.take (j + 1)) = addsN (l.take j) + (if b = true then 1 else 0) := by
  unfold addsN; rw [take_snoc hx, List.filter_append, List.length_append]
  cases b <;> simp [hb]
theorem adds_le (l : List Upd) : addsN l ≤ l.length := List.length_filter_le _ _
end
-- left out in this seat: removes_any
-- left out in this seat: find_any
-- left out in this seat: rem_any
-- left out in this seat: rfind_any
-- left out in this seat: rrem_any
-- left out in this seat: adds_any
-- left out in this seat: radds_any
end Go.Proofs.Ytnmoheipfadmeaa
