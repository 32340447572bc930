/-
  SLOTS: plain, and in memory.
-/
import Derived.Test.YtmmcoedgoekhgaaGreatDoorUBase
import Derived.Test.YtmmcoedgoekhgaaGreatDoorSCode
import Derived.Laws.OwnMore
import Derived.Laws.StructEq
import Derived.OwnWalk
namespace Go.Proofs.YtmmcoedgoekhgaaGreatDoor
set_option maxRecDepth 20000
open Go.RowKit S
set_option linter.unusedVariables false
set_option linter.unusedSimpArgs false
structure Slot where
  idx : Int
  sec : Nat → UInt8
  full : Bool
def Slot.v (s : Slot) : Nat → Value := fun i => if i = 0 then .int .i64 s.idx else if i < 33 then .int .u8 ((s.sec (i - 1)).toNat : Int) else .bool s.full
def Slot.zero : Slot := ⟨0, fun _ => 0, false⟩
theorem Slot.v_idx (s : Slot) : s.v 0 = .int .i64 s.idx := rfl
theorem Slot.v_full (s : Slot) : s.v 33 = .bool s.full := rfl
theorem Slot.v_sec (s : Slot) (i : Nat) (hi : i < 32) : s.v (1 + i) = bv s.sec i := by
  unfold Slot.v bv
  rw [if_neg (by omega), if_pos (by omega), show 1 + i - 1 = i by omega]
def cellsS (l : List Slot) : List Value := l.flatMap fun s => (tabv s.v 34).toList
theorem cellsS_cons (s : Slot) (l : List Slot) : cellsS (s :: l) = (tabv s.v 34).toList ++ cellsS l := by simp [cellsS]
theorem cellsS_length : ∀ l : List Slot, (cellsS l).length = l.length * 34
  | [] => rfl
  | s :: l => by rw [cellsS_cons, List.length_append, tabv_len, cellsS_length l, List.length_cons]; omega
theorem cellsS_get : ∀ (l : List Slot) (k : Nat) (s : Slot) (hk : l[k]? = some s) (j : Nat), j < 34 → (cellsS l)[k * 34 + j]? = some (s.v j)
  | [], k, s, hk, j, hj => by simp at hk
  | x :: l, 0, s, hk, j, hj => by
    simp only [List.getElem?_cons_zero, Option.some.injEq] at hk
    subst hk
    rw [cellsS_cons, List.getElem?_append_left (by rw [tabv_len]; omega), Array.getElem?_toList, Nat.zero_mul, Nat.zero_add, tabv_get _ _ _ hj]
  | x :: l, k + 1, s, hk, j, hj => by
    simp only [List.getElem?_cons_succ] at hk
    rw [cellsS_cons, List.getElem?_append_right (by rw [tabv_len]; omega), tabv_len, show (k + 1) * 34 + j - 34 = k * 34 + j by omega]
    exact cellsS_get l k s hk j hj
theorem oneCell_tabvH (s : Slot) : ∀ u ∈ (tabv s.v 34).toList, u.oneCell' = true := by
  intro u hu
  obtain ⟨i, hi, rfl⟩ := List.mem_iff_getElem.1 hu
  have hi' : i < 34 := by rw [tabv_len] at hi; exact hi
  have e : (tabv s.v 34).toList[i]? = some (s.v i) := by rw [Array.getElem?_toList, tabv_get _ _ _ hi']
  rw [List.getElem?_eq_getElem hi] at e
  rw [Option.some.inj e]
  unfold Slot.v
  split
  · rfl
  · split <;> rfl
theorem oneCell_S (l : List Slot) : ∀ u ∈ cellsS l, u.oneCell' = true := by
  intro u hu
  obtain ⟨s, _, h⟩ := List.mem_flatMap.1 hu
  exact oneCell_tabvH s u h
-- stands in another text: At
-- stands in another text: At.below
section
variable {P : Program}
-- stands in another text: run_loadVar_at
-- stands in another text: wpW_load_at
-- stands in another text: run_load_at
end
-- stands in another text: Has.at_
/-- Slots behind a slice's address. -/
def Slots (w : World) (ad : Option Addr) (l : List Slot) : Prop := l = [] ∨ ∃ b o, ad = some ⟨b, o, none⟩ ∧ b < w.heap.size ∧ ∀ i s, l[i]? = some s → At w b (o + i * 34) s.v 34
theorem Slots.nil (w : World) (ad : Option Addr) : Slots w ad [] := .inl rfl
theorem Slots.get {w : World} {ad : Option Addr} {l : List Slot} (h : Slots w ad l) (k : Nat) (s : Slot) (hk : l[k]? = some s) : ∃ b o, ad = some ⟨b, o, none⟩ ∧ b < w.heap.size ∧ At w b (o + k * 34) s.v 34 := by
  rcases h with rfl | ⟨b, o, h1, h2, h3⟩
  · simp at hk
  · exact ⟨b, o, h1, h2, h3 k s hk⟩
theorem Slots.below {w w' : World} {ad : Option Addr} {l : List Slot} (h : Slots w ad l) (hb : Below w.heap.size w w') : Slots w' ad l := by
  rcases h with rfl | ⟨b, o, h1, h2, h3⟩
  · exact .inl rfl
  · exact .inr ⟨b, o, h1, Nat.lt_of_lt_of_le h2 hb.size, fun i s hs => (h3 i s hs).below hb h2⟩
/-- A list of slots of one's own. -/
def OwnS (B : Nat) (w : World) (v : Value) (l : List Slot) : Prop := w.ownsRow B 106 34 v l.length (cellsS l)
theorem infoS : (Tryz.prog.info? 106).map (·.size) = some 34 := by kernel_rfl
theorem infoS3 : (Tryz.prog.info? 106).map (fun i => (i.zero, i.size, i.bytes)) = some (some (.agg (tabv Slot.zero.v 34)), 34, 48) := by kernel_rfl
theorem infoPH : ∃ i, Tryz.prog.info? 106 = some i ∧ i.zero = some (.agg (tabv Slot.zero.v 34)) ∧ i.size = 34 ∧ i.bytes = 48 := by
  have h := infoS3
  cases hq : Tryz.prog.info? 106 with
  | none => simp [hq] at h
  | some i => simp [hq] at h; exact ⟨i, rfl, h.1, h.2.1, h.2.2⟩
theorem OwnS.nil (B : Nat) (w : World) : OwnS B w (.slice none 0 0) [] := World.ownsRow_nil w B _ _
theorem OwnS.mono {B B' : Nat} {w : World} {v : Value} {l : List Slot} (h : OwnS B w v l) (hb : B' ≤ B) : OwnS B' w v l :=
  ⟨h.1, h.2.imp id fun ⟨g, cap, cur, h1, h2, h3⟩ => ⟨g, cap, cur, h1, Nat.le_trans hb h2, h3⟩⟩
theorem OwnS.lt {B : Nat} {w : World} {v : Value} {l : List Slot} (h : OwnS B w v l) : ∀ k, v.ownBlock = some k → B ≤ k ∧ k < w.heap.size := World.ownsRow.lt h
theorem OwnS.same {B : Nat} {w w' : World} {v : Value} {l : List Slot} (h : OwnS B w v l) (e : ∀ k, v.ownBlock = some k → w'.heap[k]? = w.heap[k]?) : OwnS B w' v l := by
  refine ⟨h.1, h.2.imp id fun ⟨g, cap, cur, h1, h2, h3, h4⟩ => ⟨g, cap, cur, h1, h2, ?_, h4⟩⟩
  rw [e g (by rw [h1]; rfl), h3]
theorem OwnS.below {B B' : Nat} {w w' : World} {v : Value} {l : List Slot} (h : OwnS B w v l) (hb : Below B' w w') (hB : w.heap.size ≤ B') : OwnS B w' v l := h.same fun k hk => hb.block k (Nat.lt_of_lt_of_le (h.lt k hk).2 hB)
theorem OwnS.slots {B : Nat} {w : World} {v : Value} {l : List Slot} (h : OwnS B w v l) : ∃ ad cap, v = .slice ad l.length cap ∧ Slots w ad l ∧ (∀ x, ad = some x → x.block < w.heap.size ∧ B ≤ x.block) ∧ l.length ≤ cap ∧ cap ≤ maxLen := by
  obtain ⟨hl, ⟨rfl, hn⟩ | ⟨g, cap, cur, rfl, hb, hg, h1, h2, h3, h4⟩⟩ := h
  · have : l = [] := List.length_eq_zero_iff.1 hn
    subst this
    exact ⟨none, 0, rfl, .inl rfl, (fun x hx => by cases hx), by simp, by decide⟩
  · have hlt : g < w.heap.size := by
      rcases Nat.lt_or_ge g w.heap.size with h | h
      · exact h
      · rw [Array.getElem?_eq_none h] at hg; cases hg
    refine ⟨some ⟨g, 0, none⟩, cap, rfl, .inr ⟨g, 0, rfl, hlt, fun i s hs j hj => ?_⟩, (fun x hx => by cases hx; exact ⟨hlt, hb⟩), h1, h2⟩
    rw [cell_of_row w g _ cur _ (0, 0) hg]
    have hi : i < l.length := (List.getElem?_eq_some_iff.1 hs).1
    have e := cellsS_get l i s hs j hj
    rw [← h4, List.getElem?_take] at e
    rw [if_pos (by omega), Array.getElem?_toList] at e
    rw [show 0 + i * 34 + j = i * 34 + j by omega]
    exact e
-- stands in another text: eqH
-- stands in another text: eqH_refl
-- stands in another text: eqH_iff
-- stands in another text: eqH_tab
def eqSl (s t : Slot) : Bool := (s.idx == t.idx) && (eqH s.sec t.sec && (s.full == t.full))
theorem eqSl_refl (s : Slot) : eqSl s s = true := by unfold eqSl; rw [eqH_refl]; simp
theorem fieldsSlot : (Tryz.prog.fieldsOf 106).toList.map (fun f => (f.name, f.type, f.offset)) = [("Index", 2, 0), ("Secret", 23, 1), ("Full", 4, 33)] := by kernel_rfl
theorem partSec (w : World) (s : Slot) : (part 23 (tabv s.v 34) 1).run Tryz.prog w = .ok (.agg (tabv (bv s.sec) 32)) w := by
  have hi : (Tryz.prog.info? 23).map (·.size) = some 32 := by kernel_rfl
  cases hq : Tryz.prog.info? 23 with
  | none => simp [hq] at hi
  | some i =>
    have hs : i.size = 32 := by simpa [hq] using hi
    have e : (tabv s.v 34).extract 1 33 = tabv (bv s.sec) 32 := by
      refine tabv_ext _ _ _ (by simp [tabv_size]) fun i hi => ?_
      rw [Array.getElem?_extract, tabv_get _ _ _ (by omega)]
      simp only [tabv_size]
      rw [if_pos (by omega), Slot.v_sec s i hi]
    simp [part, isAgg, run_underlying Tryz.underlying23, sizeOf, typeInfo, hq, hs, e]
theorem eqBoolD (d : Nat) (w : World) (a b : Bool) : (Op.equalIn (d + 1) 4 (.bool a) (.bool b)).run Tryz.prog w = .ok (a == b) w := by simp [Op.equalIn, run_underlying Tryz.underlying4]
set_option maxRecDepth 100000 in
theorem eqSD (w : World) (s t : Slot) : (Op.equalIn 10000 106 (.agg (tabv s.v 34)) (.agg (tabv t.v 34))).run Tryz.prog w = .ok (eqSl s t) w := by
  rw [run_equalIn_struct w 9999 106 _ _ (by kernel_rfl) (by kernel_rfl)]
  have hf := fieldsSlot
  generalize (Tryz.prog.fieldsOf 106).toList = fs at hf
  rcases fs with _ | ⟨f0, _ | ⟨f1, _ | ⟨f2, _ | ⟨f3, fs⟩⟩⟩⟩
  · simp at hf
  · simp at hf
  · simp at hf
  · simp only [List.map_cons, List.map_nil, List.cons.injEq, Prod.mk.injEq, and_true] at hf
    obtain ⟨⟨n0, t0, o0⟩, ⟨n1, t1, o1⟩, n2, t2, o2⟩ := hf
    have p0 : ∀ s : Slot, (part 2 (tabv s.v 34) 0).run Tryz.prog w = .ok (.int .i64 s.idx) w := fun s => by simp [part, isAgg, run_underlying Tryz.underlying2, tabv_get _ _ _ (show 0 < 34 by omega), Slot.v_idx]
    have p2 : ∀ s : Slot, (part 4 (tabv s.v 34) 33).run Tryz.prog w = .ok (.bool s.full) w := fun s => by simp [part, isAgg, run_underlying Tryz.underlying4, tabv_get _ _ _ (show 33 < 34 by omega), Slot.v_full]
    have q0 : (Op.equalIn 9999 2 (.int .i64 s.idx) (.int .i64 t.idx)).run Tryz.prog w = .ok (s.idx == t.idx) w := run_equalIn_int w 9998 2 .i64 .i64 _ _ Tryz.underlying2
    have q2 : (Op.equalIn 9999 4 (.bool s.full) (.bool t.full)).run Tryz.prog w = .ok (s.full == t.full) w := eqBoolD 9998 w _ _
    have q1 : (Op.equalIn 9999 23 (.agg (tabv (bv s.sec) 32)) (.agg (tabv (bv t.sec) 32))).run Tryz.prog w = .ok (eqH s.sec t.sec) w := eqHD 9997 w _ _
    have m0 : f0.name ≠ "_" := by rw [n0]; decide
    have m1 : f1.name ≠ "_" := by rw [n1]; decide
    have m2 : f2.name ≠ "_" := by rw [n2]; decide
    simp only [Op.eqFields, if_pos m0, if_pos m1, if_pos m2, t0, t1, t2, o0, o1, o2, Sem.run_bind, p0, p2, partSec, q0, q1, q2, Result.andThen_ok]
    unfold eqSl
    cases h0 : (s.idx == t.idx) <;> cases h1 : eqH s.sec t.sec <;> cases h2 : (s.full == t.full) <;> simp [partSec, p2, q1, q2, h1, h2]
  · simp at hf
theorem guardS : Tryz.prog.eqGuardType Tryz.prog.depth 106 = false := by kernel_rfl
theorem zero34 : (#[.int .i64 0, .int .u8 0, .int .u8 0, .int .u8 0, .int .u8 0, .int .u8 0, .int .u8 0, .int .u8 0, .int .u8 0, .int .u8 0, .int .u8 0, .int .u8 0, .int .u8 0, .int .u8 0, .int .u8 0, .int .u8 0, .int .u8 0, .int .u8 0, .int .u8 0, .int .u8 0, .int .u8 0, .int .u8 0, .int .u8 0, .int .u8 0, .int .u8 0, .int .u8 0, .int .u8 0, .int .u8 0, .int .u8 0, .int .u8 0, .int .u8 0, .int .u8 0, .int .u8 0, .bool false] : Array Value) = tabv Slot.zero.v 34 := rfl
end Go.Proofs.YtmmcoedgoekhgaaGreatDoor
