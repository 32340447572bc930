/-
  UPDATES: plain, and in memory.
-/
import Derived.Test.YtmmcoedgoekhgaaGreatDoorBytesText
import Derived.Test.YtmmcoedgoekhgaaGreatDoorRefSum
import Derived.Test.YtmmcoedgoekhgaaGreatDoorCurHashRead
import Derived.Laws.OwnMore
import Derived.Laws.StructEq
import Derived.OwnWalk
namespace Go.Proofs.YtmmcoedgoekhgaaGreatDoor
set_option maxRecDepth 20000
open Go.RowKit S
set_option linter.unusedVariables false
set_option linter.unusedSimpArgs false
theorem belowD {N : Nat} {w w' : World} (h : Below N w w') (k : Nat) : Below N w (w'.drewN k) := ⟨h.os, h.tape, h.output, h.size, h.block⟩
structure Upd where
  kind : Int
  id : Int
  amt : Int
  hash : Nat → UInt8
  note : ByteArray
def Upd.v (s : Upd) : Nat → Value := fun i => if i = 0 then .int .i64 s.kind else if i = 1 then .int .i64 s.id else if i = 2 then .int .i64 s.amt else if i < 35 then .int .u8 ((s.hash (i - 3)).toNat : Int) else .string s.note
def nilB : ByteArray := ⟨#[]⟩
def Upd.zero : Upd := ⟨0, 0, 0, fun _ => 0, nilB⟩
theorem Upd.v_kind (s : Upd) : s.v 0 = .int .i64 s.kind := rfl
theorem Upd.v_id (s : Upd) : s.v 1 = .int .i64 s.id := rfl
theorem Upd.v_amt (s : Upd) : s.v 2 = .int .i64 s.amt := rfl
theorem Upd.v_note (s : Upd) : s.v 35 = .string s.note := rfl
theorem Upd.v_hash (s : Upd) (i : Nat) (hi : i < 32) : s.v (3 + i) = bv s.hash i := by
  unfold Upd.v bv
  rw [if_neg (by omega), if_neg (by omega), if_neg (by omega), if_pos (by omega), show 3 + i - 3 = i by omega]
def cellsU (l : List Upd) : List Value := l.flatMap fun s => (tabv s.v 36).toList
theorem cellsU_cons (s : Upd) (l : List Upd) : cellsU (s :: l) = (tabv s.v 36).toList ++ cellsU l := by simp [cellsU]
theorem tabv_len (f : Nat → Value) (m : Nat) : (tabv f m).toList.length = m := by rw [Array.length_toList, tabv_size]
theorem cellsU_length : ∀ l : List Upd, (cellsU l).length = l.length * 36
  | [] => rfl
  | s :: l => by rw [cellsU_cons, List.length_append, tabv_len, cellsU_length l, List.length_cons]; omega
theorem cellsU_get : ∀ (l : List Upd) (k : Nat) (s : Upd) (hk : l[k]? = some s) (j : Nat), j < 36 → (cellsU l)[k * 36 + j]? = some (s.v j)
  | [], k, s, hk, j, hj => by simp at hk
  | x :: l, 0, s, hk, j, hj => by
    simp only [List.getElem?_cons_zero, Option.some.injEq] at hk
    subst hk
    rw [cellsU_cons, List.getElem?_append_left (by rw [tabv_len]; omega), Array.getElem?_toList, Nat.zero_mul, Nat.zero_add, tabv_get _ _ _ hj]
  | x :: l, k + 1, s, hk, j, hj => by
    simp only [List.getElem?_cons_succ] at hk
    rw [cellsU_cons, List.getElem?_append_right (by rw [tabv_len]; omega), tabv_len, show (k + 1) * 36 + j - 36 = k * 36 + j by omega]
    exact cellsU_get l k s hk j hj
theorem oneCell_tabv (s : Upd) : ∀ u ∈ (tabv s.v 36).toList, u.oneCell' = true := by
  intro u hu
  obtain ⟨i, hi, rfl⟩ := List.mem_iff_getElem.1 hu
  have hi' : i < 36 := by rw [tabv_len] at hi; exact hi
  have e : (tabv s.v 36).toList[i]? = some (s.v i) := by rw [Array.getElem?_toList, tabv_get _ _ _ hi']
  rw [List.getElem?_eq_getElem hi] at e
  rw [Option.some.inj e]
  unfold Upd.v
  repeat' split
  all_goals rfl
theorem oneCell_U (l : List Upd) : ∀ u ∈ cellsU l, u.oneCell' = true := by
  intro u hu
  obtain ⟨s, _, h⟩ := List.mem_flatMap.1 hu
  exact oneCell_tabv s u h
/-- Cells that a function says, from an address on. -/
def At (w : World) (g of : Nat) (f : Nat → Value) (m : Nat) : Prop := ∀ j, j < m → w.cell? ⟨g, of + j, none⟩ = some (f j)
theorem At.below {w w' : World} {g of m B : Nat} {f : Nat → Value} (h : At w g of f m) (hb : Below B w w') (hg : g < B) : At w' g of f m := fun j hj => (hb.cell (p := ⟨g, of + j, none⟩) hg).trans (h j hj)
section
variable {P : Program}
theorem run_loadVar_at (w : World) (g o : Nat) (ty : TypeId) (f : Nat → Value) (m : Nat) (d : TypeDesc) (hg : At w g o f m)
    (hu : P.underlying ty = some d) (hd : (match d with | .struct _ | .array _ _ => true | _ => false) = true) (hi : (P.info? ty).map (·.size) = some m) :
    (loadVar ty ⟨g, o, none⟩).run P w = .ok (.agg (tabv f m)) w := by
  have hl : (loadCells ⟨g, o, none⟩ (tabv f m).toList.length).run P w = .ok (tabv f m).toList.toArray w :=
    run_loadCells_list (P := P) w ⟨g, o, none⟩ (tabv f m).toList (fun j v hv => by
      have hj : j < m := by
        have := (List.getElem?_eq_some_iff.1 hv).1
        simpa [tabv] using this
      have hadd : (⟨g, o, none⟩ : Addr).add j = ⟨g, o + j, none⟩ := by unfold Addr.add; split <;> simp_all
      rw [hadd, hg j hj]
      rw [Array.getElem?_toList, tabv_get _ _ _ hj] at hv
      exact hv)
  cases hq : P.info? ty with
  | none => simp [hq] at hi
  | some i =>
    have hs : i.size = m := by simpa [hq] using hi
    have hagg : (isAgg ty).run P w = .ok true w := by
      unfold isAgg
      rw [Sem.run_bind, run_underlying hu w]
      cases d <;> simp_all
    simp only [Array.length_toList, Array.toArray_toList, tabv_size] at hl
    simp [loadVar, Sem.run_bind, hagg, sizeOf, typeInfo, hq, hs, hl]
theorem wpW_load_at {ops : Array Oper} {rest : List Oper} {o : Oper} {a : Act} {w : World} {Q : Exit → Act → World → Prop} (ty : TypeId) (x : Operand) (ho : o.op = .load ty x)
    (g of : Nat) (hx : a.eval x = .pointer (some ⟨g, of, none⟩)) (hw : Region.wanted o (yielded ops a.tmps) = true) (f : Nat → Value) (m : Nat) (d : TypeDesc) (hg : At w g of f m)
    (hu : P.underlying ty = some d) (hd : (match d with | .struct _ | .array _ _ => true | _ => false) = true) (hi : (P.info? ty).map (·.size) = some m)
    (h : wpList P ops Q rest (a.put o.dst (.agg (tabv f m))) w) : wpList P ops Q (o :: rest) a w := by
  refine wpList_step fun K hK => ?_
  rw [if_pos hw]
  unfold Oper.wp execOp
  simp only [ho, hx, Instr.loadAt, Instr.sureAddr, Sem.run_bind, Sem.run_pure, Result.andThen_ok, run_loadVar_at w g of ty f m d hg hu hd hi]
  exact hK _ _ h
theorem run_load_at {o : Oper} {a : Act} (w : World) (ty : TypeId) (x : Operand) (ho : o.op = .load ty x) (g of : Nat) (hx : a.eval x = .pointer (some ⟨g, of, none⟩)) (f : Nat → Value) (m : Nat) (d : TypeDesc) (hg : At w g of f m)
    (hu : P.underlying ty = some d) (hd : (match d with | .struct _ | .array _ _ => true | _ => false) = true) (hi : (P.info? ty).map (·.size) = some m) : (execOp a.eval o).run P w = .ok (.value (.agg (tabv f m))) w := by
  unfold execOp
  simp only [ho, hx, Instr.loadAt, Instr.sureAddr, Sem.run_bind, Sem.run_pure, Result.andThen_ok, run_loadVar_at w g of ty f m d hg hu hd hi]
end
theorem Has.at_ {w : World} {g m k : Nat} {t : TypeId} {f f' : Nat → Value} (h : Has w g t f m) (o : Nat) (hm : o + k ≤ m) (e : ∀ j, j < k → f (o + j) = f' j) : At w g o f' k := fun j hj => by rw [h.cell (o + j) (by omega), e j hj]
/-- Upds behind a slice's address. -/
def Upds (w : World) (ad : Option Addr) (l : List Upd) : Prop := l = [] ∨ ∃ b o, ad = some ⟨b, o, none⟩ ∧ b < w.heap.size ∧ ∀ i s, l[i]? = some s → At w b (o + i * 36) s.v 36
theorem Upds.nil (w : World) (ad : Option Addr) : Upds w ad [] := .inl rfl
theorem Upds.get {w : World} {ad : Option Addr} {l : List Upd} (h : Upds w ad l) (k : Nat) (s : Upd) (hk : l[k]? = some s) : ∃ b o, ad = some ⟨b, o, none⟩ ∧ b < w.heap.size ∧ At w b (o + k * 36) s.v 36 := by
  rcases h with rfl | ⟨b, o, h1, h2, h3⟩
  · simp at hk
  · exact ⟨b, o, h1, h2, h3 k s hk⟩
theorem Upds.below {w w' : World} {ad : Option Addr} {l : List Upd} (h : Upds w ad l) (hb : Below w.heap.size w w') : Upds w' ad l := by
  rcases h with rfl | ⟨b, o, h1, h2, h3⟩
  · exact .inl rfl
  · exact .inr ⟨b, o, h1, Nat.lt_of_lt_of_le h2 hb.size, fun i s hs => (h3 i s hs).below hb h2⟩
/-- A list of slots of one's own. -/
def OwnU (B : Nat) (w : World) (v : Value) (l : List Upd) : Prop := w.ownsRow B 34 36 v l.length (cellsU l)
theorem infoU : (Tryz.prog.info? 34).map (·.size) = some 36 := by kernel_rfl
theorem infoU3 : (Tryz.prog.info? 34).map (fun i => (i.zero, i.size, i.bytes)) = some (some (.agg (tabv Upd.zero.v 36)), 36, 72) := by kernel_rfl
theorem infoUP : ∃ i, Tryz.prog.info? 34 = some i ∧ i.zero = some (.agg (tabv Upd.zero.v 36)) ∧ i.size = 36 ∧ i.bytes = 72 := by
  have h := infoU3
  cases hq : Tryz.prog.info? 34 with
  | none => simp [hq] at h
  | some i => simp [hq] at h; exact ⟨i, rfl, h.1, h.2.1, h.2.2⟩
theorem OwnU.nil (B : Nat) (w : World) : OwnU B w (.slice none 0 0) [] := World.ownsRow_nil w B _ _
theorem OwnU.mono {B B' : Nat} {w : World} {v : Value} {l : List Upd} (h : OwnU B w v l) (hb : B' ≤ B) : OwnU B' w v l :=
  ⟨h.1, h.2.imp id fun ⟨g, cap, cur, h1, h2, h3⟩ => ⟨g, cap, cur, h1, Nat.le_trans hb h2, h3⟩⟩
theorem OwnU.lt {B : Nat} {w : World} {v : Value} {l : List Upd} (h : OwnU B w v l) : ∀ k, v.ownBlock = some k → B ≤ k ∧ k < w.heap.size := World.ownsRow.lt h
theorem OwnU.same {B : Nat} {w w' : World} {v : Value} {l : List Upd} (h : OwnU B w v l) (e : ∀ k, v.ownBlock = some k → w'.heap[k]? = w.heap[k]?) : OwnU B w' v l := by
  refine ⟨h.1, h.2.imp id fun ⟨g, cap, cur, h1, h2, h3, h4⟩ => ⟨g, cap, cur, h1, h2, ?_, h4⟩⟩
  rw [e g (by rw [h1]; rfl), h3]
theorem OwnU.below {B B' : Nat} {w w' : World} {v : Value} {l : List Upd} (h : OwnU B w v l) (hb : Below B' w w') (hB : w.heap.size ≤ B') : OwnU B w' v l := h.same fun k hk => hb.block k (Nat.lt_of_lt_of_le (h.lt k hk).2 hB)
theorem OwnU.upds {B : Nat} {w : World} {v : Value} {l : List Upd} (h : OwnU B w v l) : ∃ ad cap, v = .slice ad l.length cap ∧ Upds w ad l ∧ (∀ x, ad = some x → x.block < w.heap.size ∧ B ≤ x.block) ∧ l.length ≤ cap ∧ cap ≤ maxLen := by
  obtain ⟨hl, ⟨rfl, hn⟩ | ⟨g, cap, cur, rfl, hb, hg, h1, h2, h3, h4⟩⟩ := h
  · have : l = [] := List.length_eq_zero_iff.1 hn
    subst this
    exact ⟨none, 0, rfl, .inl rfl, (fun x hx => by cases hx), by simp, by decide⟩
  · have hlt : g < w.heap.size := by
      rcases Nat.lt_or_ge g w.heap.size with h | h
      · exact h
      · rw [Array.getElem?_eq_none h] at hg; cases hg
    refine ⟨some ⟨g, 0, none⟩, cap, rfl, .inr ⟨g, 0, rfl, hlt, fun i s hs j hj => ?_⟩, (fun x hx => by cases hx; exact ⟨hlt, hb⟩), h1, h2⟩
    rw [cell_of_row w g _ cur _ (0, 0) hg]
    have hi : i < l.length := (List.getElem?_eq_some_iff.1 hs).1
    have e := cellsU_get l i s hs j hj
    rw [← h4, List.getElem?_take] at e
    rw [if_pos (by omega), Array.getElem?_toList] at e
    rw [show 0 + i * 36 + j = i * 36 + j by omega]
    exact e
/-- Hashes and slots against one another. -/
def eqH (f g : Nat → UInt8) : Bool := (List.range 32).all fun i => f i == g i
theorem eqH_refl (f : Nat → UInt8) : eqH f f = true := all_same f
theorem eqH_iff (f g : Nat → UInt8) : eqH f g = true ↔ ∀ i, i < 32 → f i = g i := by
  unfold eqH
  rw [List.all_eq_true]
  exact ⟨fun h i hi => eq_of_beq (h i (List.mem_range.2 hi)), fun h i hi => beq_iff_eq.2 (h i (List.mem_range.1 hi))⟩
theorem eqH_tab {f g : Nat → UInt8} (h : eqH f g = true) : tabv (bv f) 32 = tabv (bv g) 32 := tabv_congr _ _ _ fun i hi => by unfold bv; rw [(eqH_iff f g).1 h i hi]
theorem eqItemsD (d : Nat) (w : World) (f g : Nat → UInt8) : ∀ is : List Nat, (∀ i ∈ is, i < 32) → (Op.eqItems (d + 1) 5 1 (tabv (bv f) 32) (tabv (bv g) 32) is).run Tryz.prog w = .ok (is.all fun i => f i == g i) w
  | [], _ => by simp [Op.eqItems]
  | i :: is, h => by
    have hi := h i (by simp)
    have ih := eqItemsD d w f g is (fun j hj => h j (by simp [hj]))
    have e1 : (part 5 (tabv (bv f) 32) (i * 1)).run Tryz.prog w = .ok (.int .u8 ((f i).toNat : Int)) w := by
      rw [Nat.mul_one]; simp [part, isAgg, run_underlying Tryz.underlying5, tabv_get _ _ _ hi, bv]
    have e2 : (part 5 (tabv (bv g) 32) (i * 1)).run Tryz.prog w = .ok (.int .u8 ((g i).toNat : Int)) w := by
      rw [Nat.mul_one]; simp [part, isAgg, run_underlying Tryz.underlying5, tabv_get _ _ _ hi, bv]
    have e3 : (Op.equalIn (d + 1) 5 (.int .u8 ((f i).toNat : Int)) (.int .u8 ((g i).toNat : Int))).run Tryz.prog w = .ok (f i == g i) w := by
      rw [run_equalIn_int w d 5 .u8 .u8 _ _ Tryz.underlying5]
      refine congrArg (fun b => Result.ok b w) ?_
      rw [Bool.eq_iff_iff, beq_iff_eq, beq_iff_eq, ← UInt8.toNat_inj]
      omega
    simp only [Op.eqItems, Sem.run_bind, e1, e2, e3, Result.andThen_ok, List.all_cons]
    cases f i == g i
    · simp
    · simpa using ih
theorem eqHD (d : Nat) (w : World) (f g : Nat → UInt8) : (Op.equalIn (d + 2) 23 (.agg (tabv (bv f) 32)) (.agg (tabv (bv g) 32))).run Tryz.prog w = .ok (eqH f g) w := by
  obtain ⟨i, hi⟩ : ∃ i, Tryz.prog.info? 5 = some i := Option.isSome_iff_exists.1 (by kernel_rfl)
  have hc : Tryz.prog.cellsOf 5 = 1 := by kernel_rfl
  rw [run_equalIn_array w (d + 1) (tabv (bv f) 32) (tabv (bv g) 32) Tryz.underlying23 hi, hc]
  exact eqItemsD d w f g _ (fun i hi => List.mem_range.1 hi)
def eqU (s t : Upd) : Bool := (s.kind == t.kind) && ((s.id == t.id) && ((s.amt == t.amt) && (eqH s.hash t.hash && (s.note.toList == t.note.toList))))
theorem eqU_refl (s : Upd) : eqU s s = true := by unfold eqU; rw [eqH_refl]; simp
theorem fieldsUpd : (Tryz.prog.fieldsOf 34).toList.map (fun f => (f.name, f.type, f.offset)) = [("Kind", 3, 0), ("ID", 2, 1), ("Amount", 2, 2), ("Hash", 23, 3), ("Note", 9, 35)] := by kernel_rfl
theorem partHash (w : World) (s : Upd) : (part 23 (tabv s.v 36) 3).run Tryz.prog w = .ok (.agg (tabv (bv s.hash) 32)) w := by
  have hi : (Tryz.prog.info? 23).map (·.size) = some 32 := by kernel_rfl
  cases hq : Tryz.prog.info? 23 with
  | none => simp [hq] at hi
  | some i =>
    have hs : i.size = 32 := by simpa [hq] using hi
    have e : (tabv s.v 36).extract 3 35 = tabv (bv s.hash) 32 := by
      refine tabv_ext _ _ _ (by simp [tabv_size]) fun i hi => ?_
      rw [Array.getElem?_extract, tabv_get _ _ _ (by omega)]
      simp only [tabv_size]
      rw [if_pos (by omega), Upd.v_hash s i hi]
    simp [part, isAgg, run_underlying Tryz.underlying23, sizeOf, typeInfo, hq, hs, e]
set_option maxRecDepth 100000 in
theorem eqUD (w : World) (s t : Upd) : (Op.equalIn 10000 34 (.agg (tabv s.v 36)) (.agg (tabv t.v 36))).run Tryz.prog w = .ok (eqU s t) w := by
  rw [run_equalIn_struct w 9999 34 _ _ (by kernel_rfl) (by kernel_rfl)]
  have hf := fieldsUpd
  generalize (Tryz.prog.fieldsOf 34).toList = fs at hf
  rcases fs with _ | ⟨f0, _ | ⟨f1, _ | ⟨f2, _ | ⟨f3, _ | ⟨f4, _ | ⟨f5, fs⟩⟩⟩⟩⟩⟩
  · simp at hf
  · simp at hf
  · simp at hf
  · simp at hf
  · simp at hf
  · simp only [List.map_cons, List.map_nil, List.cons.injEq, Prod.mk.injEq, and_true] at hf
    obtain ⟨⟨n0, t0, o0⟩, ⟨n1, t1, o1⟩, ⟨n2, t2, o2⟩, ⟨n3, t3, o3⟩, n4, t4, o4⟩ := hf
    have p0 : ∀ s : Upd, (part 3 (tabv s.v 36) 0).run Tryz.prog w = .ok (.int .i64 s.kind) w := fun s => by simp [part, isAgg, run_underlying Tryz.underlying3, tabv_get _ _ _ (show 0 < 36 by omega), Upd.v_kind]
    have p1 : ∀ s : Upd, (part 2 (tabv s.v 36) 1).run Tryz.prog w = .ok (.int .i64 s.id) w := fun s => by simp [part, isAgg, run_underlying Tryz.underlying2, tabv_get _ _ _ (show 1 < 36 by omega), Upd.v_id]
    have p2 : ∀ s : Upd, (part 2 (tabv s.v 36) 2).run Tryz.prog w = .ok (.int .i64 s.amt) w := fun s => by simp [part, isAgg, run_underlying Tryz.underlying2, tabv_get _ _ _ (show 2 < 36 by omega), Upd.v_amt]
    have p4 : ∀ s : Upd, (part 9 (tabv s.v 36) 35).run Tryz.prog w = .ok (.string s.note) w := fun s => by simp [part, isAgg, run_underlying Tryz.underlying9, tabv_get _ _ _ (show 35 < 36 by omega), Upd.v_note]
    have q0 : (Op.equalIn 9999 3 (.int .i64 s.kind) (.int .i64 t.kind)).run Tryz.prog w = .ok (s.kind == t.kind) w := run_equalIn_int w 9998 3 .i64 .i64 _ _ Tryz.underlying3
    have q1 : (Op.equalIn 9999 2 (.int .i64 s.id) (.int .i64 t.id)).run Tryz.prog w = .ok (s.id == t.id) w := run_equalIn_int w 9998 2 .i64 .i64 _ _ Tryz.underlying2
    have q2 : (Op.equalIn 9999 2 (.int .i64 s.amt) (.int .i64 t.amt)).run Tryz.prog w = .ok (s.amt == t.amt) w := run_equalIn_int w 9998 2 .i64 .i64 _ _ Tryz.underlying2
    have q3 : (Op.equalIn 9999 23 (.agg (tabv (bv s.hash) 32)) (.agg (tabv (bv t.hash) 32))).run Tryz.prog w = .ok (eqH s.hash t.hash) w := eqHD 9997 w _ _
    have q4 : (Op.equalIn 9999 9 (.string s.note) (.string t.note)).run Tryz.prog w = .ok (s.note.toList == t.note.toList) w := run_equalIn_string _ 9998 9 _ _ Tryz.underlying9
    have m0 : f0.name ≠ "_" := by rw [n0]; decide
    have m1 : f1.name ≠ "_" := by rw [n1]; decide
    have m2 : f2.name ≠ "_" := by rw [n2]; decide
    have m3 : f3.name ≠ "_" := by rw [n3]; decide
    have m4 : f4.name ≠ "_" := by rw [n4]; decide
    simp only [Op.eqFields, if_pos m0, if_pos m1, if_pos m2, if_pos m3, if_pos m4, t0, t1, t2, t3, t4, o0, o1, o2, o3, o4, Sem.run_bind, p0, p1, p2, p4, partHash, q0, q1, q2, q3, q4, Result.andThen_ok]
    unfold eqU
    generalize (s.kind == t.kind) = b0 at *
    generalize (s.id == t.id) = b1 at *
    generalize (s.amt == t.amt) = b2 at *
    generalize eqH s.hash t.hash = b3 at *
    generalize (s.note.toList == t.note.toList) = b4 at *
    cases b0 <;> cases b1 <;> cases b2 <;> cases b3 <;> cases b4 <;> simp [partHash, p1, p2, p4, q1, q2, q3, q4]
  · simp at hf
theorem guardU : Tryz.prog.eqGuardType Tryz.prog.depth 34 = false := by kernel_rfl
theorem zero36 : (#[.int .i64 0, .int .i64 0, .int .i64 0, .int .u8 0, .int .u8 0, .int .u8 0, .int .u8 0, .int .u8 0, .int .u8 0, .int .u8 0, .int .u8 0, .int .u8 0, .int .u8 0, .int .u8 0, .int .u8 0, .int .u8 0, .int .u8 0, .int .u8 0, .int .u8 0, .int .u8 0, .int .u8 0, .int .u8 0, .int .u8 0, .int .u8 0, .int .u8 0, .int .u8 0, .int .u8 0, .int .u8 0, .int .u8 0, .int .u8 0, .int .u8 0, .int .u8 0, .int .u8 0, .int .u8 0, .int .u8 0, .string { data := #[] }] : Array Value) = tabv Upd.zero.v 36 := rfl
end Go.Proofs.YtmmcoedgoekhgaaGreatDoor
