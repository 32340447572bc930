import Derived.Test.YtlohfoggcdaeiaaGreatUBase
import Derived.Test.YtlohfoggcdaeiaaGreatSCode
import Derived.Laws.OwnMore
import Derived.Laws.StructEq
import Derived.OwnWalk
import Derived.Test.YtlohfoggcdaeiaaGreatUValid
/-
  SLOTS: plain, and in memory.
-/
namespace Go.Proofs.YtlohfoggcdaeiaaGreat
set_option maxRecDepth 20000
open Go.RowKit S
set_option linter.unusedVariables false
set_option linter.unusedSimpArgs false
structure Slot where
  idx : Int
  sec : Nat → UInt8
  full : Bool
def Slot.v (s : Slot) : Nat → Value := fun i => if i = 0 then .int .i64 s.idx else if i < 33 then .int .u8 ((s.sec (i - 1)).toNat : Int) else .bool s.full
def Slot.zero : Slot := ⟨0, fun _ => 0, false⟩
theorem Slot.v_idx (s : Slot) : s.v 0 = .int .i64 s.idx := rfl
theorem Slot.v_full (s : Slot) : s.v 33 = .bool s.full := rfl
theorem Slot.v_sec (s : Slot) (i : Nat) (hi : i < 32) : s.v (1 + i) = bv s.sec i := by
  unfold Slot.v bv
  rw [if_neg (by omega), if_pos (by omega), show 1 + i - 1 = i by omega]
def cellsS (l : List Slot) : List Value := l.flatMap fun s => (tabv s.v 34).toList
theorem cellsS_cons (s : Slot) (l : List Slot) : cellsS (s :: l) = (tabv s.v 34).toList ++ cellsS l := by simp [cellsS]
theorem cellsS_append (a b : List Slot) : cellsS (a ++ b) = cellsS a ++ cellsS b := by simp [cellsS]
theorem cellsS_one (s : Slot) : cellsS [s] = (tabv s.v 34).toList := by simp [cellsS]
-- stands in another text: tabv_len
theorem cellsS_length : ∀ l : List Slot, (cellsS l).length = l.length * 34
  | [] => rfl
  | s :: l => by rw [cellsS_cons, List.length_append, tabv_len, cellsS_length l, List.length_cons]; omega
theorem cellsS_get : ∀ (l : List Slot) (k : Nat) (s : Slot) (hk : l[k]? = some s) (j : Nat), j < 34 → (cellsS l)[k * 34 + j]? = some (s.v j)
  | [], k, s, hk, j, hj => by simp at hk
  | x :: l, 0, s, hk, j, hj => by
    simp only [List.getElem?_cons_zero, Option.some.injEq] at hk
    subst hk
    rw [cellsS_cons, List.getElem?_append_left (by rw [tabv_len]; omega), Array.getElem?_toList, Nat.zero_mul, Nat.zero_add, tabv_get _ _ _ hj]
  | x :: l, k + 1, s, hk, j, hj => by
    simp only [List.getElem?_cons_succ] at hk
    rw [cellsS_cons, List.getElem?_append_right (by rw [tabv_len]; omega), tabv_len, show (k + 1) * 34 + j - 34 = k * 34 + j by omega]
    exact cellsS_get l k s hk j hj
theorem oneCell_tabvH (s : Slot) : ∀ u ∈ (tabv s.v 34).toList, u.oneCell' = true := by
  intro u hu
  obtain ⟨i, hi, rfl⟩ := List.mem_iff_getElem.1 hu
  have hi' : i < 34 := by rw [tabv_len] at hi; exact hi
  have e : (tabv s.v 34).toList[i]? = some (s.v i) := by rw [Array.getElem?_toList, tabv_get _ _ _ hi']
  rw [List.getElem?_eq_getElem hi] at e
  rw [Option.some.inj e]
  unfold Slot.v
  split
  · rfl
  · split <;> rfl
theorem oneCell_S (l : List Slot) : ∀ u ∈ cellsS l, u.oneCell' = true := by
  intro u hu
  obtain ⟨s, _, h⟩ := List.mem_flatMap.1 hu
  exact oneCell_tabvH s u h
-- stands in another text: At
-- stands in another text: At.below
section
variable {P : Program}
-- stands in another text: run_loadVar_at
-- stands in another text: wpW_load_at
-- stands in another text: run_load_at
end
-- stands in another text: Has.at_
/-- Slots behind a slice's address. -/
def Slots (w : World) (ad : Option Addr) (l : List Slot) : Prop := l = [] ∨ ∃ b o, ad = some ⟨b, o, none⟩ ∧ b < w.heap.size ∧ ∀ i s, l[i]? = some s → At w b (o + i * 34) s.v 34
theorem Slots.nil (w : World) (ad : Option Addr) : Slots w ad [] := .inl rfl
theorem Slots.get {w : World} {ad : Option Addr} {l : List Slot} (h : Slots w ad l) (k : Nat) (s : Slot) (hk : l[k]? = some s) : ∃ b o, ad = some ⟨b, o, none⟩ ∧ b < w.heap.size ∧ At w b (o + k * 34) s.v 34 := by
  rcases h with rfl | ⟨b, o, h1, h2, h3⟩
  · simp at hk
  · exact ⟨b, o, h1, h2, h3 k s hk⟩
theorem Slots.below {w w' : World} {ad : Option Addr} {l : List Slot} (h : Slots w ad l) (hb : Below w.heap.size w w') : Slots w' ad l := by
  rcases h with rfl | ⟨b, o, h1, h2, h3⟩
  · exact .inl rfl
  · exact .inr ⟨b, o, h1, Nat.lt_of_lt_of_le h2 hb.size, fun i s hs => (h3 i s hs).below hb h2⟩
theorem Slots.belowB {B : Nat} {w w' : World} {ad : Option Addr} {l : List Slot} (h : Slots w ad l) (hb : Below B w w') (hB : ∀ x, ad = some x → x.block < B) : Slots w' ad l := by
  rcases h with rfl | ⟨b, o, h1, h2, h3⟩
  · exact .inl rfl
  · exact .inr ⟨b, o, h1, Nat.lt_of_lt_of_le h2 hb.size, fun i s hs => (h3 i s hs).below hb (hB _ h1)⟩
/-- A list of slots of one's own. -/
def OwnS (B : Nat) (w : World) (v : Value) (l : List Slot) : Prop := w.ownsRow B 49 34 v l.length (cellsS l)
theorem infoS : (Tryz.prog.info? 49).map (·.size) = some 34 := by kernel_rfl
theorem infoS3 : (Tryz.prog.info? 49).map (fun i => (i.zero, i.size, i.bytes)) = some (some (.agg (tabv Slot.zero.v 34)), 34, 48) := by kernel_rfl
theorem infoP : ∃ i, Tryz.prog.info? 49 = some i ∧ i.zero = some (.agg (tabv Slot.zero.v 34)) ∧ i.size = 34 ∧ i.bytes = 48 := by
  have h := infoS3
  cases hq : Tryz.prog.info? 49 with
  | none => simp [hq] at h
  | some i => simp [hq] at h; exact ⟨i, rfl, h.1, h.2.1, h.2.2⟩
theorem OwnS.nil (B : Nat) (w : World) : OwnS B w (.slice none 0 0) [] := World.ownsRow_nil w B _ _
theorem OwnS.mono {B B' : Nat} {w : World} {v : Value} {l : List Slot} (h : OwnS B w v l) (hb : B' ≤ B) : OwnS B' w v l :=
  ⟨h.1, h.2.imp id fun ⟨g, cap, cur, h1, h2, h3⟩ => ⟨g, cap, cur, h1, Nat.le_trans hb h2, h3⟩⟩
theorem OwnS.lt {B : Nat} {w : World} {v : Value} {l : List Slot} (h : OwnS B w v l) : ∀ k, v.ownBlock = some k → B ≤ k ∧ k < w.heap.size := World.ownsRow.lt h
theorem OwnS.same {B : Nat} {w w' : World} {v : Value} {l : List Slot} (h : OwnS B w v l) (e : ∀ k, v.ownBlock = some k → w'.heap[k]? = w.heap[k]?) : OwnS B w' v l := by
  refine ⟨h.1, h.2.imp id fun ⟨g, cap, cur, h1, h2, h3, h4⟩ => ⟨g, cap, cur, h1, h2, ?_, h4⟩⟩
  rw [e g (by rw [h1]; rfl), h3]
theorem OwnS.below {B B' : Nat} {w w' : World} {v : Value} {l : List Slot} (h : OwnS B w v l) (hb : Below B' w w') (hB : w.heap.size ≤ B') : OwnS B w' v l := h.same fun k hk => hb.block k (Nat.lt_of_lt_of_le (h.lt k hk).2 hB)
theorem OwnS.slots {B : Nat} {w : World} {v : Value} {l : List Slot} (h : OwnS B w v l) : ∃ ad cap, v = .slice ad l.length cap ∧ Slots w ad l ∧ (∀ x, ad = some x → x.block < w.heap.size ∧ B ≤ x.block) ∧ l.length ≤ cap ∧ cap ≤ maxLen := by
  obtain ⟨hl, ⟨rfl, hn⟩ | ⟨g, cap, cur, rfl, hb, hg, h1, h2, h3, h4⟩⟩ := h
  · have : l = [] := List.length_eq_zero_iff.1 hn
    subst this
    exact ⟨none, 0, rfl, .inl rfl, (fun x hx => by cases hx), by simp, by decide⟩
  · have hlt : g < w.heap.size := by
      rcases Nat.lt_or_ge g w.heap.size with h | h
      · exact h
      · rw [Array.getElem?_eq_none h] at hg; cases hg
    refine ⟨some ⟨g, 0, none⟩, cap, rfl, .inr ⟨g, 0, rfl, hlt, fun i s hs j hj => ?_⟩, (fun x hx => by cases hx; exact ⟨hlt, hb⟩), h1, h2⟩
    rw [cell_of_row w g _ cur _ (0, 0) hg]
    have hi : i < l.length := (List.getElem?_eq_some_iff.1 hs).1
    have e := cellsS_get l i s hs j hj
    rw [← h4, List.getElem?_take] at e
    rw [if_pos (by omega), Array.getElem?_toList] at e
    rw [show 0 + i * 34 + j = i * 34 + j by omega]
    exact e
-- stands in another text: eqH
-- stands in another text: eqH_refl
-- stands in another text: eqH_iff
-- stands in another text: eqH_tab
theorem eqItemsDH (d : Nat) (w : World) (f g : Nat → UInt8) : ∀ is : List Nat, (∀ i ∈ is, i < 32) → (Op.eqItems (d + 1) 5 1 (tabv (bv f) 32) (tabv (bv g) 32) is).run Tryz.prog w = .ok (is.all fun i => f i == g i) w
  | [], _ => by simp [Op.eqItems]
  | i :: is, h => by
    have hi := h i (by simp)
    have ih := eqItemsDH d w f g is (fun j hj => h j (by simp [hj]))
    have e1 : (part 5 (tabv (bv f) 32) (i * 1)).run Tryz.prog w = .ok (.int .u8 ((f i).toNat : Int)) w := by
      rw [Nat.mul_one]; simp [part, isAgg, run_underlying Tryz.underlying5, tabv_get _ _ _ hi, bv]
    have e2 : (part 5 (tabv (bv g) 32) (i * 1)).run Tryz.prog w = .ok (.int .u8 ((g i).toNat : Int)) w := by
      rw [Nat.mul_one]; simp [part, isAgg, run_underlying Tryz.underlying5, tabv_get _ _ _ hi, bv]
    have e3 : (Op.equalIn (d + 1) 5 (.int .u8 ((f i).toNat : Int)) (.int .u8 ((g i).toNat : Int))).run Tryz.prog w = .ok (f i == g i) w := by
      rw [run_equalIn_int w d 5 .u8 .u8 _ _ Tryz.underlying5]
      congr 1
      rw [Bool.eq_iff_iff, beq_iff_eq, beq_iff_eq, ← UInt8.toNat_inj]
      omega
    simp only [Op.eqItems, Sem.run_bind, e1, e2, e3, Result.andThen_ok, List.all_cons]
    cases f i == g i
    · simp
    · simpa using ih
-- stands in another text: eqHD
def eqSl (s t : Slot) : Bool := (s.idx == t.idx) && (eqH s.sec t.sec && (s.full == t.full))
theorem eqSl_refl (s : Slot) : eqSl s s = true := by unfold eqSl; rw [eqH_refl]; simp
theorem fieldsSlot : (Tryz.prog.fieldsOf 49).toList.map (fun f => (f.name, f.type, f.offset)) = [("Index", 2, 0), ("Secret", 25, 1), ("Full", 4, 33)] := by kernel_rfl
theorem partSec (w : World) (s : Slot) : (part 25 (tabv s.v 34) 1).run Tryz.prog w = .ok (.agg (tabv (bv s.sec) 32)) w := by
  have hi : (Tryz.prog.info? 25).map (·.size) = some 32 := by kernel_rfl
  cases hq : Tryz.prog.info? 25 with
  | none => simp [hq] at hi
  | some i =>
    have hs : i.size = 32 := by simpa [hq] using hi
    have e : (tabv s.v 34).extract 1 33 = tabv (bv s.sec) 32 := by
      refine tabv_ext _ _ _ (by simp [tabv_size]) fun i hi => ?_
      rw [Array.getElem?_extract, tabv_get _ _ _ (by omega)]
      simp only [tabv_size]
      rw [if_pos (by omega), Slot.v_sec s i hi]
    simp [part, isAgg, run_underlying Tryz.underlying25, sizeOf, typeInfo, hq, hs, e]
theorem eqBoolD (d : Nat) (w : World) (a b : Bool) : (Op.equalIn (d + 1) 4 (.bool a) (.bool b)).run Tryz.prog w = .ok (a == b) w := by simp [Op.equalIn, run_underlying Tryz.underlying4]
set_option maxRecDepth 100000 in
theorem eqSD (w : World) (s t : Slot) : (Op.equalIn 10000 49 (.agg (tabv s.v 34)) (.agg (tabv t.v 34))).run Tryz.prog w = .ok (eqSl s t) w := by
  rw [run_equalIn_struct w 9999 49 _ _ (by kernel_rfl) (by kernel_rfl)]
  have hf := fieldsSlot
  generalize (Tryz.prog.fieldsOf 49).toList = fs at hf
  rcases fs with _ | ⟨f0, _ | ⟨f1, _ | ⟨f2, _ | ⟨f3, fs⟩⟩⟩⟩
  · simp at hf
  · simp at hf
  · simp at hf
  · simp only [List.map_cons, List.map_nil, List.cons.injEq, Prod.mk.injEq, and_true] at hf
    obtain ⟨⟨n0, t0, o0⟩, ⟨n1, t1, o1⟩, n2, t2, o2⟩ := hf
    have p0 : ∀ s : Slot, (part 2 (tabv s.v 34) 0).run Tryz.prog w = .ok (.int .i64 s.idx) w := fun s => by simp [part, isAgg, run_underlying Tryz.underlying2, tabv_get _ _ _ (show 0 < 34 by omega), Slot.v_idx]
    have p2 : ∀ s : Slot, (part 4 (tabv s.v 34) 33).run Tryz.prog w = .ok (.bool s.full) w := fun s => by simp [part, isAgg, run_underlying Tryz.underlying4, tabv_get _ _ _ (show 33 < 34 by omega), Slot.v_full]
    have q0 : (Op.equalIn 9999 2 (.int .i64 s.idx) (.int .i64 t.idx)).run Tryz.prog w = .ok (s.idx == t.idx) w := run_equalIn_int w 9998 2 .i64 .i64 _ _ Tryz.underlying2
    have q2 : (Op.equalIn 9999 4 (.bool s.full) (.bool t.full)).run Tryz.prog w = .ok (s.full == t.full) w := eqBoolD 9998 w _ _
    have q1 : (Op.equalIn 9999 25 (.agg (tabv (bv s.sec) 32)) (.agg (tabv (bv t.sec) 32))).run Tryz.prog w = .ok (eqH s.sec t.sec) w := eqHD 9997 w _ _
    have m0 : f0.name ≠ "_" := by rw [n0]; decide
    have m1 : f1.name ≠ "_" := by rw [n1]; decide
    have m2 : f2.name ≠ "_" := by rw [n2]; decide
    simp only [Op.eqFields, if_pos m0, if_pos m1, if_pos m2, t0, t1, t2, o0, o1, o2, Sem.run_bind, p0, p2, partSec, q0, q1, q2, Result.andThen_ok]
    unfold eqSl
    cases h0 : (s.idx == t.idx) <;> cases h1 : eqH s.sec t.sec <;> cases h2 : (s.full == t.full) <;> simp [partSec, p2, q1, q2, h1, h2]
  · simp at hf
theorem guardS : Tryz.prog.eqGuardType Tryz.prog.depth 49 = false := by kernel_rfl
theorem zero34 : (#[.int .i64 0, .int .u8 0, .int .u8 0, .int .u8 0, .int .u8 0, .int .u8 0, .int .u8 0, .int .u8 0, .int .u8 0, .int .u8 0, .int .u8 0, .int .u8 0, .int .u8 0, .int .u8 0, .int .u8 0, .int .u8 0, .int .u8 0, .int .u8 0, .int .u8 0, .int .u8 0, .int .u8 0, .int .u8 0, .int .u8 0, .int .u8 0, .int .u8 0, .int .u8 0, .int .u8 0, .int .u8 0, .int .u8 0, .int .u8 0, .int .u8 0, .int .u8 0, .int .u8 0, .bool false] : Array Value) = tabv Slot.zero.v 34 := rfl
end Go.Proofs.YtlohfoggcdaeiaaGreat
/-
  SHELVES, PLAIN: what Put and Get answer.
-/
namespace Go.Proofs.YtlohfoggcdaeiaaGreat
set_option maxRecDepth 20000
open Go.RowKit S
set_option linter.unusedVariables false
set_option linter.unusedSimpArgs false
theorem oneVH (s : Slot) (i : Nat) : (s.v i).oneCell' = true := by
  unfold Slot.v
  split
  · rfl
  · split <;> rfl
section
variable {ops : Array Oper} {rest : List Oper} {o : Oper} {a : Act} {w : World} {Q : Exit → Act → World → Prop}
theorem wpList_storeS (hgd : o.guard = none) (x y : Operand) (ho : o.op = .store 49 x y) (hd : o.dst = none) (g : Nat) (s : Slot) (hx : a.eval x = .pointer (some ⟨g, 0, none⟩)) (hy : a.eval y = .agg (tabv s.v 34)) (f : Nat → Value) (hg : Has w g 49 f 34)
    (hk : wpList Tryz.prog ops Q rest a (w.setRow g (tabv s.v 34))) : wpList Tryz.prog ops Q (o :: rest) a w :=
  wpList_store_part hgd 49 x y ho hd g 0 s.v 34 hx hy 49 f 34 hg (by omega) infoS (fun i _ => oneVH s i) s.v (fun i hi => by unfold splice; rw [if_pos (by omega), Nat.sub_zero]) hk
-- stands in another text: wpList_storeH
end
/-- What stands in a place. -/
def atA (l : List Slot) (j : Nat) : Slot := match l[j]? with
  | some s => if s.full = true then s else Slot.zero
  | none => Slot.zero
theorem at_none {l : List Slot} {j : Nat} (h : l.length ≤ j) : atA l j = Slot.zero := by unfold atA; rw [List.getElem?_eq_none h]
theorem at_empty {l : List Slot} {j : Nat} {s : Slot} (h : l[j]? = some s) (hf : s.full = false) : atA l j = Slot.zero := by unfold atA; rw [h]; simp [hf]
theorem at_full {l : List Slot} {j : Nat} {s : Slot} (h : l[j]? = some s) (hf : s.full = true) : atA l j = s := by unfold atA; rw [h]; simp [hf]
def agreeB [Inhabited S.Tbl] (h : Nat → UInt8) (n : Int) (s : Slot) : Bool := decide ((deriveA h n s.idx).2 = 0) && eqH (deriveA h n s.idx).1 s.sec
def okAt [Inhabited S.Tbl] (l : List Slot) (h : Nat → UInt8) (n : Int) (j : Nat) : Bool := !(atA l j).full || agreeB h n (atA l j)
def withA (l : List Slot) (k : Nat) (s : Slot) : List Slot := (List.range 49).map fun j => if j = k then s else atA l j
theorem withA_length (l : List Slot) (k : Nat) (s : Slot) : (withA l k s).length = 49 := by simp [withA]
def putA [Inhabited S.Tbl] (l : List Slot) (n : Int) (h : Nat → UInt8) : List Slot × Int :=
  if 49 < l.length then ([], 1) else if isN n = false then ([], 90)
  else if (List.range (lvl (place n.toNat) 48)).all (okAt l h n) = true then (withA l (lvl (place n.toNat) 48) ⟨n, h, true⟩, 0) else ([], 100)
def yieldB [Inhabited S.Tbl] (s : Slot) (n : Int) : Bool := s.full && decide ((deriveA s.sec s.idx n).2 = 0)
def getK [Inhabited S.Tbl] (l : List Slot) (n : Int) : Nat → (Nat → UInt8) × Int
  | 0 => (fun _ => 0, 5)
  | k + 1 => if yieldB (atA l (49 - (k + 1))) n = true then ((deriveA (atA l (49 - (k + 1))).sec (atA l (49 - (k + 1))).idx n).1, 0) else getK l n k
def getA [Inhabited S.Tbl] (l : List Slot) (n : Int) : (Nat → UInt8) × Int :=
  if 49 < l.length then (fun _ => 0, 1) else if isN n = false then (fun _ => 0, 90) else getK l n 49
end Go.Proofs.YtlohfoggcdaeiaaGreat
/-
  The code's shelf: at, yields, agrees, with.
-/
namespace Go.Proofs.YtlohfoggcdaeiaaGreat
set_option maxRecDepth 20000
open Go.RowKit S
set_option linter.unusedVariables false
set_option linter.unusedSimpArgs false
set_option maxRecDepth 100000 in
set_option maxHeartbeats 1000000 in
theorem at_any (ad : Option Addr) (n cap : Nat) (l : List Slot) (hn : l.length = n) (k : Nat) (w : World) (hS : Slots w ad l) : Calls Tryz.prog 168 #[.slice ad n cap, .int .i64 (k : Int)] w fun e w' => e = .returned (.agg (tabv (atA l k).v 34)) ∧ Below w.heap.size w w' := by
  obtain ⟨w3, hW⟩ : ∃ w3, w.alloc (.cells (tabv Slot.zero.v 34) 49) = w3 := ⟨_, rfl⟩
  have g0 : Has w3 w.heap.size 49 Slot.zero.v 34 := by rw [← hW]; exact Has.new w 49 Slot.zero.v 34 _ rfl
  have gb : Below w.heap.size w w3 := by rw [← hW]; exact (Below.refl w.heap.size w).alloc (Nat.le_refl _) _
  have hS3 := hS.below gb
  rw [← zero34] at hW
  by_cases hk : k < n
  · obtain ⟨s, hs⟩ : ∃ s, l[k]? = some s := ⟨_, List.getElem?_eq_getElem (by omega)⟩
    obtain ⟨b, o, rfl, hb, hA⟩ := hS3.get k s hs
    have hd : decide ((n : Int) ≤ (k : Int)) = false := by simp; omega
    have hk0 : (0 : Int) ≤ (k : Int) := by omega
    have hk1 : (k : Int) < (n : Int) := by omega
    cases hf : s.full with
    | true =>
      rw [at_full hs hf]
      have c33 : w3.cell? ⟨b, o + k * 34 + 33, none⟩ = some (.bool true) := by rw [hA 33 (by omega), Slot.v_full, hf]
      have HA := hide hA
      clear hA hf hs hS3 hS
      go_enter Tryz.func168, Tryz.ntmps168
      go_wp2_with (first | refine wpW_load_at 49 _ rfl b (o + k * 34) (by rfl) (by rfl) _ 34 _ HA.out Tryz.underlying49 rfl infoS ?_ | refine wpList_storeS rfl _ _ rfl rfl w.heap.size s rfl rfl _ g0 ?_)
      exact bodyPost_ret (results_cell_row rfl _ _ w.heap.size 49 _ (0, 0) _ rfl (g0.row _ _ rfl) Tryz.underlying49 rfl (by rw [tabv_size]; exact infoS)) rfl ⟨rfl, below_setRow gb (Nat.le_refl _) _⟩
    | false =>
      rw [at_empty hs hf]
      have c33 : w3.cell? ⟨b, o + k * 34 + 33, none⟩ = some (.bool false) := by rw [hA 33 (by omega), Slot.v_full, hf]
      clear hA hf hs hS3 hS
      go_enter Tryz.func168, Tryz.ntmps168
      go_wp2_with (refine wpList_storeS rfl _ _ rfl rfl w.heap.size Slot.zero rfl rfl _ g0 ?_)
      exact bodyPost_ret (results_cell_row rfl _ _ w.heap.size 49 _ (0, 0) _ rfl (g0.row _ _ rfl) Tryz.underlying49 rfl (by rw [tabv_size]; exact infoS)) rfl ⟨rfl, below_setRow gb (Nat.le_refl _) _⟩
  · have hd : decide ((n : Int) ≤ (k : Int)) = true := by simp; omega
    rw [at_none (by omega)]
    go_enter Tryz.func168, Tryz.ntmps168
    go_wp2_with (refine wpList_storeS rfl _ _ rfl rfl w.heap.size Slot.zero rfl rfl _ g0 ?_)
    exact bodyPost_ret (results_cell_row rfl _ _ w.heap.size 49 _ (0, 0) _ rfl (g0.row _ _ rfl) Tryz.underlying49 rfl (by rw [tabv_size]; exact infoS)) rfl ⟨rfl, below_setRow gb (Nat.le_refl _) _⟩
set_option maxRecDepth 100000 in
set_option maxHeartbeats 1000000 in
theorem rat_any (ad : Option Addr) (n cap : Nat) (l : List Slot) (hn : l.length = n) (k : Nat) (w : World) (hS : Slots w ad l) : Calls Tryz.prog 77 #[.slice ad n cap, .int .i64 (k : Int)] w fun e w' => e = .returned (.agg (tabv (atA l k).v 34)) ∧ Below w.heap.size w w' := by
  obtain ⟨w3, hW⟩ : ∃ w3, w.alloc (.cells (tabv Slot.zero.v 34) 49) = w3 := ⟨_, rfl⟩
  have g0 : Has w3 w.heap.size 49 Slot.zero.v 34 := by rw [← hW]; exact Has.new w 49 Slot.zero.v 34 _ rfl
  have gb : Below w.heap.size w w3 := by rw [← hW]; exact (Below.refl w.heap.size w).alloc (Nat.le_refl _) _
  have hS3 := hS.below gb
  rw [← zero34] at hW
  by_cases hk : k < n
  · obtain ⟨s, hs⟩ : ∃ s, l[k]? = some s := ⟨_, List.getElem?_eq_getElem (by omega)⟩
    obtain ⟨b, o, rfl, hb, hA⟩ := hS3.get k s hs
    have hd : decide ((k : Int) < (n : Int)) = true := by simp; omega
    have hk0 : (0 : Int) ≤ (k : Int) := by omega
    have hk1 : (k : Int) < (n : Int) := by omega
    cases hf : s.full with
    | true =>
      rw [at_full hs hf]
      have c33 : w3.cell? ⟨b, o + k * 34 + 33, none⟩ = some (.bool true) := by rw [hA 33 (by omega), Slot.v_full, hf]
      have HA := hide hA
      clear hA hf hs hS3 hS
      go_enter Tryz.func77, Tryz.ntmps77
      go_wp2_with (first | refine wpW_load_at 49 _ rfl b (o + k * 34) (by rfl) (by rfl) _ 34 _ HA.out Tryz.underlying49 rfl infoS ?_ | refine wpList_storeS rfl _ _ rfl rfl w.heap.size s rfl rfl _ g0 ?_)
      exact bodyPost_ret (results_cell_row rfl _ _ w.heap.size 49 _ (0, 0) _ rfl (g0.row _ _ rfl) Tryz.underlying49 rfl (by rw [tabv_size]; exact infoS)) rfl ⟨rfl, below_setRow gb (Nat.le_refl _) _⟩
    | false =>
      rw [at_empty hs hf]
      have c33 : w3.cell? ⟨b, o + k * 34 + 33, none⟩ = some (.bool false) := by rw [hA 33 (by omega), Slot.v_full, hf]
      clear hA hf hs hS3 hS
      go_enter Tryz.func77, Tryz.ntmps77
      go_wp2_with (refine wpList_storeS rfl _ _ rfl rfl w.heap.size Slot.zero rfl rfl _ g0 ?_)
      exact bodyPost_ret (results_cell_row rfl _ _ w.heap.size 49 _ (0, 0) _ rfl (g0.row _ _ rfl) Tryz.underlying49 rfl (by rw [tabv_size]; exact infoS)) rfl ⟨rfl, below_setRow gb (Nat.le_refl _) _⟩
  · have hd : decide ((k : Int) < (n : Int)) = false := by simp; omega
    rw [at_none (by omega)]
    go_enter Tryz.func77, Tryz.ntmps77
    go_wp2_with (refine wpList_storeS rfl _ _ rfl rfl w.heap.size Slot.zero rfl rfl _ g0 ?_)
    exact bodyPost_ret (results_cell_row rfl _ _ w.heap.size 49 _ (0, 0) _ rfl (g0.row _ _ rfl) Tryz.underlying49 rfl (by rw [tabv_size]; exact infoS)) rfl ⟨rfl, below_setRow gb (Nat.le_refl _) _⟩
set_option maxRecDepth 100000 in
set_option maxHeartbeats 1000000 in
theorem yields_any [Inhabited S.Tbl] (s : Slot) (n : Int) (w : World) (hG : Glob num w) : Calls Tryz.prog 174 #[.agg (tabv s.v 34), .int .i64 n] w fun e w' => e = .returned (.tuple #[.agg (tabv (bv (deriveA s.sec s.idx n).1) 32), .int .i64 (deriveA s.sec s.idx n).2]) ∧ Below w.heap.size w w' := by
  obtain ⟨w3, hW⟩ : ∃ w3, (w.alloc (.cells (tabv s.v 34) 49)).alloc (.cells (tabv (fun _ => .int .u8 0) 32) 25) = w3 := ⟨_, rfl⟩
  have g0 : Has w3 w.heap.size 49 s.v 34 := by rw [← hW]; exact (Has.new w 49 s.v 34 _ rfl).old _
  have g1 : Has w3 (w.heap.size + 1) 25 (fun _ => .int .u8 0) 32 := by
    rw [← hW]
    have := Has.new (w.alloc (.cells (tabv s.v 34) 49)) 25 (fun _ => .int .u8 0) 32 _ rfl
    rw [size_alloc] at this
    exact this
  have gb : Below w.heap.size w w3 := by rw [← hW]; exact ((Below.refl w.heap.size w).alloc (Nat.le_refl _) _).alloc (by simp) _
  have hG3 : Glob num w3 := hG.up gb
  have c0 : w3.cell? ⟨w.heap.size, 0, none⟩ = some (.int .i64 s.idx) := g0.cell 0 (by omega)
  rw [zero32] at hW
  obtain ⟨D, hD⟩ : ∃ D, deriveA s.sec s.idx n = D := ⟨_, rfl⟩
  have HD := hide hD
  rw [hD]
  clear hD
  go_enter Tryz.func174, Tryz.ntmps174
  go_wp2_with (refine wpList_load_part rfl 25 _ rfl w.heap.size 1 rfl 49 _ 34 32 _ g0 (by omega) Tryz.underlying25 rfl info26 (bv s.sec) (fun i hi => s.v_sec i hi) ?_)
  refine (sDerive_any num s.sec s.idx n _ hG3).mono ?_
  rw [HD.out]
  rintro e w9 ⟨rfl, hb9⟩
  have k1 := g1.below hb9 g1.lt
  have kb := gb.trans (hb9.mono gb.size)
  clear g0 g1 gb hb9 c0 hW
  go_wp2_with (refine wpList_storeH rfl _ _ rfl rfl (w.heap.size + 1) D.1 rfl rfl _ k1 ?_)
  exact bodyPost_ret (resCT _ (w.heap.size + 1) _ _ D.2 4 5 (k1.row _ (bv D.1) rfl) rfl rfl _ rfl) rfl ⟨rfl, below_setRow kb (by omega) _⟩
set_option maxRecDepth 100000 in
set_option maxHeartbeats 1000000 in
theorem agrees_any [Inhabited S.Tbl] (s t : Slot) (w : World) (hG : Glob num w) : Calls Tryz.prog 169 #[.agg (tabv s.v 34), .agg (tabv t.v 34)] w fun e w' => e = .returned (.bool (agreeB s.sec s.idx t)) ∧ Below w.heap.size w w' := by
  obtain ⟨w3, hW⟩ : ∃ w3, (w.alloc (.cells (tabv s.v 34) 49)).alloc (.cells (tabv t.v 34) 49) = w3 := ⟨_, rfl⟩
  have g0 : Has w3 w.heap.size 49 s.v 34 := by rw [← hW]; exact (Has.new w 49 s.v 34 _ rfl).old _
  have g1 : Has w3 (w.heap.size + 1) 49 t.v 34 := by
    rw [← hW]
    have := Has.new (w.alloc (.cells (tabv s.v 34) 49)) 49 t.v 34 _ rfl
    rw [size_alloc] at this
    exact this
  have gb : Below w.heap.size w w3 := by rw [← hW]; exact ((Below.refl w.heap.size w).alloc (Nat.le_refl _) _).alloc (by simp) _
  have hG3 : Glob num w3 := hG.up gb
  have c0 : w3.cell? ⟨w.heap.size + 1, 0, none⟩ = some (.int .i64 t.idx) := g1.cell 0 (by omega)
  unfold agreeB
  obtain ⟨D, hD⟩ : ∃ D, deriveA s.sec s.idx t.idx = D := ⟨_, rfl⟩
  have HD := hide hD
  rw [hD]
  clear hD
  go_enter Tryz.func169, Tryz.ntmps169
  go_wp2_with (refine wpList_load_part rfl 49 _ rfl w.heap.size 0 rfl 49 _ 34 34 _ g0 (by omega) Tryz.underlying49 rfl infoS s.v (fun i hi => by rw [Nat.zero_add]) ?_)
  refine (yields_any s t.idx _ hG3).mono ?_
  rw [HD.out]
  rintro e w9 ⟨rfl, hb9⟩
  have k1 := g1.below hb9 g1.lt
  have kb := gb.trans (hb9.mono gb.size)
  clear g0 g1 gb hb9 c0 hW
  obtain ⟨H, E⟩ := D
  obtain ⟨w5, hW5⟩ : ∃ w5, w9.alloc (.cells (tabv (fun _ => .int .u8 0) 32) 25) = w5 := ⟨_, rfl⟩
  have k2 : Has w5 w9.heap.size 25 (fun _ => .int .u8 0) 32 := by rw [← hW5]; exact Has.new w9 25 (fun _ => .int .u8 0) 32 _ rfl
  have k1' : Has w5 (w.heap.size + 1) 49 t.v 34 := by rw [← hW5]; exact k1.old _
  have kb5 : Below w.heap.size w w5 := by rw [← hW5]; exact kb.alloc kb.size _
  have hne : w.heap.size + 1 ≠ w9.heap.size := Nat.ne_of_lt k1.lt
  have hsz := kb.size
  rw [zero32] at hW5
  have r1 := k1'.row_other w9.heap.size (tabv (bv H) 32) hne
  have r2 := k2.row _ (bv H) rfl
  clear k1 kb k1'
  by_cases hE : E = 0
  · subst hE
    have hq : ∀ w : World, (Op.equalIn 10000 25 (.agg (tabv (bv H) 32)) (.agg (tabv (bv t.sec) 32))).run Tryz.prog w = .ok (eqH H t.sec) w := fun w => eqHD 9998 w H t.sec
    go_wp2_with (first | refine wpList_storeH rfl _ _ rfl rfl w9.heap.size H rfl rfl _ k2 ?_ | refine wpList_load_want (by rfl) 25 _ rfl w9.heap.size 0 rfl 25 _ 32 32 _ r2 (by omega) Tryz.underlying25 rfl info26 (bv H) (fun i hi => by rw [Nat.zero_add]) ?_ | refine wpList_load_want (by rfl) 25 _ rfl (w.heap.size + 1) 1 rfl 49 _ 34 32 _ r1 (by omega) Tryz.underlying25 rfl info26 (bv t.sec) (fun i hi => t.v_sec i hi) ?_)
    go_ret
    exact ⟨by simp, below_setRow kb5 hsz _⟩
  · have hd : (E == 0) = false := by simpa using hE
    go_wp2_with (refine wpList_storeH rfl _ _ rfl rfl w9.heap.size H rfl rfl _ k2 ?_)
    go_ret
    exact ⟨by simp [hE], below_setRow kb5 hsz _⟩
end Go.Proofs.YtlohfoggcdaeiaaGreat
