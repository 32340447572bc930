import Derived.Test.YtmmcoedgoekhgaaGreatDoorUBase
import Derived.Test.YtmmcoedgoekhgaaGreatDoorSCode
import Derived.Laws.OwnMore
import Derived.Laws.StructEq
import Derived.OwnWalk
import Derived.Test.YtmmcoedgoekhgaaGreatDoorUValid
import Derived.Laws.MakeOwn
/-
  SLOTS: plain, and in memory.
-/
namespace Go.Proofs.YtmmcoedgoekhgaaGreatDoor
set_option maxRecDepth 20000
open Go.RowKit S
set_option linter.unusedVariables false
set_option linter.unusedSimpArgs false
structure Slot where
  idx : Int
  sec : Nat → UInt8
  full : Bool
def Slot.v (s : Slot) : Nat → Value := fun i => if i = 0 then .int .i64 s.idx else if i < 33 then .int .u8 ((s.sec (i - 1)).toNat : Int) else .bool s.full
def Slot.zero : Slot := ⟨0, fun _ => 0, false⟩
theorem Slot.v_full (s : Slot) : s.v 33 = .bool s.full := rfl
theorem Slot.v_sec (s : Slot) (i : Nat) (hi : i < 32) : s.v (1 + i) = bv s.sec i := by
  unfold Slot.v bv
  rw [if_neg (by omega), if_pos (by omega), show 1 + i - 1 = i by omega]
def cellsS (l : List Slot) : List Value := l.flatMap fun s => (tabv s.v 34).toList
theorem cellsS_cons (s : Slot) (l : List Slot) : cellsS (s :: l) = (tabv s.v 34).toList ++ cellsS l := by simp [cellsS]
theorem cellsS_append (a b : List Slot) : cellsS (a ++ b) = cellsS a ++ cellsS b := by simp [cellsS]
theorem cellsS_length : ∀ l : List Slot, (cellsS l).length = l.length * 34
  | [] => rfl
  | s :: l => by rw [cellsS_cons, List.length_append, tabv_len, cellsS_length l, List.length_cons]; omega
theorem cellsS_get : ∀ (l : List Slot) (k : Nat) (s : Slot) (hk : l[k]? = some s) (j : Nat), j < 34 → (cellsS l)[k * 34 + j]? = some (s.v j)
  | [], k, s, hk, j, hj => by simp at hk
  | x :: l, 0, s, hk, j, hj => by
    simp only [List.getElem?_cons_zero, Option.some.injEq] at hk
    subst hk
    rw [cellsS_cons, List.getElem?_append_left (by rw [tabv_len]; omega), Array.getElem?_toList, Nat.zero_mul, Nat.zero_add, tabv_get _ _ _ hj]
  | x :: l, k + 1, s, hk, j, hj => by
    simp only [List.getElem?_cons_succ] at hk
    rw [cellsS_cons, List.getElem?_append_right (by rw [tabv_len]; omega), tabv_len, show (k + 1) * 34 + j - 34 = k * 34 + j by omega]
    exact cellsS_get l k s hk j hj
theorem oneCell_tabvH (s : Slot) : ∀ u ∈ (tabv s.v 34).toList, u.oneCell' = true := by
  intro u hu
  obtain ⟨i, hi, rfl⟩ := List.mem_iff_getElem.1 hu
  have hi' : i < 34 := by rw [tabv_len] at hi; exact hi
  have e : (tabv s.v 34).toList[i]? = some (s.v i) := by rw [Array.getElem?_toList, tabv_get _ _ _ hi']
  rw [List.getElem?_eq_getElem hi] at e
  rw [Option.some.inj e]
  unfold Slot.v
  split
  · rfl
  · split <;> rfl
theorem oneCell_S (l : List Slot) : ∀ u ∈ cellsS l, u.oneCell' = true := by
  intro u hu
  obtain ⟨s, _, h⟩ := List.mem_flatMap.1 hu
  exact oneCell_tabvH s u h
-- stands in another text: At
-- stands in another text: At.below
section
variable {P : Program}
-- stands in another text: run_loadVar_at
-- stands in another text: wpW_load_at
-- stands in another text: run_load_at
end
-- stands in another text: Has.at_
/-- Slots behind a slice's address. -/
def Slots (w : World) (ad : Option Addr) (l : List Slot) : Prop := l = [] ∨ ∃ b o, ad = some ⟨b, o, none⟩ ∧ b < w.heap.size ∧ ∀ i s, l[i]? = some s → At w b (o + i * 34) s.v 34
theorem Slots.nil (w : World) (ad : Option Addr) : Slots w ad [] := .inl rfl
theorem Slots.get {w : World} {ad : Option Addr} {l : List Slot} (h : Slots w ad l) (k : Nat) (s : Slot) (hk : l[k]? = some s) : ∃ b o, ad = some ⟨b, o, none⟩ ∧ b < w.heap.size ∧ At w b (o + k * 34) s.v 34 := by
  rcases h with rfl | ⟨b, o, h1, h2, h3⟩
  · simp at hk
  · exact ⟨b, o, h1, h2, h3 k s hk⟩
theorem Slots.below {w w' : World} {ad : Option Addr} {l : List Slot} (h : Slots w ad l) (hb : Below w.heap.size w w') : Slots w' ad l := by
  rcases h with rfl | ⟨b, o, h1, h2, h3⟩
  · exact .inl rfl
  · exact .inr ⟨b, o, h1, Nat.lt_of_lt_of_le h2 hb.size, fun i s hs => (h3 i s hs).below hb h2⟩
/-- A list of slots of one's own. -/
def OwnS (B : Nat) (w : World) (v : Value) (l : List Slot) : Prop := w.ownsRow B 106 34 v l.length (cellsS l)
theorem infoS : (Tryz.prog.info? 106).map (·.size) = some 34 := by kernel_rfl
theorem infoS3 : (Tryz.prog.info? 106).map (fun i => (i.zero, i.size, i.bytes)) = some (some (.agg (tabv Slot.zero.v 34)), 34, 48) := by kernel_rfl
theorem infoPH : ∃ i, Tryz.prog.info? 106 = some i ∧ i.zero = some (.agg (tabv Slot.zero.v 34)) ∧ i.size = 34 ∧ i.bytes = 48 := by
  have h := infoS3
  cases hq : Tryz.prog.info? 106 with
  | none => simp [hq] at h
  | some i => simp [hq] at h; exact ⟨i, rfl, h.1, h.2.1, h.2.2⟩
theorem OwnS.nil (B : Nat) (w : World) : OwnS B w (.slice none 0 0) [] := World.ownsRow_nil w B _ _
theorem OwnS.mono {B B' : Nat} {w : World} {v : Value} {l : List Slot} (h : OwnS B w v l) (hb : B' ≤ B) : OwnS B' w v l :=
  ⟨h.1, h.2.imp id fun ⟨g, cap, cur, h1, h2, h3⟩ => ⟨g, cap, cur, h1, Nat.le_trans hb h2, h3⟩⟩
theorem OwnS.lt {B : Nat} {w : World} {v : Value} {l : List Slot} (h : OwnS B w v l) : ∀ k, v.ownBlock = some k → B ≤ k ∧ k < w.heap.size := World.ownsRow.lt h
theorem OwnS.same {B : Nat} {w w' : World} {v : Value} {l : List Slot} (h : OwnS B w v l) (e : ∀ k, v.ownBlock = some k → w'.heap[k]? = w.heap[k]?) : OwnS B w' v l := by
  refine ⟨h.1, h.2.imp id fun ⟨g, cap, cur, h1, h2, h3, h4⟩ => ⟨g, cap, cur, h1, h2, ?_, h4⟩⟩
  rw [e g (by rw [h1]; rfl), h3]
theorem OwnS.below {B B' : Nat} {w w' : World} {v : Value} {l : List Slot} (h : OwnS B w v l) (hb : Below B' w w') (hB : w.heap.size ≤ B') : OwnS B w' v l := h.same fun k hk => hb.block k (Nat.lt_of_lt_of_le (h.lt k hk).2 hB)
theorem OwnS.slots {B : Nat} {w : World} {v : Value} {l : List Slot} (h : OwnS B w v l) : ∃ ad cap, v = .slice ad l.length cap ∧ Slots w ad l ∧ (∀ x, ad = some x → x.block < w.heap.size ∧ B ≤ x.block) ∧ l.length ≤ cap ∧ cap ≤ maxLen := by
  obtain ⟨hl, ⟨rfl, hn⟩ | ⟨g, cap, cur, rfl, hb, hg, h1, h2, h3, h4⟩⟩ := h
  · have : l = [] := List.length_eq_zero_iff.1 hn
    subst this
    exact ⟨none, 0, rfl, .inl rfl, (fun x hx => by cases hx), by simp, by decide⟩
  · have hlt : g < w.heap.size := by
      rcases Nat.lt_or_ge g w.heap.size with h | h
      · exact h
      · rw [Array.getElem?_eq_none h] at hg; cases hg
    refine ⟨some ⟨g, 0, none⟩, cap, rfl, .inr ⟨g, 0, rfl, hlt, fun i s hs j hj => ?_⟩, (fun x hx => by cases hx; exact ⟨hlt, hb⟩), h1, h2⟩
    rw [cell_of_row w g _ cur _ (0, 0) hg]
    have hi : i < l.length := (List.getElem?_eq_some_iff.1 hs).1
    have e := cellsS_get l i s hs j hj
    rw [← h4, List.getElem?_take] at e
    rw [if_pos (by omega), Array.getElem?_toList] at e
    rw [show 0 + i * 34 + j = i * 34 + j by omega]
    exact e
-- stands in another text: eqH
-- stands in another text: eqH_refl
-- stands in another text: eqH_iff
-- stands in another text: eqH_tab
theorem zero34 : (#[.int .i64 0, .int .u8 0, .int .u8 0, .int .u8 0, .int .u8 0, .int .u8 0, .int .u8 0, .int .u8 0, .int .u8 0, .int .u8 0, .int .u8 0, .int .u8 0, .int .u8 0, .int .u8 0, .int .u8 0, .int .u8 0, .int .u8 0, .int .u8 0, .int .u8 0, .int .u8 0, .int .u8 0, .int .u8 0, .int .u8 0, .int .u8 0, .int .u8 0, .int .u8 0, .int .u8 0, .int .u8 0, .int .u8 0, .int .u8 0, .int .u8 0, .int .u8 0, .int .u8 0, .bool false] : Array Value) = tabv Slot.zero.v 34 := rfl
end Go.Proofs.YtmmcoedgoekhgaaGreatDoor
/-
  SHELVES, PLAIN: what Put and Get answer.
-/
namespace Go.Proofs.YtmmcoedgoekhgaaGreatDoor
set_option maxRecDepth 20000
open Go.RowKit S
set_option linter.unusedVariables false
set_option linter.unusedSimpArgs false
theorem oneVH (s : Slot) (i : Nat) : (s.v i).oneCell' = true := by
  unfold Slot.v
  split
  · rfl
  · split <;> rfl
section
variable {ops : Array Oper} {rest : List Oper} {o : Oper} {a : Act} {w : World} {Q : Exit → Act → World → Prop}
theorem wpList_storeS (hgd : o.guard = none) (x y : Operand) (ho : o.op = .store 106 x y) (hd : o.dst = none) (g : Nat) (s : Slot) (hx : a.eval x = .pointer (some ⟨g, 0, none⟩)) (hy : a.eval y = .agg (tabv s.v 34)) (f : Nat → Value) (hg : Has w g 106 f 34)
    (hk : wpList Tryz.prog ops Q rest a (w.setRow g (tabv s.v 34))) : wpList Tryz.prog ops Q (o :: rest) a w :=
  wpList_store_part hgd 106 x y ho hd g 0 s.v 34 hx hy 106 f 34 hg (by omega) infoS (fun i _ => oneVH s i) s.v (fun i hi => by unfold splice; rw [if_pos (by omega), Nat.sub_zero]) hk
-- stands in another text: wpList_storeH
end
/-- What stands in a place. -/
def atA (l : List Slot) (j : Nat) : Slot := match l[j]? with
  | some s => if s.full = true then s else Slot.zero
  | none => Slot.zero
theorem at_none {l : List Slot} {j : Nat} (h : l.length ≤ j) : atA l j = Slot.zero := by unfold atA; rw [List.getElem?_eq_none h]
theorem at_empty {l : List Slot} {j : Nat} {s : Slot} (h : l[j]? = some s) (hf : s.full = false) : atA l j = Slot.zero := by unfold atA; rw [h]; simp [hf]
theorem at_full {l : List Slot} {j : Nat} {s : Slot} (h : l[j]? = some s) (hf : s.full = true) : atA l j = s := by unfold atA; rw [h]; simp [hf]
def agreeB (h : Nat → UInt8) (n : Int) (s : Slot) : Bool := decide ((deriveA h n s.idx).2 = 0) && eqH (deriveA h n s.idx).1 s.sec
def okAt (l : List Slot) (h : Nat → UInt8) (n : Int) (j : Nat) : Bool := !(atA l j).full || agreeB h n (atA l j)
def withA (l : List Slot) (k : Nat) (s : Slot) : List Slot := (List.range 49).map fun j => if j = k then s else atA l j
def putA (l : List Slot) (n : Int) (h : Nat → UInt8) : List Slot × Int :=
  if 49 < l.length then ([], 1) else if isN n = false then ([], 90)
  else if (List.range (lvl (place n.toNat) 48)).all (okAt l h n) = true then (withA l (lvl (place n.toNat) 48) ⟨n, h, true⟩, 0) else ([], 100)
end Go.Proofs.YtmmcoedgoekhgaaGreatDoor
/-
  The code's shelf: at, yields, agrees, with.
-/
namespace Go.Proofs.YtmmcoedgoekhgaaGreatDoor
set_option maxRecDepth 20000
open Go.RowKit S
set_option linter.unusedVariables false
set_option linter.unusedSimpArgs false
set_option maxRecDepth 100000 in
set_option maxHeartbeats 1000000 in
theorem at_any (ad : Option Addr) (n cap : Nat) (l : List Slot) (hn : l.length = n) (k : Nat) (w : World) (hS : Slots w ad l) : Calls Tryz.prog 109 #[.slice ad n cap, .int .i64 (k : Int)] w fun e w' => e = .returned (.agg (tabv (atA l k).v 34)) ∧ Below w.heap.size w w' := by
  obtain ⟨w3, hW⟩ : ∃ w3, w.alloc (.cells (tabv Slot.zero.v 34) 106) = w3 := ⟨_, rfl⟩
  have g0 : Has w3 w.heap.size 106 Slot.zero.v 34 := by rw [← hW]; exact Has.new w 106 Slot.zero.v 34 _ rfl
  have gb : Below w.heap.size w w3 := by rw [← hW]; exact (Below.refl w.heap.size w).alloc (Nat.le_refl _) _
  have hS3 := hS.below gb
  rw [← zero34] at hW
  by_cases hk : k < n
  · obtain ⟨s, hs⟩ : ∃ s, l[k]? = some s := ⟨_, List.getElem?_eq_getElem (by omega)⟩
    obtain ⟨b, o, rfl, hb, hA⟩ := hS3.get k s hs
    have hd : decide ((n : Int) ≤ (k : Int)) = false := by simp; omega
    have hk0 : (0 : Int) ≤ (k : Int) := by omega
    have hk1 : (k : Int) < (n : Int) := by omega
    cases hf : s.full with
    | true =>
      rw [at_full hs hf]
      have c33 : w3.cell? ⟨b, o + k * 34 + 33, none⟩ = some (.bool true) := by rw [hA 33 (by omega), Slot.v_full, hf]
      have HA := hide hA
      clear hA hf hs hS3 hS
      go_enter Tryz.func109, Tryz.ntmps109
      go_wp2_with (first | refine wpW_load_at 106 _ rfl b (o + k * 34) (by rfl) (by rfl) _ 34 _ HA.out Tryz.underlying106 rfl infoS ?_ | refine wpList_storeS rfl _ _ rfl rfl w.heap.size s rfl rfl _ g0 ?_)
      exact bodyPost_ret (results_cell_row rfl _ _ w.heap.size 106 _ (0, 0) _ rfl (g0.row _ _ rfl) Tryz.underlying106 rfl (by rw [tabv_size]; exact infoS)) rfl ⟨rfl, below_setRow gb (Nat.le_refl _) _⟩
    | false =>
      rw [at_empty hs hf]
      have c33 : w3.cell? ⟨b, o + k * 34 + 33, none⟩ = some (.bool false) := by rw [hA 33 (by omega), Slot.v_full, hf]
      clear hA hf hs hS3 hS
      go_enter Tryz.func109, Tryz.ntmps109
      go_wp2_with (refine wpList_storeS rfl _ _ rfl rfl w.heap.size Slot.zero rfl rfl _ g0 ?_)
      exact bodyPost_ret (results_cell_row rfl _ _ w.heap.size 106 _ (0, 0) _ rfl (g0.row _ _ rfl) Tryz.underlying106 rfl (by rw [tabv_size]; exact infoS)) rfl ⟨rfl, below_setRow gb (Nat.le_refl _) _⟩
  · have hd : decide ((n : Int) ≤ (k : Int)) = true := by simp; omega
    rw [at_none (by omega)]
    go_enter Tryz.func109, Tryz.ntmps109
    go_wp2_with (refine wpList_storeS rfl _ _ rfl rfl w.heap.size Slot.zero rfl rfl _ g0 ?_)
    exact bodyPost_ret (results_cell_row rfl _ _ w.heap.size 106 _ (0, 0) _ rfl (g0.row _ _ rfl) Tryz.underlying106 rfl (by rw [tabv_size]; exact infoS)) rfl ⟨rfl, below_setRow gb (Nat.le_refl _) _⟩
set_option maxRecDepth 100000 in
set_option maxHeartbeats 1000000 in
theorem yields_any (s : Slot) (n : Int) (w : World) (hG : Glob num w) : Calls Tryz.prog 134 #[.agg (tabv s.v 34), .int .i64 n] w fun e w' => e = .returned (.tuple #[.agg (tabv (bv (deriveA s.sec s.idx n).1) 32), .int .i64 (deriveA s.sec s.idx n).2]) ∧ Below w.heap.size w w' := by
  obtain ⟨w3, hW⟩ : ∃ w3, (w.alloc (.cells (tabv s.v 34) 106)).alloc (.cells (tabv (fun _ => .int .u8 0) 32) 23) = w3 := ⟨_, rfl⟩
  have g0 : Has w3 w.heap.size 106 s.v 34 := by rw [← hW]; exact (Has.new w 106 s.v 34 _ rfl).old _
  have g1 : Has w3 (w.heap.size + 1) 23 (fun _ => .int .u8 0) 32 := by
    rw [← hW]
    have := Has.new (w.alloc (.cells (tabv s.v 34) 106)) 23 (fun _ => .int .u8 0) 32 _ rfl
    rw [size_alloc] at this
    exact this
  have gb : Below w.heap.size w w3 := by rw [← hW]; exact ((Below.refl w.heap.size w).alloc (Nat.le_refl _) _).alloc (by simp) _
  have hG3 : Glob num w3 := hG.up gb
  have c0 : w3.cell? ⟨w.heap.size, 0, none⟩ = some (.int .i64 s.idx) := g0.cell 0 (by omega)
  rw [zero32] at hW
  obtain ⟨D, hD⟩ : ∃ D, deriveA s.sec s.idx n = D := ⟨_, rfl⟩
  have HD := hide hD
  rw [hD]
  clear hD
  go_enter Tryz.func134, Tryz.ntmps134
  go_wp2_with (refine wpList_load_part rfl 23 _ rfl w.heap.size 1 rfl 106 _ 34 32 _ g0 (by omega) Tryz.underlying23 rfl info26 (bv s.sec) (fun i hi => s.v_sec i hi) ?_)
  refine (sDerive_any num s.sec s.idx n _ hG3).mono ?_
  rw [HD.out]
  rintro e w9 ⟨rfl, hb9⟩
  have k1 := g1.below hb9 g1.lt
  have kb := gb.trans (hb9.mono gb.size)
  clear g0 g1 gb hb9 c0 hW
  go_wp2_with (refine wpList_storeH rfl _ _ rfl rfl (w.heap.size + 1) D.1 rfl rfl _ k1 ?_)
  exact bodyPost_ret (resCT _ (w.heap.size + 1) _ _ D.2 4 5 (k1.row _ (bv D.1) rfl) rfl rfl _ rfl) rfl ⟨rfl, below_setRow kb (by omega) _⟩
set_option maxRecDepth 100000 in
set_option maxHeartbeats 1000000 in
theorem agrees_any (s t : Slot) (w : World) (hG : Glob num w) : Calls Tryz.prog 110 #[.agg (tabv s.v 34), .agg (tabv t.v 34)] w fun e w' => e = .returned (.bool (agreeB s.sec s.idx t)) ∧ Below w.heap.size w w' := by
  obtain ⟨w3, hW⟩ : ∃ w3, (w.alloc (.cells (tabv s.v 34) 106)).alloc (.cells (tabv t.v 34) 106) = w3 := ⟨_, rfl⟩
  have g0 : Has w3 w.heap.size 106 s.v 34 := by rw [← hW]; exact (Has.new w 106 s.v 34 _ rfl).old _
  have g1 : Has w3 (w.heap.size + 1) 106 t.v 34 := by
    rw [← hW]
    have := Has.new (w.alloc (.cells (tabv s.v 34) 106)) 106 t.v 34 _ rfl
    rw [size_alloc] at this
    exact this
  have gb : Below w.heap.size w w3 := by rw [← hW]; exact ((Below.refl w.heap.size w).alloc (Nat.le_refl _) _).alloc (by simp) _
  have hG3 : Glob num w3 := hG.up gb
  have c0 : w3.cell? ⟨w.heap.size + 1, 0, none⟩ = some (.int .i64 t.idx) := g1.cell 0 (by omega)
  unfold agreeB
  obtain ⟨D, hD⟩ : ∃ D, deriveA s.sec s.idx t.idx = D := ⟨_, rfl⟩
  have HD := hide hD
  rw [hD]
  clear hD
  go_enter Tryz.func110, Tryz.ntmps110
  go_wp2_with (refine wpList_load_part rfl 106 _ rfl w.heap.size 0 rfl 106 _ 34 34 _ g0 (by omega) Tryz.underlying106 rfl infoS s.v (fun i hi => by rw [Nat.zero_add]) ?_)
  refine (yields_any s t.idx _ hG3).mono ?_
  rw [HD.out]
  rintro e w9 ⟨rfl, hb9⟩
  have k1 := g1.below hb9 g1.lt
  have kb := gb.trans (hb9.mono gb.size)
  clear g0 g1 gb hb9 c0 hW
  obtain ⟨H, E⟩ := D
  obtain ⟨w5, hW5⟩ : ∃ w5, w9.alloc (.cells (tabv (fun _ => .int .u8 0) 32) 23) = w5 := ⟨_, rfl⟩
  have k2 : Has w5 w9.heap.size 23 (fun _ => .int .u8 0) 32 := by rw [← hW5]; exact Has.new w9 23 (fun _ => .int .u8 0) 32 _ rfl
  have k1' : Has w5 (w.heap.size + 1) 106 t.v 34 := by rw [← hW5]; exact k1.old _
  have kb5 : Below w.heap.size w w5 := by rw [← hW5]; exact kb.alloc kb.size _
  have hne : w.heap.size + 1 ≠ w9.heap.size := Nat.ne_of_lt k1.lt
  have hsz := kb.size
  rw [zero32] at hW5
  have r1 := k1'.row_other w9.heap.size (tabv (bv H) 32) hne
  have r2 := k2.row _ (bv H) rfl
  clear k1 kb k1'
  by_cases hE : E = 0
  · subst hE
    have hq : ∀ w : World, (Op.equalIn 10000 23 (.agg (tabv (bv H) 32)) (.agg (tabv (bv t.sec) 32))).run Tryz.prog w = .ok (eqH H t.sec) w := fun w => eqHD 9998 w H t.sec
    go_wp2_with (first | refine wpList_storeH rfl _ _ rfl rfl w9.heap.size H rfl rfl _ k2 ?_ | refine wpList_load_want (by rfl) 23 _ rfl w9.heap.size 0 rfl 23 _ 32 32 _ r2 (by omega) Tryz.underlying23 rfl info26 (bv H) (fun i hi => by rw [Nat.zero_add]) ?_ | refine wpList_load_want (by rfl) 23 _ rfl (w.heap.size + 1) 1 rfl 106 _ 34 32 _ r1 (by omega) Tryz.underlying23 rfl info26 (bv t.sec) (fun i hi => t.v_sec i hi) ?_)
    go_ret
    exact ⟨by simp, below_setRow kb5 hsz _⟩
  · have hd : (E == 0) = false := by simpa using hE
    go_wp2_with (refine wpList_storeH rfl _ _ rfl rfl w9.heap.size H rfl rfl _ k2 ?_)
    go_ret
    exact ⟨by simp [hE], below_setRow kb5 hsz _⟩
end Go.Proofs.YtmmcoedgoekhgaaGreatDoor
/-
  The code's shelf: with (a new row of 49 slots).
-/
namespace Go.Proofs.YtmmcoedgoekhgaaGreatDoor
set_option maxRecDepth 20000
open Go.RowKit S
set_option linter.unusedVariables false
set_option linter.unusedSimpArgs false
def rowF (F : Nat → Slot) : Nat → Value := fun i => (F (i / 34)).v (i % 34)
def updS (F : Nat → Slot) (k : Nat) (s : Slot) : Nat → Slot := fun j => if j = k then s else F j
theorem rowF_splice (F : Nat → Slot) (k : Nat) (s : Slot) (i : Nat) : splice (rowF F) (k * 34) s.v 34 i = rowF (updS F k s) i := by
  unfold splice rowF updS
  by_cases h : k * 34 ≤ i ∧ i < k * 34 + 34
  · rw [if_pos h, if_pos (show i / 34 = k by omega), show i - k * 34 = i % 34 by omega]
  · rw [if_neg h, if_neg (show ¬ i / 34 = k by omega)]
theorem made_zero : madeCells (Value.agg (tabv Slot.zero.v 34)).cells 1666 = tabv (rowF fun _ => Slot.zero) 1666 := by
  refine tabv_ext _ _ _ (size_madeCells _ _) fun i hi => ?_
  have e : (Value.agg (tabv Slot.zero.v 34)).cells = tabv Slot.zero.v 34 := rfl
  unfold madeCells rowF
  rw [e, tabv_size, Array.getElem?_map, Array.getElem?_range, if_pos hi, Option.map_some, getElem!_def, tabv_get _ _ _ (by omega)]
theorem cells_row (F : Nat → Slot) (n : Nat) : cellsS ((List.range n).map F) = (tabv (rowF F) (n * 34)).toList := by
  apply List.ext_getElem?
  intro i
  have e : (tabv (rowF F) (n * 34)).toList[i]? = (tabv (rowF F) (n * 34))[i]? := Array.getElem?_toList ..
  rw [e]
  by_cases hi : i < n * 34
  · rw [tabv_get _ _ _ hi]
    have hk : i / 34 < n := by omega
    have h := cellsS_get ((List.range n).map F) (i / 34) (F (i / 34)) (by rw [List.getElem?_map, List.getElem?_range hk]; rfl) (i % 34) (by omega)
    rw [show i / 34 * 34 + i % 34 = i by omega] at h
    exact h
  · rw [List.getElem?_eq_none (by rw [cellsS_length, List.length_map, List.length_range]; omega), tabv_none _ _ _ (by omega)]
def upF (l : List Slot) (j : Nat) : Nat → Slot := fun i => if i < j then atA l i else Slot.zero
theorem upF_zero (l : List Slot) : upF l 0 = fun _ => Slot.zero := by funext i; unfold upF; rw [if_neg (by omega)]
theorem upF_next (l : List Slot) (j : Nat) : updS (upF l j) j (atA l j) = upF l (j + 1) := by
  funext i
  unfold updS upF
  by_cases h : i = j
  · subst h; rw [if_pos rfl, if_pos (by omega)]
  · rw [if_neg h]
    by_cases h2 : i < j
    · rw [if_pos h2, if_pos (by omega)]
    · rw [if_neg h2, if_neg (by omega)]
theorem rowF_congr {F G : Nat → Slot} (n : Nat) (h : ∀ j, j < n → F j = G j) (i : Nat) (hi : i < n * 34) : rowF F i = rowF G i := by
  unfold rowF
  rw [h _ (by omega)]
theorem own_row {w : World} {g n B : Nat} {F : Nat → Slot} (h : Has w g 106 (rowF F) (n * 34)) (hB : B ≤ g) (hn : n ≤ maxLen) : OwnS B w (.slice (some ⟨g, 0, none⟩) n n) ((List.range n).map F) := by
  unfold OwnS
  rw [List.length_map, List.length_range]
  refine ⟨by rw [cellsS_length, List.length_map, List.length_range], .inr ⟨g, n, _, rfl, hB, h, Nat.le_refl _, hn, tabv_size _ _, ?_⟩⟩
  rw [cells_row]
  exact List.take_of_length_le (by rw [tabv_len]; omega)
theorem run_make49 (w : World) : (Instr.makeSlice 30 (.int .i64 49) (.int .i64 49)).run Tryz.prog w = .ok (.slice (some ⟨w.heap.size, 0, none⟩) 49 49) (w.alloc (.cells (tabv (rowF fun _ => Slot.zero) 1666) 106)) := by
  obtain ⟨i, h1, h2, h3, h4⟩ := infoPH
  have h := run_make (P := Tryz.prog) w 30 106 i _ Tryz.underlying30 h1 h2 .i64 .i64 49 49 (by omega) (by omega) (by rw [h4]; omega) (by omega)
  rw [h, h3, ← made_zero]
  rfl
set_option maxRecDepth 100000 in
set_option maxHeartbeats 1000000 in
theorem with_any (ad : Option Addr) (n cap : Nat) (l : List Slot) (hn : l.length = n) (k : Nat) (hk : k < 49) (s : Slot) (w : World) (hS : Slots w ad l) : Calls Tryz.prog 111 #[.slice ad n cap, .int .i64 (k : Int), .agg (tabv s.v 34)] w fun e w' => (∃ g, e = .returned (.slice (some ⟨g, 0, none⟩) 49 49) ∧ w.heap.size ≤ g ∧ Has w' g 106 (rowF (updS (atA l) k s)) 1666) ∧ Below w.heap.size w w' := by
  obtain ⟨w3, hW⟩ : ∃ w3, w.alloc (.cells (tabv s.v 34) 106) = w3 := ⟨_, rfl⟩
  have g0 : Has w3 w.heap.size 106 s.v 34 := by rw [← hW]; exact Has.new w 106 s.v 34 _ rfl
  have gb : Below w.heap.size w w3 := by rw [← hW]; exact (Below.refl w.heap.size w).alloc (Nat.le_refl _) _
  have hz : w3.heap.size = w.heap.size + 1 := by rw [← hW]; simp
  obtain ⟨G, hGG⟩ : ∃ G, w.heap.size + 1 = G := ⟨_, rfl⟩
  rw [hGG] at hz
  obtain ⟨w4, hW4⟩ : ∃ w4, w3.alloc (.cells (tabv (rowF fun _ => Slot.zero) 1666) 106) = w4 := ⟨_, rfl⟩
  have g1 : Has w4 G 106 (rowF fun _ => Slot.zero) 1666 := by rw [← hW4, ← hz]; exact Has.new w3 106 _ 1666 _ rfl
  have gb4 : Below w.heap.size w w4 := by rw [← hW4]; exact gb.alloc gb.size _
  have g04 : Has w4 w.heap.size 106 s.v 34 := by rw [← hW4]; exact g0.old _
  have hmk : (Instr.makeSlice 30 (.int .i64 49) (.int .i64 49)).run Tryz.prog w3 = .ok (.slice (some ⟨G, 0, none⟩) 49 49) w4 := by rw [run_make49, hz, hW4]
  clear g0 gb hW4
  have hS4 := hS.below gb4
  go_enter Tryz.func111, Tryz.ntmps111
  go_wp2
  rw [← upF_zero l] at g1
  go_loopw [10] (fun i wr => ∃ j : Nat, j ≤ 49 ∧ i = .int .i64 j ∧ Has wr G 106 (rowF (upF l j)) 1666 ∧ Has wr w.heap.size 106 s.v 34 ∧ Below w.heap.size w wr) (fun i _ => 49 - (intOf i).toNat)
  case atStart => exact ⟨0, by omega, rfl, g1, g04, gb4⟩
  case round =>
    clear g1 g04 gb4 hmk hW hz hS4
    obtain ⟨j, hj, rfl, g1, g0, gb⟩ := hrel
    have hSr := hS.below gb
    by_cases hlt : j < 49
    · have hd : decide ((j : Int) < 49) = true := by simp; omega
      have hk0 : (0 : Int) ≤ (j : Int) := by omega
      have hk1 : (j : Int) < 49 := by omega
      go_wp2_with fail
      refine (at_any ad n cap l hn j _ hSr).mono ?_
      rintro e w1 ⟨rfl, hb1⟩
      have k1 := g1.below hb1 g1.lt
      have k0 := g0.below hb1 g0.lt
      have kb := gb.trans (hb1.mono gb.size)
      clear g1 g0 gb hSr hb1
      go_wp2_with (refine wpList_store_part rfl 106 _ _ rfl rfl G (j * 34) (atA l j).v 34 rfl rfl 106 _ 1666 k1 (by omega) infoS (fun i _ => oneVH _ i) (rowF (upF l (j + 1))) (fun i hi => by rw [rowF_splice, upF_next]) ?_)
      go_roundw
      case rel => exact ⟨j + 1, by omega, by go_num, k1.row _ _ rfl, k0.row_other _ _ (by omega), below_setRow kb (by omega) _⟩
      case measure => simp [intOf]; omega
    · have hj8 : j = 49 := by omega
      subst hj8
      have hd : decide (((49 : Nat) : Int) < 49) = false := by decide
      have hk0 : (0 : Int) ≤ (k : Int) := by omega
      have hk1 : (k : Int) < 49 := by omega
      have ef : ∀ i, i < 1666 → splice (rowF (upF l 49)) (k * 34) s.v 34 i = rowF (updS (atA l) k s) i := fun i hi => by
        rw [rowF_splice]
        exact rowF_congr 49 (fun j hj => by unfold updS upF; rw [if_pos hj]) i hi
      go_wp2_with (first | refine wpList_load_part rfl 106 _ rfl w.heap.size 0 rfl 106 _ 34 34 _ g0 (by omega) Tryz.underlying106 rfl infoS s.v (fun i hi => by rw [Nat.zero_add]) ?_ | refine wpList_store_part rfl 106 _ _ rfl rfl G (k * 34) s.v 34 rfl rfl 106 _ 1666 g1 (by omega) infoS (fun i _ => oneVH _ i) (rowF (updS (atA l) k s)) ef ?_)
      go_ret
      exact ⟨⟨G, rfl, by omega, g1.row _ _ rfl⟩, below_setRow gb (by omega) _⟩
end Go.Proofs.YtmmcoedgoekhgaaGreatDoor
