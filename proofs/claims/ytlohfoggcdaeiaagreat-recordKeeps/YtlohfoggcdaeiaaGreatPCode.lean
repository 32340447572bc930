import Derived.Test.YtlohfoggcdaeiaaGreatUValid
import Derived.Test.YtlohfoggcdaeiaaGreatPBase
/-
  SHELVES, PLAIN: what Put and Get answer.
-/
namespace Go.Proofs.YtlohfoggcdaeiaaGreat
set_option maxRecDepth 20000
open Go.RowKit S
set_option linter.unusedVariables false
set_option linter.unusedSimpArgs false
theorem oneVH (s : Slot) (i : Nat) : (s.v i).oneCell' = true := by
  unfold Slot.v
  split
  · rfl
  · split <;> rfl
section
variable {ops : Array Oper} {rest : List Oper} {o : Oper} {a : Act} {w : World} {Q : Exit → Act → World → Prop}
theorem wpList_storeS (hgd : o.guard = none) (x y : Operand) (ho : o.op = .store 49 x y) (hd : o.dst = none) (g : Nat) (s : Slot) (hx : a.eval x = .pointer (some ⟨g, 0, none⟩)) (hy : a.eval y = .agg (tabv s.v 34)) (f : Nat → Value) (hg : Has w g 49 f 34)
    (hk : wpList Tryz.prog ops Q rest a (w.setRow g (tabv s.v 34))) : wpList Tryz.prog ops Q (o :: rest) a w :=
  wpList_store_part hgd 49 x y ho hd g 0 s.v 34 hx hy 49 f 34 hg (by omega) infoS (fun i _ => oneVH s i) s.v (fun i hi => by unfold splice; rw [if_pos (by omega), Nat.sub_zero]) hk
-- stands in another text: wpList_storeH
end
/-- What stands in a place. -/
def atA (l : List Slot) (j : Nat) : Slot := match l[j]? with
  | some s => if s.full = true then s else Slot.zero
  | none => Slot.zero
theorem at_none {l : List Slot} {j : Nat} (h : l.length ≤ j) : atA l j = Slot.zero := by unfold atA; rw [List.getElem?_eq_none h]
theorem at_empty {l : List Slot} {j : Nat} {s : Slot} (h : l[j]? = some s) (hf : s.full = false) : atA l j = Slot.zero := by unfold atA; rw [h]; simp [hf]
theorem at_full {l : List Slot} {j : Nat} {s : Slot} (h : l[j]? = some s) (hf : s.full = true) : atA l j = s := by unfold atA; rw [h]; simp [hf]
def agreeB [Inhabited S.Tbl] (h : Nat → UInt8) (n : Int) (s : Slot) : Bool := decide ((deriveA h n s.idx).2 = 0) && eqH (deriveA h n s.idx).1 s.sec
def okAt [Inhabited S.Tbl] (l : List Slot) (h : Nat → UInt8) (n : Int) (j : Nat) : Bool := !(atA l j).full || agreeB h n (atA l j)
def withA (l : List Slot) (k : Nat) (s : Slot) : List Slot := (List.range 49).map fun j => if j = k then s else atA l j
theorem withA_length (l : List Slot) (k : Nat) (s : Slot) : (withA l k s).length = 49 := by simp [withA]
def putA [Inhabited S.Tbl] (l : List Slot) (n : Int) (h : Nat → UInt8) : List Slot × Int :=
  if 49 < l.length then ([], 1) else if isN n = false then ([], 90)
  else if (List.range (lvl (place n.toNat) 48)).all (okAt l h n) = true then (withA l (lvl (place n.toNat) 48) ⟨n, h, true⟩, 0) else ([], 100)
def yieldB [Inhabited S.Tbl] (s : Slot) (n : Int) : Bool := s.full && decide ((deriveA s.sec s.idx n).2 = 0)
def getK [Inhabited S.Tbl] (l : List Slot) (n : Int) : Nat → (Nat → UInt8) × Int
  | 0 => (fun _ => 0, 5)
  | k + 1 => if yieldB (atA l (49 - (k + 1))) n = true then ((deriveA (atA l (49 - (k + 1))).sec (atA l (49 - (k + 1))).idx n).1, 0) else getK l n k
def getA [Inhabited S.Tbl] (l : List Slot) (n : Int) : (Nat → UInt8) × Int :=
  if 49 < l.length then (fun _ => 0, 1) else if isN n = false then (fun _ => 0, 90) else getK l n 49
end Go.Proofs.YtlohfoggcdaeiaaGreat
/-
  The code's shelf: at, yields, agrees, with.
-/
namespace Go.Proofs.YtlohfoggcdaeiaaGreat
set_option maxRecDepth 20000
open Go.RowKit S
set_option linter.unusedVariables false
set_option linter.unusedSimpArgs false
set_option maxRecDepth 100000 in
set_option maxHeartbeats 1000000 in
theorem at_any (ad : Option Addr) (n cap : Nat) (l : List Slot) (hn : l.length = n) (k : Nat) (w : World) (hS : Slots w ad l) : Calls Tryz.prog 168 #[.slice ad n cap, .int .i64 (k : Int)] w fun e w' => e = .returned (.agg (tabv (atA l k).v 34)) ∧ Below w.heap.size w w' := by
  obtain ⟨w3, hW⟩ : ∃ w3, w.alloc (.cells (tabv Slot.zero.v 34) 49) = w3 := ⟨_, rfl⟩
  have g0 : Has w3 w.heap.size 49 Slot.zero.v 34 := by rw [← hW]; exact Has.new w 49 Slot.zero.v 34 _ rfl
  have gb : Below w.heap.size w w3 := by rw [← hW]; exact (Below.refl w.heap.size w).alloc (Nat.le_refl _) _
  have hS3 := hS.below gb
  rw [← zero34] at hW
  by_cases hk : k < n
  · obtain ⟨s, hs⟩ : ∃ s, l[k]? = some s := ⟨_, List.getElem?_eq_getElem (by omega)⟩
    obtain ⟨b, o, rfl, hb, hA⟩ := hS3.get k s hs
    have hd : decide ((n : Int) ≤ (k : Int)) = false := by simp; omega
    have hk0 : (0 : Int) ≤ (k : Int) := by omega
    have hk1 : (k : Int) < (n : Int) := by omega
    cases hf : s.full with
    | true =>
      rw [at_full hs hf]
      have c33 : w3.cell? ⟨b, o + k * 34 + 33, none⟩ = some (.bool true) := by rw [hA 33 (by omega), Slot.v_full, hf]
      have HA := hide hA
      clear hA hf hs hS3 hS
      go_enter Tryz.func168, Tryz.ntmps168
      go_wp2_with (first | refine wpW_load_at 49 _ rfl b (o + k * 34) (by rfl) (by rfl) _ 34 _ HA.out Tryz.underlying49 rfl infoS ?_ | refine wpList_storeS rfl _ _ rfl rfl w.heap.size s rfl rfl _ g0 ?_)
      exact bodyPost_ret (results_cell_row rfl _ _ w.heap.size 49 _ (0, 0) _ rfl (g0.row _ _ rfl) Tryz.underlying49 rfl (by rw [tabv_size]; exact infoS)) rfl ⟨rfl, below_setRow gb (Nat.le_refl _) _⟩
    | false =>
      rw [at_empty hs hf]
      have c33 : w3.cell? ⟨b, o + k * 34 + 33, none⟩ = some (.bool false) := by rw [hA 33 (by omega), Slot.v_full, hf]
      clear hA hf hs hS3 hS
      go_enter Tryz.func168, Tryz.ntmps168
      go_wp2_with (refine wpList_storeS rfl _ _ rfl rfl w.heap.size Slot.zero rfl rfl _ g0 ?_)
      exact bodyPost_ret (results_cell_row rfl _ _ w.heap.size 49 _ (0, 0) _ rfl (g0.row _ _ rfl) Tryz.underlying49 rfl (by rw [tabv_size]; exact infoS)) rfl ⟨rfl, below_setRow gb (Nat.le_refl _) _⟩
  · have hd : decide ((n : Int) ≤ (k : Int)) = true := by simp; omega
    rw [at_none (by omega)]
    go_enter Tryz.func168, Tryz.ntmps168
    go_wp2_with (refine wpList_storeS rfl _ _ rfl rfl w.heap.size Slot.zero rfl rfl _ g0 ?_)
    exact bodyPost_ret (results_cell_row rfl _ _ w.heap.size 49 _ (0, 0) _ rfl (g0.row _ _ rfl) Tryz.underlying49 rfl (by rw [tabv_size]; exact infoS)) rfl ⟨rfl, below_setRow gb (Nat.le_refl _) _⟩
set_option maxRecDepth 100000 in
set_option maxHeartbeats 1000000 in
theorem rat_any (ad : Option Addr) (n cap : Nat) (l : List Slot) (hn : l.length = n) (k : Nat) (w : World) (hS : Slots w ad l) : Calls Tryz.prog 77 #[.slice ad n cap, .int .i64 (k : Int)] w fun e w' => e = .returned (.agg (tabv (atA l k).v 34)) ∧ Below w.heap.size w w' := by
  obtain ⟨w3, hW⟩ : ∃ w3, w.alloc (.cells (tabv Slot.zero.v 34) 49) = w3 := ⟨_, rfl⟩
  have g0 : Has w3 w.heap.size 49 Slot.zero.v 34 := by rw [← hW]; exact Has.new w 49 Slot.zero.v 34 _ rfl
  have gb : Below w.heap.size w w3 := by rw [← hW]; exact (Below.refl w.heap.size w).alloc (Nat.le_refl _) _
  have hS3 := hS.below gb
  rw [← zero34] at hW
  by_cases hk : k < n
  · obtain ⟨s, hs⟩ : ∃ s, l[k]? = some s := ⟨_, List.getElem?_eq_getElem (by omega)⟩
    obtain ⟨b, o, rfl, hb, hA⟩ := hS3.get k s hs
    have hd : decide ((k : Int) < (n : Int)) = true := by simp; omega
    have hk0 : (0 : Int) ≤ (k : Int) := by omega
    have hk1 : (k : Int) < (n : Int) := by omega
    cases hf : s.full with
    | true =>
      rw [at_full hs hf]
      have c33 : w3.cell? ⟨b, o + k * 34 + 33, none⟩ = some (.bool true) := by rw [hA 33 (by omega), Slot.v_full, hf]
      have HA := hide hA
      clear hA hf hs hS3 hS
      go_enter Tryz.func77, Tryz.ntmps77
      go_wp2_with (first | refine wpW_load_at 49 _ rfl b (o + k * 34) (by rfl) (by rfl) _ 34 _ HA.out Tryz.underlying49 rfl infoS ?_ | refine wpList_storeS rfl _ _ rfl rfl w.heap.size s rfl rfl _ g0 ?_)
      exact bodyPost_ret (results_cell_row rfl _ _ w.heap.size 49 _ (0, 0) _ rfl (g0.row _ _ rfl) Tryz.underlying49 rfl (by rw [tabv_size]; exact infoS)) rfl ⟨rfl, below_setRow gb (Nat.le_refl _) _⟩
    | false =>
      rw [at_empty hs hf]
      have c33 : w3.cell? ⟨b, o + k * 34 + 33, none⟩ = some (.bool false) := by rw [hA 33 (by omega), Slot.v_full, hf]
      clear hA hf hs hS3 hS
      go_enter Tryz.func77, Tryz.ntmps77
      go_wp2_with (refine wpList_storeS rfl _ _ rfl rfl w.heap.size Slot.zero rfl rfl _ g0 ?_)
      exact bodyPost_ret (results_cell_row rfl _ _ w.heap.size 49 _ (0, 0) _ rfl (g0.row _ _ rfl) Tryz.underlying49 rfl (by rw [tabv_size]; exact infoS)) rfl ⟨rfl, below_setRow gb (Nat.le_refl _) _⟩
  · have hd : decide ((k : Int) < (n : Int)) = false := by simp; omega
    rw [at_none (by omega)]
    go_enter Tryz.func77, Tryz.ntmps77
    go_wp2_with (refine wpList_storeS rfl _ _ rfl rfl w.heap.size Slot.zero rfl rfl _ g0 ?_)
    exact bodyPost_ret (results_cell_row rfl _ _ w.heap.size 49 _ (0, 0) _ rfl (g0.row _ _ rfl) Tryz.underlying49 rfl (by rw [tabv_size]; exact infoS)) rfl ⟨rfl, below_setRow gb (Nat.le_refl _) _⟩
set_option maxRecDepth 100000 in
set_option maxHeartbeats 1000000 in
theorem yields_any [Inhabited S.Tbl] (s : Slot) (n : Int) (w : World) (hG : Glob num w) : Calls Tryz.prog 174 #[.agg (tabv s.v 34), .int .i64 n] w fun e w' => e = .returned (.tuple #[.agg (tabv (bv (deriveA s.sec s.idx n).1) 32), .int .i64 (deriveA s.sec s.idx n).2]) ∧ Below w.heap.size w w' := by
  obtain ⟨w3, hW⟩ : ∃ w3, (w.alloc (.cells (tabv s.v 34) 49)).alloc (.cells (tabv (fun _ => .int .u8 0) 32) 25) = w3 := ⟨_, rfl⟩
  have g0 : Has w3 w.heap.size 49 s.v 34 := by rw [← hW]; exact (Has.new w 49 s.v 34 _ rfl).old _
  have g1 : Has w3 (w.heap.size + 1) 25 (fun _ => .int .u8 0) 32 := by
    rw [← hW]
    have := Has.new (w.alloc (.cells (tabv s.v 34) 49)) 25 (fun _ => .int .u8 0) 32 _ rfl
    rw [size_alloc] at this
    exact this
  have gb : Below w.heap.size w w3 := by rw [← hW]; exact ((Below.refl w.heap.size w).alloc (Nat.le_refl _) _).alloc (by simp) _
  have hG3 : Glob num w3 := hG.up gb
  have c0 : w3.cell? ⟨w.heap.size, 0, none⟩ = some (.int .i64 s.idx) := g0.cell 0 (by omega)
  rw [zero32] at hW
  obtain ⟨D, hD⟩ : ∃ D, deriveA s.sec s.idx n = D := ⟨_, rfl⟩
  have HD := hide hD
  rw [hD]
  clear hD
  go_enter Tryz.func174, Tryz.ntmps174
  go_wp2_with (refine wpList_load_part rfl 25 _ rfl w.heap.size 1 rfl 49 _ 34 32 _ g0 (by omega) Tryz.underlying25 rfl info26 (bv s.sec) (fun i hi => s.v_sec i hi) ?_)
  refine (sDerive_any num s.sec s.idx n _ hG3).mono ?_
  rw [HD.out]
  rintro e w9 ⟨rfl, hb9⟩
  have k1 := g1.below hb9 g1.lt
  have kb := gb.trans (hb9.mono gb.size)
  clear g0 g1 gb hb9 c0 hW
  go_wp2_with (refine wpList_storeH rfl _ _ rfl rfl (w.heap.size + 1) D.1 rfl rfl _ k1 ?_)
  exact bodyPost_ret (resCT _ (w.heap.size + 1) _ _ D.2 4 5 (k1.row _ (bv D.1) rfl) rfl rfl _ rfl) rfl ⟨rfl, below_setRow kb (by omega) _⟩
set_option maxRecDepth 100000 in
set_option maxHeartbeats 1000000 in
theorem agrees_any [Inhabited S.Tbl] (s t : Slot) (w : World) (hG : Glob num w) : Calls Tryz.prog 169 #[.agg (tabv s.v 34), .agg (tabv t.v 34)] w fun e w' => e = .returned (.bool (agreeB s.sec s.idx t)) ∧ Below w.heap.size w w' := by
  obtain ⟨w3, hW⟩ : ∃ w3, (w.alloc (.cells (tabv s.v 34) 49)).alloc (.cells (tabv t.v 34) 49) = w3 := ⟨_, rfl⟩
  have g0 : Has w3 w.heap.size 49 s.v 34 := by rw [← hW]; exact (Has.new w 49 s.v 34 _ rfl).old _
  have g1 : Has w3 (w.heap.size + 1) 49 t.v 34 := by
    rw [← hW]
    have := Has.new (w.alloc (.cells (tabv s.v 34) 49)) 49 t.v 34 _ rfl
    rw [size_alloc] at this
    exact this
  have gb : Below w.heap.size w w3 := by rw [← hW]; exact ((Below.refl w.heap.size w).alloc (Nat.le_refl _) _).alloc (by simp) _
  have hG3 : Glob num w3 := hG.up gb
  have c0 : w3.cell? ⟨w.heap.size + 1, 0, none⟩ = some (.int .i64 t.idx) := g1.cell 0 (by omega)
  unfold agreeB
  obtain ⟨D, hD⟩ : ∃ D, deriveA s.sec s.idx t.idx = D := ⟨_, rfl⟩
  have HD := hide hD
  rw [hD]
  clear hD
  go_enter Tryz.func169, Tryz.ntmps169
  go_wp2_with (refine wpList_load_part rfl 49 _ rfl w.heap.size 0 rfl 49 _ 34 34 _ g0 (by omega) Tryz.underlying49 rfl infoS s.v (fun i hi => by rw [Nat.zero_add]) ?_)
  refine (yields_any s t.idx _ hG3).mono ?_
  rw [HD.out]
  rintro e w9 ⟨rfl, hb9⟩
  have k1 := g1.below hb9 g1.lt
  have kb := gb.trans (hb9.mono gb.size)
  clear g0 g1 gb hb9 c0 hW
  obtain ⟨H, E⟩ := D
  obtain ⟨w5, hW5⟩ : ∃ w5, w9.alloc (.cells (tabv (fun _ => .int .u8 0) 32) 25) = w5 := ⟨_, rfl⟩
  have k2 : Has w5 w9.heap.size 25 (fun _ => .int .u8 0) 32 := by rw [← hW5]; exact Has.new w9 25 (fun _ => .int .u8 0) 32 _ rfl
  have k1' : Has w5 (w.heap.size + 1) 49 t.v 34 := by rw [← hW5]; exact k1.old _
  have kb5 : Below w.heap.size w w5 := by rw [← hW5]; exact kb.alloc kb.size _
  have hne : w.heap.size + 1 ≠ w9.heap.size := Nat.ne_of_lt k1.lt
  have hsz := kb.size
  rw [zero32] at hW5
  have r1 := k1'.row_other w9.heap.size (tabv (bv H) 32) hne
  have r2 := k2.row _ (bv H) rfl
  clear k1 kb k1'
  by_cases hE : E = 0
  · subst hE
    have hq : ∀ w : World, (Op.equalIn 10000 25 (.agg (tabv (bv H) 32)) (.agg (tabv (bv t.sec) 32))).run Tryz.prog w = .ok (eqH H t.sec) w := fun w => eqHD 9998 w H t.sec
    go_wp2_with (first | refine wpList_storeH rfl _ _ rfl rfl w9.heap.size H rfl rfl _ k2 ?_ | refine wpList_load_want (by rfl) 25 _ rfl w9.heap.size 0 rfl 25 _ 32 32 _ r2 (by omega) Tryz.underlying25 rfl info26 (bv H) (fun i hi => by rw [Nat.zero_add]) ?_ | refine wpList_load_want (by rfl) 25 _ rfl (w.heap.size + 1) 1 rfl 49 _ 34 32 _ r1 (by omega) Tryz.underlying25 rfl info26 (bv t.sec) (fun i hi => t.v_sec i hi) ?_)
    go_ret
    exact ⟨by simp, below_setRow kb5 hsz _⟩
  · have hd : (E == 0) = false := by simpa using hE
    go_wp2_with (refine wpList_storeH rfl _ _ rfl rfl w9.heap.size H rfl rfl _ k2 ?_)
    go_ret
    exact ⟨by simp [hE], below_setRow kb5 hsz _⟩
end Go.Proofs.YtlohfoggcdaeiaaGreat
