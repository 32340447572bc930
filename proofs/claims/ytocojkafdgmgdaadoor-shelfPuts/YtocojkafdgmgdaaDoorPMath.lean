/-
  SHELVES, PLAIN: what Put and Get answer.
-/
import Derived.Test.YtocojkafdgmgdaaDoorPBase
namespace Go.Proofs.YtocojkafdgmgdaaDoor
open Go.RowKit S
set_option linter.unusedVariables false
set_option linter.unusedSimpArgs false
theorem oneV (s : Slot) (i : Nat) : (s.v i).oneCell' = true := by
  unfold Slot.v
  split
  · rfl
  · split <;> rfl
section
variable {ops : Array Oper} {rest : List Oper} {o : Oper} {a : Act} {w : World} {Q : Exit → Act → World → Prop}
theorem wpList_storeS (hgd : o.guard = none) (x y : Operand) (ho : o.op = .store 37 x y) (hd : o.dst = none) (g : Nat) (s : Slot) (hx : a.eval x = .pointer (some ⟨g, 0, none⟩)) (hy : a.eval y = .agg (tabv s.v 34)) (f : Nat → Value) (hg : Has w g 37 f 34)
    (hk : wpList Tryd.prog ops Q rest a (w.setRow g (tabv s.v 34))) : wpList Tryd.prog ops Q (o :: rest) a w :=
  wpList_store_part hgd 37 x y ho hd g 0 s.v 34 hx hy 37 f 34 hg (by omega) infoS (fun i _ => oneV s i) s.v (fun i hi => by unfold splice; rw [if_pos (by omega), Nat.sub_zero]) hk
theorem wpList_storeH (hgd : o.guard = none) (x y : Operand) (ho : o.op = .store 23 x y) (hd : o.dst = none) (g : Nat) (h : Nat → UInt8) (hx : a.eval x = .pointer (some ⟨g, 0, none⟩)) (hy : a.eval y = .agg (tabv (bv h) 32)) (f : Nat → Value) (hg : Has w g 23 f 32)
    (hk : wpList Tryd.prog ops Q rest a (w.setRow g (tabv (bv h) 32))) : wpList Tryd.prog ops Q (o :: rest) a w :=
  wpList_store_part hgd 23 x y ho hd g 0 (bv h) 32 hx hy 23 f 32 hg (by omega) info26 (fun i _ => rfl) (bv h) (fun i hi => by unfold splice; rw [if_pos (by omega), Nat.sub_zero]) hk
end
/-- What stands in a place. -/
def atA (l : List Slot) (j : Nat) : Slot := match l[j]? with
  | some s => if s.full = true then s else Slot.zero
  | none => Slot.zero
theorem at_none {l : List Slot} {j : Nat} (h : l.length ≤ j) : atA l j = Slot.zero := by unfold atA; rw [List.getElem?_eq_none h]
theorem at_empty {l : List Slot} {j : Nat} {s : Slot} (h : l[j]? = some s) (hf : s.full = false) : atA l j = Slot.zero := by unfold atA; rw [h]; simp [hf]
theorem at_full {l : List Slot} {j : Nat} {s : Slot} (h : l[j]? = some s) (hf : s.full = true) : atA l j = s := by unfold atA; rw [h]; simp [hf]
def agreeB (h : Nat → UInt8) (n : Int) (s : Slot) : Bool := decide ((deriveA h n s.idx).2 = 0) && eqH (deriveA h n s.idx).1 s.sec
def okAt (l : List Slot) (h : Nat → UInt8) (n : Int) (j : Nat) : Bool := !(atA l j).full || agreeB h n (atA l j)
def withA (l : List Slot) (k : Nat) (s : Slot) : List Slot := (List.range 49).map fun j => if j = k then s else atA l j
theorem withA_length (l : List Slot) (k : Nat) (s : Slot) : (withA l k s).length = 49 := by simp [withA]
def putA (l : List Slot) (n : Int) (h : Nat → UInt8) : List Slot × Int :=
  if 49 < l.length then ([], 1) else if isN n = false then ([], 90)
  else if (List.range (lvl (place n.toNat) 48)).all (okAt l h n) = true then (withA l (lvl (place n.toNat) 48) ⟨n, h, true⟩, 0) else ([], 100)
def yieldB (s : Slot) (n : Int) : Bool := s.full && decide ((deriveA s.sec s.idx n).2 = 0)
def getK (l : List Slot) (n : Int) : Nat → (Nat → UInt8) × Int
  | 0 => (fun _ => 0, 5)
  | k + 1 => if yieldB (atA l (49 - (k + 1))) n = true then ((deriveA (atA l (49 - (k + 1))).sec (atA l (49 - (k + 1))).idx n).1, 0) else getK l n k
def getA (l : List Slot) (n : Int) : (Nat → UInt8) × Int :=
  if 49 < l.length then (fun _ => 0, 1) else if isN n = false then (fun _ => 0, 90) else getK l n 49
end Go.Proofs.YtocojkafdgmgdaaDoor
