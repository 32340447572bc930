/-
  One step down: a bit turned, then the sum.
-/
import Derived.Test.YtocojkafdgmgdaaDoorSha
import Derived.Test.YtocojkafdgmgdaaDoorSMath
namespace Go.Proofs.YtocojkafdgmgdaaDoor
open S
def listOf (h : Nat → UInt8) : List UInt8 := (List.range 32).map h
/-- One bit of a hash turned. -/
def flipB (B : Nat) (h : Nat → UInt8) : Nat → UInt8 := fun j => if j = B / 8 then h j ^^^ UInt8.ofNat (2 ^ (B % 8)) else h j
def step (B : Nat) (h : Nat → UInt8) : Nat → UInt8 := sha (listOf (flipB B h))
def flipL (B : Nat) (l : List UInt8) : List UInt8 := (List.range 32).map fun j => if j = B / 8 then l.getD j 0 ^^^ UInt8.ofNat (2 ^ (B % 8)) else l.getD j 0
theorem listOf_getD (h : Nat → UInt8) (j : Nat) (hj : j < 32) : (listOf h).getD j 0 = h j := by
  unfold listOf
  rw [List.getD_eq_getElem?_getD, List.getElem?_map, List.getElem?_range hj]
  rfl
theorem flip_list (B : Nat) (h : Nat → UInt8) : listOf (flipB B h) = flipL B (listOf h) := by
  unfold flipL
  show (List.range 32).map _ = _
  refine List.map_congr_left fun j hj => ?_
  rw [listOf_getD h j (List.mem_range.1 hj)]
  rfl
theorem step_list (B : Nat) (h : Nat → UInt8) : listOf (step B h) = listOf (sha (flipL B (listOf h))) := by
  unfold step; rw [flip_list]
/-- Of hashes with the same 32 bytes. -/
theorem step_same {f g : Nat → UInt8} (e : listOf f = listOf g) (B : Nat) : step B f = step B g := by
  unfold step; rw [flip_list, flip_list, e]
theorem goDown_list {p : Nat} : ∀ (k lo : Nat) {f g : Nat → UInt8}, listOf f = listOf g → listOf (goDown step p k lo f) = listOf (goDown step p k lo g)
  | 0, _, _, _, e => e
  | k + 1, lo, f, g, e => by
    simp only [goDown]
    refine goDown_list k lo ?_
    split
    · rw [step_same e]
    · exact e
set_option maxRecDepth 100000 in
/-- All 48 bits of the place of 0 are 1. -/
theorem secret_ones (s : Nat → UInt8) : secretOf step s 0 = (step 0 (step 1 (step 2 (step 3 (step 4 (step 5 (step 6 (step 7 (step 8 (step 9 (step 10 (step 11 (step 12 (step 13 (step 14 (step 15 (step 16 (step 17 (step 18 (step 19 (step 20 (step 21 (step 22 (step 23 (step 24 (step 25 (step 26 (step 27 (step 28 (step 29 (step 30 (step 31 (step 32 (step 33 (step 34 (step 35 (step 36 (step 37 (step 38 (step 39 (step 40 (step 41 (step 42 (step 43 (step 44 (step 45 (step 46 (step 47 s)))))))))))))))))))))))))))))))))))))))))))))))) := by
  rfl
set_option maxRecDepth 100000 in
theorem secret_last (s : Nat → UInt8) : secretOf step s 281474976710654 = step 0 s := by
  rfl
end Go.Proofs.YtocojkafdgmgdaaDoor
