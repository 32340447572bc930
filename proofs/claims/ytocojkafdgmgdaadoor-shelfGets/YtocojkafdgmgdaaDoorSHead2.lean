/-
  head: the examples that every statement asks first.
-/
import Derived.Test.YtocojkafdgmgdaaDoorSHang
namespace Go.Proofs.YtocojkafdgmgdaaDoor
open Go.RowKit S
set_option linter.unusedVariables false
theorem at_of {h : Nat → UInt8} {l : List UInt8} (e : listOf h = l) (i : Nat) (hi : i < 32) (v : Nat) (hv : (l.getD i 0).toNat = v) : ((h i).toNat : Int) = (v : Int) := by
  rw [← listOf_getD h i hi, e, hv]
theorem sec_one : secretA (fun _ => (0 : UInt8)) 0 = (secretOf step (fun _ => (0 : UInt8)) 0, 0) := by
  unfold secretA; rw [if_pos (by decide +kernel)]; rfl
theorem sec_two : secretA (fun _ => (1 : UInt8)) 281474976710654 = (secretOf step (fun _ => (1 : UInt8)) 281474976710654, 0) := by
  unfold secretA; rw [if_pos (by decide +kernel)]; rfl
theorem lev_three : levelA 3 = (2, 0) := by decide +kernel
theorem der_four (h : Nat → UInt8) : deriveA h 3 4 = (fun _ => 0, 5) := by
  unfold deriveA; rw [if_pos (by decide +kernel), if_neg (by decide +kernel)]
-- left out in this seat: head_any
end Go.Proofs.YtocojkafdgmgdaaDoor
