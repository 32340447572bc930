/-
  hangs: P9.4's words by numbers alone.
-/
import Derived.Test.YtocojkafdgmgdaaDoorSLaw
namespace Go.Proofs.YtocojkafdgmgdaaDoor
open Go.RowKit S
set_option linter.unusedVariables false
def nearB (a c : Nat) : Bool := decide (c ≤ a) && decide (a - c < 2 ^ lvl (place a) 48)
theorem pow_wrap {k : Nat} (h : k ≤ 48) : wrap64 ((2 : Int) ^ k) = (2 : Int) ^ k := by
  have h1 : (2 : Nat) ^ k ≤ 2 ^ 48 := Nat.pow_le_pow_right (by omega) h
  have e : ((2 : Int) ^ k) = ((2 ^ k : Nat) : Int) := by norm_cast
  rw [e]
  have h2 : (2 : Nat) ^ 48 = 281474976710656 := rfl
  generalize (2 : Nat) ^ k = m at h1
  unfold wrap64; omega
-- left out in this seat: hangs_any
end Go.Proofs.YtocojkafdgmgdaaDoor
