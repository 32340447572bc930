/-
  The model's uint32 against 32 bits; blocks of cells said by a function.
-/
import Derived.Test.YtnmoheipfadmeaaSha
import Derived.Test.YtnmoheipfadmeaaQuietTail
import Derived.Test.YtnmoheipfadmeaaProg
import Derived.WalkSpells
import Derived.WalkLawsBesides
import Derived.Laws.CopyRow
import Derived.Deep.QuietTactic
import Derived.BigQuiet
namespace Go.Proofs.Ytnmoheipfadmeaa
open Go.RowKit
/-- A number for each 32 bits: kept as a letter, so that the walk never looks into it. -/
structure Num where
  u : BitVec 32 → Int
  eq : ∀ b, u b = (b.toNat : Int)
variable (n : Num)
theorem Num.nonneg (b : BitVec 32) : 0 ≤ n.u b := by rw [n.eq]; omega
theorem Num.lt (b : BitVec 32) : n.u b < 4294967296 := by have := b.isLt; rw [n.eq]; omega
theorem Num.of (b : BitVec 32) : BitVec.ofInt 32 (n.u b) = b := by
  rw [n.eq, BitVec.ofInt_natCast]; simp
theorem Num.inj (a b : BitVec 32) (h : n.u a = n.u b) : a = b := by
  rw [n.eq, n.eq] at h; exact BitVec.eq_of_toNat_eq (by omega)
theorem Num.wrap (b : BitVec 32) : IntKind.u32.wrap (b.toNat : Int) = n.u b := by
  rw [IntKind.wrap_u32', n.eq]; have := b.isLt; omega
theorem Num.xor (a b : BitVec 32) : bits .xor .u32 (n.u a) (n.u b) = n.u (a ^^^ b) := by
  show IntKind.u32.wrap ((BitVec.ofInt 32 (n.u a) ^^^ BitVec.ofInt 32 (n.u b)).toNat : Int) = _
  rw [n.of, n.of, n.wrap]
theorem Num.and (a b : BitVec 32) : bits .and .u32 (n.u a) (n.u b) = n.u (a &&& b) := by
  show IntKind.u32.wrap ((BitVec.ofInt 32 (n.u a) &&& BitVec.ofInt 32 (n.u b)).toNat : Int) = _
  rw [n.of, n.of, n.wrap]
theorem Num.or (a b : BitVec 32) : bits .or .u32 (n.u a) (n.u b) = n.u (a ||| b) := by
  show IntKind.u32.wrap ((BitVec.ofInt 32 (n.u a) ||| BitVec.ofInt 32 (n.u b)).toNat : Int) = _
  rw [n.of, n.of, n.wrap]
theorem Num.not (a : BitVec 32) : bits .xor .u32 IntKind.u32.max (n.u a) = n.u (~~~a) := by
  have h := n.xor (BitVec.allOnes 32) a
  rw [n.eq (BitVec.allOnes 32), BitVec.allOnes_xor] at h
  exact h
theorem Num.add (a b : BitVec 32) : (n.u a + n.u b) % (4294967296 : Int) = n.u (a + b) := by
  rw [n.eq, n.eq, n.eq, BitVec.toNat_add]; omega
theorem Num.shr (a : BitVec 32) (k : Nat) : n.u a / (2 : Int) ^ k = n.u (a >>> k) := by
  rw [n.eq, n.eq, BitVec.toNat_ushiftRight, Nat.shiftRight_eq_div_pow]; simp
theorem Num.shl (a : BitVec 32) (k : Nat) : n.u a * (2 : Int) ^ k % (4294967296 : Int) = n.u (a <<< k) := by
  rw [n.eq, n.eq, BitVec.toNat_shiftLeft, Nat.shiftLeft_eq]; simp
theorem Num.byte (c : UInt8) : (c.toNat : Int) = n.u (S.B c) := by
  have := c.toNat_lt; unfold S.B; rw [n.eq, BitVec.toNat_ofNat, Nat.mod_eq_of_lt (by omega)]
theorem Num.byteM (c : UInt8) : (c.toNat : Int) % (4294967296 : Int) = n.u (S.B c) := by
  have := c.toNat_lt; rw [← n.byte]; omega
theorem Num.zero : n.u 0#32 = 0 := by rw [n.eq]; rfl
theorem hide {p : Prop} (h : p) : Hid p := h
theorem ret_int {k : IntKind} {a b : Int} (h : a = b) : Ending.returned (.int k a) = .returned (.int k b) := by rw [h]
theorem int_eq {k : IntKind} {a b : Int} (h : a = b) : Value.int k a = .int k b := by rw [h]
end Go.Proofs.Ytnmoheipfadmeaa
