/-
  The words of a block.
-/
import Derived.Test.YtnmoheipfadmeaaTab
namespace Go.Proofs.Ytnmoheipfadmeaa
open Go.RowKit S
-- left out in this seat: len44
-- left out in this seat: el44
-- left out in this seat: und44
theorem size5 (w : World) : (sizeOf 5).run Try.prog w = .ok 1 w := by
  have h : (Try.prog.info? 5).map (·.size) = some 1 := by kernel_rfl
  cases hq : Try.prog.info? 5 with
  | none => simp [hq] at h
  | some i => simp [hq] at h; simp [sizeOf, typeInfo, hq, h]
-- left out in this seat: sl44_lh
-- left out in this seat: sl44_l
def bv (b : Nat → UInt8) : Nat → Value := fun i => .int .u8 ((b i).toNat : Int)
def wv (n : Num) (f : Nat → BitVec 32) : Nat → Value := fun i => .int .u32 (n.u (f i))
theorem size_alloc (w : World) (o : Obj) : (w.alloc o).heap.size = w.heap.size + 1 := by simp
theorem zeros_w (n : Num) (k : Nat) : tabv (fun _ => .int .u32 0) k = tabv (wv n (fun _ => 0#32)) k := tabv_congr _ _ _ fun i _ => by unfold wv; rw [n.zero]
theorem wv_upd (n : Num) (f : Nat → BitVec 32) (k : Nat) (v : BitVec 32) : upd (wv n f) k (.int .u32 (n.u v)) = wv n (upd f k v) := by
  funext i; simp only [upd, wv]; split <;> rfl
theorem bv_upd (f : Nat → UInt8) (k : Nat) (v : UInt8) : upd (bv f) k (.int .u8 (v.toNat : Int)) = bv (upd f k v) := by
  funext i; simp only [upd, bv]; split <;> rfl
/-- The first k words of the block, zeros behind. -/
def wup (b : Nat → UInt8) (k : Nat) : Nat → BitVec 32 := fun i => if i < k then word b i else 0#32
-- left out in this seat: info59
-- left out in this seat: info43
-- left out in this seat: info44
theorem info26 : (Try.prog.info? 26).map (·.size) = some 32 := by kernel_rfl
theorem wup_next (b : Nat → UInt8) (k : Nat) : upd (wup b k) k (word b k) = wup b (k + 1) := by
  funext i; unfold upd wup
  by_cases e : i = k
  · subst e; rw [if_pos rfl, if_pos (by omega)]
  · rw [if_neg e]; by_cases h : i < k
    · rw [if_pos h, if_pos (by omega)]
    · rw [if_neg h, if_neg (by omega)]
theorem Num.shl24 (n : Num) (a : BitVec 32) : n.u a * (16777216 : Int) % (4294967296 : Int) = n.u (a <<< 24) := n.shl a 24
theorem Num.shl16 (n : Num) (a : BitVec 32) : n.u a * (65536 : Int) % (4294967296 : Int) = n.u (a <<< 16) := n.shl a 16
theorem Num.shl8 (n : Num) (a : BitVec 32) : n.u a * (256 : Int) % (4294967296 : Int) = n.u (a <<< 8) := n.shl a 8
theorem Num.shr3 (n : Num) (a : BitVec 32) : n.u a / (8 : Int) = n.u (a >>> 3) := n.shr a 3
theorem Num.shr10 (n : Num) (a : BitVec 32) : n.u a / (1024 : Int) = n.u (a >>> 10) := n.shr a 10
theorem word_num (n : Num) (b : Nat → UInt8) (k : Nat) : bits .or .u32 (bits .or .u32 (bits .or .u32 (((b (4 * k)).toNat : Int) % 4294967296 * 16777216 % 4294967296) (((b (4 * k + 1)).toNat : Int) % 4294967296 * 65536 % 4294967296)) (((b (4 * k + 2)).toNat : Int) % 4294967296 * 256 % 4294967296)) (((b (4 * k + 3)).toNat : Int) % 4294967296) = n.u (word b k) := by
  rw [n.byteM, n.byteM, n.byteM, n.byteM, n.shl24, n.shl16, n.shl8, n.or, n.or, n.or]; rfl
attribute [local go_sem] Num.shr3 Num.shr10 Num.shl Num.shr Num.or Num.xor Num.and Num.add
-- left out in this seat: words_any
end Go.Proofs.Ytnmoheipfadmeaa
