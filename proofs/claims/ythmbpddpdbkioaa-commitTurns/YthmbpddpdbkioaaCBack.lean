/-
  CommitBack: the walk (printed by gen_c9.py).
-/
import Derived.Test.YthmbpddpdbkioaaCMade
namespace Go.Proofs.Ythmbpddpdbkioaa
open Go.RowKit S
set_option linter.unusedVariables false
set_option linter.unusedSimpArgs false
open Cu (nb be hl hOf ofL num nil8 takeS takeA RS CW Mw CR Mr)
theorem xor_one (n : Int) (h0 : 0 ≤ n) (h1 : n ≤ 281474976710655) : 0 ≤ bits .xor .i64 n 1 ∧ bits .xor .i64 n 1 ≤ 281474976710655 ∧ bits .xor .i64 n 1 ≠ n := by
  obtain ⟨k, rfl⟩ : ∃ k : Nat, n = (k : Int) := ⟨n.toNat, by omega⟩
  have hk : k < 2 ^ 48 := by omega
  have e : bits .xor .i64 (k : Int) 1 = IntKind.i64.wrap ((BitVec.ofInt 64 (k : Int) ^^^ BitVec.ofInt 64 ((1 : Nat) : Int)).toNat : Int) := rfl
  have e2 : (BitVec.ofInt 64 (k : Int) ^^^ BitVec.ofInt 64 ((1 : Nat) : Int)).toNat = k ^^^ 1 := by
    rw [BitVec.toNat_xor, BitVec.ofInt_natCast, BitVec.ofInt_natCast, BitVec.toNat_ofNat, BitVec.toNat_ofNat, Nat.mod_eq_of_lt (by omega), Nat.mod_eq_of_lt (by omega)]
  have e3 : k ^^^ 1 < 2 ^ 48 := Nat.xor_lt_two_pow hk (by decide)
  have e4 : k ^^^ 1 ≠ k := fun h => by
    have h2 : k ^^^ (k ^^^ 1) = k ^^^ k := by rw [h]
    rw [← Nat.xor_assoc, Nat.xor_self, Nat.zero_xor] at h2
    omega
  rw [e, e2, IntKind.wrap_i64]
  omega
theorem run_neHF {o : Oper} {a : Act} (w : World) (x y : Operand) (f g : Nat → UInt8) (ho : o.op = .binOp .neq 30 x y 30) (hx : a.eval x = .agg (tabv (bv f) 32)) (hy : a.eval y = .agg (tabv (bv g) 32)) (hq : eqH f g = true) : (execOp a.eval o).run Try.prog w = .ok (.value (.bool false)) w := by
  have h := run_neH w x y (tabv (bv f) 32) (tabv (bv g) 32) true ho hx hy (by rw [eq26]; exact congrArg (fun b => Result.ok b w) hq)
  exact h
theorem run_eqHT {o : Oper} {a : Act} (w : World) (x y : Operand) (f g : Nat → UInt8) (ho : o.op = .binOp .eql 30 x y 30) (hx : a.eval x = .agg (tabv (bv f) 32)) (hy : a.eval y = .agg (tabv (bv g) 32)) (hq : eqH f g = true) : (execOp a.eval o).run Try.prog w = .ok (.value (.bool true)) w :=
  run_eqH w x y (tabv (bv f) 32) (tabv (bv g) 32) true ho hx hy (by rw [eq26]; exact congrArg (fun b => Result.ok b w) hq)
theorem RdOk.size {b : ByteArray} {o n : Int} {h : Nat → UInt8} {x y : Int} {l : List Pen} (k : RdOk b o n h x y l) : b.size = 59 + 49 * l.length := by rw [k.eq, Cu.ofL_size, textB_length]
theorem rdNone {b : ByteArray} {o n : Int} {h : Nat → UInt8} {x y : Int} {l : List Pen} {err : Int} (k : RdC b o n h x y l err) (hb : ∀ j, b.size ≠ 59 + 49 * j) : err = 4 ∧ l = [] := by
  rcases k with ⟨_, h⟩ | ⟨h, _, _, _, _, _, hl, _⟩
  · exact absurd h.size (hb _)
  · exact ⟨h, hl⟩
/-- CommitBack's variables. -/
structure BW (gp ga gc : Nat) (h : Nat → UInt8) (X Y : Int) (ada : Option Addr) (na ca : Nat) (M : List Pen) (X2 Y2 : Int) (adc : Option Addr) (nc cc : Nat) (M2 : List Pen) (B : Nat) (w : World) (wr : World) : Prop where
  hp : Has wr gp 30 (bv h) 32
  ha : Has wr ga 24 (ledv X Y (.slice ada na ca)) 3
  pa : Pens wr ada M
  hc : Has wr gc 24 (ledv X2 Y2 (.slice adc nc cc)) 3
  pc : Pens wr adc M2
  bel : Below B w wr
  sz : B ≤ wr.heap.size
theorem BW.below {gp ga gc : Nat} {h : Nat → UInt8} {X Y : Int} {ada : Option Addr} {na ca : Nat} {M : List Pen} {X2 Y2 : Int} {adc : Option Addr} {nc cc : Nat} {M2 : List Pen} {B : Nat} {w wr w' : World} (k : BW gp ga gc h X Y ada na ca M X2 Y2 adc nc cc M2 B w wr) (hb : Below wr.heap.size wr w') : BW gp ga gc h X Y ada na ca M X2 Y2 adc nc cc M2 B w w' :=
  ⟨k.hp.below hb k.hp.lt, k.ha.below hb k.ha.lt, k.pa.below hb, k.hc.below hb k.hc.lt, k.pc.below hb, k.bel.trans (hb.mono k.sz), Nat.le_trans k.sz hb.size⟩
-- left out in this seat: back_walk
end Go.Proofs.Ythmbpddpdbkioaa
