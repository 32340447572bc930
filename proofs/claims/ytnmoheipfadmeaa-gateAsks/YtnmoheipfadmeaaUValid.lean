/-
  Which updates are valid (printed by gen_valid.py).
-/
import Derived.Test.YtnmoheipfadmeaaUBase
namespace Go.Proofs.Ytnmoheipfadmeaa
open Go.RowKit S
set_option linter.unusedVariables false
set_option linter.unusedSimpArgs false
def noteE (u : Upd) : Bool := u.note.toList.isEmpty
def zeroH (h : Nat → UInt8) : Bool := eqH h (fun _ => 0)
def validB (u : Upd) : Bool :=
  !(decide (u.id < 0) || decide (2048 ≤ u.id)) &&
  (if (u.kind == 1) = true then (decide (1 ≤ u.amt) && decide (u.amt ≤ 1152921504606846976)) && noteE u
   else if (u.kind == 2) = true then (u.amt == 0) && noteE u
   else if (u.kind == 3) = true then ((u.amt == 0) && zeroH u.hash) && decide ((u.note.size : Int) ≤ 64) else false)
theorem zero32' : (#[.int .u8 0, .int .u8 0, .int .u8 0, .int .u8 0, .int .u8 0, .int .u8 0, .int .u8 0, .int .u8 0, .int .u8 0, .int .u8 0, .int .u8 0, .int .u8 0, .int .u8 0, .int .u8 0, .int .u8 0, .int .u8 0, .int .u8 0, .int .u8 0, .int .u8 0, .int .u8 0, .int .u8 0, .int .u8 0, .int .u8 0, .int .u8 0, .int .u8 0, .int .u8 0, .int .u8 0, .int .u8 0, .int .u8 0, .int .u8 0, .int .u8 0, .int .u8 0] : Array Value) = tabv (bv (fun _ => (0 : UInt8))) 32 := rfl
section
variable {ops : Array Oper} {rest : List Oper} {o : Oper} {a : Act} {w : World} {Q : Exit → Act → World → Prop}
theorem wpList_storeH (hgd : o.guard = none) (x y : Operand) (ho : o.op = .store 26 x y) (hd : o.dst = none) (g : Nat) (h : Nat → UInt8) (hx : a.eval x = .pointer (some ⟨g, 0, none⟩)) (hy : a.eval y = .agg (tabv (bv h) 32)) (f : Nat → Value) (hg : Has w g 26 f 32)
    (hk : wpList Try.prog ops Q rest a (w.setRow g (tabv (bv h) 32))) : wpList Try.prog ops Q (o :: rest) a w :=
  wpList_store_part hgd 26 x y ho hd g 0 (bv h) 32 hx hy 26 f 32 hg (by omega) info26 (fun i _ => rfl) (bv h) (fun i hi => by unfold splice; rw [if_pos (by omega), Nat.sub_zero]) hk
end
theorem At.cell0 {w : World} {g of m : Nat} {f : Nat → Value} (h : At w g of f m) (j : Nat) (hj : j < m) : w.cell? ⟨g, of + j, none⟩ = some (f j) := h j hj
theorem Has.at_hash {w : World} {g : Nat} {u : Upd} (h : Has w g 40 u.v 36) : At w g 3 (bv u.hash) 32 := fun j hj => by rw [h.cell (3 + j) (by omega), Upd.v_hash u j hj]
-- left out in this seat: valid_0
-- left out in this seat: valid_1
-- left out in this seat: valid_2
-- left out in this seat: valid_3
-- left out in this seat: valid_4
-- left out in this seat: valid_5
-- left out in this seat: valid_6
-- left out in this seat: valid_7
-- left out in this seat: valid_8
-- left out in this seat: valid_9
-- left out in this seat: valid_10
-- left out in this seat: valid_11
-- left out in this seat: valid_12
-- left out in this seat: valid_13
-- left out in this seat: valid_any
-- left out in this seat: rvalid_0
-- left out in this seat: rvalid_1
-- left out in this seat: rvalid_2
-- left out in this seat: rvalid_3
-- left out in this seat: rvalid_4
-- left out in this seat: rvalid_5
-- left out in this seat: rvalid_6
-- left out in this seat: rvalid_7
-- left out in this seat: rvalid_8
-- left out in this seat: rvalid_9
-- left out in this seat: rvalid_10
-- left out in this seat: rvalid_11
-- left out in this seat: rvalid_12
-- left out in this seat: rvalid_13
-- left out in this seat: rvalid_any
end Go.Proofs.Ytnmoheipfadmeaa
