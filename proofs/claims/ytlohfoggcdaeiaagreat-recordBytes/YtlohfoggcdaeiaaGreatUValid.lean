/-
  Which updates are valid (printed by gen_valid.py).
-/
import Derived.Test.YtlohfoggcdaeiaaGreatUBase
namespace Go.Proofs.YtlohfoggcdaeiaaGreat
set_option maxRecDepth 20000
open Go.RowKit S
set_option linter.unusedVariables false
set_option linter.unusedSimpArgs false
def noteE (u : Upd) : Bool := u.note.toList.isEmpty
def zeroH (h : Nat → UInt8) : Bool := eqH h (fun _ => 0)
def validB (u : Upd) : Bool :=
  !(decide (u.id < 0) || decide (2048 ≤ u.id)) &&
  (if (u.kind == 1) = true then (decide (1 ≤ u.amt) && decide (u.amt ≤ 1152921504606846976)) && noteE u
   else if (u.kind == 2) = true then (u.amt == 0) && noteE u
   else if (u.kind == 3) = true then ((u.amt == 0) && zeroH u.hash) && decide ((u.note.size : Int) ≤ 64) else false)
theorem zero32' : (#[.int .u8 0, .int .u8 0, .int .u8 0, .int .u8 0, .int .u8 0, .int .u8 0, .int .u8 0, .int .u8 0, .int .u8 0, .int .u8 0, .int .u8 0, .int .u8 0, .int .u8 0, .int .u8 0, .int .u8 0, .int .u8 0, .int .u8 0, .int .u8 0, .int .u8 0, .int .u8 0, .int .u8 0, .int .u8 0, .int .u8 0, .int .u8 0, .int .u8 0, .int .u8 0, .int .u8 0, .int .u8 0, .int .u8 0, .int .u8 0, .int .u8 0, .int .u8 0] : Array Value) = tabv (bv (fun _ => (0 : UInt8))) 32 := rfl
section
variable {ops : Array Oper} {rest : List Oper} {o : Oper} {a : Act} {w : World} {Q : Exit → Act → World → Prop}
theorem wpList_storeH (hgd : o.guard = none) (x y : Operand) (ho : o.op = .store 25 x y) (hd : o.dst = none) (g : Nat) (h : Nat → UInt8) (hx : a.eval x = .pointer (some ⟨g, 0, none⟩)) (hy : a.eval y = .agg (tabv (bv h) 32)) (f : Nat → Value) (hg : Has w g 25 f 32)
    (hk : wpList Tryz.prog ops Q rest a (w.setRow g (tabv (bv h) 32))) : wpList Tryz.prog ops Q (o :: rest) a w :=
  wpList_store_part hgd 25 x y ho hd g 0 (bv h) 32 hx hy 25 f 32 hg (by omega) info26 (fun i _ => rfl) (bv h) (fun i hi => by unfold splice; rw [if_pos (by omega), Nat.sub_zero]) hk
end
theorem At.cell0 {w : World} {g of m : Nat} {f : Nat → Value} (h : At w g of f m) (j : Nat) (hj : j < m) : w.cell? ⟨g, of + j, none⟩ = some (f j) := h j hj
theorem Has.at_hash {w : World} {g : Nat} {u : Upd} (h : Has w g 36 u.v 36) : At w g 3 (bv u.hash) 32 := fun j hj => by rw [h.cell (3 + j) (by omega), Upd.v_hash u j hj]
set_option maxRecDepth 100000 in
set_option maxHeartbeats 1000000 in
theorem valid_0 (u : Upd) (w : World) (i0 : decide (u.id < 0) = true) : Calls Tryz.prog 106 #[.agg (tabv u.v 36)] w fun e w' => e = .returned (.bool false) ∧ Below w.heap.size w w' := by
  obtain ⟨w3, hW⟩ : ∃ w3, w.alloc (.cells (tabv u.v 36) 36) = w3 := ⟨_, rfl⟩
  have g0 : Has w3 w.heap.size 36 u.v 36 := by rw [← hW]; exact Has.new w 36 u.v 36 _ rfl
  have gb : Below w.heap.size w w3 := by rw [← hW]; exact (Below.refl w.heap.size w).alloc (Nat.le_refl _) _
  have c0 : w3.cell? ⟨w.heap.size, 0, none⟩ = some (.int .i64 u.kind) := g0.cell 0 (by omega)
  have c1 : w3.cell? ⟨w.heap.size, 1, none⟩ = some (.int .i64 u.id) := g0.cell 1 (by omega)
  have c2 : w3.cell? ⟨w.heap.size, 2, none⟩ = some (.int .i64 u.amt) := g0.cell 2 (by omega)
  have c35 : w3.cell? ⟨w.heap.size, 35, none⟩ = some (.string u.note) := g0.cell 35 (by omega)
  have HA := hide g0.at_hash
  clear g0
  go_enter Tryz.func106, Tryz.ntmps106
  go_wp2
  go_ret
  exact ⟨rfl, gb⟩
set_option maxRecDepth 100000 in
set_option maxHeartbeats 1000000 in
theorem valid_1 (u : Upd) (w : World) (i0 : decide (u.id < 0) = false) (i1 : decide (2048 ≤ u.id) = true) : Calls Tryz.prog 106 #[.agg (tabv u.v 36)] w fun e w' => e = .returned (.bool false) ∧ Below w.heap.size w w' := by
  obtain ⟨w3, hW⟩ : ∃ w3, w.alloc (.cells (tabv u.v 36) 36) = w3 := ⟨_, rfl⟩
  have g0 : Has w3 w.heap.size 36 u.v 36 := by rw [← hW]; exact Has.new w 36 u.v 36 _ rfl
  have gb : Below w.heap.size w w3 := by rw [← hW]; exact (Below.refl w.heap.size w).alloc (Nat.le_refl _) _
  have c0 : w3.cell? ⟨w.heap.size, 0, none⟩ = some (.int .i64 u.kind) := g0.cell 0 (by omega)
  have c1 : w3.cell? ⟨w.heap.size, 1, none⟩ = some (.int .i64 u.id) := g0.cell 1 (by omega)
  have c2 : w3.cell? ⟨w.heap.size, 2, none⟩ = some (.int .i64 u.amt) := g0.cell 2 (by omega)
  have c35 : w3.cell? ⟨w.heap.size, 35, none⟩ = some (.string u.note) := g0.cell 35 (by omega)
  have HA := hide g0.at_hash
  clear g0
  go_enter Tryz.func106, Tryz.ntmps106
  go_wp2
  go_ret
  exact ⟨rfl, gb⟩
set_option maxRecDepth 100000 in
set_option maxHeartbeats 1000000 in
theorem valid_2 (u : Upd) (w : World) (i0 : decide (u.id < 0) = false) (i1 : decide (2048 ≤ u.id) = false) (k1 : (u.kind == 1) = true) (a1 : decide (1 ≤ u.amt) = false) : Calls Tryz.prog 106 #[.agg (tabv u.v 36)] w fun e w' => e = .returned (.bool false) ∧ Below w.heap.size w w' := by
  obtain ⟨w3, hW⟩ : ∃ w3, w.alloc (.cells (tabv u.v 36) 36) = w3 := ⟨_, rfl⟩
  have g0 : Has w3 w.heap.size 36 u.v 36 := by rw [← hW]; exact Has.new w 36 u.v 36 _ rfl
  have gb : Below w.heap.size w w3 := by rw [← hW]; exact (Below.refl w.heap.size w).alloc (Nat.le_refl _) _
  have c0 : w3.cell? ⟨w.heap.size, 0, none⟩ = some (.int .i64 u.kind) := g0.cell 0 (by omega)
  have c1 : w3.cell? ⟨w.heap.size, 1, none⟩ = some (.int .i64 u.id) := g0.cell 1 (by omega)
  have c2 : w3.cell? ⟨w.heap.size, 2, none⟩ = some (.int .i64 u.amt) := g0.cell 2 (by omega)
  have c35 : w3.cell? ⟨w.heap.size, 35, none⟩ = some (.string u.note) := g0.cell 35 (by omega)
  have HA := hide g0.at_hash
  clear g0
  go_enter Tryz.func106, Tryz.ntmps106
  go_wp2
  go_ret
  exact ⟨rfl, gb⟩
set_option maxRecDepth 100000 in
set_option maxHeartbeats 1000000 in
theorem valid_3 (u : Upd) (w : World) (i0 : decide (u.id < 0) = false) (i1 : decide (2048 ≤ u.id) = false) (k1 : (u.kind == 1) = true) (a1 : decide (1 ≤ u.amt) = true) (a2 : decide (u.amt ≤ 1152921504606846976) = false) : Calls Tryz.prog 106 #[.agg (tabv u.v 36)] w fun e w' => e = .returned (.bool false) ∧ Below w.heap.size w w' := by
  obtain ⟨w3, hW⟩ : ∃ w3, w.alloc (.cells (tabv u.v 36) 36) = w3 := ⟨_, rfl⟩
  have g0 : Has w3 w.heap.size 36 u.v 36 := by rw [← hW]; exact Has.new w 36 u.v 36 _ rfl
  have gb : Below w.heap.size w w3 := by rw [← hW]; exact (Below.refl w.heap.size w).alloc (Nat.le_refl _) _
  have c0 : w3.cell? ⟨w.heap.size, 0, none⟩ = some (.int .i64 u.kind) := g0.cell 0 (by omega)
  have c1 : w3.cell? ⟨w.heap.size, 1, none⟩ = some (.int .i64 u.id) := g0.cell 1 (by omega)
  have c2 : w3.cell? ⟨w.heap.size, 2, none⟩ = some (.int .i64 u.amt) := g0.cell 2 (by omega)
  have c35 : w3.cell? ⟨w.heap.size, 35, none⟩ = some (.string u.note) := g0.cell 35 (by omega)
  have HA := hide g0.at_hash
  clear g0
  go_enter Tryz.func106, Tryz.ntmps106
  go_wp2
  go_ret
  exact ⟨rfl, gb⟩
set_option maxRecDepth 100000 in
set_option maxHeartbeats 1000000 in
theorem valid_4 (u : Upd) (w : World) (i0 : decide (u.id < 0) = false) (i1 : decide (2048 ≤ u.id) = false) (k1 : (u.kind == 1) = true) (a1 : decide (1 ≤ u.amt) = true) (a2 : decide (u.amt ≤ 1152921504606846976) = true) (ne : noteE u = false) : Calls Tryz.prog 106 #[.agg (tabv u.v 36)] w fun e w' => e = .returned (.bool false) ∧ Below w.heap.size w w' := by
  obtain ⟨w3, hW⟩ : ∃ w3, w.alloc (.cells (tabv u.v 36) 36) = w3 := ⟨_, rfl⟩
  have g0 : Has w3 w.heap.size 36 u.v 36 := by rw [← hW]; exact Has.new w 36 u.v 36 _ rfl
  have gb : Below w.heap.size w w3 := by rw [← hW]; exact (Below.refl w.heap.size w).alloc (Nat.le_refl _) _
  have c0 : w3.cell? ⟨w.heap.size, 0, none⟩ = some (.int .i64 u.kind) := g0.cell 0 (by omega)
  have c1 : w3.cell? ⟨w.heap.size, 1, none⟩ = some (.int .i64 u.id) := g0.cell 1 (by omega)
  have c2 : w3.cell? ⟨w.heap.size, 2, none⟩ = some (.int .i64 u.amt) := g0.cell 2 (by omega)
  have c35 : w3.cell? ⟨w.heap.size, 35, none⟩ = some (.string u.note) := g0.cell 35 (by omega)
  have HA := hide g0.at_hash
  unfold noteE at ne
  clear g0
  go_enter Tryz.func106, Tryz.ntmps106
  go_wp2
  go_ret
  exact ⟨rfl, gb⟩
set_option maxRecDepth 100000 in
set_option maxHeartbeats 1000000 in
theorem valid_5 (u : Upd) (w : World) (i0 : decide (u.id < 0) = false) (i1 : decide (2048 ≤ u.id) = false) (k1 : (u.kind == 1) = true) (a1 : decide (1 ≤ u.amt) = true) (a2 : decide (u.amt ≤ 1152921504606846976) = true) (ne : noteE u = true) : Calls Tryz.prog 106 #[.agg (tabv u.v 36)] w fun e w' => e = .returned (.bool true) ∧ Below w.heap.size w w' := by
  obtain ⟨w3, hW⟩ : ∃ w3, w.alloc (.cells (tabv u.v 36) 36) = w3 := ⟨_, rfl⟩
  have g0 : Has w3 w.heap.size 36 u.v 36 := by rw [← hW]; exact Has.new w 36 u.v 36 _ rfl
  have gb : Below w.heap.size w w3 := by rw [← hW]; exact (Below.refl w.heap.size w).alloc (Nat.le_refl _) _
  have c0 : w3.cell? ⟨w.heap.size, 0, none⟩ = some (.int .i64 u.kind) := g0.cell 0 (by omega)
  have c1 : w3.cell? ⟨w.heap.size, 1, none⟩ = some (.int .i64 u.id) := g0.cell 1 (by omega)
  have c2 : w3.cell? ⟨w.heap.size, 2, none⟩ = some (.int .i64 u.amt) := g0.cell 2 (by omega)
  have c35 : w3.cell? ⟨w.heap.size, 35, none⟩ = some (.string u.note) := g0.cell 35 (by omega)
  have HA := hide g0.at_hash
  unfold noteE at ne
  clear g0
  go_enter Tryz.func106, Tryz.ntmps106
  go_wp2
  go_ret
  exact ⟨rfl, gb⟩
set_option maxRecDepth 100000 in
set_option maxHeartbeats 1000000 in
theorem valid_6 (u : Upd) (w : World) (i0 : decide (u.id < 0) = false) (i1 : decide (2048 ≤ u.id) = false) (k1 : (u.kind == 1) = false) (k2 : (u.kind == 2) = true) (a0 : (u.amt == 0) = false) : Calls Tryz.prog 106 #[.agg (tabv u.v 36)] w fun e w' => e = .returned (.bool false) ∧ Below w.heap.size w w' := by
  obtain ⟨w3, hW⟩ : ∃ w3, w.alloc (.cells (tabv u.v 36) 36) = w3 := ⟨_, rfl⟩
  have g0 : Has w3 w.heap.size 36 u.v 36 := by rw [← hW]; exact Has.new w 36 u.v 36 _ rfl
  have gb : Below w.heap.size w w3 := by rw [← hW]; exact (Below.refl w.heap.size w).alloc (Nat.le_refl _) _
  have c0 : w3.cell? ⟨w.heap.size, 0, none⟩ = some (.int .i64 u.kind) := g0.cell 0 (by omega)
  have c1 : w3.cell? ⟨w.heap.size, 1, none⟩ = some (.int .i64 u.id) := g0.cell 1 (by omega)
  have c2 : w3.cell? ⟨w.heap.size, 2, none⟩ = some (.int .i64 u.amt) := g0.cell 2 (by omega)
  have c35 : w3.cell? ⟨w.heap.size, 35, none⟩ = some (.string u.note) := g0.cell 35 (by omega)
  have HA := hide g0.at_hash
  clear g0
  go_enter Tryz.func106, Tryz.ntmps106
  go_wp2
  go_ret
  exact ⟨rfl, gb⟩
set_option maxRecDepth 100000 in
set_option maxHeartbeats 1000000 in
theorem valid_7 (u : Upd) (w : World) (i0 : decide (u.id < 0) = false) (i1 : decide (2048 ≤ u.id) = false) (k1 : (u.kind == 1) = false) (k2 : (u.kind == 2) = true) (a0 : (u.amt == 0) = true) (ne : noteE u = false) : Calls Tryz.prog 106 #[.agg (tabv u.v 36)] w fun e w' => e = .returned (.bool false) ∧ Below w.heap.size w w' := by
  obtain ⟨w3, hW⟩ : ∃ w3, w.alloc (.cells (tabv u.v 36) 36) = w3 := ⟨_, rfl⟩
  have g0 : Has w3 w.heap.size 36 u.v 36 := by rw [← hW]; exact Has.new w 36 u.v 36 _ rfl
  have gb : Below w.heap.size w w3 := by rw [← hW]; exact (Below.refl w.heap.size w).alloc (Nat.le_refl _) _
  have c0 : w3.cell? ⟨w.heap.size, 0, none⟩ = some (.int .i64 u.kind) := g0.cell 0 (by omega)
  have c1 : w3.cell? ⟨w.heap.size, 1, none⟩ = some (.int .i64 u.id) := g0.cell 1 (by omega)
  have c2 : w3.cell? ⟨w.heap.size, 2, none⟩ = some (.int .i64 u.amt) := g0.cell 2 (by omega)
  have c35 : w3.cell? ⟨w.heap.size, 35, none⟩ = some (.string u.note) := g0.cell 35 (by omega)
  have HA := hide g0.at_hash
  unfold noteE at ne
  clear g0
  go_enter Tryz.func106, Tryz.ntmps106
  go_wp2
  go_ret
  exact ⟨rfl, gb⟩
set_option maxRecDepth 100000 in
set_option maxHeartbeats 1000000 in
theorem valid_8 (u : Upd) (w : World) (i0 : decide (u.id < 0) = false) (i1 : decide (2048 ≤ u.id) = false) (k1 : (u.kind == 1) = false) (k2 : (u.kind == 2) = true) (a0 : (u.amt == 0) = true) (ne : noteE u = true) : Calls Tryz.prog 106 #[.agg (tabv u.v 36)] w fun e w' => e = .returned (.bool true) ∧ Below w.heap.size w w' := by
  obtain ⟨w3, hW⟩ : ∃ w3, w.alloc (.cells (tabv u.v 36) 36) = w3 := ⟨_, rfl⟩
  have g0 : Has w3 w.heap.size 36 u.v 36 := by rw [← hW]; exact Has.new w 36 u.v 36 _ rfl
  have gb : Below w.heap.size w w3 := by rw [← hW]; exact (Below.refl w.heap.size w).alloc (Nat.le_refl _) _
  have c0 : w3.cell? ⟨w.heap.size, 0, none⟩ = some (.int .i64 u.kind) := g0.cell 0 (by omega)
  have c1 : w3.cell? ⟨w.heap.size, 1, none⟩ = some (.int .i64 u.id) := g0.cell 1 (by omega)
  have c2 : w3.cell? ⟨w.heap.size, 2, none⟩ = some (.int .i64 u.amt) := g0.cell 2 (by omega)
  have c35 : w3.cell? ⟨w.heap.size, 35, none⟩ = some (.string u.note) := g0.cell 35 (by omega)
  have HA := hide g0.at_hash
  unfold noteE at ne
  clear g0
  go_enter Tryz.func106, Tryz.ntmps106
  go_wp2
  go_ret
  exact ⟨rfl, gb⟩
set_option maxRecDepth 100000 in
set_option maxHeartbeats 1000000 in
theorem valid_9 (u : Upd) (w : World) (i0 : decide (u.id < 0) = false) (i1 : decide (2048 ≤ u.id) = false) (k1 : (u.kind == 1) = false) (k2 : (u.kind == 2) = false) (k3 : (u.kind == 3) = true) (a0 : (u.amt == 0) = false) : Calls Tryz.prog 106 #[.agg (tabv u.v 36)] w fun e w' => e = .returned (.bool false) ∧ Below w.heap.size w w' := by
  obtain ⟨w3, hW⟩ : ∃ w3, w.alloc (.cells (tabv u.v 36) 36) = w3 := ⟨_, rfl⟩
  have g0 : Has w3 w.heap.size 36 u.v 36 := by rw [← hW]; exact Has.new w 36 u.v 36 _ rfl
  have gb : Below w.heap.size w w3 := by rw [← hW]; exact (Below.refl w.heap.size w).alloc (Nat.le_refl _) _
  have c0 : w3.cell? ⟨w.heap.size, 0, none⟩ = some (.int .i64 u.kind) := g0.cell 0 (by omega)
  have c1 : w3.cell? ⟨w.heap.size, 1, none⟩ = some (.int .i64 u.id) := g0.cell 1 (by omega)
  have c2 : w3.cell? ⟨w.heap.size, 2, none⟩ = some (.int .i64 u.amt) := g0.cell 2 (by omega)
  have c35 : w3.cell? ⟨w.heap.size, 35, none⟩ = some (.string u.note) := g0.cell 35 (by omega)
  have HA := hide g0.at_hash
  clear g0
  go_enter Tryz.func106, Tryz.ntmps106
  go_wp2
  go_ret
  exact ⟨rfl, gb⟩
set_option maxRecDepth 100000 in
set_option maxHeartbeats 1000000 in
theorem valid_10 (u : Upd) (w : World) (i0 : decide (u.id < 0) = false) (i1 : decide (2048 ≤ u.id) = false) (k1 : (u.kind == 1) = false) (k2 : (u.kind == 2) = false) (k3 : (u.kind == 3) = true) (a0 : (u.amt == 0) = true) (zh : zeroH u.hash = false) : Calls Tryz.prog 106 #[.agg (tabv u.v 36)] w fun e w' => e = .returned (.bool false) ∧ Below w.heap.size w w' := by
  obtain ⟨w3, hW⟩ : ∃ w3, w.alloc (.cells (tabv u.v 36) 36) = w3 := ⟨_, rfl⟩
  have g0 : Has w3 w.heap.size 36 u.v 36 := by rw [← hW]; exact Has.new w 36 u.v 36 _ rfl
  have gb : Below w.heap.size w w3 := by rw [← hW]; exact (Below.refl w.heap.size w).alloc (Nat.le_refl _) _
  have c0 : w3.cell? ⟨w.heap.size, 0, none⟩ = some (.int .i64 u.kind) := g0.cell 0 (by omega)
  have c1 : w3.cell? ⟨w.heap.size, 1, none⟩ = some (.int .i64 u.id) := g0.cell 1 (by omega)
  have c2 : w3.cell? ⟨w.heap.size, 2, none⟩ = some (.int .i64 u.amt) := g0.cell 2 (by omega)
  have c35 : w3.cell? ⟨w.heap.size, 35, none⟩ = some (.string u.note) := g0.cell 35 (by omega)
  have HA := hide g0.at_hash
  have hq : ∀ w : World, (Op.equalIn 10000 25 (.agg (tabv (bv u.hash) 32)) (.agg (tabv (bv (fun _ => (0 : UInt8))) 32))).run Tryz.prog w = .ok false w := fun w => by rw [← zh]; exact eqHD 9998 w _ _
  rw [← zero32'] at hq
  have gh := guard26
  clear zh
  clear g0
  go_enter Tryz.func106, Tryz.ntmps106
  go_wp2_with (first | refine wpW_load_at 25 _ rfl w.heap.size 3 (by rfl) (by rfl) _ 32 _ HA.out Tryz.underlying25 rfl info26 ?_)
  go_ret
  exact ⟨rfl, gb⟩
set_option maxRecDepth 100000 in
set_option maxHeartbeats 1000000 in
theorem valid_11 (u : Upd) (w : World) (i0 : decide (u.id < 0) = false) (i1 : decide (2048 ≤ u.id) = false) (k1 : (u.kind == 1) = false) (k2 : (u.kind == 2) = false) (k3 : (u.kind == 3) = true) (a0 : (u.amt == 0) = true) (zh : zeroH u.hash = true) (s6 : decide ((u.note.size : Int) ≤ 64) = false) : Calls Tryz.prog 106 #[.agg (tabv u.v 36)] w fun e w' => e = .returned (.bool false) ∧ Below w.heap.size w w' := by
  obtain ⟨w3, hW⟩ : ∃ w3, w.alloc (.cells (tabv u.v 36) 36) = w3 := ⟨_, rfl⟩
  have g0 : Has w3 w.heap.size 36 u.v 36 := by rw [← hW]; exact Has.new w 36 u.v 36 _ rfl
  have gb : Below w.heap.size w w3 := by rw [← hW]; exact (Below.refl w.heap.size w).alloc (Nat.le_refl _) _
  have c0 : w3.cell? ⟨w.heap.size, 0, none⟩ = some (.int .i64 u.kind) := g0.cell 0 (by omega)
  have c1 : w3.cell? ⟨w.heap.size, 1, none⟩ = some (.int .i64 u.id) := g0.cell 1 (by omega)
  have c2 : w3.cell? ⟨w.heap.size, 2, none⟩ = some (.int .i64 u.amt) := g0.cell 2 (by omega)
  have c35 : w3.cell? ⟨w.heap.size, 35, none⟩ = some (.string u.note) := g0.cell 35 (by omega)
  have HA := hide g0.at_hash
  have hq : ∀ w : World, (Op.equalIn 10000 25 (.agg (tabv (bv u.hash) 32)) (.agg (tabv (bv (fun _ => (0 : UInt8))) 32))).run Tryz.prog w = .ok true w := fun w => by rw [← zh]; exact eqHD 9998 w _ _
  rw [← zero32'] at hq
  have gh := guard26
  clear zh
  clear g0
  go_enter Tryz.func106, Tryz.ntmps106
  go_wp2_with (first | refine wpW_load_at 25 _ rfl w.heap.size 3 (by rfl) (by rfl) _ 32 _ HA.out Tryz.underlying25 rfl info26 ?_)
  go_ret
  exact ⟨rfl, gb⟩
set_option maxRecDepth 100000 in
set_option maxHeartbeats 1000000 in
theorem valid_12 (u : Upd) (w : World) (i0 : decide (u.id < 0) = false) (i1 : decide (2048 ≤ u.id) = false) (k1 : (u.kind == 1) = false) (k2 : (u.kind == 2) = false) (k3 : (u.kind == 3) = true) (a0 : (u.amt == 0) = true) (zh : zeroH u.hash = true) (s6 : decide ((u.note.size : Int) ≤ 64) = true) : Calls Tryz.prog 106 #[.agg (tabv u.v 36)] w fun e w' => e = .returned (.bool true) ∧ Below w.heap.size w w' := by
  obtain ⟨w3, hW⟩ : ∃ w3, w.alloc (.cells (tabv u.v 36) 36) = w3 := ⟨_, rfl⟩
  have g0 : Has w3 w.heap.size 36 u.v 36 := by rw [← hW]; exact Has.new w 36 u.v 36 _ rfl
  have gb : Below w.heap.size w w3 := by rw [← hW]; exact (Below.refl w.heap.size w).alloc (Nat.le_refl _) _
  have c0 : w3.cell? ⟨w.heap.size, 0, none⟩ = some (.int .i64 u.kind) := g0.cell 0 (by omega)
  have c1 : w3.cell? ⟨w.heap.size, 1, none⟩ = some (.int .i64 u.id) := g0.cell 1 (by omega)
  have c2 : w3.cell? ⟨w.heap.size, 2, none⟩ = some (.int .i64 u.amt) := g0.cell 2 (by omega)
  have c35 : w3.cell? ⟨w.heap.size, 35, none⟩ = some (.string u.note) := g0.cell 35 (by omega)
  have HA := hide g0.at_hash
  have hq : ∀ w : World, (Op.equalIn 10000 25 (.agg (tabv (bv u.hash) 32)) (.agg (tabv (bv (fun _ => (0 : UInt8))) 32))).run Tryz.prog w = .ok true w := fun w => by rw [← zh]; exact eqHD 9998 w _ _
  rw [← zero32'] at hq
  have gh := guard26
  clear zh
  clear g0
  go_enter Tryz.func106, Tryz.ntmps106
  go_wp2_with (first | refine wpW_load_at 25 _ rfl w.heap.size 3 (by rfl) (by rfl) _ 32 _ HA.out Tryz.underlying25 rfl info26 ?_)
  go_ret
  exact ⟨rfl, gb⟩
set_option maxRecDepth 100000 in
set_option maxHeartbeats 1000000 in
theorem valid_13 (u : Upd) (w : World) (i0 : decide (u.id < 0) = false) (i1 : decide (2048 ≤ u.id) = false) (k1 : (u.kind == 1) = false) (k2 : (u.kind == 2) = false) (k3 : (u.kind == 3) = false) : Calls Tryz.prog 106 #[.agg (tabv u.v 36)] w fun e w' => e = .returned (.bool false) ∧ Below w.heap.size w w' := by
  obtain ⟨w3, hW⟩ : ∃ w3, w.alloc (.cells (tabv u.v 36) 36) = w3 := ⟨_, rfl⟩
  have g0 : Has w3 w.heap.size 36 u.v 36 := by rw [← hW]; exact Has.new w 36 u.v 36 _ rfl
  have gb : Below w.heap.size w w3 := by rw [← hW]; exact (Below.refl w.heap.size w).alloc (Nat.le_refl _) _
  have c0 : w3.cell? ⟨w.heap.size, 0, none⟩ = some (.int .i64 u.kind) := g0.cell 0 (by omega)
  have c1 : w3.cell? ⟨w.heap.size, 1, none⟩ = some (.int .i64 u.id) := g0.cell 1 (by omega)
  have c2 : w3.cell? ⟨w.heap.size, 2, none⟩ = some (.int .i64 u.amt) := g0.cell 2 (by omega)
  have c35 : w3.cell? ⟨w.heap.size, 35, none⟩ = some (.string u.note) := g0.cell 35 (by omega)
  have HA := hide g0.at_hash
  clear g0
  go_enter Tryz.func106, Tryz.ntmps106
  go_wp2
  go_ret
  exact ⟨rfl, gb⟩
theorem valid_any (u : Upd) (w : World) : Calls Tryz.prog 106 #[.agg (tabv u.v 36)] w fun e w' => e = .returned (.bool (validB u)) ∧ Below w.heap.size w w' := by
  cases i0 : decide (u.id < 0) with
  | false =>
    cases i1 : decide (2048 ≤ u.id) with
    | false =>
      cases k1 : (u.kind == 1) with
      | false =>
        cases k2 : (u.kind == 2) with
        | false =>
          cases k3 : (u.kind == 3) with
          | false =>
            rw [show validB u = false by unfold validB; simp [i0, i1, k1, k2, k3]]
            exact valid_13 u w i0 i1 k1 k2 k3
          | true =>
            cases a0 : (u.amt == 0) with
            | false =>
              rw [show validB u = false by unfold validB; simp [i0, i1, k1, k2, k3, a0]]
              exact valid_9 u w i0 i1 k1 k2 k3 a0
            | true =>
              cases zh : zeroH u.hash with
              | false =>
                rw [show validB u = false by unfold validB; simp [i0, i1, k1, k2, k3, a0, zh]]
                exact valid_10 u w i0 i1 k1 k2 k3 a0 zh
              | true =>
                cases s6 : decide ((u.note.size : Int) ≤ 64) with
                | false =>
                  rw [show validB u = false by unfold validB; simp [i0, i1, k1, k2, k3, a0, zh, s6]]
                  exact valid_11 u w i0 i1 k1 k2 k3 a0 zh s6
                | true =>
                  rw [show validB u = true by unfold validB; simp [i0, i1, k1, k2, k3, a0, zh, s6]]
                  exact valid_12 u w i0 i1 k1 k2 k3 a0 zh s6
        | true =>
          cases a0 : (u.amt == 0) with
          | false =>
            rw [show validB u = false by unfold validB; simp [i0, i1, k1, k2, a0]]
            exact valid_6 u w i0 i1 k1 k2 a0
          | true =>
            cases ne : noteE u with
            | false =>
              rw [show validB u = false by unfold validB; simp [i0, i1, k1, k2, a0, ne]]
              exact valid_7 u w i0 i1 k1 k2 a0 ne
            | true =>
              rw [show validB u = true by unfold validB; simp [i0, i1, k1, k2, a0, ne]]
              exact valid_8 u w i0 i1 k1 k2 a0 ne
      | true =>
        cases a1 : decide (1 ≤ u.amt) with
        | false =>
          rw [show validB u = false by unfold validB; simp [i0, i1, k1, a1]]
          exact valid_2 u w i0 i1 k1 a1
        | true =>
          cases a2 : decide (u.amt ≤ 1152921504606846976) with
          | false =>
            rw [show validB u = false by unfold validB; simp [i0, i1, k1, a1, a2]]
            exact valid_3 u w i0 i1 k1 a1 a2
          | true =>
            cases ne : noteE u with
            | false =>
              rw [show validB u = false by unfold validB; simp [i0, i1, k1, a1, a2, ne]]
              exact valid_4 u w i0 i1 k1 a1 a2 ne
            | true =>
              rw [show validB u = true by unfold validB; simp [i0, i1, k1, a1, a2, ne]]
              exact valid_5 u w i0 i1 k1 a1 a2 ne
    | true =>
      rw [show validB u = false by unfold validB; simp [i0, i1]]
      exact valid_1 u w i0 i1
  | true =>
    rw [show validB u = false by unfold validB; simp [i0]]
    exact valid_0 u w i0
set_option maxRecDepth 100000 in
set_option maxHeartbeats 1000000 in
theorem rvalid_0 (u : Upd) (w : World) (i0 : decide (u.id < 0) = true) : Calls Tryz.prog 62 #[.agg (tabv u.v 36)] w fun e w' => e = .returned (.bool false) ∧ Below w.heap.size w w' := by
  obtain ⟨w3, hW⟩ : ∃ w3, w.alloc (.cells (tabv u.v 36) 36) = w3 := ⟨_, rfl⟩
  have g0 : Has w3 w.heap.size 36 u.v 36 := by rw [← hW]; exact Has.new w 36 u.v 36 _ rfl
  have gb : Below w.heap.size w w3 := by rw [← hW]; exact (Below.refl w.heap.size w).alloc (Nat.le_refl _) _
  have c0 : w3.cell? ⟨w.heap.size, 0, none⟩ = some (.int .i64 u.kind) := g0.cell 0 (by omega)
  have c1 : w3.cell? ⟨w.heap.size, 1, none⟩ = some (.int .i64 u.id) := g0.cell 1 (by omega)
  have c2 : w3.cell? ⟨w.heap.size, 2, none⟩ = some (.int .i64 u.amt) := g0.cell 2 (by omega)
  have c35 : w3.cell? ⟨w.heap.size, 35, none⟩ = some (.string u.note) := g0.cell 35 (by omega)
  have HA := hide g0.at_hash
  obtain ⟨w4, hW4⟩ : ∃ w4, w3.alloc (.cells (tabv (bv (fun _ => (0 : UInt8))) 32) 25) = w4 := ⟨_, rfl⟩
  have hb4 : Below w3.heap.size w3 w4 := by rw [← hW4]; exact (Below.refl w3.heap.size w3).alloc (Nat.le_refl _) _
  have hy4 : Has w4 w3.heap.size 25 (bv (fun _ => (0 : UInt8))) 32 := by rw [← hW4]; exact Has.new w3 25 _ 32 _ rfl
  rw [← zero32'] at hW4
  have hz4 := hy4.row _ (bv (fun _ => (0 : UInt8))) rfl
  have hb4 := below_setRow hb4 (Nat.le_refl _) (tabv (bv (fun _ => (0 : UInt8))) 32)
  have HY := hide hy4
  generalize hW5 : w4.setRow w3.heap.size (tabv (bv (fun _ => (0 : UInt8))) 32) = w5 at hz4 hb4
  have d0 := (hb4.cell (p := ⟨w.heap.size, 0, none⟩) g0.lt).trans c0
  have d1 := (hb4.cell (p := ⟨w.heap.size, 1, none⟩) g0.lt).trans c1
  have d2 := (hb4.cell (p := ⟨w.heap.size, 2, none⟩) g0.lt).trans c2
  have d35 := (hb4.cell (p := ⟨w.heap.size, 35, none⟩) g0.lt).trans c35
  have HZ := hide hz4
  have HB := hide (g0.at_hash.below hb4 g0.lt)
  have gb := gb.trans (hb4.mono gb.size)
  clear c0 c1 c2 c35 hz4 hb4 HA hy4
  clear g0
  go_enter Tryz.func62, Tryz.ntmps62
  go_wp2_with (first | refine wpList_storeH rfl _ _ rfl rfl w3.heap.size (fun _ => 0) rfl rfl _ HY.out ?_)
  go_ret
  exact ⟨rfl, gb⟩
set_option maxRecDepth 100000 in
set_option maxHeartbeats 1000000 in
theorem rvalid_1 (u : Upd) (w : World) (i0 : decide (u.id < 0) = false) (i1 : decide (2048 ≤ u.id) = true) : Calls Tryz.prog 62 #[.agg (tabv u.v 36)] w fun e w' => e = .returned (.bool false) ∧ Below w.heap.size w w' := by
  obtain ⟨w3, hW⟩ : ∃ w3, w.alloc (.cells (tabv u.v 36) 36) = w3 := ⟨_, rfl⟩
  have g0 : Has w3 w.heap.size 36 u.v 36 := by rw [← hW]; exact Has.new w 36 u.v 36 _ rfl
  have gb : Below w.heap.size w w3 := by rw [← hW]; exact (Below.refl w.heap.size w).alloc (Nat.le_refl _) _
  have c0 : w3.cell? ⟨w.heap.size, 0, none⟩ = some (.int .i64 u.kind) := g0.cell 0 (by omega)
  have c1 : w3.cell? ⟨w.heap.size, 1, none⟩ = some (.int .i64 u.id) := g0.cell 1 (by omega)
  have c2 : w3.cell? ⟨w.heap.size, 2, none⟩ = some (.int .i64 u.amt) := g0.cell 2 (by omega)
  have c35 : w3.cell? ⟨w.heap.size, 35, none⟩ = some (.string u.note) := g0.cell 35 (by omega)
  have HA := hide g0.at_hash
  obtain ⟨w4, hW4⟩ : ∃ w4, w3.alloc (.cells (tabv (bv (fun _ => (0 : UInt8))) 32) 25) = w4 := ⟨_, rfl⟩
  have hb4 : Below w3.heap.size w3 w4 := by rw [← hW4]; exact (Below.refl w3.heap.size w3).alloc (Nat.le_refl _) _
  have hy4 : Has w4 w3.heap.size 25 (bv (fun _ => (0 : UInt8))) 32 := by rw [← hW4]; exact Has.new w3 25 _ 32 _ rfl
  rw [← zero32'] at hW4
  have hz4 := hy4.row _ (bv (fun _ => (0 : UInt8))) rfl
  have hb4 := below_setRow hb4 (Nat.le_refl _) (tabv (bv (fun _ => (0 : UInt8))) 32)
  have HY := hide hy4
  generalize hW5 : w4.setRow w3.heap.size (tabv (bv (fun _ => (0 : UInt8))) 32) = w5 at hz4 hb4
  have d0 := (hb4.cell (p := ⟨w.heap.size, 0, none⟩) g0.lt).trans c0
  have d1 := (hb4.cell (p := ⟨w.heap.size, 1, none⟩) g0.lt).trans c1
  have d2 := (hb4.cell (p := ⟨w.heap.size, 2, none⟩) g0.lt).trans c2
  have d35 := (hb4.cell (p := ⟨w.heap.size, 35, none⟩) g0.lt).trans c35
  have HZ := hide hz4
  have HB := hide (g0.at_hash.below hb4 g0.lt)
  have gb := gb.trans (hb4.mono gb.size)
  clear c0 c1 c2 c35 hz4 hb4 HA hy4
  clear g0
  go_enter Tryz.func62, Tryz.ntmps62
  go_wp2_with (first | refine wpList_storeH rfl _ _ rfl rfl w3.heap.size (fun _ => 0) rfl rfl _ HY.out ?_)
  go_ret
  exact ⟨rfl, gb⟩
set_option maxRecDepth 100000 in
set_option maxHeartbeats 1000000 in
theorem rvalid_2 (u : Upd) (w : World) (i0 : decide (u.id < 0) = false) (i1 : decide (2048 ≤ u.id) = false) (k1 : (u.kind == 1) = true) (a1 : decide (1 ≤ u.amt) = false) : Calls Tryz.prog 62 #[.agg (tabv u.v 36)] w fun e w' => e = .returned (.bool false) ∧ Below w.heap.size w w' := by
  obtain ⟨w3, hW⟩ : ∃ w3, w.alloc (.cells (tabv u.v 36) 36) = w3 := ⟨_, rfl⟩
  have g0 : Has w3 w.heap.size 36 u.v 36 := by rw [← hW]; exact Has.new w 36 u.v 36 _ rfl
  have gb : Below w.heap.size w w3 := by rw [← hW]; exact (Below.refl w.heap.size w).alloc (Nat.le_refl _) _
  have c0 : w3.cell? ⟨w.heap.size, 0, none⟩ = some (.int .i64 u.kind) := g0.cell 0 (by omega)
  have c1 : w3.cell? ⟨w.heap.size, 1, none⟩ = some (.int .i64 u.id) := g0.cell 1 (by omega)
  have c2 : w3.cell? ⟨w.heap.size, 2, none⟩ = some (.int .i64 u.amt) := g0.cell 2 (by omega)
  have c35 : w3.cell? ⟨w.heap.size, 35, none⟩ = some (.string u.note) := g0.cell 35 (by omega)
  have HA := hide g0.at_hash
  obtain ⟨w4, hW4⟩ : ∃ w4, w3.alloc (.cells (tabv (bv (fun _ => (0 : UInt8))) 32) 25) = w4 := ⟨_, rfl⟩
  have hb4 : Below w3.heap.size w3 w4 := by rw [← hW4]; exact (Below.refl w3.heap.size w3).alloc (Nat.le_refl _) _
  have hy4 : Has w4 w3.heap.size 25 (bv (fun _ => (0 : UInt8))) 32 := by rw [← hW4]; exact Has.new w3 25 _ 32 _ rfl
  rw [← zero32'] at hW4
  have hz4 := hy4.row _ (bv (fun _ => (0 : UInt8))) rfl
  have hb4 := below_setRow hb4 (Nat.le_refl _) (tabv (bv (fun _ => (0 : UInt8))) 32)
  have HY := hide hy4
  generalize hW5 : w4.setRow w3.heap.size (tabv (bv (fun _ => (0 : UInt8))) 32) = w5 at hz4 hb4
  have d0 := (hb4.cell (p := ⟨w.heap.size, 0, none⟩) g0.lt).trans c0
  have d1 := (hb4.cell (p := ⟨w.heap.size, 1, none⟩) g0.lt).trans c1
  have d2 := (hb4.cell (p := ⟨w.heap.size, 2, none⟩) g0.lt).trans c2
  have d35 := (hb4.cell (p := ⟨w.heap.size, 35, none⟩) g0.lt).trans c35
  have HZ := hide hz4
  have HB := hide (g0.at_hash.below hb4 g0.lt)
  have gb := gb.trans (hb4.mono gb.size)
  clear c0 c1 c2 c35 hz4 hb4 HA hy4
  clear g0
  go_enter Tryz.func62, Tryz.ntmps62
  go_wp2_with (first | refine wpList_storeH rfl _ _ rfl rfl w3.heap.size (fun _ => 0) rfl rfl _ HY.out ?_)
  go_ret
  exact ⟨rfl, gb⟩
set_option maxRecDepth 100000 in
set_option maxHeartbeats 1000000 in
theorem rvalid_3 (u : Upd) (w : World) (i0 : decide (u.id < 0) = false) (i1 : decide (2048 ≤ u.id) = false) (k1 : (u.kind == 1) = true) (a1 : decide (1 ≤ u.amt) = true) (a2 : decide (u.amt ≤ 1152921504606846976) = false) : Calls Tryz.prog 62 #[.agg (tabv u.v 36)] w fun e w' => e = .returned (.bool false) ∧ Below w.heap.size w w' := by
  obtain ⟨w3, hW⟩ : ∃ w3, w.alloc (.cells (tabv u.v 36) 36) = w3 := ⟨_, rfl⟩
  have g0 : Has w3 w.heap.size 36 u.v 36 := by rw [← hW]; exact Has.new w 36 u.v 36 _ rfl
  have gb : Below w.heap.size w w3 := by rw [← hW]; exact (Below.refl w.heap.size w).alloc (Nat.le_refl _) _
  have c0 : w3.cell? ⟨w.heap.size, 0, none⟩ = some (.int .i64 u.kind) := g0.cell 0 (by omega)
  have c1 : w3.cell? ⟨w.heap.size, 1, none⟩ = some (.int .i64 u.id) := g0.cell 1 (by omega)
  have c2 : w3.cell? ⟨w.heap.size, 2, none⟩ = some (.int .i64 u.amt) := g0.cell 2 (by omega)
  have c35 : w3.cell? ⟨w.heap.size, 35, none⟩ = some (.string u.note) := g0.cell 35 (by omega)
  have HA := hide g0.at_hash
  obtain ⟨w4, hW4⟩ : ∃ w4, w3.alloc (.cells (tabv (bv (fun _ => (0 : UInt8))) 32) 25) = w4 := ⟨_, rfl⟩
  have hb4 : Below w3.heap.size w3 w4 := by rw [← hW4]; exact (Below.refl w3.heap.size w3).alloc (Nat.le_refl _) _
  have hy4 : Has w4 w3.heap.size 25 (bv (fun _ => (0 : UInt8))) 32 := by rw [← hW4]; exact Has.new w3 25 _ 32 _ rfl
  rw [← zero32'] at hW4
  have hz4 := hy4.row _ (bv (fun _ => (0 : UInt8))) rfl
  have hb4 := below_setRow hb4 (Nat.le_refl _) (tabv (bv (fun _ => (0 : UInt8))) 32)
  have HY := hide hy4
  generalize hW5 : w4.setRow w3.heap.size (tabv (bv (fun _ => (0 : UInt8))) 32) = w5 at hz4 hb4
  have d0 := (hb4.cell (p := ⟨w.heap.size, 0, none⟩) g0.lt).trans c0
  have d1 := (hb4.cell (p := ⟨w.heap.size, 1, none⟩) g0.lt).trans c1
  have d2 := (hb4.cell (p := ⟨w.heap.size, 2, none⟩) g0.lt).trans c2
  have d35 := (hb4.cell (p := ⟨w.heap.size, 35, none⟩) g0.lt).trans c35
  have HZ := hide hz4
  have HB := hide (g0.at_hash.below hb4 g0.lt)
  have gb := gb.trans (hb4.mono gb.size)
  clear c0 c1 c2 c35 hz4 hb4 HA hy4
  clear g0
  go_enter Tryz.func62, Tryz.ntmps62
  go_wp2_with (first | refine wpList_storeH rfl _ _ rfl rfl w3.heap.size (fun _ => 0) rfl rfl _ HY.out ?_)
  go_ret
  exact ⟨rfl, gb⟩
set_option maxRecDepth 100000 in
set_option maxHeartbeats 1000000 in
theorem rvalid_4 (u : Upd) (w : World) (i0 : decide (u.id < 0) = false) (i1 : decide (2048 ≤ u.id) = false) (k1 : (u.kind == 1) = true) (a1 : decide (1 ≤ u.amt) = true) (a2 : decide (u.amt ≤ 1152921504606846976) = true) (ne : noteE u = false) : Calls Tryz.prog 62 #[.agg (tabv u.v 36)] w fun e w' => e = .returned (.bool false) ∧ Below w.heap.size w w' := by
  obtain ⟨w3, hW⟩ : ∃ w3, w.alloc (.cells (tabv u.v 36) 36) = w3 := ⟨_, rfl⟩
  have g0 : Has w3 w.heap.size 36 u.v 36 := by rw [← hW]; exact Has.new w 36 u.v 36 _ rfl
  have gb : Below w.heap.size w w3 := by rw [← hW]; exact (Below.refl w.heap.size w).alloc (Nat.le_refl _) _
  have c0 : w3.cell? ⟨w.heap.size, 0, none⟩ = some (.int .i64 u.kind) := g0.cell 0 (by omega)
  have c1 : w3.cell? ⟨w.heap.size, 1, none⟩ = some (.int .i64 u.id) := g0.cell 1 (by omega)
  have c2 : w3.cell? ⟨w.heap.size, 2, none⟩ = some (.int .i64 u.amt) := g0.cell 2 (by omega)
  have c35 : w3.cell? ⟨w.heap.size, 35, none⟩ = some (.string u.note) := g0.cell 35 (by omega)
  have HA := hide g0.at_hash
  obtain ⟨w4, hW4⟩ : ∃ w4, w3.alloc (.cells (tabv (bv (fun _ => (0 : UInt8))) 32) 25) = w4 := ⟨_, rfl⟩
  have hb4 : Below w3.heap.size w3 w4 := by rw [← hW4]; exact (Below.refl w3.heap.size w3).alloc (Nat.le_refl _) _
  have hy4 : Has w4 w3.heap.size 25 (bv (fun _ => (0 : UInt8))) 32 := by rw [← hW4]; exact Has.new w3 25 _ 32 _ rfl
  rw [← zero32'] at hW4
  have hz4 := hy4.row _ (bv (fun _ => (0 : UInt8))) rfl
  have hb4 := below_setRow hb4 (Nat.le_refl _) (tabv (bv (fun _ => (0 : UInt8))) 32)
  have HY := hide hy4
  generalize hW5 : w4.setRow w3.heap.size (tabv (bv (fun _ => (0 : UInt8))) 32) = w5 at hz4 hb4
  have d0 := (hb4.cell (p := ⟨w.heap.size, 0, none⟩) g0.lt).trans c0
  have d1 := (hb4.cell (p := ⟨w.heap.size, 1, none⟩) g0.lt).trans c1
  have d2 := (hb4.cell (p := ⟨w.heap.size, 2, none⟩) g0.lt).trans c2
  have d35 := (hb4.cell (p := ⟨w.heap.size, 35, none⟩) g0.lt).trans c35
  have HZ := hide hz4
  have HB := hide (g0.at_hash.below hb4 g0.lt)
  have gb := gb.trans (hb4.mono gb.size)
  clear c0 c1 c2 c35 hz4 hb4 HA hy4
  unfold noteE at ne
  clear g0
  go_enter Tryz.func62, Tryz.ntmps62
  go_wp2_with (first | refine wpList_storeH rfl _ _ rfl rfl w3.heap.size (fun _ => 0) rfl rfl _ HY.out ?_)
  go_ret
  exact ⟨rfl, gb⟩
set_option maxRecDepth 100000 in
set_option maxHeartbeats 1000000 in
theorem rvalid_5 (u : Upd) (w : World) (i0 : decide (u.id < 0) = false) (i1 : decide (2048 ≤ u.id) = false) (k1 : (u.kind == 1) = true) (a1 : decide (1 ≤ u.amt) = true) (a2 : decide (u.amt ≤ 1152921504606846976) = true) (ne : noteE u = true) : Calls Tryz.prog 62 #[.agg (tabv u.v 36)] w fun e w' => e = .returned (.bool true) ∧ Below w.heap.size w w' := by
  obtain ⟨w3, hW⟩ : ∃ w3, w.alloc (.cells (tabv u.v 36) 36) = w3 := ⟨_, rfl⟩
  have g0 : Has w3 w.heap.size 36 u.v 36 := by rw [← hW]; exact Has.new w 36 u.v 36 _ rfl
  have gb : Below w.heap.size w w3 := by rw [← hW]; exact (Below.refl w.heap.size w).alloc (Nat.le_refl _) _
  have c0 : w3.cell? ⟨w.heap.size, 0, none⟩ = some (.int .i64 u.kind) := g0.cell 0 (by omega)
  have c1 : w3.cell? ⟨w.heap.size, 1, none⟩ = some (.int .i64 u.id) := g0.cell 1 (by omega)
  have c2 : w3.cell? ⟨w.heap.size, 2, none⟩ = some (.int .i64 u.amt) := g0.cell 2 (by omega)
  have c35 : w3.cell? ⟨w.heap.size, 35, none⟩ = some (.string u.note) := g0.cell 35 (by omega)
  have HA := hide g0.at_hash
  obtain ⟨w4, hW4⟩ : ∃ w4, w3.alloc (.cells (tabv (bv (fun _ => (0 : UInt8))) 32) 25) = w4 := ⟨_, rfl⟩
  have hb4 : Below w3.heap.size w3 w4 := by rw [← hW4]; exact (Below.refl w3.heap.size w3).alloc (Nat.le_refl _) _
  have hy4 : Has w4 w3.heap.size 25 (bv (fun _ => (0 : UInt8))) 32 := by rw [← hW4]; exact Has.new w3 25 _ 32 _ rfl
  rw [← zero32'] at hW4
  have hz4 := hy4.row _ (bv (fun _ => (0 : UInt8))) rfl
  have hb4 := below_setRow hb4 (Nat.le_refl _) (tabv (bv (fun _ => (0 : UInt8))) 32)
  have HY := hide hy4
  generalize hW5 : w4.setRow w3.heap.size (tabv (bv (fun _ => (0 : UInt8))) 32) = w5 at hz4 hb4
  have d0 := (hb4.cell (p := ⟨w.heap.size, 0, none⟩) g0.lt).trans c0
  have d1 := (hb4.cell (p := ⟨w.heap.size, 1, none⟩) g0.lt).trans c1
  have d2 := (hb4.cell (p := ⟨w.heap.size, 2, none⟩) g0.lt).trans c2
  have d35 := (hb4.cell (p := ⟨w.heap.size, 35, none⟩) g0.lt).trans c35
  have HZ := hide hz4
  have HB := hide (g0.at_hash.below hb4 g0.lt)
  have gb := gb.trans (hb4.mono gb.size)
  clear c0 c1 c2 c35 hz4 hb4 HA hy4
  unfold noteE at ne
  clear g0
  go_enter Tryz.func62, Tryz.ntmps62
  go_wp2_with (first | refine wpList_storeH rfl _ _ rfl rfl w3.heap.size (fun _ => 0) rfl rfl _ HY.out ?_)
  go_ret
  exact ⟨rfl, gb⟩
set_option maxRecDepth 100000 in
set_option maxHeartbeats 1000000 in
theorem rvalid_6 (u : Upd) (w : World) (i0 : decide (u.id < 0) = false) (i1 : decide (2048 ≤ u.id) = false) (k1 : (u.kind == 1) = false) (k2 : (u.kind == 2) = true) (a0 : (u.amt == 0) = false) : Calls Tryz.prog 62 #[.agg (tabv u.v 36)] w fun e w' => e = .returned (.bool false) ∧ Below w.heap.size w w' := by
  obtain ⟨w3, hW⟩ : ∃ w3, w.alloc (.cells (tabv u.v 36) 36) = w3 := ⟨_, rfl⟩
  have g0 : Has w3 w.heap.size 36 u.v 36 := by rw [← hW]; exact Has.new w 36 u.v 36 _ rfl
  have gb : Below w.heap.size w w3 := by rw [← hW]; exact (Below.refl w.heap.size w).alloc (Nat.le_refl _) _
  have c0 : w3.cell? ⟨w.heap.size, 0, none⟩ = some (.int .i64 u.kind) := g0.cell 0 (by omega)
  have c1 : w3.cell? ⟨w.heap.size, 1, none⟩ = some (.int .i64 u.id) := g0.cell 1 (by omega)
  have c2 : w3.cell? ⟨w.heap.size, 2, none⟩ = some (.int .i64 u.amt) := g0.cell 2 (by omega)
  have c35 : w3.cell? ⟨w.heap.size, 35, none⟩ = some (.string u.note) := g0.cell 35 (by omega)
  have HA := hide g0.at_hash
  obtain ⟨w4, hW4⟩ : ∃ w4, w3.alloc (.cells (tabv (bv (fun _ => (0 : UInt8))) 32) 25) = w4 := ⟨_, rfl⟩
  have hb4 : Below w3.heap.size w3 w4 := by rw [← hW4]; exact (Below.refl w3.heap.size w3).alloc (Nat.le_refl _) _
  have hy4 : Has w4 w3.heap.size 25 (bv (fun _ => (0 : UInt8))) 32 := by rw [← hW4]; exact Has.new w3 25 _ 32 _ rfl
  rw [← zero32'] at hW4
  have hz4 := hy4.row _ (bv (fun _ => (0 : UInt8))) rfl
  have hb4 := below_setRow hb4 (Nat.le_refl _) (tabv (bv (fun _ => (0 : UInt8))) 32)
  have HY := hide hy4
  generalize hW5 : w4.setRow w3.heap.size (tabv (bv (fun _ => (0 : UInt8))) 32) = w5 at hz4 hb4
  have d0 := (hb4.cell (p := ⟨w.heap.size, 0, none⟩) g0.lt).trans c0
  have d1 := (hb4.cell (p := ⟨w.heap.size, 1, none⟩) g0.lt).trans c1
  have d2 := (hb4.cell (p := ⟨w.heap.size, 2, none⟩) g0.lt).trans c2
  have d35 := (hb4.cell (p := ⟨w.heap.size, 35, none⟩) g0.lt).trans c35
  have HZ := hide hz4
  have HB := hide (g0.at_hash.below hb4 g0.lt)
  have gb := gb.trans (hb4.mono gb.size)
  clear c0 c1 c2 c35 hz4 hb4 HA hy4
  clear g0
  go_enter Tryz.func62, Tryz.ntmps62
  go_wp2_with (first | refine wpList_storeH rfl _ _ rfl rfl w3.heap.size (fun _ => 0) rfl rfl _ HY.out ?_)
  go_ret
  exact ⟨rfl, gb⟩
set_option maxRecDepth 100000 in
set_option maxHeartbeats 1000000 in
theorem rvalid_7 (u : Upd) (w : World) (i0 : decide (u.id < 0) = false) (i1 : decide (2048 ≤ u.id) = false) (k1 : (u.kind == 1) = false) (k2 : (u.kind == 2) = true) (a0 : (u.amt == 0) = true) (ne : noteE u = false) : Calls Tryz.prog 62 #[.agg (tabv u.v 36)] w fun e w' => e = .returned (.bool false) ∧ Below w.heap.size w w' := by
  obtain ⟨w3, hW⟩ : ∃ w3, w.alloc (.cells (tabv u.v 36) 36) = w3 := ⟨_, rfl⟩
  have g0 : Has w3 w.heap.size 36 u.v 36 := by rw [← hW]; exact Has.new w 36 u.v 36 _ rfl
  have gb : Below w.heap.size w w3 := by rw [← hW]; exact (Below.refl w.heap.size w).alloc (Nat.le_refl _) _
  have c0 : w3.cell? ⟨w.heap.size, 0, none⟩ = some (.int .i64 u.kind) := g0.cell 0 (by omega)
  have c1 : w3.cell? ⟨w.heap.size, 1, none⟩ = some (.int .i64 u.id) := g0.cell 1 (by omega)
  have c2 : w3.cell? ⟨w.heap.size, 2, none⟩ = some (.int .i64 u.amt) := g0.cell 2 (by omega)
  have c35 : w3.cell? ⟨w.heap.size, 35, none⟩ = some (.string u.note) := g0.cell 35 (by omega)
  have HA := hide g0.at_hash
  obtain ⟨w4, hW4⟩ : ∃ w4, w3.alloc (.cells (tabv (bv (fun _ => (0 : UInt8))) 32) 25) = w4 := ⟨_, rfl⟩
  have hb4 : Below w3.heap.size w3 w4 := by rw [← hW4]; exact (Below.refl w3.heap.size w3).alloc (Nat.le_refl _) _
  have hy4 : Has w4 w3.heap.size 25 (bv (fun _ => (0 : UInt8))) 32 := by rw [← hW4]; exact Has.new w3 25 _ 32 _ rfl
  rw [← zero32'] at hW4
  have hz4 := hy4.row _ (bv (fun _ => (0 : UInt8))) rfl
  have hb4 := below_setRow hb4 (Nat.le_refl _) (tabv (bv (fun _ => (0 : UInt8))) 32)
  have HY := hide hy4
  generalize hW5 : w4.setRow w3.heap.size (tabv (bv (fun _ => (0 : UInt8))) 32) = w5 at hz4 hb4
  have d0 := (hb4.cell (p := ⟨w.heap.size, 0, none⟩) g0.lt).trans c0
  have d1 := (hb4.cell (p := ⟨w.heap.size, 1, none⟩) g0.lt).trans c1
  have d2 := (hb4.cell (p := ⟨w.heap.size, 2, none⟩) g0.lt).trans c2
  have d35 := (hb4.cell (p := ⟨w.heap.size, 35, none⟩) g0.lt).trans c35
  have HZ := hide hz4
  have HB := hide (g0.at_hash.below hb4 g0.lt)
  have gb := gb.trans (hb4.mono gb.size)
  clear c0 c1 c2 c35 hz4 hb4 HA hy4
  unfold noteE at ne
  clear g0
  go_enter Tryz.func62, Tryz.ntmps62
  go_wp2_with (first | refine wpList_storeH rfl _ _ rfl rfl w3.heap.size (fun _ => 0) rfl rfl _ HY.out ?_)
  go_ret
  exact ⟨rfl, gb⟩
set_option maxRecDepth 100000 in
set_option maxHeartbeats 1000000 in
theorem rvalid_8 (u : Upd) (w : World) (i0 : decide (u.id < 0) = false) (i1 : decide (2048 ≤ u.id) = false) (k1 : (u.kind == 1) = false) (k2 : (u.kind == 2) = true) (a0 : (u.amt == 0) = true) (ne : noteE u = true) : Calls Tryz.prog 62 #[.agg (tabv u.v 36)] w fun e w' => e = .returned (.bool true) ∧ Below w.heap.size w w' := by
  obtain ⟨w3, hW⟩ : ∃ w3, w.alloc (.cells (tabv u.v 36) 36) = w3 := ⟨_, rfl⟩
  have g0 : Has w3 w.heap.size 36 u.v 36 := by rw [← hW]; exact Has.new w 36 u.v 36 _ rfl
  have gb : Below w.heap.size w w3 := by rw [← hW]; exact (Below.refl w.heap.size w).alloc (Nat.le_refl _) _
  have c0 : w3.cell? ⟨w.heap.size, 0, none⟩ = some (.int .i64 u.kind) := g0.cell 0 (by omega)
  have c1 : w3.cell? ⟨w.heap.size, 1, none⟩ = some (.int .i64 u.id) := g0.cell 1 (by omega)
  have c2 : w3.cell? ⟨w.heap.size, 2, none⟩ = some (.int .i64 u.amt) := g0.cell 2 (by omega)
  have c35 : w3.cell? ⟨w.heap.size, 35, none⟩ = some (.string u.note) := g0.cell 35 (by omega)
  have HA := hide g0.at_hash
  obtain ⟨w4, hW4⟩ : ∃ w4, w3.alloc (.cells (tabv (bv (fun _ => (0 : UInt8))) 32) 25) = w4 := ⟨_, rfl⟩
  have hb4 : Below w3.heap.size w3 w4 := by rw [← hW4]; exact (Below.refl w3.heap.size w3).alloc (Nat.le_refl _) _
  have hy4 : Has w4 w3.heap.size 25 (bv (fun _ => (0 : UInt8))) 32 := by rw [← hW4]; exact Has.new w3 25 _ 32 _ rfl
  rw [← zero32'] at hW4
  have hz4 := hy4.row _ (bv (fun _ => (0 : UInt8))) rfl
  have hb4 := below_setRow hb4 (Nat.le_refl _) (tabv (bv (fun _ => (0 : UInt8))) 32)
  have HY := hide hy4
  generalize hW5 : w4.setRow w3.heap.size (tabv (bv (fun _ => (0 : UInt8))) 32) = w5 at hz4 hb4
  have d0 := (hb4.cell (p := ⟨w.heap.size, 0, none⟩) g0.lt).trans c0
  have d1 := (hb4.cell (p := ⟨w.heap.size, 1, none⟩) g0.lt).trans c1
  have d2 := (hb4.cell (p := ⟨w.heap.size, 2, none⟩) g0.lt).trans c2
  have d35 := (hb4.cell (p := ⟨w.heap.size, 35, none⟩) g0.lt).trans c35
  have HZ := hide hz4
  have HB := hide (g0.at_hash.below hb4 g0.lt)
  have gb := gb.trans (hb4.mono gb.size)
  clear c0 c1 c2 c35 hz4 hb4 HA hy4
  unfold noteE at ne
  clear g0
  go_enter Tryz.func62, Tryz.ntmps62
  go_wp2_with (first | refine wpList_storeH rfl _ _ rfl rfl w3.heap.size (fun _ => 0) rfl rfl _ HY.out ?_)
  go_ret
  exact ⟨rfl, gb⟩
set_option maxRecDepth 100000 in
set_option maxHeartbeats 1000000 in
theorem rvalid_9 (u : Upd) (w : World) (i0 : decide (u.id < 0) = false) (i1 : decide (2048 ≤ u.id) = false) (k1 : (u.kind == 1) = false) (k2 : (u.kind == 2) = false) (k3 : (u.kind == 3) = true) (a0 : (u.amt == 0) = false) : Calls Tryz.prog 62 #[.agg (tabv u.v 36)] w fun e w' => e = .returned (.bool false) ∧ Below w.heap.size w w' := by
  obtain ⟨w3, hW⟩ : ∃ w3, w.alloc (.cells (tabv u.v 36) 36) = w3 := ⟨_, rfl⟩
  have g0 : Has w3 w.heap.size 36 u.v 36 := by rw [← hW]; exact Has.new w 36 u.v 36 _ rfl
  have gb : Below w.heap.size w w3 := by rw [← hW]; exact (Below.refl w.heap.size w).alloc (Nat.le_refl _) _
  have c0 : w3.cell? ⟨w.heap.size, 0, none⟩ = some (.int .i64 u.kind) := g0.cell 0 (by omega)
  have c1 : w3.cell? ⟨w.heap.size, 1, none⟩ = some (.int .i64 u.id) := g0.cell 1 (by omega)
  have c2 : w3.cell? ⟨w.heap.size, 2, none⟩ = some (.int .i64 u.amt) := g0.cell 2 (by omega)
  have c35 : w3.cell? ⟨w.heap.size, 35, none⟩ = some (.string u.note) := g0.cell 35 (by omega)
  have HA := hide g0.at_hash
  obtain ⟨w4, hW4⟩ : ∃ w4, w3.alloc (.cells (tabv (bv (fun _ => (0 : UInt8))) 32) 25) = w4 := ⟨_, rfl⟩
  have hb4 : Below w3.heap.size w3 w4 := by rw [← hW4]; exact (Below.refl w3.heap.size w3).alloc (Nat.le_refl _) _
  have hy4 : Has w4 w3.heap.size 25 (bv (fun _ => (0 : UInt8))) 32 := by rw [← hW4]; exact Has.new w3 25 _ 32 _ rfl
  rw [← zero32'] at hW4
  have hz4 := hy4.row _ (bv (fun _ => (0 : UInt8))) rfl
  have hb4 := below_setRow hb4 (Nat.le_refl _) (tabv (bv (fun _ => (0 : UInt8))) 32)
  have HY := hide hy4
  generalize hW5 : w4.setRow w3.heap.size (tabv (bv (fun _ => (0 : UInt8))) 32) = w5 at hz4 hb4
  have d0 := (hb4.cell (p := ⟨w.heap.size, 0, none⟩) g0.lt).trans c0
  have d1 := (hb4.cell (p := ⟨w.heap.size, 1, none⟩) g0.lt).trans c1
  have d2 := (hb4.cell (p := ⟨w.heap.size, 2, none⟩) g0.lt).trans c2
  have d35 := (hb4.cell (p := ⟨w.heap.size, 35, none⟩) g0.lt).trans c35
  have HZ := hide hz4
  have HB := hide (g0.at_hash.below hb4 g0.lt)
  have gb := gb.trans (hb4.mono gb.size)
  clear c0 c1 c2 c35 hz4 hb4 HA hy4
  clear g0
  go_enter Tryz.func62, Tryz.ntmps62
  go_wp2_with (first | refine wpList_storeH rfl _ _ rfl rfl w3.heap.size (fun _ => 0) rfl rfl _ HY.out ?_)
  go_ret
  exact ⟨rfl, gb⟩
set_option maxRecDepth 100000 in
set_option maxHeartbeats 1000000 in
theorem rvalid_10 (u : Upd) (w : World) (i0 : decide (u.id < 0) = false) (i1 : decide (2048 ≤ u.id) = false) (k1 : (u.kind == 1) = false) (k2 : (u.kind == 2) = false) (k3 : (u.kind == 3) = true) (a0 : (u.amt == 0) = true) (zh : zeroH u.hash = false) : Calls Tryz.prog 62 #[.agg (tabv u.v 36)] w fun e w' => e = .returned (.bool false) ∧ Below w.heap.size w w' := by
  obtain ⟨w3, hW⟩ : ∃ w3, w.alloc (.cells (tabv u.v 36) 36) = w3 := ⟨_, rfl⟩
  have g0 : Has w3 w.heap.size 36 u.v 36 := by rw [← hW]; exact Has.new w 36 u.v 36 _ rfl
  have gb : Below w.heap.size w w3 := by rw [← hW]; exact (Below.refl w.heap.size w).alloc (Nat.le_refl _) _
  have c0 : w3.cell? ⟨w.heap.size, 0, none⟩ = some (.int .i64 u.kind) := g0.cell 0 (by omega)
  have c1 : w3.cell? ⟨w.heap.size, 1, none⟩ = some (.int .i64 u.id) := g0.cell 1 (by omega)
  have c2 : w3.cell? ⟨w.heap.size, 2, none⟩ = some (.int .i64 u.amt) := g0.cell 2 (by omega)
  have c35 : w3.cell? ⟨w.heap.size, 35, none⟩ = some (.string u.note) := g0.cell 35 (by omega)
  have HA := hide g0.at_hash
  obtain ⟨w4, hW4⟩ : ∃ w4, w3.alloc (.cells (tabv (bv (fun _ => (0 : UInt8))) 32) 25) = w4 := ⟨_, rfl⟩
  have hb4 : Below w3.heap.size w3 w4 := by rw [← hW4]; exact (Below.refl w3.heap.size w3).alloc (Nat.le_refl _) _
  have hy4 : Has w4 w3.heap.size 25 (bv (fun _ => (0 : UInt8))) 32 := by rw [← hW4]; exact Has.new w3 25 _ 32 _ rfl
  rw [← zero32'] at hW4
  have hz4 := hy4.row _ (bv (fun _ => (0 : UInt8))) rfl
  have hb4 := below_setRow hb4 (Nat.le_refl _) (tabv (bv (fun _ => (0 : UInt8))) 32)
  have HY := hide hy4
  generalize hW5 : w4.setRow w3.heap.size (tabv (bv (fun _ => (0 : UInt8))) 32) = w5 at hz4 hb4
  have d0 := (hb4.cell (p := ⟨w.heap.size, 0, none⟩) g0.lt).trans c0
  have d1 := (hb4.cell (p := ⟨w.heap.size, 1, none⟩) g0.lt).trans c1
  have d2 := (hb4.cell (p := ⟨w.heap.size, 2, none⟩) g0.lt).trans c2
  have d35 := (hb4.cell (p := ⟨w.heap.size, 35, none⟩) g0.lt).trans c35
  have HZ := hide hz4
  have HB := hide (g0.at_hash.below hb4 g0.lt)
  have gb := gb.trans (hb4.mono gb.size)
  clear c0 c1 c2 c35 hz4 hb4 HA hy4
  have hq : ∀ w : World, (Op.equalIn 10000 25 (.agg (tabv (bv u.hash) 32)) (.agg (tabv (bv (fun _ => (0 : UInt8))) 32))).run Tryz.prog w = .ok false w := fun w => by rw [← zh]; exact eqHD 9998 w _ _
  have gh := guard26
  clear zh
  clear g0
  go_enter Tryz.func62, Tryz.ntmps62
  go_wp2_with (first | refine wpList_storeH rfl _ _ rfl rfl w3.heap.size (fun _ => 0) rfl rfl _ HY.out ?_ | refine wpW_load_at 25 _ rfl w.heap.size 3 (by rfl) (by rfl) _ 32 _ HB.out Tryz.underlying25 rfl info26 ?_ | refine wpW_load_at 25 _ rfl w3.heap.size 0 (by rfl) (by rfl) _ 32 _ (HZ.out.at_ 0 (by omega) (fun i hi => by rw [Nat.zero_add])) Tryz.underlying25 rfl info26 ?_)
  go_ret
  exact ⟨rfl, gb⟩
set_option maxRecDepth 100000 in
set_option maxHeartbeats 1000000 in
theorem rvalid_11 (u : Upd) (w : World) (i0 : decide (u.id < 0) = false) (i1 : decide (2048 ≤ u.id) = false) (k1 : (u.kind == 1) = false) (k2 : (u.kind == 2) = false) (k3 : (u.kind == 3) = true) (a0 : (u.amt == 0) = true) (zh : zeroH u.hash = true) (s6 : decide ((u.note.size : Int) ≤ 64) = false) : Calls Tryz.prog 62 #[.agg (tabv u.v 36)] w fun e w' => e = .returned (.bool false) ∧ Below w.heap.size w w' := by
  obtain ⟨w3, hW⟩ : ∃ w3, w.alloc (.cells (tabv u.v 36) 36) = w3 := ⟨_, rfl⟩
  have g0 : Has w3 w.heap.size 36 u.v 36 := by rw [← hW]; exact Has.new w 36 u.v 36 _ rfl
  have gb : Below w.heap.size w w3 := by rw [← hW]; exact (Below.refl w.heap.size w).alloc (Nat.le_refl _) _
  have c0 : w3.cell? ⟨w.heap.size, 0, none⟩ = some (.int .i64 u.kind) := g0.cell 0 (by omega)
  have c1 : w3.cell? ⟨w.heap.size, 1, none⟩ = some (.int .i64 u.id) := g0.cell 1 (by omega)
  have c2 : w3.cell? ⟨w.heap.size, 2, none⟩ = some (.int .i64 u.amt) := g0.cell 2 (by omega)
  have c35 : w3.cell? ⟨w.heap.size, 35, none⟩ = some (.string u.note) := g0.cell 35 (by omega)
  have HA := hide g0.at_hash
  obtain ⟨w4, hW4⟩ : ∃ w4, w3.alloc (.cells (tabv (bv (fun _ => (0 : UInt8))) 32) 25) = w4 := ⟨_, rfl⟩
  have hb4 : Below w3.heap.size w3 w4 := by rw [← hW4]; exact (Below.refl w3.heap.size w3).alloc (Nat.le_refl _) _
  have hy4 : Has w4 w3.heap.size 25 (bv (fun _ => (0 : UInt8))) 32 := by rw [← hW4]; exact Has.new w3 25 _ 32 _ rfl
  rw [← zero32'] at hW4
  have hz4 := hy4.row _ (bv (fun _ => (0 : UInt8))) rfl
  have hb4 := below_setRow hb4 (Nat.le_refl _) (tabv (bv (fun _ => (0 : UInt8))) 32)
  have HY := hide hy4
  generalize hW5 : w4.setRow w3.heap.size (tabv (bv (fun _ => (0 : UInt8))) 32) = w5 at hz4 hb4
  have d0 := (hb4.cell (p := ⟨w.heap.size, 0, none⟩) g0.lt).trans c0
  have d1 := (hb4.cell (p := ⟨w.heap.size, 1, none⟩) g0.lt).trans c1
  have d2 := (hb4.cell (p := ⟨w.heap.size, 2, none⟩) g0.lt).trans c2
  have d35 := (hb4.cell (p := ⟨w.heap.size, 35, none⟩) g0.lt).trans c35
  have HZ := hide hz4
  have HB := hide (g0.at_hash.below hb4 g0.lt)
  have gb := gb.trans (hb4.mono gb.size)
  clear c0 c1 c2 c35 hz4 hb4 HA hy4
  have hq : ∀ w : World, (Op.equalIn 10000 25 (.agg (tabv (bv u.hash) 32)) (.agg (tabv (bv (fun _ => (0 : UInt8))) 32))).run Tryz.prog w = .ok true w := fun w => by rw [← zh]; exact eqHD 9998 w _ _
  have gh := guard26
  clear zh
  clear g0
  go_enter Tryz.func62, Tryz.ntmps62
  go_wp2_with (first | refine wpList_storeH rfl _ _ rfl rfl w3.heap.size (fun _ => 0) rfl rfl _ HY.out ?_ | refine wpW_load_at 25 _ rfl w.heap.size 3 (by rfl) (by rfl) _ 32 _ HB.out Tryz.underlying25 rfl info26 ?_ | refine wpW_load_at 25 _ rfl w3.heap.size 0 (by rfl) (by rfl) _ 32 _ (HZ.out.at_ 0 (by omega) (fun i hi => by rw [Nat.zero_add])) Tryz.underlying25 rfl info26 ?_)
  go_ret
  exact ⟨rfl, gb⟩
set_option maxRecDepth 100000 in
set_option maxHeartbeats 1000000 in
theorem rvalid_12 (u : Upd) (w : World) (i0 : decide (u.id < 0) = false) (i1 : decide (2048 ≤ u.id) = false) (k1 : (u.kind == 1) = false) (k2 : (u.kind == 2) = false) (k3 : (u.kind == 3) = true) (a0 : (u.amt == 0) = true) (zh : zeroH u.hash = true) (s6 : decide ((u.note.size : Int) ≤ 64) = true) : Calls Tryz.prog 62 #[.agg (tabv u.v 36)] w fun e w' => e = .returned (.bool true) ∧ Below w.heap.size w w' := by
  obtain ⟨w3, hW⟩ : ∃ w3, w.alloc (.cells (tabv u.v 36) 36) = w3 := ⟨_, rfl⟩
  have g0 : Has w3 w.heap.size 36 u.v 36 := by rw [← hW]; exact Has.new w 36 u.v 36 _ rfl
  have gb : Below w.heap.size w w3 := by rw [← hW]; exact (Below.refl w.heap.size w).alloc (Nat.le_refl _) _
  have c0 : w3.cell? ⟨w.heap.size, 0, none⟩ = some (.int .i64 u.kind) := g0.cell 0 (by omega)
  have c1 : w3.cell? ⟨w.heap.size, 1, none⟩ = some (.int .i64 u.id) := g0.cell 1 (by omega)
  have c2 : w3.cell? ⟨w.heap.size, 2, none⟩ = some (.int .i64 u.amt) := g0.cell 2 (by omega)
  have c35 : w3.cell? ⟨w.heap.size, 35, none⟩ = some (.string u.note) := g0.cell 35 (by omega)
  have HA := hide g0.at_hash
  obtain ⟨w4, hW4⟩ : ∃ w4, w3.alloc (.cells (tabv (bv (fun _ => (0 : UInt8))) 32) 25) = w4 := ⟨_, rfl⟩
  have hb4 : Below w3.heap.size w3 w4 := by rw [← hW4]; exact (Below.refl w3.heap.size w3).alloc (Nat.le_refl _) _
  have hy4 : Has w4 w3.heap.size 25 (bv (fun _ => (0 : UInt8))) 32 := by rw [← hW4]; exact Has.new w3 25 _ 32 _ rfl
  rw [← zero32'] at hW4
  have hz4 := hy4.row _ (bv (fun _ => (0 : UInt8))) rfl
  have hb4 := below_setRow hb4 (Nat.le_refl _) (tabv (bv (fun _ => (0 : UInt8))) 32)
  have HY := hide hy4
  generalize hW5 : w4.setRow w3.heap.size (tabv (bv (fun _ => (0 : UInt8))) 32) = w5 at hz4 hb4
  have d0 := (hb4.cell (p := ⟨w.heap.size, 0, none⟩) g0.lt).trans c0
  have d1 := (hb4.cell (p := ⟨w.heap.size, 1, none⟩) g0.lt).trans c1
  have d2 := (hb4.cell (p := ⟨w.heap.size, 2, none⟩) g0.lt).trans c2
  have d35 := (hb4.cell (p := ⟨w.heap.size, 35, none⟩) g0.lt).trans c35
  have HZ := hide hz4
  have HB := hide (g0.at_hash.below hb4 g0.lt)
  have gb := gb.trans (hb4.mono gb.size)
  clear c0 c1 c2 c35 hz4 hb4 HA hy4
  have hq : ∀ w : World, (Op.equalIn 10000 25 (.agg (tabv (bv u.hash) 32)) (.agg (tabv (bv (fun _ => (0 : UInt8))) 32))).run Tryz.prog w = .ok true w := fun w => by rw [← zh]; exact eqHD 9998 w _ _
  have gh := guard26
  clear zh
  clear g0
  go_enter Tryz.func62, Tryz.ntmps62
  go_wp2_with (first | refine wpList_storeH rfl _ _ rfl rfl w3.heap.size (fun _ => 0) rfl rfl _ HY.out ?_ | refine wpW_load_at 25 _ rfl w.heap.size 3 (by rfl) (by rfl) _ 32 _ HB.out Tryz.underlying25 rfl info26 ?_ | refine wpW_load_at 25 _ rfl w3.heap.size 0 (by rfl) (by rfl) _ 32 _ (HZ.out.at_ 0 (by omega) (fun i hi => by rw [Nat.zero_add])) Tryz.underlying25 rfl info26 ?_)
  go_ret
  exact ⟨rfl, gb⟩
set_option maxRecDepth 100000 in
set_option maxHeartbeats 1000000 in
theorem rvalid_13 (u : Upd) (w : World) (i0 : decide (u.id < 0) = false) (i1 : decide (2048 ≤ u.id) = false) (k1 : (u.kind == 1) = false) (k2 : (u.kind == 2) = false) (k3 : (u.kind == 3) = false) : Calls Tryz.prog 62 #[.agg (tabv u.v 36)] w fun e w' => e = .returned (.bool false) ∧ Below w.heap.size w w' := by
  obtain ⟨w3, hW⟩ : ∃ w3, w.alloc (.cells (tabv u.v 36) 36) = w3 := ⟨_, rfl⟩
  have g0 : Has w3 w.heap.size 36 u.v 36 := by rw [← hW]; exact Has.new w 36 u.v 36 _ rfl
  have gb : Below w.heap.size w w3 := by rw [← hW]; exact (Below.refl w.heap.size w).alloc (Nat.le_refl _) _
  have c0 : w3.cell? ⟨w.heap.size, 0, none⟩ = some (.int .i64 u.kind) := g0.cell 0 (by omega)
  have c1 : w3.cell? ⟨w.heap.size, 1, none⟩ = some (.int .i64 u.id) := g0.cell 1 (by omega)
  have c2 : w3.cell? ⟨w.heap.size, 2, none⟩ = some (.int .i64 u.amt) := g0.cell 2 (by omega)
  have c35 : w3.cell? ⟨w.heap.size, 35, none⟩ = some (.string u.note) := g0.cell 35 (by omega)
  have HA := hide g0.at_hash
  obtain ⟨w4, hW4⟩ : ∃ w4, w3.alloc (.cells (tabv (bv (fun _ => (0 : UInt8))) 32) 25) = w4 := ⟨_, rfl⟩
  have hb4 : Below w3.heap.size w3 w4 := by rw [← hW4]; exact (Below.refl w3.heap.size w3).alloc (Nat.le_refl _) _
  have hy4 : Has w4 w3.heap.size 25 (bv (fun _ => (0 : UInt8))) 32 := by rw [← hW4]; exact Has.new w3 25 _ 32 _ rfl
  rw [← zero32'] at hW4
  have hz4 := hy4.row _ (bv (fun _ => (0 : UInt8))) rfl
  have hb4 := below_setRow hb4 (Nat.le_refl _) (tabv (bv (fun _ => (0 : UInt8))) 32)
  have HY := hide hy4
  generalize hW5 : w4.setRow w3.heap.size (tabv (bv (fun _ => (0 : UInt8))) 32) = w5 at hz4 hb4
  have d0 := (hb4.cell (p := ⟨w.heap.size, 0, none⟩) g0.lt).trans c0
  have d1 := (hb4.cell (p := ⟨w.heap.size, 1, none⟩) g0.lt).trans c1
  have d2 := (hb4.cell (p := ⟨w.heap.size, 2, none⟩) g0.lt).trans c2
  have d35 := (hb4.cell (p := ⟨w.heap.size, 35, none⟩) g0.lt).trans c35
  have HZ := hide hz4
  have HB := hide (g0.at_hash.below hb4 g0.lt)
  have gb := gb.trans (hb4.mono gb.size)
  clear c0 c1 c2 c35 hz4 hb4 HA hy4
  clear g0
  go_enter Tryz.func62, Tryz.ntmps62
  go_wp2_with (first | refine wpList_storeH rfl _ _ rfl rfl w3.heap.size (fun _ => 0) rfl rfl _ HY.out ?_)
  go_ret
  exact ⟨rfl, gb⟩
theorem rvalid_any (u : Upd) (w : World) : Calls Tryz.prog 62 #[.agg (tabv u.v 36)] w fun e w' => e = .returned (.bool (validB u)) ∧ Below w.heap.size w w' := by
  cases i0 : decide (u.id < 0) with
  | false =>
    cases i1 : decide (2048 ≤ u.id) with
    | false =>
      cases k1 : (u.kind == 1) with
      | false =>
        cases k2 : (u.kind == 2) with
        | false =>
          cases k3 : (u.kind == 3) with
          | false =>
            rw [show validB u = false by unfold validB; simp [i0, i1, k1, k2, k3]]
            exact rvalid_13 u w i0 i1 k1 k2 k3
          | true =>
            cases a0 : (u.amt == 0) with
            | false =>
              rw [show validB u = false by unfold validB; simp [i0, i1, k1, k2, k3, a0]]
              exact rvalid_9 u w i0 i1 k1 k2 k3 a0
            | true =>
              cases zh : zeroH u.hash with
              | false =>
                rw [show validB u = false by unfold validB; simp [i0, i1, k1, k2, k3, a0, zh]]
                exact rvalid_10 u w i0 i1 k1 k2 k3 a0 zh
              | true =>
                cases s6 : decide ((u.note.size : Int) ≤ 64) with
                | false =>
                  rw [show validB u = false by unfold validB; simp [i0, i1, k1, k2, k3, a0, zh, s6]]
                  exact rvalid_11 u w i0 i1 k1 k2 k3 a0 zh s6
                | true =>
                  rw [show validB u = true by unfold validB; simp [i0, i1, k1, k2, k3, a0, zh, s6]]
                  exact rvalid_12 u w i0 i1 k1 k2 k3 a0 zh s6
        | true =>
          cases a0 : (u.amt == 0) with
          | false =>
            rw [show validB u = false by unfold validB; simp [i0, i1, k1, k2, a0]]
            exact rvalid_6 u w i0 i1 k1 k2 a0
          | true =>
            cases ne : noteE u with
            | false =>
              rw [show validB u = false by unfold validB; simp [i0, i1, k1, k2, a0, ne]]
              exact rvalid_7 u w i0 i1 k1 k2 a0 ne
            | true =>
              rw [show validB u = true by unfold validB; simp [i0, i1, k1, k2, a0, ne]]
              exact rvalid_8 u w i0 i1 k1 k2 a0 ne
      | true =>
        cases a1 : decide (1 ≤ u.amt) with
        | false =>
          rw [show validB u = false by unfold validB; simp [i0, i1, k1, a1]]
          exact rvalid_2 u w i0 i1 k1 a1
        | true =>
          cases a2 : decide (u.amt ≤ 1152921504606846976) with
          | false =>
            rw [show validB u = false by unfold validB; simp [i0, i1, k1, a1, a2]]
            exact rvalid_3 u w i0 i1 k1 a1 a2
          | true =>
            cases ne : noteE u with
            | false =>
              rw [show validB u = false by unfold validB; simp [i0, i1, k1, a1, a2, ne]]
              exact rvalid_4 u w i0 i1 k1 a1 a2 ne
            | true =>
              rw [show validB u = true by unfold validB; simp [i0, i1, k1, a1, a2, ne]]
              exact rvalid_5 u w i0 i1 k1 a1 a2 ne
    | true =>
      rw [show validB u = false by unfold validB; simp [i0, i1]]
      exact rvalid_1 u w i0 i1
  | true =>
    rw [show validB u = false by unfold validB; simp [i0]]
    exact rvalid_0 u w i0
end Go.Proofs.YtlohfoggcdaeiaaGreat
