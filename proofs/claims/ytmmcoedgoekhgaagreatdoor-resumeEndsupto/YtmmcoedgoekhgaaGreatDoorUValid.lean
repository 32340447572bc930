/-
  Which updates are valid (printed by gen_valid.py).
-/
import Derived.Test.YtmmcoedgoekhgaaGreatDoorUBase
namespace Go.Proofs.YtmmcoedgoekhgaaGreatDoor
set_option maxRecDepth 20000
open Go.RowKit S
set_option linter.unusedVariables false
set_option linter.unusedSimpArgs false
def noteE (u : Upd) : Bool := u.note.toList.isEmpty
def zeroH (h : Nat → UInt8) : Bool := eqH h (fun _ => 0)
def validB (u : Upd) : Bool :=
  !(decide (u.id < 0) || decide (2048 ≤ u.id)) &&
  (if (u.kind == 1) = true then (decide (1 ≤ u.amt) && decide (u.amt ≤ 1152921504606846976)) && noteE u
   else if (u.kind == 2) = true then (u.amt == 0) && noteE u
   else if (u.kind == 3) = true then ((u.amt == 0) && zeroH u.hash) && decide ((u.note.size : Int) ≤ 64) else false)
theorem zero32' : (#[.int .u8 0, .int .u8 0, .int .u8 0, .int .u8 0, .int .u8 0, .int .u8 0, .int .u8 0, .int .u8 0, .int .u8 0, .int .u8 0, .int .u8 0, .int .u8 0, .int .u8 0, .int .u8 0, .int .u8 0, .int .u8 0, .int .u8 0, .int .u8 0, .int .u8 0, .int .u8 0, .int .u8 0, .int .u8 0, .int .u8 0, .int .u8 0, .int .u8 0, .int .u8 0, .int .u8 0, .int .u8 0, .int .u8 0, .int .u8 0, .int .u8 0, .int .u8 0] : Array Value) = tabv (bv (fun _ => (0 : UInt8))) 32 := rfl
section
variable {ops : Array Oper} {rest : List Oper} {o : Oper} {a : Act} {w : World} {Q : Exit → Act → World → Prop}
theorem wpList_storeH (hgd : o.guard = none) (x y : Operand) (ho : o.op = .store 23 x y) (hd : o.dst = none) (g : Nat) (h : Nat → UInt8) (hx : a.eval x = .pointer (some ⟨g, 0, none⟩)) (hy : a.eval y = .agg (tabv (bv h) 32)) (f : Nat → Value) (hg : Has w g 23 f 32)
    (hk : wpList Tryz.prog ops Q rest a (w.setRow g (tabv (bv h) 32))) : wpList Tryz.prog ops Q (o :: rest) a w :=
  wpList_store_part hgd 23 x y ho hd g 0 (bv h) 32 hx hy 23 f 32 hg (by omega) info26 (fun i _ => rfl) (bv h) (fun i hi => by unfold splice; rw [if_pos (by omega), Nat.sub_zero]) hk
end
theorem Has.at_hash {w : World} {g : Nat} {u : Upd} (h : Has w g 34 u.v 36) : At w g 3 (bv u.hash) 32 := fun j hj => by rw [h.cell (3 + j) (by omega), Upd.v_hash u j hj]
set_option maxRecDepth 100000 in
set_option maxHeartbeats 1000000 in
theorem valid_0 (u : Upd) (w : World) (i0 : decide (u.id < 0) = true) : Calls Tryz.prog 104 #[.agg (tabv u.v 36)] w fun e w' => e = .returned (.bool false) ∧ Below w.heap.size w w' := by
  obtain ⟨w3, hW⟩ : ∃ w3, w.alloc (.cells (tabv u.v 36) 34) = w3 := ⟨_, rfl⟩
  have g0 : Has w3 w.heap.size 34 u.v 36 := by rw [← hW]; exact Has.new w 34 u.v 36 _ rfl
  have gb : Below w.heap.size w w3 := by rw [← hW]; exact (Below.refl w.heap.size w).alloc (Nat.le_refl _) _
  have c0 : w3.cell? ⟨w.heap.size, 0, none⟩ = some (.int .i64 u.kind) := g0.cell 0 (by omega)
  have c1 : w3.cell? ⟨w.heap.size, 1, none⟩ = some (.int .i64 u.id) := g0.cell 1 (by omega)
  have c2 : w3.cell? ⟨w.heap.size, 2, none⟩ = some (.int .i64 u.amt) := g0.cell 2 (by omega)
  have c35 : w3.cell? ⟨w.heap.size, 35, none⟩ = some (.string u.note) := g0.cell 35 (by omega)
  have HA := hide g0.at_hash
  clear g0
  go_enter Tryz.func104, Tryz.ntmps104
  go_wp2
  go_ret
  exact ⟨rfl, gb⟩
set_option maxRecDepth 100000 in
set_option maxHeartbeats 1000000 in
theorem valid_1 (u : Upd) (w : World) (i0 : decide (u.id < 0) = false) (i1 : decide (2048 ≤ u.id) = true) : Calls Tryz.prog 104 #[.agg (tabv u.v 36)] w fun e w' => e = .returned (.bool false) ∧ Below w.heap.size w w' := by
  obtain ⟨w3, hW⟩ : ∃ w3, w.alloc (.cells (tabv u.v 36) 34) = w3 := ⟨_, rfl⟩
  have g0 : Has w3 w.heap.size 34 u.v 36 := by rw [← hW]; exact Has.new w 34 u.v 36 _ rfl
  have gb : Below w.heap.size w w3 := by rw [← hW]; exact (Below.refl w.heap.size w).alloc (Nat.le_refl _) _
  have c0 : w3.cell? ⟨w.heap.size, 0, none⟩ = some (.int .i64 u.kind) := g0.cell 0 (by omega)
  have c1 : w3.cell? ⟨w.heap.size, 1, none⟩ = some (.int .i64 u.id) := g0.cell 1 (by omega)
  have c2 : w3.cell? ⟨w.heap.size, 2, none⟩ = some (.int .i64 u.amt) := g0.cell 2 (by omega)
  have c35 : w3.cell? ⟨w.heap.size, 35, none⟩ = some (.string u.note) := g0.cell 35 (by omega)
  have HA := hide g0.at_hash
  clear g0
  go_enter Tryz.func104, Tryz.ntmps104
  go_wp2
  go_ret
  exact ⟨rfl, gb⟩
set_option maxRecDepth 100000 in
set_option maxHeartbeats 1000000 in
theorem valid_2 (u : Upd) (w : World) (i0 : decide (u.id < 0) = false) (i1 : decide (2048 ≤ u.id) = false) (k1 : (u.kind == 1) = true) (a1 : decide (1 ≤ u.amt) = false) : Calls Tryz.prog 104 #[.agg (tabv u.v 36)] w fun e w' => e = .returned (.bool false) ∧ Below w.heap.size w w' := by
  obtain ⟨w3, hW⟩ : ∃ w3, w.alloc (.cells (tabv u.v 36) 34) = w3 := ⟨_, rfl⟩
  have g0 : Has w3 w.heap.size 34 u.v 36 := by rw [← hW]; exact Has.new w 34 u.v 36 _ rfl
  have gb : Below w.heap.size w w3 := by rw [← hW]; exact (Below.refl w.heap.size w).alloc (Nat.le_refl _) _
  have c0 : w3.cell? ⟨w.heap.size, 0, none⟩ = some (.int .i64 u.kind) := g0.cell 0 (by omega)
  have c1 : w3.cell? ⟨w.heap.size, 1, none⟩ = some (.int .i64 u.id) := g0.cell 1 (by omega)
  have c2 : w3.cell? ⟨w.heap.size, 2, none⟩ = some (.int .i64 u.amt) := g0.cell 2 (by omega)
  have c35 : w3.cell? ⟨w.heap.size, 35, none⟩ = some (.string u.note) := g0.cell 35 (by omega)
  have HA := hide g0.at_hash
  clear g0
  go_enter Tryz.func104, Tryz.ntmps104
  go_wp2
  go_ret
  exact ⟨rfl, gb⟩
set_option maxRecDepth 100000 in
set_option maxHeartbeats 1000000 in
theorem valid_3 (u : Upd) (w : World) (i0 : decide (u.id < 0) = false) (i1 : decide (2048 ≤ u.id) = false) (k1 : (u.kind == 1) = true) (a1 : decide (1 ≤ u.amt) = true) (a2 : decide (u.amt ≤ 1152921504606846976) = false) : Calls Tryz.prog 104 #[.agg (tabv u.v 36)] w fun e w' => e = .returned (.bool false) ∧ Below w.heap.size w w' := by
  obtain ⟨w3, hW⟩ : ∃ w3, w.alloc (.cells (tabv u.v 36) 34) = w3 := ⟨_, rfl⟩
  have g0 : Has w3 w.heap.size 34 u.v 36 := by rw [← hW]; exact Has.new w 34 u.v 36 _ rfl
  have gb : Below w.heap.size w w3 := by rw [← hW]; exact (Below.refl w.heap.size w).alloc (Nat.le_refl _) _
  have c0 : w3.cell? ⟨w.heap.size, 0, none⟩ = some (.int .i64 u.kind) := g0.cell 0 (by omega)
  have c1 : w3.cell? ⟨w.heap.size, 1, none⟩ = some (.int .i64 u.id) := g0.cell 1 (by omega)
  have c2 : w3.cell? ⟨w.heap.size, 2, none⟩ = some (.int .i64 u.amt) := g0.cell 2 (by omega)
  have c35 : w3.cell? ⟨w.heap.size, 35, none⟩ = some (.string u.note) := g0.cell 35 (by omega)
  have HA := hide g0.at_hash
  clear g0
  go_enter Tryz.func104, Tryz.ntmps104
  go_wp2
  go_ret
  exact ⟨rfl, gb⟩
set_option maxRecDepth 100000 in
set_option maxHeartbeats 1000000 in
theorem valid_4 (u : Upd) (w : World) (i0 : decide (u.id < 0) = false) (i1 : decide (2048 ≤ u.id) = false) (k1 : (u.kind == 1) = true) (a1 : decide (1 ≤ u.amt) = true) (a2 : decide (u.amt ≤ 1152921504606846976) = true) (ne : noteE u = false) : Calls Tryz.prog 104 #[.agg (tabv u.v 36)] w fun e w' => e = .returned (.bool false) ∧ Below w.heap.size w w' := by
  obtain ⟨w3, hW⟩ : ∃ w3, w.alloc (.cells (tabv u.v 36) 34) = w3 := ⟨_, rfl⟩
  have g0 : Has w3 w.heap.size 34 u.v 36 := by rw [← hW]; exact Has.new w 34 u.v 36 _ rfl
  have gb : Below w.heap.size w w3 := by rw [← hW]; exact (Below.refl w.heap.size w).alloc (Nat.le_refl _) _
  have c0 : w3.cell? ⟨w.heap.size, 0, none⟩ = some (.int .i64 u.kind) := g0.cell 0 (by omega)
  have c1 : w3.cell? ⟨w.heap.size, 1, none⟩ = some (.int .i64 u.id) := g0.cell 1 (by omega)
  have c2 : w3.cell? ⟨w.heap.size, 2, none⟩ = some (.int .i64 u.amt) := g0.cell 2 (by omega)
  have c35 : w3.cell? ⟨w.heap.size, 35, none⟩ = some (.string u.note) := g0.cell 35 (by omega)
  have HA := hide g0.at_hash
  unfold noteE at ne
  clear g0
  go_enter Tryz.func104, Tryz.ntmps104
  go_wp2
  go_ret
  exact ⟨rfl, gb⟩
set_option maxRecDepth 100000 in
set_option maxHeartbeats 1000000 in
theorem valid_5 (u : Upd) (w : World) (i0 : decide (u.id < 0) = false) (i1 : decide (2048 ≤ u.id) = false) (k1 : (u.kind == 1) = true) (a1 : decide (1 ≤ u.amt) = true) (a2 : decide (u.amt ≤ 1152921504606846976) = true) (ne : noteE u = true) : Calls Tryz.prog 104 #[.agg (tabv u.v 36)] w fun e w' => e = .returned (.bool true) ∧ Below w.heap.size w w' := by
  obtain ⟨w3, hW⟩ : ∃ w3, w.alloc (.cells (tabv u.v 36) 34) = w3 := ⟨_, rfl⟩
  have g0 : Has w3 w.heap.size 34 u.v 36 := by rw [← hW]; exact Has.new w 34 u.v 36 _ rfl
  have gb : Below w.heap.size w w3 := by rw [← hW]; exact (Below.refl w.heap.size w).alloc (Nat.le_refl _) _
  have c0 : w3.cell? ⟨w.heap.size, 0, none⟩ = some (.int .i64 u.kind) := g0.cell 0 (by omega)
  have c1 : w3.cell? ⟨w.heap.size, 1, none⟩ = some (.int .i64 u.id) := g0.cell 1 (by omega)
  have c2 : w3.cell? ⟨w.heap.size, 2, none⟩ = some (.int .i64 u.amt) := g0.cell 2 (by omega)
  have c35 : w3.cell? ⟨w.heap.size, 35, none⟩ = some (.string u.note) := g0.cell 35 (by omega)
  have HA := hide g0.at_hash
  unfold noteE at ne
  clear g0
  go_enter Tryz.func104, Tryz.ntmps104
  go_wp2
  go_ret
  exact ⟨rfl, gb⟩
set_option maxRecDepth 100000 in
set_option maxHeartbeats 1000000 in
theorem valid_6 (u : Upd) (w : World) (i0 : decide (u.id < 0) = false) (i1 : decide (2048 ≤ u.id) = false) (k1 : (u.kind == 1) = false) (k2 : (u.kind == 2) = true) (a0 : (u.amt == 0) = false) : Calls Tryz.prog 104 #[.agg (tabv u.v 36)] w fun e w' => e = .returned (.bool false) ∧ Below w.heap.size w w' := by
  obtain ⟨w3, hW⟩ : ∃ w3, w.alloc (.cells (tabv u.v 36) 34) = w3 := ⟨_, rfl⟩
  have g0 : Has w3 w.heap.size 34 u.v 36 := by rw [← hW]; exact Has.new w 34 u.v 36 _ rfl
  have gb : Below w.heap.size w w3 := by rw [← hW]; exact (Below.refl w.heap.size w).alloc (Nat.le_refl _) _
  have c0 : w3.cell? ⟨w.heap.size, 0, none⟩ = some (.int .i64 u.kind) := g0.cell 0 (by omega)
  have c1 : w3.cell? ⟨w.heap.size, 1, none⟩ = some (.int .i64 u.id) := g0.cell 1 (by omega)
  have c2 : w3.cell? ⟨w.heap.size, 2, none⟩ = some (.int .i64 u.amt) := g0.cell 2 (by omega)
  have c35 : w3.cell? ⟨w.heap.size, 35, none⟩ = some (.string u.note) := g0.cell 35 (by omega)
  have HA := hide g0.at_hash
  clear g0
  go_enter Tryz.func104, Tryz.ntmps104
  go_wp2
  go_ret
  exact ⟨rfl, gb⟩
set_option maxRecDepth 100000 in
set_option maxHeartbeats 1000000 in
theorem valid_7 (u : Upd) (w : World) (i0 : decide (u.id < 0) = false) (i1 : decide (2048 ≤ u.id) = false) (k1 : (u.kind == 1) = false) (k2 : (u.kind == 2) = true) (a0 : (u.amt == 0) = true) (ne : noteE u = false) : Calls Tryz.prog 104 #[.agg (tabv u.v 36)] w fun e w' => e = .returned (.bool false) ∧ Below w.heap.size w w' := by
  obtain ⟨w3, hW⟩ : ∃ w3, w.alloc (.cells (tabv u.v 36) 34) = w3 := ⟨_, rfl⟩
  have g0 : Has w3 w.heap.size 34 u.v 36 := by rw [← hW]; exact Has.new w 34 u.v 36 _ rfl
  have gb : Below w.heap.size w w3 := by rw [← hW]; exact (Below.refl w.heap.size w).alloc (Nat.le_refl _) _
  have c0 : w3.cell? ⟨w.heap.size, 0, none⟩ = some (.int .i64 u.kind) := g0.cell 0 (by omega)
  have c1 : w3.cell? ⟨w.heap.size, 1, none⟩ = some (.int .i64 u.id) := g0.cell 1 (by omega)
  have c2 : w3.cell? ⟨w.heap.size, 2, none⟩ = some (.int .i64 u.amt) := g0.cell 2 (by omega)
  have c35 : w3.cell? ⟨w.heap.size, 35, none⟩ = some (.string u.note) := g0.cell 35 (by omega)
  have HA := hide g0.at_hash
  unfold noteE at ne
  clear g0
  go_enter Tryz.func104, Tryz.ntmps104
  go_wp2
  go_ret
  exact ⟨rfl, gb⟩
set_option maxRecDepth 100000 in
set_option maxHeartbeats 1000000 in
theorem valid_8 (u : Upd) (w : World) (i0 : decide (u.id < 0) = false) (i1 : decide (2048 ≤ u.id) = false) (k1 : (u.kind == 1) = false) (k2 : (u.kind == 2) = true) (a0 : (u.amt == 0) = true) (ne : noteE u = true) : Calls Tryz.prog 104 #[.agg (tabv u.v 36)] w fun e w' => e = .returned (.bool true) ∧ Below w.heap.size w w' := by
  obtain ⟨w3, hW⟩ : ∃ w3, w.alloc (.cells (tabv u.v 36) 34) = w3 := ⟨_, rfl⟩
  have g0 : Has w3 w.heap.size 34 u.v 36 := by rw [← hW]; exact Has.new w 34 u.v 36 _ rfl
  have gb : Below w.heap.size w w3 := by rw [← hW]; exact (Below.refl w.heap.size w).alloc (Nat.le_refl _) _
  have c0 : w3.cell? ⟨w.heap.size, 0, none⟩ = some (.int .i64 u.kind) := g0.cell 0 (by omega)
  have c1 : w3.cell? ⟨w.heap.size, 1, none⟩ = some (.int .i64 u.id) := g0.cell 1 (by omega)
  have c2 : w3.cell? ⟨w.heap.size, 2, none⟩ = some (.int .i64 u.amt) := g0.cell 2 (by omega)
  have c35 : w3.cell? ⟨w.heap.size, 35, none⟩ = some (.string u.note) := g0.cell 35 (by omega)
  have HA := hide g0.at_hash
  unfold noteE at ne
  clear g0
  go_enter Tryz.func104, Tryz.ntmps104
  go_wp2
  go_ret
  exact ⟨rfl, gb⟩
set_option maxRecDepth 100000 in
set_option maxHeartbeats 1000000 in
theorem valid_9 (u : Upd) (w : World) (i0 : decide (u.id < 0) = false) (i1 : decide (2048 ≤ u.id) = false) (k1 : (u.kind == 1) = false) (k2 : (u.kind == 2) = false) (k3 : (u.kind == 3) = true) (a0 : (u.amt == 0) = false) : Calls Tryz.prog 104 #[.agg (tabv u.v 36)] w fun e w' => e = .returned (.bool false) ∧ Below w.heap.size w w' := by
  obtain ⟨w3, hW⟩ : ∃ w3, w.alloc (.cells (tabv u.v 36) 34) = w3 := ⟨_, rfl⟩
  have g0 : Has w3 w.heap.size 34 u.v 36 := by rw [← hW]; exact Has.new w 34 u.v 36 _ rfl
  have gb : Below w.heap.size w w3 := by rw [← hW]; exact (Below.refl w.heap.size w).alloc (Nat.le_refl _) _
  have c0 : w3.cell? ⟨w.heap.size, 0, none⟩ = some (.int .i64 u.kind) := g0.cell 0 (by omega)
  have c1 : w3.cell? ⟨w.heap.size, 1, none⟩ = some (.int .i64 u.id) := g0.cell 1 (by omega)
  have c2 : w3.cell? ⟨w.heap.size, 2, none⟩ = some (.int .i64 u.amt) := g0.cell 2 (by omega)
  have c35 : w3.cell? ⟨w.heap.size, 35, none⟩ = some (.string u.note) := g0.cell 35 (by omega)
  have HA := hide g0.at_hash
  clear g0
  go_enter Tryz.func104, Tryz.ntmps104
  go_wp2
  go_ret
  exact ⟨rfl, gb⟩
set_option maxRecDepth 100000 in
set_option maxHeartbeats 1000000 in
theorem valid_10 (u : Upd) (w : World) (i0 : decide (u.id < 0) = false) (i1 : decide (2048 ≤ u.id) = false) (k1 : (u.kind == 1) = false) (k2 : (u.kind == 2) = false) (k3 : (u.kind == 3) = true) (a0 : (u.amt == 0) = true) (zh : zeroH u.hash = false) : Calls Tryz.prog 104 #[.agg (tabv u.v 36)] w fun e w' => e = .returned (.bool false) ∧ Below w.heap.size w w' := by
  obtain ⟨w3, hW⟩ : ∃ w3, w.alloc (.cells (tabv u.v 36) 34) = w3 := ⟨_, rfl⟩
  have g0 : Has w3 w.heap.size 34 u.v 36 := by rw [← hW]; exact Has.new w 34 u.v 36 _ rfl
  have gb : Below w.heap.size w w3 := by rw [← hW]; exact (Below.refl w.heap.size w).alloc (Nat.le_refl _) _
  have c0 : w3.cell? ⟨w.heap.size, 0, none⟩ = some (.int .i64 u.kind) := g0.cell 0 (by omega)
  have c1 : w3.cell? ⟨w.heap.size, 1, none⟩ = some (.int .i64 u.id) := g0.cell 1 (by omega)
  have c2 : w3.cell? ⟨w.heap.size, 2, none⟩ = some (.int .i64 u.amt) := g0.cell 2 (by omega)
  have c35 : w3.cell? ⟨w.heap.size, 35, none⟩ = some (.string u.note) := g0.cell 35 (by omega)
  have HA := hide g0.at_hash
  have hq : ∀ w : World, (Op.equalIn 10000 23 (.agg (tabv (bv u.hash) 32)) (.agg (tabv (bv (fun _ => (0 : UInt8))) 32))).run Tryz.prog w = .ok false w := fun w => by rw [← zh]; exact eqHD 9998 w _ _
  rw [← zero32'] at hq
  have gh := guard26
  clear zh
  clear g0
  go_enter Tryz.func104, Tryz.ntmps104
  go_wp2_with (first | refine wpW_load_at 23 _ rfl w.heap.size 3 (by rfl) (by rfl) _ 32 _ HA.out Tryz.underlying23 rfl info26 ?_)
  go_ret
  exact ⟨rfl, gb⟩
set_option maxRecDepth 100000 in
set_option maxHeartbeats 1000000 in
theorem valid_11 (u : Upd) (w : World) (i0 : decide (u.id < 0) = false) (i1 : decide (2048 ≤ u.id) = false) (k1 : (u.kind == 1) = false) (k2 : (u.kind == 2) = false) (k3 : (u.kind == 3) = true) (a0 : (u.amt == 0) = true) (zh : zeroH u.hash = true) (s6 : decide ((u.note.size : Int) ≤ 64) = false) : Calls Tryz.prog 104 #[.agg (tabv u.v 36)] w fun e w' => e = .returned (.bool false) ∧ Below w.heap.size w w' := by
  obtain ⟨w3, hW⟩ : ∃ w3, w.alloc (.cells (tabv u.v 36) 34) = w3 := ⟨_, rfl⟩
  have g0 : Has w3 w.heap.size 34 u.v 36 := by rw [← hW]; exact Has.new w 34 u.v 36 _ rfl
  have gb : Below w.heap.size w w3 := by rw [← hW]; exact (Below.refl w.heap.size w).alloc (Nat.le_refl _) _
  have c0 : w3.cell? ⟨w.heap.size, 0, none⟩ = some (.int .i64 u.kind) := g0.cell 0 (by omega)
  have c1 : w3.cell? ⟨w.heap.size, 1, none⟩ = some (.int .i64 u.id) := g0.cell 1 (by omega)
  have c2 : w3.cell? ⟨w.heap.size, 2, none⟩ = some (.int .i64 u.amt) := g0.cell 2 (by omega)
  have c35 : w3.cell? ⟨w.heap.size, 35, none⟩ = some (.string u.note) := g0.cell 35 (by omega)
  have HA := hide g0.at_hash
  have hq : ∀ w : World, (Op.equalIn 10000 23 (.agg (tabv (bv u.hash) 32)) (.agg (tabv (bv (fun _ => (0 : UInt8))) 32))).run Tryz.prog w = .ok true w := fun w => by rw [← zh]; exact eqHD 9998 w _ _
  rw [← zero32'] at hq
  have gh := guard26
  clear zh
  clear g0
  go_enter Tryz.func104, Tryz.ntmps104
  go_wp2_with (first | refine wpW_load_at 23 _ rfl w.heap.size 3 (by rfl) (by rfl) _ 32 _ HA.out Tryz.underlying23 rfl info26 ?_)
  go_ret
  exact ⟨rfl, gb⟩
set_option maxRecDepth 100000 in
set_option maxHeartbeats 1000000 in
theorem valid_12 (u : Upd) (w : World) (i0 : decide (u.id < 0) = false) (i1 : decide (2048 ≤ u.id) = false) (k1 : (u.kind == 1) = false) (k2 : (u.kind == 2) = false) (k3 : (u.kind == 3) = true) (a0 : (u.amt == 0) = true) (zh : zeroH u.hash = true) (s6 : decide ((u.note.size : Int) ≤ 64) = true) : Calls Tryz.prog 104 #[.agg (tabv u.v 36)] w fun e w' => e = .returned (.bool true) ∧ Below w.heap.size w w' := by
  obtain ⟨w3, hW⟩ : ∃ w3, w.alloc (.cells (tabv u.v 36) 34) = w3 := ⟨_, rfl⟩
  have g0 : Has w3 w.heap.size 34 u.v 36 := by rw [← hW]; exact Has.new w 34 u.v 36 _ rfl
  have gb : Below w.heap.size w w3 := by rw [← hW]; exact (Below.refl w.heap.size w).alloc (Nat.le_refl _) _
  have c0 : w3.cell? ⟨w.heap.size, 0, none⟩ = some (.int .i64 u.kind) := g0.cell 0 (by omega)
  have c1 : w3.cell? ⟨w.heap.size, 1, none⟩ = some (.int .i64 u.id) := g0.cell 1 (by omega)
  have c2 : w3.cell? ⟨w.heap.size, 2, none⟩ = some (.int .i64 u.amt) := g0.cell 2 (by omega)
  have c35 : w3.cell? ⟨w.heap.size, 35, none⟩ = some (.string u.note) := g0.cell 35 (by omega)
  have HA := hide g0.at_hash
  have hq : ∀ w : World, (Op.equalIn 10000 23 (.agg (tabv (bv u.hash) 32)) (.agg (tabv (bv (fun _ => (0 : UInt8))) 32))).run Tryz.prog w = .ok true w := fun w => by rw [← zh]; exact eqHD 9998 w _ _
  rw [← zero32'] at hq
  have gh := guard26
  clear zh
  clear g0
  go_enter Tryz.func104, Tryz.ntmps104
  go_wp2_with (first | refine wpW_load_at 23 _ rfl w.heap.size 3 (by rfl) (by rfl) _ 32 _ HA.out Tryz.underlying23 rfl info26 ?_)
  go_ret
  exact ⟨rfl, gb⟩
set_option maxRecDepth 100000 in
set_option maxHeartbeats 1000000 in
theorem valid_13 (u : Upd) (w : World) (i0 : decide (u.id < 0) = false) (i1 : decide (2048 ≤ u.id) = false) (k1 : (u.kind == 1) = false) (k2 : (u.kind == 2) = false) (k3 : (u.kind == 3) = false) : Calls Tryz.prog 104 #[.agg (tabv u.v 36)] w fun e w' => e = .returned (.bool false) ∧ Below w.heap.size w w' := by
  obtain ⟨w3, hW⟩ : ∃ w3, w.alloc (.cells (tabv u.v 36) 34) = w3 := ⟨_, rfl⟩
  have g0 : Has w3 w.heap.size 34 u.v 36 := by rw [← hW]; exact Has.new w 34 u.v 36 _ rfl
  have gb : Below w.heap.size w w3 := by rw [← hW]; exact (Below.refl w.heap.size w).alloc (Nat.le_refl _) _
  have c0 : w3.cell? ⟨w.heap.size, 0, none⟩ = some (.int .i64 u.kind) := g0.cell 0 (by omega)
  have c1 : w3.cell? ⟨w.heap.size, 1, none⟩ = some (.int .i64 u.id) := g0.cell 1 (by omega)
  have c2 : w3.cell? ⟨w.heap.size, 2, none⟩ = some (.int .i64 u.amt) := g0.cell 2 (by omega)
  have c35 : w3.cell? ⟨w.heap.size, 35, none⟩ = some (.string u.note) := g0.cell 35 (by omega)
  have HA := hide g0.at_hash
  clear g0
  go_enter Tryz.func104, Tryz.ntmps104
  go_wp2
  go_ret
  exact ⟨rfl, gb⟩
theorem valid_any (u : Upd) (w : World) : Calls Tryz.prog 104 #[.agg (tabv u.v 36)] w fun e w' => e = .returned (.bool (validB u)) ∧ Below w.heap.size w w' := by
  cases i0 : decide (u.id < 0) with
  | false =>
    cases i1 : decide (2048 ≤ u.id) with
    | false =>
      cases k1 : (u.kind == 1) with
      | false =>
        cases k2 : (u.kind == 2) with
        | false =>
          cases k3 : (u.kind == 3) with
          | false =>
            rw [show validB u = false by unfold validB; simp [i0, i1, k1, k2, k3]]
            exact valid_13 u w i0 i1 k1 k2 k3
          | true =>
            cases a0 : (u.amt == 0) with
            | false =>
              rw [show validB u = false by unfold validB; simp [i0, i1, k1, k2, k3, a0]]
              exact valid_9 u w i0 i1 k1 k2 k3 a0
            | true =>
              cases zh : zeroH u.hash with
              | false =>
                rw [show validB u = false by unfold validB; simp [i0, i1, k1, k2, k3, a0, zh]]
                exact valid_10 u w i0 i1 k1 k2 k3 a0 zh
              | true =>
                cases s6 : decide ((u.note.size : Int) ≤ 64) with
                | false =>
                  rw [show validB u = false by unfold validB; simp [i0, i1, k1, k2, k3, a0, zh, s6]]
                  exact valid_11 u w i0 i1 k1 k2 k3 a0 zh s6
                | true =>
                  rw [show validB u = true by unfold validB; simp [i0, i1, k1, k2, k3, a0, zh, s6]]
                  exact valid_12 u w i0 i1 k1 k2 k3 a0 zh s6
        | true =>
          cases a0 : (u.amt == 0) with
          | false =>
            rw [show validB u = false by unfold validB; simp [i0, i1, k1, k2, a0]]
            exact valid_6 u w i0 i1 k1 k2 a0
          | true =>
            cases ne : noteE u with
            | false =>
              rw [show validB u = false by unfold validB; simp [i0, i1, k1, k2, a0, ne]]
              exact valid_7 u w i0 i1 k1 k2 a0 ne
            | true =>
              rw [show validB u = true by unfold validB; simp [i0, i1, k1, k2, a0, ne]]
              exact valid_8 u w i0 i1 k1 k2 a0 ne
      | true =>
        cases a1 : decide (1 ≤ u.amt) with
        | false =>
          rw [show validB u = false by unfold validB; simp [i0, i1, k1, a1]]
          exact valid_2 u w i0 i1 k1 a1
        | true =>
          cases a2 : decide (u.amt ≤ 1152921504606846976) with
          | false =>
            rw [show validB u = false by unfold validB; simp [i0, i1, k1, a1, a2]]
            exact valid_3 u w i0 i1 k1 a1 a2
          | true =>
            cases ne : noteE u with
            | false =>
              rw [show validB u = false by unfold validB; simp [i0, i1, k1, a1, a2, ne]]
              exact valid_4 u w i0 i1 k1 a1 a2 ne
            | true =>
              rw [show validB u = true by unfold validB; simp [i0, i1, k1, a1, a2, ne]]
              exact valid_5 u w i0 i1 k1 a1 a2 ne
    | true =>
      rw [show validB u = false by unfold validB; simp [i0, i1]]
      exact valid_1 u w i0 i1
  | true =>
    rw [show validB u = false by unfold validB; simp [i0]]
    exact valid_0 u w i0
end Go.Proofs.YtmmcoedgoekhgaaGreatDoor
