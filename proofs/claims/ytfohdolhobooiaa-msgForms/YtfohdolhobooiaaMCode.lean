/-
  Messages in memory: stores, literals; Of, Update, the index of the code and of the document (printed by gen_m2.py).
-/
import Derived.Test.YtfohdolhobooiaaMMath
import Derived.Test.YtfohdolhobooiaaURow
namespace Go.Proofs.Ytfohdolhobooiaa
open Go.RowKit S
set_option linter.unusedVariables false
set_option linter.unusedSimpArgs false
open Cu (nb be hl ofL CW Mw CR Mr RS takeS takeA hOf nil8 num doneS)
section
variable {ops : Array Oper} {rest : List Oper} {o : Oper} {a : Act} {w : World} {Q : Exit → Act → World → Prop}
theorem wpList_storeM (hgd : o.guard = none) (x y : Operand) (ho : o.op = .store 25 x y) (hd : o.dst = none) (g : Nat) (s : Msg) (hx : a.eval x = .pointer (some ⟨g, 0, none⟩)) (hy : a.eval y = .agg (tabv s.v 70)) (f : Nat → Value) (hg : Has w g 25 f 70)
    (hk : wpList Try.prog ops Q rest a (w.setRow g (tabv s.v 70))) : wpList Try.prog ops Q (o :: rest) a w :=
  wpList_store_part hgd 25 x y ho hd g 0 s.v 70 hx hy 25 f 70 hg (by omega) infoM (fun i _ => oneM s i) s.v (fun i hi => by unfold splice; rw [if_pos (by omega), Nat.sub_zero]) hk
set_option maxRecDepth 100000 in
theorem builtMZ : Try.prog.built 25 [] = some (tabv Msg.zero.v 70) := by kernel_rfl
set_option maxRecDepth 100000 in
theorem builtMK (x : Int) : Try.prog.built 25 [(0, .int .i64 x)] = some (tabv (Msg.v ⟨x, 0, 0, 0, 0, z32, z32, nilB⟩) 70) := by kernel_rfl
set_option maxRecDepth 100000 in
theorem builtMof (u : Upd) : Try.prog.built 25 [(0, .int .i64 u.kind), (1, .int .i64 u.id), (2, .int .i64 u.amt), (5, .agg (tabv (bv u.hash) 32)), (7, .string u.note)] = some (tabv (ofU u).v 70) := by kernel_rfl
set_option maxRecDepth 100000 in
theorem builtUof (m : Msg) : Try.prog.built 34 [(0, .int .i64 m.kind), (1, .int .i64 m.id), (2, .int .i64 m.amt), (3, .agg (tabv (bv m.hash) 32)), (4, .string m.note)] = some (tabv m.upd.v 36) := by kernel_rfl
theorem splice_mhash (m : Msg) (h : Nat → UInt8) (i : Nat) (hi : i < 70) : splice m.v 5 (bv h) 32 i = Msg.v ⟨m.kind, m.id, m.amt, m.idx, m.nxt, h, m.sec, m.note⟩ i := by
  unfold splice
  by_cases e : 5 ≤ i ∧ i < 5 + 32
  · rw [if_pos e]
    have := Msg.v_hash ⟨m.kind, m.id, m.amt, m.idx, m.nxt, h, m.sec, m.note⟩ (i - 5) (by omega)
    rw [show 5 + (i - 5) = i by omega] at this
    exact this.symm
  · rw [if_neg e]
    unfold Msg.v
    by_cases e2 : i < 5
    · rcases (show i = 0 ∨ i = 1 ∨ i = 2 ∨ i = 3 ∨ i = 4 by omega) with rfl | rfl | rfl | rfl | rfl <;> rfl
    · simp only [show ¬(i = 0) by omega, show ¬(i = 1) by omega, show ¬(i = 2) by omega, show ¬(i = 3) by omega, show ¬(i = 4) by omega, show ¬(i < 37) by omega, if_false]
theorem splice_msec (m : Msg) (h : Nat → UInt8) (i : Nat) (hi : i < 70) : splice m.v 37 (bv h) 32 i = Msg.v ⟨m.kind, m.id, m.amt, m.idx, m.nxt, m.hash, h, m.note⟩ i := by
  unfold splice
  by_cases e : 37 ≤ i ∧ i < 37 + 32
  · rw [if_pos e]
    have := Msg.v_sec ⟨m.kind, m.id, m.amt, m.idx, m.nxt, m.hash, h, m.note⟩ (i - 37) (by omega)
    rw [show 37 + (i - 37) = i by omega] at this
    exact this.symm
  · rw [if_neg e]
    unfold Msg.v
    by_cases e2 : i < 37
    · simp only [e2, if_true]
    · simp only [show ¬(i = 0) by omega, show ¬(i = 1) by omega, show ¬(i = 2) by omega, show ¬(i = 3) by omega, show ¬(i = 4) by omega, show ¬(i < 37) by omega, show ¬(i < 69) by omega, if_false]
theorem wpList_storeMH (hgd : o.guard = none) (x y : Operand) (ho : o.op = .store 23 x y) (hd : o.dst = none) (g : Nat) (m : Msg) (h : Nat → UInt8) (hx : a.eval x = .pointer (some ⟨g, 5, none⟩)) (hy : a.eval y = .agg (tabv (bv h) 32)) (hg : Has w g 25 m.v 70)
    (hk : wpList Try.prog ops Q rest a (w.setRow g (tabv (Msg.v ⟨m.kind, m.id, m.amt, m.idx, m.nxt, h, m.sec, m.note⟩) 70))) : wpList Try.prog ops Q (o :: rest) a w :=
  wpList_store_part hgd 23 x y ho hd g 5 (bv h) 32 hx hy 25 m.v 70 hg (by omega) info26 (fun i _ => rfl) _ (splice_mhash m h) hk
theorem wpList_storeMS (hgd : o.guard = none) (x y : Operand) (ho : o.op = .store 23 x y) (hd : o.dst = none) (g : Nat) (m : Msg) (h : Nat → UInt8) (hx : a.eval x = .pointer (some ⟨g, 37, none⟩)) (hy : a.eval y = .agg (tabv (bv h) 32)) (hg : Has w g 25 m.v 70)
    (hk : wpList Try.prog ops Q rest a (w.setRow g (tabv (Msg.v ⟨m.kind, m.id, m.amt, m.idx, m.nxt, m.hash, h, m.note⟩) 70))) : wpList Try.prog ops Q (o :: rest) a w :=
  wpList_store_part hgd 23 x y ho hd g 37 (bv h) 32 hx hy 25 m.v 70 hg (by omega) info26 (fun i _ => rfl) _ (splice_msec m h) hk
end
section
variable {w : World} {g : Nat} {m : Msg}
theorem Has.setIdx (h : Has w g 25 m.v 70) (x : Int) : Has (w.setCell ⟨g, 3, none⟩ (.int .i64 x)) g 25 (Msg.v ⟨m.kind, m.id, m.amt, x, m.nxt, m.hash, m.sec, m.note⟩) 70 :=
  (h.set 3 _).congr _ (fun i hi => by by_cases e : i = 3 <;> simp [upd, Msg.v, e])
theorem Has.setNxt (h : Has w g 25 m.v 70) (x : Int) : Has (w.setCell ⟨g, 4, none⟩ (.int .i64 x)) g 25 (Msg.v ⟨m.kind, m.id, m.amt, m.idx, x, m.hash, m.sec, m.note⟩) 70 :=
  (h.set 4 _).congr _ (fun i hi => by by_cases e : i = 4 <;> simp [upd, Msg.v, e])
theorem Has.atHash (h : Has w g 25 m.v 70) : At w g 5 (bv m.hash) 32 := fun j hj => by rw [h.cell (5 + j) (by omega), Msg.v_hash m j hj]
theorem Has.atSec (h : Has w g 25 m.v 70) : At w g 37 (bv m.sec) 32 := fun j hj => by rw [h.cell (37 + j) (by omega), Msg.v_sec m j hj]
end
theorem zero70 : Try.zeroCells25 = tabv Msg.zero.v 70 := by kernel_rfl
/-- A new variable that takes a message. -/
theorem newM (w5 : World) (s : Msg) : ∃ w6 w7, w5.alloc (.cells Try.zeroCells25 25) = w6 ∧ Has w6 w5.heap.size 25 Msg.zero.v 70 ∧ w6.setRow w5.heap.size (tabv s.v 70) = w7 ∧ Has w7 w5.heap.size 25 s.v 70 ∧ Below w5.heap.size w5 w7 ∧ Below w5.heap.size w5 w6 := by
  have q1 : Has (w5.alloc (.cells (tabv Msg.zero.v 70) 25)) w5.heap.size 25 Msg.zero.v 70 := Has.new w5 25 Msg.zero.v 70 _ rfl
  have b1 : Below w5.heap.size w5 (w5.alloc (.cells (tabv Msg.zero.v 70) 25)) := (Below.refl w5.heap.size w5).alloc (Nat.le_refl _) _
  exact ⟨_, _, by rw [zero70], q1, rfl, q1.row _ s.v rfl, below_setRow b1 (Nat.le_refl _) _, b1⟩
/-- The same of an update, with the world between. -/
theorem newU2 (w5 : World) (s : Upd) : ∃ w6 w7, w5.alloc (.cells #[.int .i64 0, .int .i64 0, .int .i64 0, .int .u8 0, .int .u8 0, .int .u8 0, .int .u8 0, .int .u8 0, .int .u8 0, .int .u8 0, .int .u8 0, .int .u8 0, .int .u8 0, .int .u8 0, .int .u8 0, .int .u8 0, .int .u8 0, .int .u8 0, .int .u8 0, .int .u8 0, .int .u8 0, .int .u8 0, .int .u8 0, .int .u8 0, .int .u8 0, .int .u8 0, .int .u8 0, .int .u8 0, .int .u8 0, .int .u8 0, .int .u8 0, .int .u8 0, .int .u8 0, .int .u8 0, .int .u8 0, .string { data := #[] }] 34) = w6 ∧ Has w6 w5.heap.size 34 Upd.zero.v 36 ∧ w6.setRow w5.heap.size (tabv s.v 36) = w7 ∧ Has w7 w5.heap.size 34 s.v 36 ∧ Below w5.heap.size w5 w7 ∧ Below w5.heap.size w5 w6 := by
  have q1 : Has (w5.alloc (.cells (tabv Upd.zero.v 36) 34)) w5.heap.size 34 Upd.zero.v 36 := Has.new w5 34 Upd.zero.v 36 _ rfl
  have b1 : Below w5.heap.size w5 (w5.alloc (.cells (tabv Upd.zero.v 36) 34)) := (Below.refl w5.heap.size w5).alloc (Nat.le_refl _) _
  exact ⟨_, _, by rw [zero36], q1, rfl, q1.row _ s.v rfl, below_setRow b1 (Nat.le_refl _) _, b1⟩
theorem resMT (w : World) (g : Nat) (f : Nat → Value) (tmps : Array Value) (k : Value) (c t : Nat) (hg : Has w g 25 f 70) (hp : tmps.getD c undef = .pointer (some ⟨g, 0, none⟩)) (hq : tmps.getD t undef = k) (fn : Func) (h : fn.results = #[.cell c 25, .tmp t]) :
    (results fn tmps).run Try.prog w = .ok (.tuple #[.agg (tabv f 70), k]) w := by
  have := run_loadVar_row (P := Try.prog) w g 25 25 (tabv f 70) (0, 0) _ hg Try.underlying25 rfl (by rw [tabv_size]; exact infoM)
  simp only [Array.getD_eq_getD_getElem?] at hp hq
  simp [results, h, hp, hq, asAddr, this]
theorem resUT (w : World) (g : Nat) (f : Nat → Value) (tmps : Array Value) (k : Value) (c t : Nat) (hg : Has w g 34 f 36) (hp : tmps.getD c undef = .pointer (some ⟨g, 0, none⟩)) (hq : tmps.getD t undef = k) (fn : Func) (h : fn.results = #[.cell c 34, .tmp t]) :
    (results fn tmps).run Try.prog w = .ok (.tuple #[.agg (tabv f 36), k]) w := by
  have := run_loadVar_row (P := Try.prog) w g 34 34 (tabv f 36) (0, 0) _ hg Try.underlying34 rfl (by rw [tabv_size]; exact infoU)
  simp only [Array.getD_eq_getD_getElem?] at hp hq
  simp [results, h, hp, hq, asAddr, this]
set_option maxRecDepth 100000 in
set_option maxHeartbeats 4000000 in
theorem of_any (u : Upd) (w : World) : Calls Try.prog 10 #[.agg (tabv u.v 36)] w fun e w' => e = .returned (.agg (tabv (ofU u).v 70)) ∧ Below w.heap.size w w' := by
  obtain ⟨w1, hW1⟩ : ∃ wX, w.alloc (.cells (tabv u.v 36) 34) = wX := ⟨_, rfl⟩
  have r1 : Has w1 w.heap.size 34 u.v 36 := by rw [← hW1]; exact Has.new w 34 u.v 36 _ rfl
  have b1 : Below w.heap.size w w1 := by rw [← hW1]; exact (Below.refl w.heap.size w).alloc (Nat.le_refl _) _
  obtain ⟨w2, w3, hW2, r2, hW3, r3, b3, b2⟩ := newM w1 (ofU u)
  have q1 := r1.below b2 r1.lt
  have c0 : w2.cell? ⟨w.heap.size, 0, none⟩ = some (.int .i64 u.kind) := q1.cell 0 (by omega)
  have c1 : w2.cell? ⟨w.heap.size, 1, none⟩ = some (.int .i64 u.id) := q1.cell 1 (by omega)
  have c2 : w2.cell? ⟨w.heap.size, 2, none⟩ = some (.int .i64 u.amt) := q1.cell 2 (by omega)
  have c3 : w2.cell? ⟨w.heap.size, 35, none⟩ = some (.string u.note) := q1.cell 35 (by omega)
  have AH : Hid (At w2 w.heap.size 3 (bv u.hash) 32) := q1.at_hash
  have R2 := hide r2
  have R3 := hide r3
  have gb : Below w.heap.size w w3 := b1.trans (b3.mono b1.size)
  clear r1 b1 r2 r3 b3 b2 q1
  go_enter Try.func10, Try.ntmps10
  go_wp2_with (first | refine wpW_load_at 23 _ rfl (w.heap.size) (3) (by rfl) (by rfl) _ 32 _ (AH.out) Try.underlying23 rfl info26 ?_ | refine wpW_build (by rfl) 25 #[(0, .tmp 4), (1, .tmp 6), (2, .tmp 8), (5, .tmp 10), (7, .tmp 12)] rfl [(0, .int .i64 u.kind), (1, .int .i64 u.id), (2, .int .i64 u.amt), (5, .agg (tabv (bv u.hash) 32)), (7, .string u.note)] (by first | rfl | (simp [Act.eval, Act.put]; done)) _ (builtMof u) ?_ | refine wpList_storeM rfl _ _ rfl rfl (w1.heap.size) (ofU u) rfl rfl _ R2.out ?_ | fail)
  try rw [hW3]
  (try simp only [Exit.inBlock, Exit.then])
  exact bodyPost_ret (results_cell_row rfl _ _ (w1.heap.size) 25 _ (0, 0) _ rfl (R3.out) Try.underlying25 rfl (by rw [tabv_size]; exact infoM)) rfl ⟨rfl, gb⟩
set_option maxRecDepth 100000 in
set_option maxHeartbeats 4000000 in
theorem rof_any (u : Upd) (w : World) : Calls Try.prog 19 #[.agg (tabv u.v 36)] w fun e w' => e = .returned (.agg (tabv (ofU u).v 70)) ∧ Below w.heap.size w w' := by
  obtain ⟨w1, hW1⟩ : ∃ wX, w.alloc (.cells (tabv u.v 36) 34) = wX := ⟨_, rfl⟩
  have r1 : Has w1 w.heap.size 34 u.v 36 := by rw [← hW1]; exact Has.new w 34 u.v 36 _ rfl
  have b1 : Below w.heap.size w w1 := by rw [← hW1]; exact (Below.refl w.heap.size w).alloc (Nat.le_refl _) _
  obtain ⟨w2, w3, hW2, r2, hW3, r3, b3, b2⟩ := newM w1 (ofU u)
  have q1 := r1.below b2 r1.lt
  have c0 : w2.cell? ⟨w.heap.size, 0, none⟩ = some (.int .i64 u.kind) := q1.cell 0 (by omega)
  have c1 : w2.cell? ⟨w.heap.size, 1, none⟩ = some (.int .i64 u.id) := q1.cell 1 (by omega)
  have c2 : w2.cell? ⟨w.heap.size, 2, none⟩ = some (.int .i64 u.amt) := q1.cell 2 (by omega)
  have c3 : w2.cell? ⟨w.heap.size, 35, none⟩ = some (.string u.note) := q1.cell 35 (by omega)
  have AH : Hid (At w2 w.heap.size 3 (bv u.hash) 32) := q1.at_hash
  have R2 := hide r2
  have R3 := hide r3
  have gb : Below w.heap.size w w3 := b1.trans (b3.mono b1.size)
  clear r1 b1 r2 r3 b3 b2 q1
  go_enter Try.func19, Try.ntmps19
  go_wp2_with (first | refine wpW_load_at 23 _ rfl (w.heap.size) (3) (by rfl) (by rfl) _ 32 _ (AH.out) Try.underlying23 rfl info26 ?_ | refine wpW_build (by rfl) 25 #[(0, .tmp 4), (1, .tmp 6), (2, .tmp 8), (5, .tmp 10), (7, .tmp 12)] rfl [(0, .int .i64 u.kind), (1, .int .i64 u.id), (2, .int .i64 u.amt), (5, .agg (tabv (bv u.hash) 32)), (7, .string u.note)] (by first | rfl | (simp [Act.eval, Act.put]; done)) _ (builtMof u) ?_ | refine wpList_storeM rfl _ _ rfl rfl (w1.heap.size) (ofU u) rfl rfl _ R2.out ?_ | fail)
  try rw [hW3]
  (try simp only [Exit.inBlock, Exit.then])
  exact bodyPost_ret (results_cell_row rfl _ _ (w1.heap.size) 25 _ (0, 0) _ rfl (R3.out) Try.underlying25 rfl (by rw [tabv_size]; exact infoM)) rfl ⟨rfl, gb⟩
set_option maxRecDepth 100000 in
set_option maxHeartbeats 4000000 in
theorem update_any_1 (m : Msg) (hk : m.kind = 1) (w : World) : Calls Try.prog 11 #[.agg (tabv m.v 70)] w fun e w' => e = .returned (.tuple #[.agg (tabv m.upd.v 36), .bool true]) ∧ Below w.heap.size w w' := by
  have k1 : (m.kind == 1) = true := beq_iff_eq.2 hk
  clear hk
  obtain ⟨w1, hW1⟩ : ∃ wX, w.alloc (.cells (tabv m.v 70) 25) = wX := ⟨_, rfl⟩
  have r1 : Has w1 w.heap.size 25 m.v 70 := by rw [← hW1]; exact Has.new w 25 m.v 70 _ rfl
  have b1 : Below w.heap.size w w1 := by rw [← hW1]; exact (Below.refl w.heap.size w).alloc (Nat.le_refl _) _
  obtain ⟨w2, w3, hW2, r2, hW3, r3, b3, b2⟩ := newU2 w1 m.upd
  have q1 := r1.below b2 r1.lt
  have c0 : w2.cell? ⟨w.heap.size, 0, none⟩ = some (.int .i64 m.kind) := q1.cell 0 (by omega)
  have c1 : w2.cell? ⟨w.heap.size, 1, none⟩ = some (.int .i64 m.id) := q1.cell 1 (by omega)
  have c2 : w2.cell? ⟨w.heap.size, 2, none⟩ = some (.int .i64 m.amt) := q1.cell 2 (by omega)
  have c3 : w2.cell? ⟨w.heap.size, 69, none⟩ = some (.string m.note) := q1.cell 69 (by omega)
  have AH : Hid (At w2 w.heap.size 5 (bv m.hash) 32) := q1.atHash
  have R2 := hide r2
  have R3 := hide r3
  have gb : Below w.heap.size w w3 := b1.trans (b3.mono b1.size)
  clear r1 b1 r2 r3 b3 b2 q1
  go_enter Try.func11, Try.ntmps11
  go_wp2_with (first | refine wpW_load_at 23 _ rfl (w.heap.size) (5) (by rfl) (by rfl) _ 32 _ (AH.out) Try.underlying23 rfl info26 ?_ | refine wpW_build (by rfl) 34 #[(0, .tmp 11), (1, .tmp 13), (2, .tmp 15), (3, .tmp 17), (4, .tmp 19)] rfl [(0, .int .i64 m.kind), (1, .int .i64 m.id), (2, .int .i64 m.amt), (3, .agg (tabv (bv m.hash) 32)), (4, .string m.note)] (by first | rfl | (simp [Act.eval, Act.put]; done)) _ (builtUof m) ?_ | refine wpList_storeU rfl _ _ rfl rfl (w1.heap.size) (m.upd) rfl rfl _ R2.out ?_ | fail)
  try rw [hW3]
  (try simp only [Exit.inBlock, Exit.then])
  exact bodyPost_ret (resUT _ w1.heap.size _ _ (.bool true) 2 3 R3.out rfl rfl _ rfl) rfl ⟨rfl, gb⟩
set_option maxRecDepth 100000 in
set_option maxHeartbeats 4000000 in
theorem update_any_2 (m : Msg) (hk : m.kind = 2) (w : World) : Calls Try.prog 11 #[.agg (tabv m.v 70)] w fun e w' => e = .returned (.tuple #[.agg (tabv m.upd.v 36), .bool true]) ∧ Below w.heap.size w w' := by
  have k1 : (m.kind == 1) = false := beq_false_of_ne (by omega)
  have k2 : (m.kind == 2) = true := beq_iff_eq.2 hk
  clear hk
  obtain ⟨w1, hW1⟩ : ∃ wX, w.alloc (.cells (tabv m.v 70) 25) = wX := ⟨_, rfl⟩
  have r1 : Has w1 w.heap.size 25 m.v 70 := by rw [← hW1]; exact Has.new w 25 m.v 70 _ rfl
  have b1 : Below w.heap.size w w1 := by rw [← hW1]; exact (Below.refl w.heap.size w).alloc (Nat.le_refl _) _
  obtain ⟨w2, w3, hW2, r2, hW3, r3, b3, b2⟩ := newU2 w1 m.upd
  have q1 := r1.below b2 r1.lt
  have c0 : w2.cell? ⟨w.heap.size, 0, none⟩ = some (.int .i64 m.kind) := q1.cell 0 (by omega)
  have c1 : w2.cell? ⟨w.heap.size, 1, none⟩ = some (.int .i64 m.id) := q1.cell 1 (by omega)
  have c2 : w2.cell? ⟨w.heap.size, 2, none⟩ = some (.int .i64 m.amt) := q1.cell 2 (by omega)
  have c3 : w2.cell? ⟨w.heap.size, 69, none⟩ = some (.string m.note) := q1.cell 69 (by omega)
  have AH : Hid (At w2 w.heap.size 5 (bv m.hash) 32) := q1.atHash
  have R2 := hide r2
  have R3 := hide r3
  have gb : Below w.heap.size w w3 := b1.trans (b3.mono b1.size)
  clear r1 b1 r2 r3 b3 b2 q1
  go_enter Try.func11, Try.ntmps11
  go_wp2_with (first | refine wpW_load_at 23 _ rfl (w.heap.size) (5) (by rfl) (by rfl) _ 32 _ (AH.out) Try.underlying23 rfl info26 ?_ | refine wpW_build (by rfl) 34 #[(0, .tmp 11), (1, .tmp 13), (2, .tmp 15), (3, .tmp 17), (4, .tmp 19)] rfl [(0, .int .i64 m.kind), (1, .int .i64 m.id), (2, .int .i64 m.amt), (3, .agg (tabv (bv m.hash) 32)), (4, .string m.note)] (by first | rfl | (simp [Act.eval, Act.put]; done)) _ (builtUof m) ?_ | refine wpList_storeU rfl _ _ rfl rfl (w1.heap.size) (m.upd) rfl rfl _ R2.out ?_ | fail)
  try rw [hW3]
  (try simp only [Exit.inBlock, Exit.then])
  exact bodyPost_ret (resUT _ w1.heap.size _ _ (.bool true) 2 3 R3.out rfl rfl _ rfl) rfl ⟨rfl, gb⟩
set_option maxRecDepth 100000 in
set_option maxHeartbeats 4000000 in
theorem update_any_3 (m : Msg) (hk : m.kind = 3) (w : World) : Calls Try.prog 11 #[.agg (tabv m.v 70)] w fun e w' => e = .returned (.tuple #[.agg (tabv m.upd.v 36), .bool true]) ∧ Below w.heap.size w w' := by
  have k1 : (m.kind == 1) = false := beq_false_of_ne (by omega)
  have k2 : (m.kind == 2) = false := beq_false_of_ne (by omega)
  have k3 : (m.kind == 3) = true := beq_iff_eq.2 hk
  clear hk
  obtain ⟨w1, hW1⟩ : ∃ wX, w.alloc (.cells (tabv m.v 70) 25) = wX := ⟨_, rfl⟩
  have r1 : Has w1 w.heap.size 25 m.v 70 := by rw [← hW1]; exact Has.new w 25 m.v 70 _ rfl
  have b1 : Below w.heap.size w w1 := by rw [← hW1]; exact (Below.refl w.heap.size w).alloc (Nat.le_refl _) _
  obtain ⟨w2, w3, hW2, r2, hW3, r3, b3, b2⟩ := newU2 w1 m.upd
  have q1 := r1.below b2 r1.lt
  have c0 : w2.cell? ⟨w.heap.size, 0, none⟩ = some (.int .i64 m.kind) := q1.cell 0 (by omega)
  have c1 : w2.cell? ⟨w.heap.size, 1, none⟩ = some (.int .i64 m.id) := q1.cell 1 (by omega)
  have c2 : w2.cell? ⟨w.heap.size, 2, none⟩ = some (.int .i64 m.amt) := q1.cell 2 (by omega)
  have c3 : w2.cell? ⟨w.heap.size, 69, none⟩ = some (.string m.note) := q1.cell 69 (by omega)
  have AH : Hid (At w2 w.heap.size 5 (bv m.hash) 32) := q1.atHash
  have R2 := hide r2
  have R3 := hide r3
  have gb : Below w.heap.size w w3 := b1.trans (b3.mono b1.size)
  clear r1 b1 r2 r3 b3 b2 q1
  go_enter Try.func11, Try.ntmps11
  go_wp2_with (first | refine wpW_load_at 23 _ rfl (w.heap.size) (5) (by rfl) (by rfl) _ 32 _ (AH.out) Try.underlying23 rfl info26 ?_ | refine wpW_build (by rfl) 34 #[(0, .tmp 11), (1, .tmp 13), (2, .tmp 15), (3, .tmp 17), (4, .tmp 19)] rfl [(0, .int .i64 m.kind), (1, .int .i64 m.id), (2, .int .i64 m.amt), (3, .agg (tabv (bv m.hash) 32)), (4, .string m.note)] (by first | rfl | (simp [Act.eval, Act.put]; done)) _ (builtUof m) ?_ | refine wpList_storeU rfl _ _ rfl rfl (w1.heap.size) (m.upd) rfl rfl _ R2.out ?_ | fail)
  try rw [hW3]
  (try simp only [Exit.inBlock, Exit.then])
  exact bodyPost_ret (resUT _ w1.heap.size _ _ (.bool true) 2 3 R3.out rfl rfl _ rfl) rfl ⟨rfl, gb⟩
theorem update_any_yes (m : Msg) (hk : isU m.kind) (w : World) : Calls Try.prog 11 #[.agg (tabv m.v 70)] w fun e w' => e = .returned (.tuple #[.agg (tabv m.upd.v 36), .bool true]) ∧ Below w.heap.size w w' := by
  rcases hk with h | h | h
  · exact update_any_1 m h w
  · exact update_any_2 m h w
  · exact update_any_3 m h w
set_option maxRecDepth 100000 in
set_option maxHeartbeats 4000000 in
theorem update_any_no (m : Msg) (hk : ¬isU m.kind) (w : World) : Calls Try.prog 11 #[.agg (tabv m.v 70)] w fun e w' => e = .returned (.tuple #[.agg (tabv Upd.zero.v 36), .bool false]) ∧ Below w.heap.size w w' := by
  have k1 : (m.kind == 1) = false := beq_false_of_ne (fun e => hk (.inl e))
  have k2 : (m.kind == 2) = false := beq_false_of_ne (fun e => hk (.inr (.inl e)))
  have k3 : (m.kind == 3) = false := beq_false_of_ne (fun e => hk (.inr (.inr e)))
  clear hk
  obtain ⟨w1, hW1⟩ : ∃ wX, w.alloc (.cells (tabv m.v 70) 25) = wX := ⟨_, rfl⟩
  have r1 : Has w1 w.heap.size 25 m.v 70 := by rw [← hW1]; exact Has.new w 25 m.v 70 _ rfl
  have b1 : Below w.heap.size w w1 := by rw [← hW1]; exact (Below.refl w.heap.size w).alloc (Nat.le_refl _) _
  obtain ⟨w2, w3, hW2, r2, hW3, r3, b3, b2⟩ := newU2 w1 Upd.zero
  have q1 := r1.below b2 r1.lt
  have c0 : w2.cell? ⟨w.heap.size, 0, none⟩ = some (.int .i64 m.kind) := q1.cell 0 (by omega)
  have c1 : w2.cell? ⟨w.heap.size, 1, none⟩ = some (.int .i64 m.id) := q1.cell 1 (by omega)
  have c2 : w2.cell? ⟨w.heap.size, 2, none⟩ = some (.int .i64 m.amt) := q1.cell 2 (by omega)
  have c3 : w2.cell? ⟨w.heap.size, 69, none⟩ = some (.string m.note) := q1.cell 69 (by omega)
  have AH : Hid (At w2 w.heap.size 5 (bv m.hash) 32) := q1.atHash
  have R2 := hide r2
  have R3 := hide r3
  have gb : Below w.heap.size w w3 := b1.trans (b3.mono b1.size)
  clear r1 b1 r2 r3 b3 b2 q1
  go_enter Try.func11, Try.ntmps11
  go_wp2_with (first | refine wpW_load_at 23 _ rfl (w.heap.size) (5) (by rfl) (by rfl) _ 32 _ (AH.out) Try.underlying23 rfl info26 ?_ | refine wpW_build (by rfl) 34 #[] rfl [] (by first | rfl | (simp [Act.eval, Act.put]; done)) _ builtZ ?_ | refine wpList_storeU rfl _ _ rfl rfl (w1.heap.size) (Upd.zero) rfl rfl _ R2.out ?_ | fail)
  try rw [hW3]
  (try simp only [Exit.inBlock, Exit.then])
  exact bodyPost_ret (resUT _ w1.heap.size _ _ (.bool false) 2 3 R3.out rfl rfl _ rfl) rfl ⟨rfl, gb⟩
set_option maxRecDepth 100000 in
set_option maxHeartbeats 4000000 in
theorem rupdate_any_yes (m : Msg) (hk : isU m.kind) (w : World) : Calls Try.prog 18 #[.agg (tabv m.v 70)] w fun e w' => e = .returned (.tuple #[.agg (tabv m.upd.v 36), .bool true]) ∧ Below w.heap.size w w' := by
  have d1 : decide (m.kind < 1) = false := decide_eq_false (by unfold isU at hk; omega)
  have d2 : decide (3 < m.kind) = false := decide_eq_false (by unfold isU at hk; omega)
  clear hk
  obtain ⟨w1, hW1⟩ : ∃ wX, w.alloc (.cells (tabv m.v 70) 25) = wX := ⟨_, rfl⟩
  have r1 : Has w1 w.heap.size 25 m.v 70 := by rw [← hW1]; exact Has.new w 25 m.v 70 _ rfl
  have b1 : Below w.heap.size w w1 := by rw [← hW1]; exact (Below.refl w.heap.size w).alloc (Nat.le_refl _) _
  obtain ⟨w2, w3, hW2, r2, hW3, r3, b3, b2⟩ := newU2 w1 m.upd
  have q1 := r1.below b2 r1.lt
  have c0 : w2.cell? ⟨w.heap.size, 0, none⟩ = some (.int .i64 m.kind) := q1.cell 0 (by omega)
  have c1 : w2.cell? ⟨w.heap.size, 1, none⟩ = some (.int .i64 m.id) := q1.cell 1 (by omega)
  have c2 : w2.cell? ⟨w.heap.size, 2, none⟩ = some (.int .i64 m.amt) := q1.cell 2 (by omega)
  have c3 : w2.cell? ⟨w.heap.size, 69, none⟩ = some (.string m.note) := q1.cell 69 (by omega)
  have AH : Hid (At w2 w.heap.size 5 (bv m.hash) 32) := q1.atHash
  have R2 := hide r2
  have R3 := hide r3
  have gb : Below w.heap.size w w3 := b1.trans (b3.mono b1.size)
  clear r1 b1 r2 r3 b3 b2 q1
  go_enter Try.func18, Try.ntmps18
  go_wp2_with (first | refine wpW_load_at 23 _ rfl (w.heap.size) (5) (by rfl) (by rfl) _ 32 _ (AH.out) Try.underlying23 rfl info26 ?_ | refine wpW_build (by rfl) 34 #[(0, .tmp 14), (1, .tmp 16), (2, .tmp 18), (3, .tmp 20), (4, .tmp 22)] rfl [(0, .int .i64 m.kind), (1, .int .i64 m.id), (2, .int .i64 m.amt), (3, .agg (tabv (bv m.hash) 32)), (4, .string m.note)] (by first | rfl | (simp [Act.eval, Act.put]; done)) _ (builtUof m) ?_ | refine wpList_storeU rfl _ _ rfl rfl (w1.heap.size) (m.upd) rfl rfl _ R2.out ?_ | fail)
  try rw [hW3]
  (try simp only [Exit.inBlock, Exit.then])
  exact bodyPost_ret (resUT _ w1.heap.size _ _ (.bool true) 2 3 R3.out rfl rfl _ rfl) rfl ⟨rfl, gb⟩
set_option maxRecDepth 100000 in
set_option maxHeartbeats 4000000 in
theorem rupdate_any_lo (m : Msg) (hk : m.kind < 1) (w : World) : Calls Try.prog 18 #[.agg (tabv m.v 70)] w fun e w' => e = .returned (.tuple #[.agg (tabv Upd.zero.v 36), .bool false]) ∧ Below w.heap.size w w' := by
  have d1 : decide (m.kind < 1) = true := decide_eq_true hk
  clear hk
  obtain ⟨w1, hW1⟩ : ∃ wX, w.alloc (.cells (tabv m.v 70) 25) = wX := ⟨_, rfl⟩
  have r1 : Has w1 w.heap.size 25 m.v 70 := by rw [← hW1]; exact Has.new w 25 m.v 70 _ rfl
  have b1 : Below w.heap.size w w1 := by rw [← hW1]; exact (Below.refl w.heap.size w).alloc (Nat.le_refl _) _
  obtain ⟨w2, w3, hW2, r2, hW3, r3, b3, b2⟩ := newU2 w1 Upd.zero
  have q1 := r1.below b2 r1.lt
  have c0 : w2.cell? ⟨w.heap.size, 0, none⟩ = some (.int .i64 m.kind) := q1.cell 0 (by omega)
  have c1 : w2.cell? ⟨w.heap.size, 1, none⟩ = some (.int .i64 m.id) := q1.cell 1 (by omega)
  have c2 : w2.cell? ⟨w.heap.size, 2, none⟩ = some (.int .i64 m.amt) := q1.cell 2 (by omega)
  have c3 : w2.cell? ⟨w.heap.size, 69, none⟩ = some (.string m.note) := q1.cell 69 (by omega)
  have AH : Hid (At w2 w.heap.size 5 (bv m.hash) 32) := q1.atHash
  have R2 := hide r2
  have R3 := hide r3
  have gb : Below w.heap.size w w3 := b1.trans (b3.mono b1.size)
  clear r1 b1 r2 r3 b3 b2 q1
  go_enter Try.func18, Try.ntmps18
  go_wp2_with (first | refine wpW_load_at 23 _ rfl (w.heap.size) (5) (by rfl) (by rfl) _ 32 _ (AH.out) Try.underlying23 rfl info26 ?_ | refine wpW_build (by rfl) 34 #[] rfl [] (by first | rfl | (simp [Act.eval, Act.put]; done)) _ builtZ ?_ | refine wpList_storeU rfl _ _ rfl rfl (w1.heap.size) (Upd.zero) rfl rfl _ R2.out ?_ | fail)
  try rw [hW3]
  (try simp only [Exit.inBlock, Exit.then])
  exact bodyPost_ret (resUT _ w1.heap.size _ _ (.bool false) 2 3 R3.out rfl rfl _ rfl) rfl ⟨rfl, gb⟩
set_option maxRecDepth 100000 in
set_option maxHeartbeats 4000000 in
theorem rupdate_any_hi (m : Msg) (hk : 3 < m.kind) (w : World) : Calls Try.prog 18 #[.agg (tabv m.v 70)] w fun e w' => e = .returned (.tuple #[.agg (tabv Upd.zero.v 36), .bool false]) ∧ Below w.heap.size w w' := by
  have d1 : decide (m.kind < 1) = false := decide_eq_false (by omega)
  have d2 : decide (3 < m.kind) = true := decide_eq_true hk
  clear hk
  obtain ⟨w1, hW1⟩ : ∃ wX, w.alloc (.cells (tabv m.v 70) 25) = wX := ⟨_, rfl⟩
  have r1 : Has w1 w.heap.size 25 m.v 70 := by rw [← hW1]; exact Has.new w 25 m.v 70 _ rfl
  have b1 : Below w.heap.size w w1 := by rw [← hW1]; exact (Below.refl w.heap.size w).alloc (Nat.le_refl _) _
  obtain ⟨w2, w3, hW2, r2, hW3, r3, b3, b2⟩ := newU2 w1 Upd.zero
  have q1 := r1.below b2 r1.lt
  have c0 : w2.cell? ⟨w.heap.size, 0, none⟩ = some (.int .i64 m.kind) := q1.cell 0 (by omega)
  have c1 : w2.cell? ⟨w.heap.size, 1, none⟩ = some (.int .i64 m.id) := q1.cell 1 (by omega)
  have c2 : w2.cell? ⟨w.heap.size, 2, none⟩ = some (.int .i64 m.amt) := q1.cell 2 (by omega)
  have c3 : w2.cell? ⟨w.heap.size, 69, none⟩ = some (.string m.note) := q1.cell 69 (by omega)
  have AH : Hid (At w2 w.heap.size 5 (bv m.hash) 32) := q1.atHash
  have R2 := hide r2
  have R3 := hide r3
  have gb : Below w.heap.size w w3 := b1.trans (b3.mono b1.size)
  clear r1 b1 r2 r3 b3 b2 q1
  go_enter Try.func18, Try.ntmps18
  go_wp2_with (first | refine wpW_load_at 23 _ rfl (w.heap.size) (5) (by rfl) (by rfl) _ 32 _ (AH.out) Try.underlying23 rfl info26 ?_ | refine wpW_build (by rfl) 34 #[] rfl [] (by first | rfl | (simp [Act.eval, Act.put]; done)) _ builtZ ?_ | refine wpList_storeU rfl _ _ rfl rfl (w1.heap.size) (Upd.zero) rfl rfl _ R2.out ?_ | fail)
  try rw [hW3]
  (try simp only [Exit.inBlock, Exit.then])
  exact bodyPost_ret (resUT _ w1.heap.size _ _ (.bool false) 2 3 R3.out rfl rfl _ rfl) rfl ⟨rfl, gb⟩
theorem rupdate_any_no (m : Msg) (hk : ¬isU m.kind) (w : World) : Calls Try.prog 18 #[.agg (tabv m.v 70)] w fun e w' => e = .returned (.tuple #[.agg (tabv Upd.zero.v 36), .bool false]) ∧ Below w.heap.size w w' := by
  rcases (show m.kind < 1 ∨ 3 < m.kind by unfold isU at hk; omega) with h | h
  · exact rupdate_any_lo m h w
  · exact rupdate_any_hi m h w
set_option maxRecDepth 100000 in
set_option maxHeartbeats 4000000 in
theorem isIndex_any (n : Int) (w : World) : Calls Try.prog 25 #[.int .i64 n] w fun e w' => e = .returned (.bool (idxB n)) ∧ w = w' := by
  unfold idxB
  cases d1 : decide (0 ≤ n) with
  | false =>
    go_enter Try.func25, Try.ntmps25
    go_wp2
    go_ret
    exact ⟨rfl, rfl⟩
  | true =>
    cases d2 : decide (n ≤ 281474976710655) with
    | false =>
      go_enter Try.func25, Try.ntmps25
      go_wp2
      go_ret
      exact ⟨rfl, rfl⟩
    | true =>
      go_enter Try.func25, Try.ntmps25
      go_wp2
      go_ret
      exact ⟨rfl, rfl⟩
set_option maxRecDepth 100000 in
set_option maxHeartbeats 4000000 in
theorem rindex_any (n : Int) (w : World) : Calls Try.prog 53 #[.int .i64 n] w fun e w' => e = .returned (.bool (idxB n)) ∧ w = w' := by
  unfold idxB
  cases d1 : decide (0 ≤ n) with
  | false =>
    go_enter Try.func53, Try.ntmps53
    go_wp2
    go_ret
    exact ⟨rfl, rfl⟩
  | true =>
    cases d2 : decide (n ≤ 281474976710655) with
    | false =>
      go_enter Try.func53, Try.ntmps53
      go_wp2
      go_ret
      exact ⟨rfl, rfl⟩
    | true =>
      go_enter Try.func53, Try.ntmps53
      go_wp2
      go_ret
      exact ⟨rfl, rfl⟩
end Go.Proofs.Ytfohdolhobooiaa
