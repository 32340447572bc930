/-
  The statement's sum and preimage (printed by gen_grow1.py).
-/
import Derived.Test.YtagopbdoabhjfaaDoorUHead
import Derived.Test.YtagopbdoabhjfaaDoorUGrowM
import Derived.Test.YtagopbdoabhjfaaDoorCurWant
import Derived.BigQuiet
namespace Go.Proofs.YtagopbdoabhjfaaDoor
open Go.RowKit S
set_option linter.unusedVariables false
set_option linter.unusedSimpArgs false
theorem zero32 : tabv (fun _ => (.int .u8 0 : Value)) 32 = (#[.int .u8 0, .int .u8 0, .int .u8 0, .int .u8 0, .int .u8 0, .int .u8 0, .int .u8 0, .int .u8 0, .int .u8 0, .int .u8 0, .int .u8 0, .int .u8 0, .int .u8 0, .int .u8 0, .int .u8 0, .int .u8 0, .int .u8 0, .int .u8 0, .int .u8 0, .int .u8 0, .int .u8 0, .int .u8 0, .int .u8 0, .int .u8 0, .int .u8 0, .int .u8 0, .int .u8 0, .int .u8 0, .int .u8 0, .int .u8 0, .int .u8 0, .int .u8 0] : Array Value) := rfl
set_option maxRecDepth 100000 in
set_option maxHeartbeats 2000000 in
theorem lsum_any (n : Num) (h : Nat → UInt8) (w : World) (hG : Glob n w) : Calls Tryd.prog 13 #[.agg (tabv (bv h) 32)] w fun e w' => e = .returned (.agg (tabv (bv (sumU h)) 32)) ∧ Below w.heap.size w w' := by
  obtain ⟨w3, hW⟩ : ∃ w3, (w.alloc (.cells (tabv (bv h) 32) 23)).alloc (.cells (tabv (fun _ => .int .u8 0) 32) 23) = w3 := ⟨_, rfl⟩
  have g0 : Has w3 w.heap.size 23 (bv h) 32 := by rw [← hW]; exact (Has.new w 23 (bv h) 32 _ rfl).old _
  have g1 : Has w3 (w.heap.size + 1) 23 (fun _ => .int .u8 0) 32 := by
    rw [← hW]
    have := Has.new (w.alloc (.cells (tabv (bv h) 32) 23)) 23 (fun _ => .int .u8 0) 32 _ rfl
    rw [size_alloc] at this
    exact this
  have gb : Below w.heap.size w w3 := by rw [← hW]; exact ((Below.refl w.heap.size w).alloc (Nat.le_refl _) _).alloc (by simp) _
  have hcv := run_conv g0 32 32 (by omega)
  have hG3 : Glob n w3 := hG.up gb (Nat.le_refl _)
  rw [zero32] at hW
  go_enter Tryd.func13, Tryd.ntmps13
  go_wp2_with fail
  refine (sum_one n h w3 _ hG3 rfl).mono ?_
  rintro e w5 ⟨rfl, hb5⟩
  have g1' := g1.below hb5 g1.lt
  have gb' := gb.trans (hb5.mono gb.size)
  clear hW hcv hb5
  go_wp2_with (refine wpList_storeH rfl _ _ rfl rfl (w.heap.size + 1) (sumU h) rfl rfl _ g1' ?_)
  exact bodyPost_ret (results_cell_row rfl _ _ (w.heap.size + 1) 23 _ (0, 0) _ rfl (g1'.row _ _ rfl) Tryd.underlying23 rfl (by rw [tabv_size]; exact info26)) rfl ⟨rfl, below_setRow gb' (by omega) _⟩
def preH (x y : UInt8) : Nat → UInt8 := fun i => if i = 0 then 112 else if i = 1 then x else if i = 2 then y else 0
set_option maxRecDepth 100000 in
theorem builtP (x y : UInt8) : Tryd.prog.built 23 [(0, .int .u8 112), (1, .int .u8 (x.toNat : Int)), (2, .int .u8 (y.toNat : Int))] = some (tabv (bv (preH x y)) 32) := by kernel_rfl
theorem u8_of (z : Int) : ∃ x : UInt8, IntKind.u8.wrap z = (x.toNat : Int) := by
  refine ⟨UInt8.ofNat (z % 256).toNat, ?_⟩
  rw [UInt8.toNat_ofNat']
  simp [IntKind.wrap, IntKind.bits, IntKind.signed]
  omega
theorem conv_u8' (X : Int) : ∃ x : UInt8, ∀ w : World, (convert 2 5 (.int .i64 X)).run Tryd.prog w = .ok (.int .u8 (x.toNat : Int)) w := by
  obtain ⟨x, hx⟩ := u8_of X
  refine ⟨x, fun w => ?_⟩
  have h := run_convert_int (P := Tryd.prog) (w := w) 2 5 .i64 X (by kernel_rfl) (by kernel_rfl)
  rw [show Tryd.prog.intKind 5 = .u8 by kernel_rfl, hx] at h
  exact h
set_option maxRecDepth 100000 in
set_option maxHeartbeats 2000000 in
theorem pre_any (two : Bool) (id : Int) (w : World) : Calls Tryd.prog 14 #[.bool two, .int .i64 id] w fun e w' => (∃ f : Nat → UInt8, e = .returned (.agg (tabv (bv f) 32))) ∧ Below w.heap.size w w' := by
  obtain ⟨x, hx⟩ := conv_u8' id
  obtain ⟨Z, hZ⟩ : ∃ Z : Int, id / (2 : Int) ^ 8 = Z := ⟨_, rfl⟩
  obtain ⟨y, hy⟩ := conv_u8' Z
  have hsh : ∀ w : World, (binOp .shr 2 (.int .i64 id) (.int .u64 8)).run Tryd.prog w = .ok (.int .i64 Z) w := fun w => Cu.run_shr 2 .i64 .u64 id 8 Z 8 (by omega) (by show _ ≤ 64; omega) hZ w
  obtain ⟨w3, hW⟩ : ∃ w3, (w.alloc (.cells (tabv (fun _ => .int .u8 0) 32) 23)).alloc (.cells (tabv (fun _ => .int .u8 0) 32) 23) = w3 := ⟨_, rfl⟩
  have g0 : Has w3 w.heap.size 23 (fun _ => .int .u8 0) 32 := by rw [← hW]; exact (Has.new w 23 (fun _ => .int .u8 0) 32 _ rfl).old _
  have g1 : Has w3 (w.heap.size + 1) 23 (fun _ => .int .u8 0) 32 := by
    rw [← hW]
    have := Has.new (w.alloc (.cells (tabv (fun _ => .int .u8 0) 32) 23)) 23 (fun _ => .int .u8 0) 32 _ rfl
    rw [size_alloc] at this
    exact this
  have gb : Below w.heap.size w w3 := by rw [← hW]; exact ((Below.refl w.heap.size w).alloc (Nat.le_refl _) _).alloc (by simp) _
  have r1 := g1.row _ (bv (preH x y)) rfl
  have r0 := g0.row_other (w.heap.size + 1) (tabv (bv (preH x y)) 32) (by omega)
  have rb := below_setRow gb (show w.heap.size ≤ w.heap.size + 1 by omega) (tabv (bv (preH x y)) 32)
  have G1 := hide g1
  obtain ⟨w4, hW4⟩ : ∃ w4, w3.setRow (w.heap.size + 1) (tabv (bv (preH x y)) 32) = w4 := ⟨_, rfl⟩
  rw [hW4] at r1 r0 rb
  rw [zero32] at hW
  have HX := hide hx
  have HY := hide hy
  have HS := hide hsh
  clear hx hy hsh hZ g0 g1 gb
  cases two with
  | false =>
    subst hW4
    have R0 := hide r0
    have R1 := hide r1
    clear r0 r1
    go_enter Tryd.func14, Tryd.ntmps14
    go_wp2_with (first | refine Cu.wpList_conv rfl _ _ _ rfl .i64 .u8 id (x.toNat : Int) (by rfl) (HX.out _) ?_ | refine Cu.wpList_conv rfl _ _ _ rfl .i64 .u8 Z (y.toNat : Int) (by rfl) (HY.out _) ?_ | refine Cu.wpW_bin .shr _ _ _ _ rfl (.int .i64 id) (.int .u64 8) (.int .i64 Z) (by rfl) (by rfl) (by rfl) rfl (HS.out _) ?_ | refine wpW_build (by rfl) 23 #[(0, .const (.int .u8 112)), (1, .tmp 7), (2, .tmp 10)] rfl [(0, .int .u8 112), (1, .int .u8 (x.toNat : Int)), (2, .int .u8 (y.toNat : Int))] (by simp [Act.eval, Act.put]) _ (builtP x y) ?_ | refine wpList_storeH rfl _ _ rfl rfl (w.heap.size + 1) (preH x y) rfl rfl _ G1.out ?_ | refine wpW_load_at 23 _ rfl (w.heap.size + 1) 0 (by rfl) (by rfl) _ 32 _ (R1.out.at_ 0 (by omega) (fun i hi => by rw [Nat.zero_add])) Tryd.underlying23 rfl info26 ?_ | refine wpList_storeH rfl _ _ rfl rfl w.heap.size (preH x y) rfl rfl _ R0.out ?_)
    exact bodyPost_ret (results_cell_row rfl _ _ w.heap.size 23 _ (0, 0) _ rfl (R0.out.row _ (bv (preH x y)) rfl) Tryd.underlying23 rfl (by rw [tabv_size]; exact info26)) rfl ⟨⟨_, rfl⟩, below_setRow rb (Nat.le_refl _) _⟩
  | true =>
    have c3 : w4.cell? ⟨w.heap.size + 1, 3, none⟩ = some (.int .u8 0) := r1.cell 3 (by omega)
    have f3 := r1.frozen 3
    obtain ⟨w5, hW5⟩ : ∃ x, w4.setCell ⟨w.heap.size + 1, 3, none⟩ (.int .u8 1) = x := ⟨_, rfl⟩
    have s1 : Has w5 (w.heap.size + 1) 23 (bv (upd (preH x y) 3 1)) 32 := by rw [← hW5]; exact (r1.set 3 (.int .u8 1)).congr _ (fun i _ => congrFun (bv_upd (preH x y) 3 1) i)
    have s0 : Has w5 w.heap.size 23 (fun _ => .int .u8 0) 32 := by rw [← hW5]; exact r0.other _ _ (by simp)
    have sb : Below w.heap.size w w5 := by rw [← hW5]; exact rb.setCell (by simp) _
    have S0 := hide s0
    have S1 := hide s1
    clear s0 s1 r0 r1 rb
    go_enter Tryd.func14, Tryd.ntmps14
    go_wp2_with (first | refine Cu.wpList_conv rfl _ _ _ rfl .i64 .u8 id (x.toNat : Int) (by rfl) (HX.out _) ?_ | refine Cu.wpList_conv rfl _ _ _ rfl .i64 .u8 Z (y.toNat : Int) (by rfl) (HY.out _) ?_ | refine Cu.wpW_bin .shr _ _ _ _ rfl (.int .i64 id) (.int .u64 8) (.int .i64 Z) (by rfl) (by rfl) (by rfl) rfl (HS.out _) ?_ | refine wpW_build (by rfl) 23 #[(0, .const (.int .u8 112)), (1, .tmp 7), (2, .tmp 10)] rfl [(0, .int .u8 112), (1, .int .u8 (x.toNat : Int)), (2, .int .u8 (y.toNat : Int))] (by simp [Act.eval, Act.put]) _ (builtP x y) ?_ | refine wpList_storeH rfl _ _ rfl rfl (w.heap.size + 1) (preH x y) rfl rfl _ G1.out ?_ | refine wpW_load_at 23 _ rfl (w.heap.size + 1) 0 (by rfl) (by rfl) _ 32 _ (by first | exact S1.out.at_ 0 (by omega) (fun i hi => by rw [Nat.zero_add]) | (rw [hW5]; exact S1.out.at_ 0 (by omega) (fun i hi => by rw [Nat.zero_add]))) Tryd.underlying23 rfl info26 ?_ | refine wpList_storeH rfl _ _ rfl rfl w.heap.size (upd (preH x y) 3 1) rfl rfl _ S0.out ?_)
    exact bodyPost_ret (results_cell_row rfl _ _ w.heap.size 23 _ (0, 0) _ rfl (S0.out.row _ (bv (upd (preH x y) 3 1)) rfl) Tryd.underlying23 rfl (by rw [tabv_size]; exact info26)) rfl ⟨⟨_, rfl⟩, below_setRow sb (Nat.le_refl _) _⟩
end Go.Proofs.YtagopbdoabhjfaaDoor
