/-
  UpdateLimits: the walk (printed by gen_lim.py).
-/
import Derived.Test.YtoepmlagolfhcaaDoorULim3
import Derived.Test.YtoepmlagolfhcaaDoorUGrow1
import Derived.Deep.CutRange
namespace Go.Proofs.YtoepmlagolfhcaaDoor
open Go.RowKit S
set_option linter.unusedVariables false
set_option linter.unusedSimpArgs false
open Cu (nb hl ofL)
set_option maxRecDepth 100000 in
theorem bR0 (h : Nat → UInt8) (s : ByteArray) : Tryd.prog.built 26 [(0, .int .i64 1), (2, .int .i64 1), (3, .agg (tabv (bv h) 32))] = some (tabv (Upd.v ⟨1, 0, 1, h, nilB⟩) 36) := by kernel_rfl
set_option maxRecDepth 100000 in
theorem bR1 (h : Nat → UInt8) (s : ByteArray) : Tryd.prog.built 26 [(0, .int .i64 1), (1, .int .i64 2047), (2, .int .i64 1152921504606846976), (3, .agg (tabv (bv h) 32))] = some (tabv (Upd.v ⟨1, 2047, 1152921504606846976, h, nilB⟩) 36) := by kernel_rfl
set_option maxRecDepth 100000 in
theorem bR2 (h : Nat → UInt8) (s : ByteArray) : Tryd.prog.built 26 [(0, .int .i64 2), (3, .agg (tabv (bv h) 32))] = some (tabv (Upd.v ⟨2, 0, 0, h, nilB⟩) 36) := by kernel_rfl
set_option maxRecDepth 100000 in
theorem bR3 (h : Nat → UInt8) (s : ByteArray) : Tryd.prog.built 26 [(0, .int .i64 2), (1, .int .i64 2047), (3, .agg (tabv (bv h) 32))] = some (tabv (Upd.v ⟨2, 2047, 0, h, nilB⟩) 36) := by kernel_rfl
set_option maxRecDepth 100000 in
theorem bR4 (h : Nat → UInt8) (s : ByteArray) : Tryd.prog.built 26 [(0, .int .i64 3), (1, .int .i64 2047), (4, .string s)] = some (tabv (Upd.v ⟨3, 2047, 0, fun _ => 0, s⟩) 36) := by kernel_rfl
set_option maxRecDepth 100000 in
theorem bR5 (h : Nat → UInt8) (s : ByteArray) : Tryd.prog.built 26 [(0, .int .i64 3), (4, .string s)] = some (tabv (Upd.v ⟨3, 0, 0, fun _ => 0, s⟩) 36) := by kernel_rfl
set_option maxRecDepth 100000 in
theorem bW0 (h o : Nat → UInt8) (mo : Int) (lg : ByteArray) : Tryd.prog.built 26 [(0, .int .i64 1), (3, .agg (tabv (bv h) 32))] = some (tabv (Upd.v ⟨1, 0, 0, h, nilB⟩) 36) := by kernel_rfl
set_option maxRecDepth 100000 in
theorem bW1 (h o : Nat → UInt8) (mo : Int) (lg : ByteArray) : Tryd.prog.built 26 [(0, .int .i64 1), (2, .int .i64 (-1 - mo))] = some (tabv (Upd.v ⟨1, 0, -1 - mo, fun _ => 0, nilB⟩) 36) := by kernel_rfl
set_option maxRecDepth 100000 in
theorem bW2 (h o : Nat → UInt8) (mo : Int) (lg : ByteArray) : Tryd.prog.built 26 [(0, .int .i64 1), (2, .int .i64 1152921504606846977)] = some (tabv (Upd.v ⟨1, 0, 1152921504606846977, fun _ => 0, nilB⟩) 36) := by kernel_rfl
set_option maxRecDepth 100000 in
theorem bW3 (h o : Nat → UInt8) (mo : Int) (lg : ByteArray) : Tryd.prog.built 26 [(0, .int .i64 1), (2, .int .i64 1), (1, .int .i64 2048)] = some (tabv (Upd.v ⟨1, 2048, 1, fun _ => 0, nilB⟩) 36) := by kernel_rfl
set_option maxRecDepth 100000 in
theorem bW4 (h o : Nat → UInt8) (mo : Int) (lg : ByteArray) : Tryd.prog.built 26 [(0, .int .i64 1), (2, .int .i64 1), (1, .int .i64 (-1 - mo))] = some (tabv (Upd.v ⟨1, -1 - mo, 1, fun _ => 0, nilB⟩) 36) := by kernel_rfl
set_option maxRecDepth 100000 in
theorem bW5 (h o : Nat → UInt8) (mo : Int) (lg : ByteArray) : Tryd.prog.built 26 [(0, .int .i64 1), (2, .int .i64 1), (4, .string ⟨#[120]⟩)] = some (tabv (Upd.v ⟨1, 0, 1, fun _ => 0, ⟨#[120]⟩⟩) 36) := by kernel_rfl
set_option maxRecDepth 100000 in
theorem bW6 (h o : Nat → UInt8) (mo : Int) (lg : ByteArray) : Tryd.prog.built 26 [(0, .int .i64 2), (2, .int .i64 1)] = some (tabv (Upd.v ⟨2, 0, 1, fun _ => 0, nilB⟩) 36) := by kernel_rfl
set_option maxRecDepth 100000 in
theorem bW7 (h o : Nat → UInt8) (mo : Int) (lg : ByteArray) : Tryd.prog.built 26 [(0, .int .i64 2), (4, .string ⟨#[120]⟩)] = some (tabv (Upd.v ⟨2, 0, 0, fun _ => 0, ⟨#[120]⟩⟩) 36) := by kernel_rfl
set_option maxRecDepth 100000 in
theorem bW8 (h o : Nat → UInt8) (mo : Int) (lg : ByteArray) : Tryd.prog.built 26 [(0, .int .i64 3), (2, .int .i64 1)] = some (tabv (Upd.v ⟨3, 0, 1, fun _ => 0, nilB⟩) 36) := by kernel_rfl
set_option maxRecDepth 100000 in
theorem bW9 (h o : Nat → UInt8) (mo : Int) (lg : ByteArray) : Tryd.prog.built 26 [(0, .int .i64 3), (3, .agg (tabv (bv o) 32))] = some (tabv (Upd.v ⟨3, 0, 0, o, nilB⟩) 36) := by kernel_rfl
set_option maxRecDepth 100000 in
theorem bW10 (h o : Nat → UInt8) (mo : Int) (lg : ByteArray) : Tryd.prog.built 26 [(0, .int .i64 3), (4, .string lg)] = some (tabv (Upd.v ⟨3, 0, 0, fun _ => 0, lg⟩) 36) := by kernel_rfl
set_option maxRecDepth 100000 in
theorem bW11 (h o : Nat → UInt8) (mo : Int) (lg : ByteArray) : Tryd.prog.built 26 [(0, .int .i64 4), (2, .int .i64 1)] = some (tabv (Upd.v ⟨4, 0, 1, fun _ => 0, nilB⟩) 36) := by kernel_rfl
theorem wpList_makeS {P : Program} {ops : Array Oper} {rest : List Oper} {o : Oper} {a : Act} {w w' : World} {Q : Exit → Act → World → Prop} {v : Value} (hg : o.guard = none) (T : TypeId) (n c : Operand) (ho : o.op = .makeSlice T n c) (x y : Value) (hx : a.eval n = x) (hy : a.eval c = y) (h : (Instr.makeSlice T x y).run P w = .ok v w') (k : wpList P ops Q rest (a.put o.dst v) w') : wpList P ops Q (o :: rest) a w :=
  wpList_plain hg fun K hK => wpRun (by simp [execOp, ho, hx, hy, h, Result.andThen]) (hK _ _ k)
theorem wp_store_part {P : Program} {o : Oper} {a : Act} {w : World} {K : Act → World → Prop} {Q : Exit → Act → World → Prop} (ty : TypeId) (x y : Operand) (ho : o.op = .store ty x y) (hd : o.dst = none)
    (g of : Nat) (h : Nat → Value) (m : Nat) (hx : a.eval x = .pointer (some ⟨g, of, none⟩)) (hy : a.eval y = .agg (tabv h m))
    (t : TypeId) (f : Nat → Value) (M : Nat) (hg : Has w g t f M) (hm : of + m ≤ M) (hi : (P.info? ty).map (·.size) = some m)
    (h1 : ∀ i, i < m → (h i).oneCell' = true) (f' : Nat → Value) (hf : ∀ i, i < M → splice f of h m i = f' i)
    (hk : K a (w.setRow g (tabv f' M))) : o.wp P a w K Q := by
  unfold Oper.wp execOp
  simp only [ho, hx, hy, Instr.storeAt, Instr.sureAddr, Sem.run_bind, Sem.run_pure, Result.andThen_ok, run_storeVar_part w g of t ty f h M m hg hm hi h1]
  rw [tabv_congr _ f' M hf]
  unfold Oper.upon
  first | exact hk | (simp only [hd]; exact hk)
set_option maxRecDepth 100000 in
set_option maxHeartbeats 16000000 in
theorem limits_walk (n : Num) (h : Nat → UInt8) (note : ByteArray) (extra : Int) (hz : note.size ≤ 140737488351232) (he0 : -9223372036854775808 ≤ extra) (he1 : extra ≤ 9223372036854775807) (w : World) (hG : Glob n w) : Calls Tryd.prog 3 #[.agg (tabv (bv h) 32), .string note, .int .i64 extra] w fun e w' => e = .returned (.bool true) ∧ Below w.heap.size w w' := by
  obtain ⟨w3, hW⟩ : ∃ x, w.alloc (.cells (tabv (bv h) 32) 23) = x := ⟨_, rfl⟩
  have g0 : Has w3 w.heap.size 23 (bv h) 32 := by rw [← hW]; exact Has.new w 23 (bv h) 32 _ rfl
  have gb : Below w.heap.size w w3 := by rw [← hW]; exact (Below.refl w.heap.size w).alloc (Nat.le_refl _) _
  have HD := hide (fun (w : World) (hG : Glob n w) => head_any n w hG)
  have G0 := hide g0
  clear g0
  go_enter Tryd.func3, Tryd.ntmps3
  go_wp2_with fail
  refine (HD.out _ (hG.up gb (Nat.le_refl _))).mono ?_
  rintro e w4 ⟨rfl, hb4⟩
  have gb4 := gb.trans (hb4.mono gb.size)
  have G4 := hide (G0.out.below hb4 G0.out.lt)
  clear hb4 gb hW HD G0
  go_upto_if 25 with fail
  go_cut [1] from 21 (fun s1 wx => (∃ nt : ByteArray, nt.size ≤ 64 ∧ s1 = .string nt) ∧ wx = w4)
  case first =>
    by_cases hg : note.size > 64
    · have hd : decide ((note.size : Int) > 64) = true := decide_eq_true (by omega)
      have hq : (64 : Int) ≤ (note.size : Int) := by omega
      rw [hd]
      go_wp2_with fail
      go_meet
      exact ⟨⟨_, by rw [ByteArray.size_extract]; omega, rfl⟩, rfl⟩
    · have hd : decide ((note.size : Int) > 64) = false := decide_eq_false (by omega)
      rw [hd]
      go_wp2_with fail
      go_meet
      exact ⟨⟨note, by omega, rfl⟩, rfl⟩
  case rest =>
  obtain ⟨⟨nt, hnt, rfl⟩, hwc⟩ := hcut
  obtain rfl := hwc.symm
  clear hwc hz
  go_upto_if 30 with fail
  go_cut [7] from 21 (fun s7 wx => (∃ mo : Int, 0 ≤ mo ∧ mo ≤ 9223372036854775807 ∧ s7 = .int .i64 mo) ∧ wx = w4)
  case first =>
    by_cases hg : extra < 0
    · have hd : decide (extra < 0) = true := decide_eq_true hg
      have KN : Hid (∀ w : World, (Op.unary .neg (.int .i64 (extra + 1))).run Tryd.prog w = .ok (.int .i64 (-(extra + 1))) w) := fun w => run_neg .i64 (extra + 1) _ (by rw [IntKind.wrap_i64]; omega) w
      rw [hd]
      go_wp2_with (first | refine wpW_un .neg _ _ rfl (.int .i64 (extra + 1)) (.int .i64 (-(extra + 1))) (by rfl) (by rfl) (KN.out _) ?_ | fail)
      go_meet
      exact ⟨⟨_, by omega, by omega, rfl⟩, rfl⟩
    · have hd : decide (extra < 0) = false := decide_eq_false hg
      rw [hd]
      go_wp2_with fail
      go_meet
      exact ⟨⟨extra, by omega, by omega, rfl⟩, rfl⟩
  case rest =>
  obtain ⟨⟨mo, hm0, hm1, rfl⟩, hwc⟩ := hcut
  obtain rfl := hwc.symm
  clear hwc he0 he1
  have hnti : (nt.size : Int) ≤ 64 := by omega
  have HNT := hide hnt
  go_wp2
  go_loopw [8] (fun s wr => ∃ b : ByteArray, s = .string b ∧ b.size ≤ 65 ∧ wr = w4) (fun s _ => (match s with | .string b => 65 - b.size | _ => 0))
  case atStart => exact ⟨_, rfl, by rw [ByteArray.size_append]; show nt.size + 1 ≤ 65; omega, rfl⟩
  case round =>
    obtain ⟨lg, rfl, hlg, hwr⟩ := hrel
    obtain rfl := hwr.symm
    clear hwr
    by_cases hlt : lg.size < 65
    · have hd : decide ((lg.size : Int) < 65) = true := decide_eq_true (by omega)
      go_wp2
      go_roundw
      case rel => exact ⟨_, rfl, by rw [ByteArray.size_append]; show lg.size + 1 ≤ 65; omega, by first | rfl | trivial⟩
      case measure => show 65 - (lg ++ (⟨#[120]⟩ : ByteArray)).size < 65 - lg.size; rw [ByteArray.size_append]; show 65 - (lg.size + 1) < _; omega
    · have hd : decide ((lg.size : Int) < 65) = false := decide_eq_false (by omega)
      have hl65 : lg.size = 65 := by omega
      have hq64 : (64 : Int) ≤ (lg.size : Int) := by omega
      have HLG := hide hl65
      clear hl65 hlt hlg
      go_wp2
      refine wp_region_noPanic ?_
      refine wp_region_held_drew (S := fun wx => Below w4.heap.size w4 wx) (by kernel_rfl) ((Below.refl _ _).drew) (fun hHeld => ?_)
      refine Cu.takeH 0 (some 41) (.agg (tabv (bv h) 32)) rfl rfl (by kernel_rfl) (by kernel_rfl) (by kernel_rfl) (fun _ _ _ h => h) (by rfl) (fun w hw => run_load_at w 23 _ rfl _ 0 (by rfl) (bv h) 32 _ ((G4.out.below hw G4.out.lt).at_ 0 (by omega) (fun i hi => by rw [Nat.zero_add])) Tryd.underlying23 rfl info26) hHeld ?_
      simp only [Act.put, List.setIfInBounds_toArray, List.set_cons_zero, List.set_cons_succ]
      refine Cu.takeH 1 (some 42) (.agg (tabv (Upd.v ⟨1, 0, 1, h, nilB⟩) 36)) rfl rfl (by kernel_rfl) (by kernel_rfl) (by kernel_rfl) (fun _ _ _ h => h) (by rfl) (fun w hw => run_buildG w 26 _ rfl [(0, .int .i64 1), (2, .int .i64 1), (3, .agg (tabv (bv h) 32))] (by simp [Act.eval]) _ (bR0 h nt)) hHeld ?_
      simp only [Act.put, List.setIfInBounds_toArray, List.set_cons_zero, List.set_cons_succ]
      refine Cu.takeH 2 (some 43) (.agg (tabv (bv h) 32)) rfl rfl (by kernel_rfl) (by kernel_rfl) (by kernel_rfl) (fun _ _ _ h => h) (by rfl) (fun w hw => run_load_at w 23 _ rfl _ 0 (by rfl) (bv h) 32 _ ((G4.out.below hw G4.out.lt).at_ 0 (by omega) (fun i hi => by rw [Nat.zero_add])) Tryd.underlying23 rfl info26) hHeld ?_
      simp only [Act.put, List.setIfInBounds_toArray, List.set_cons_zero, List.set_cons_succ]
      refine Cu.takeH 3 (some 44) (.agg (tabv (Upd.v ⟨1, 2047, 1152921504606846976, h, nilB⟩) 36)) rfl rfl (by kernel_rfl) (by kernel_rfl) (by kernel_rfl) (fun _ _ _ h => h) (by rfl) (fun w hw => run_buildG w 26 _ rfl [(0, .int .i64 1), (1, .int .i64 2047), (2, .int .i64 1152921504606846976), (3, .agg (tabv (bv h) 32))] (by simp [Act.eval]) _ (bR1 h nt)) hHeld ?_
      simp only [Act.put, List.setIfInBounds_toArray, List.set_cons_zero, List.set_cons_succ]
      refine Cu.takeH 4 (some 45) (.agg (tabv (bv h) 32)) rfl rfl (by kernel_rfl) (by kernel_rfl) (by kernel_rfl) (fun _ _ _ h => h) (by rfl) (fun w hw => run_load_at w 23 _ rfl _ 0 (by rfl) (bv h) 32 _ ((G4.out.below hw G4.out.lt).at_ 0 (by omega) (fun i hi => by rw [Nat.zero_add])) Tryd.underlying23 rfl info26) hHeld ?_
      simp only [Act.put, List.setIfInBounds_toArray, List.set_cons_zero, List.set_cons_succ]
      refine Cu.takeH 5 (some 46) (.agg (tabv (Upd.v ⟨2, 0, 0, h, nilB⟩) 36)) rfl rfl (by kernel_rfl) (by kernel_rfl) (by kernel_rfl) (fun _ _ _ h => h) (by rfl) (fun w hw => run_buildG w 26 _ rfl [(0, .int .i64 2), (3, .agg (tabv (bv h) 32))] (by simp [Act.eval]) _ (bR2 h nt)) hHeld ?_
      simp only [Act.put, List.setIfInBounds_toArray, List.set_cons_zero, List.set_cons_succ]
      refine Cu.takeH 6 (some 47) (.agg (tabv (bv h) 32)) rfl rfl (by kernel_rfl) (by kernel_rfl) (by kernel_rfl) (fun _ _ _ h => h) (by rfl) (fun w hw => run_load_at w 23 _ rfl _ 0 (by rfl) (bv h) 32 _ ((G4.out.below hw G4.out.lt).at_ 0 (by omega) (fun i hi => by rw [Nat.zero_add])) Tryd.underlying23 rfl info26) hHeld ?_
      simp only [Act.put, List.setIfInBounds_toArray, List.set_cons_zero, List.set_cons_succ]
      refine Cu.takeH 7 (some 48) (.agg (tabv (Upd.v ⟨2, 2047, 0, h, nilB⟩) 36)) rfl rfl (by kernel_rfl) (by kernel_rfl) (by kernel_rfl) (fun _ _ _ h => h) (by rfl) (fun w hw => run_buildG w 26 _ rfl [(0, .int .i64 2), (1, .int .i64 2047), (3, .agg (tabv (bv h) 32))] (by simp [Act.eval]) _ (bR3 h nt)) hHeld ?_
      simp only [Act.put, List.setIfInBounds_toArray, List.set_cons_zero, List.set_cons_succ]
      refine Cu.takeH 8 (some 49) (.string nt) rfl rfl (by kernel_rfl) (by kernel_rfl) (by kernel_rfl) (fun _ _ _ h => h) (by rfl) (fun w hw => by first | rfl | (go_simp; done) | (go_simp; rfl) | (go_simp; omega)) hHeld ?_
      simp only [Act.put, List.setIfInBounds_toArray, List.set_cons_zero, List.set_cons_succ]
      refine Cu.takeH 9 (some 50) (.agg (tabv (Upd.v ⟨3, 2047, 0, fun _ => 0, nt⟩) 36)) rfl rfl (by kernel_rfl) (by kernel_rfl) (by kernel_rfl) (fun _ _ _ h => h) (by rfl) (fun w hw => run_buildG w 26 _ rfl [(0, .int .i64 3), (1, .int .i64 2047), (4, .string nt)] (by simp [Act.eval]) _ (bR4 h nt)) hHeld ?_
      simp only [Act.put, List.setIfInBounds_toArray, List.set_cons_zero, List.set_cons_succ]
      refine Cu.takeH 10 (some 51) (.string lg) rfl rfl (by kernel_rfl) (by kernel_rfl) (by kernel_rfl) (fun _ _ _ h => h) (by rfl) (fun w hw => by first | rfl | (go_simp; done) | (go_simp; rfl) | (go_simp; omega)) hHeld ?_
      simp only [Act.put, List.setIfInBounds_toArray, List.set_cons_zero, List.set_cons_succ]
      refine Cu.takeH 11 (some 52) (.string (lg.extract 0 64)) rfl rfl (by kernel_rfl) (by kernel_rfl) (by kernel_rfl) (fun _ _ _ h => h) (by rfl) (fun w hw => by first | rfl | (go_simp; done) | (go_simp; rfl) | (go_simp; omega)) hHeld ?_
      simp only [Act.put, List.setIfInBounds_toArray, List.set_cons_zero, List.set_cons_succ]
      refine Cu.takeH 12 (some 53) (.agg (tabv (Upd.v ⟨3, 0, 0, fun _ => 0, (lg.extract 0 64)⟩) 36)) rfl rfl (by kernel_rfl) (by kernel_rfl) (by kernel_rfl) (fun _ _ _ h => h) (by rfl) (fun w hw => run_buildG w 26 _ rfl [(0, .int .i64 3), (4, .string (lg.extract 0 64))] (by simp [Act.eval]) _ (bR5 h (lg.extract 0 64))) hHeld ?_
      simp only [Act.put, List.setIfInBounds_toArray, List.set_cons_zero, List.set_cons_succ]
      refine Cu.takeH 13 (some 54) (.agg (tabv (rowN (six ⟨1, 0, 1, h, nilB⟩ ⟨1, 2047, 1152921504606846976, h, nilB⟩ ⟨2, 0, 0, h, nilB⟩ ⟨2, 2047, 0, h, nilB⟩ ⟨3, 2047, 0, fun _ => 0, nt⟩ ⟨3, 0, 0, fun _ => 0, (lg.extract 0 64)⟩)) 216)) rfl rfl (by kernel_rfl) (by kernel_rfl) (by kernel_rfl) (fun _ _ _ h => h) (by rfl) (fun w hw => run_buildG w 27 _ rfl [(0, .agg (tabv (Upd.v ⟨1, 0, 1, h, nilB⟩) 36)), (1, .agg (tabv (Upd.v ⟨1, 2047, 1152921504606846976, h, nilB⟩) 36)), (2, .agg (tabv (Upd.v ⟨2, 0, 0, h, nilB⟩) 36)), (3, .agg (tabv (Upd.v ⟨2, 2047, 0, h, nilB⟩) 36)), (4, .agg (tabv (Upd.v ⟨3, 2047, 0, fun _ => 0, nt⟩) 36)), (5, .agg (tabv (Upd.v ⟨3, 0, 0, fun _ => 0, (lg.extract 0 64)⟩) 36))] (by simp [Act.eval]) _ (built6 ⟨1, 0, 1, h, nilB⟩ ⟨1, 2047, 1152921504606846976, h, nilB⟩ ⟨2, 0, 0, h, nilB⟩ ⟨2, 2047, 0, h, nilB⟩ ⟨3, 2047, 0, fun _ => 0, nt⟩ ⟨3, 0, 0, fun _ => 0, (lg.extract 0 64)⟩)) hHeld ?_
      simp only [Act.put, List.setIfInBounds_toArray, List.set_cons_zero, List.set_cons_succ]
      refine wpAnyH_ready (rs := [14]) (by kernel_rfl) (by simp) (AllReadyH.cons rfl (fun K hK => ?_) AllReadyH.nil)
      rw [if_pos (by rfl)]
      refine wpRun (run_alloc_z 27 _ 216 info6z _ rfl) ?_
      simp only [Act.put, List.setIfInBounds_toArray, List.set_cons_zero, List.set_cons_succ]
      refine hK.out _ _ (hHeld.alloc hHeld.size _) (fun hH => ?_)
      clear hK K hHeld
      have hHeld := hH
      clear hH
      refine wpAnyH_ready (rs := [15]) (by kernel_rfl) (by simp) (AllReadyH.cons rfl (fun K hK => ?_) AllReadyH.nil)
      rw [if_pos (by rfl)]
      have q8 : Has (w4.drew.alloc (.cells (tabv (rowN fun _ => Upd.zero) 216) 27)) w4.heap.size 27 (rowN fun _ => Upd.zero) 216 := Has.new w4.drew 27 _ 216 _ rfl
      refine wp_store_part 27 _ _ rfl rfl w4.heap.size 0 (rowN (six ⟨1, 0, 1, h, nilB⟩ ⟨1, 2047, 1152921504606846976, h, nilB⟩ ⟨2, 0, 0, h, nilB⟩ ⟨2, 2047, 0, h, nilB⟩ ⟨3, 2047, 0, fun _ => 0, nt⟩ ⟨3, 0, 0, fun _ => 0, (lg.extract 0 64)⟩)) 216 rfl rfl 27 _ 216 q8 (by omega) info6s (fun i _ => rowN_one _ i) (rowN (six ⟨1, 0, 1, h, nilB⟩ ⟨1, 2047, 1152921504606846976, h, nilB⟩ ⟨2, 0, 0, h, nilB⟩ ⟨2, 2047, 0, h, nilB⟩ ⟨3, 2047, 0, fun _ => 0, nt⟩ ⟨3, 0, 0, fun _ => 0, (lg.extract 0 64)⟩)) (fun i hi => by unfold splice; rw [if_pos (by omega), Nat.sub_zero]) ?_
      have r8 := q8.row _ (rowN (six ⟨1, 0, 1, h, nilB⟩ ⟨1, 2047, 1152921504606846976, h, nilB⟩ ⟨2, 0, 0, h, nilB⟩ ⟨2, 2047, 0, h, nilB⟩ ⟨3, 2047, 0, fun _ => 0, nt⟩ ⟨3, 0, 0, fun _ => 0, (lg.extract 0 64)⟩)) rfl
      refine hK.out _ _ (below_setRow hHeld (Nat.le_refl _) _) (fun hH => ?_)
      clear hK K hHeld
      refine ⟨by kernel_rfl, ?_⟩
      refine NoPanic.normal ?_
      generalize hw5 : World.setRow _ w4.heap.size _ = w5 at hH ⊢
      have A5 : Has w5 w4.heap.size 27 (rowN (rightU h nt (lg.extract 0 64))) 216 := by rw [← hw5]; exact r8
      have G5 := G4.out.below hH G4.out.lt
      have gb5 := gb4.trans (hH.mono gb4.size)
      clear r8 q8 hw5 hH gb4 G4
      have hl64 : (lg.extract 0 64).size = 64 := by rw [ByteArray.size_extract]; have := HLG.out; omega
      obtain ⟨l64, hl64e⟩ : ∃ x, (lg.extract 0 64) = x := ⟨_, rfl⟩
      rw [hl64e] at A5 hl64
      have HRV := hide (fun i hi => right_valid h nt l64 HNT.out hl64 i hi)
      obtain ⟨w6, hW6⟩ : ∃ x, w5.alloc (.cells (tabv (fun i => .int .i64 (szR nt i)) 6) 28) = x := ⟨_, rfl⟩
      have z6 : Has w6 w5.heap.size 28 (fun i => .int .i64 (szR nt i)) 6 := by rw [← hW6]; exact Has.new w5 28 _ 6 _ rfl
      have b6 : Below w5.heap.size w5 w6 := by rw [← hW6]; exact (Below.refl _ _).alloc (Nat.le_refl _) _
      have A6 := hide (A5.below b6 A5.lt)
      have G6 := hide (G5.below b6 G5.lt)
      have gb6 := gb5.trans (b6.mono gb5.size)
      have Z6 := hide z6
      rw [show tabv (fun i => (.int .i64 (szR nt i) : Value)) 6 = #[.int .i64 43, .int .i64 43, .int .i64 35, .int .i64 35, .int .i64 (5 + (nt.size : Int)), .int .i64 69] from rfl] at hW6
      clear A5 G5 gb5 b6 z6 hl64 hl64e
      go_wp2
      try rw [hW6]
      clear hW6
      generalize w5.heap.size = gZ at Z6 ⊢
      go_loopw [11] (fun i wr => ∃ j : Nat, j ≤ 6 ∧ i = .int .i64 (j : Int) ∧ Below w6.heap.size w6 wr) (fun i _ => 6 - (intOf i).toNat)
      case atStart => exact ⟨0, by omega, rfl, Below.refl _ _⟩
      case round =>
        obtain ⟨j, hj, rfl, hbr⟩ := hrel
        have ar := A6.out.below hbr A6.out.lt
        have zr := Z6.out.below hbr Z6.out.lt
        by_cases hlt : j < 6
        · have hd : decide ((j : Int) < 6) = true := decide_eq_true (by omega)
          have hk0 : (0 : Int) ≤ (j : Int) := by omega
          have hk1 : (j : Int) < 6 := by omega
          obtain ⟨u, hu⟩ : ∃ u, rightU h nt l64 j = u := ⟨_, rfl⟩
          have hA := row_at (n := 6) ar j hlt
          obtain ⟨hv, hlen⟩ := HRV.out j hlt
          rw [hu] at hA hv hlen
          have WU := hide (fun w : World => write_any u w)
          have VU := hide (fun w : World => valid_any u w)
          rw [hv] at VU
          rw [show writeS u = ofL (bytesU u) by unfold writeS; rw [if_pos hv], show writeE u = 0 by unfold writeE; rw [if_pos hv]] at WU
          obtain ⟨s, hs⟩ : ∃ s, ofL (bytesU u) = s := ⟨_, rfl⟩
          rw [hs] at WU
          obtain ⟨Z, hZ⟩ : ∃ Z, szR nt j = Z := ⟨_, rfl⟩
          have hsz : ((s.size : Int) != Z) = false := by rw [← hs, Cu.ofL_size, hlen, hZ]; simp
          have HA := hide hA
          have HZ := hide zr
          have HAR := hide ar
          clear hA hv hlen hs hu ar zr
          go_wp2_with (first | refine wpW_load_at 26 _ rfl w4.heap.size (j * 36) (by rfl) (by rfl) _ 36 _ HA.out Tryd.underlying26 rfl infoU ?_ | fail)
          refine (WU.out _).mono ?_
          rintro e w7 ⟨rfl, hb7⟩
          have HA7 := hide (HA.out.below hb7 HAR.out.lt)
          have cz : w7.cell? ⟨gZ, j, none⟩ = some (.int .i64 Z) := by rw [(HZ.out.below hb7 HZ.out.lt).cell j hlt, hZ]
          have hbr7 := hbr.trans (hb7.mono hbr.size)
          clear hb7 hbr hZ
          go_wp2_with (first | refine wpW_load_at 26 _ rfl w4.heap.size (j * 36) (by rfl) (by rfl) _ 36 _ HA7.out Tryd.underlying26 rfl infoU ?_ | fail)
          refine (VU.out _).mono ?_
          rintro e w8 ⟨rfl, hb8⟩
          have hbr8 := hbr7.trans (hb8.mono hbr7.size)
          clear hb8 hbr7 cz
          go_wp2
          go_roundw
          case rel => exact ⟨j + 1, by omega, by go_num, hbr8⟩
          case measure => simp [intOf]; omega
        · have hj6 : j = 6 := by omega
          subst hj6
          have hd : decide (((6 : Nat) : Int) < 6) = false := by decide
          rw [show ((6 : Nat) : Int) = 6 from rfl]
          have gr := G6.out.below hbr G6.out.lt
          have gbr := gb6.trans (hbr.mono gb6.size)
          have HAR := hide ar
          have GR := hide gr
          clear ar zr gr hbr gb6 A6 G6 Z6
          obtain ⟨wA, hWA⟩ : ∃ x, wr.alloc (.cells (tabv (fun _ => .int .u8 0) 32) 23) = x := ⟨_, rfl⟩
          have hA0 : Has wA wr.heap.size 23 (fun _ => .int .u8 0) 32 := by rw [← hWA]; exact Has.new wr 23 _ 32 _ rfl
          have bA : Below wr.heap.size wr wA := by rw [← hWA]; exact (Below.refl _ _).alloc (Nat.le_refl _) _
          obtain ⟨wB, hWB⟩ : ∃ x, wA.setRow wr.heap.size (tabv (bv h) 32) = x := ⟨_, rfl⟩
          have hB0 : Has wB wr.heap.size 23 (bv h) 32 := by rw [← hWB]; exact hA0.row _ _ rfl
          have bB : Below wr.heap.size wr wB := by rw [← hWB]; exact below_setRow bA (Nat.le_refl _) _
          have cB : wB.cell? ⟨wr.heap.size, 0, none⟩ = some (.int .u8 ((h 0).toNat : Int)) := hB0.cell 0 (by omega)
          have fB := hB0.frozen 0
          obtain ⟨wC, hWC⟩ : ∃ x, wB.setCell ⟨wr.heap.size, 0, none⟩ (.int .u8 1) = x := ⟨_, rfl⟩
          have hC0 : Has wC wr.heap.size 23 (bv (upd h 0 1)) 32 := by rw [← hWC]; exact (hB0.set 0 (.int .u8 1)).congr _ (fun i _ => congrFun (bv_upd h 0 1) i)
          have bC : Below wr.heap.size wr wC := by rw [← hWC]; exact bB.setCell (Nat.le_refl _) _
          have GC := hide (GR.out.below bC GR.out.lt)
          have AC := hide (HAR.out.below bC HAR.out.lt)
          have gbC := gbr.trans (bC.mono gbr.size)
          have HA0 := hide hA0
          have HC0 := hide hC0
          have hqm : (-1 - mo : Int) = -1 - mo := rfl
          obtain ⟨wD, hWD⟩ : ∃ x, wC.alloc (.cells (tabv (rowN fun _ => Upd.zero) 432) 33) = x := ⟨_, rfl⟩
          have hD0 : Has wD wC.heap.size 33 (rowN fun _ => Upd.zero) 432 := by rw [← hWD]; exact Has.new wC 33 _ 432 _ rfl
          have HD0 := hide hD0
          obtain ⟨wE, hWE⟩ : ∃ x, wD.setRow wC.heap.size (tabv (rowN (wrongU h (upd h 0 1) mo lg)) 432) = x := ⟨_, rfl⟩
          have hE0 : Has wE wC.heap.size 33 (rowN (wrongU h (upd h 0 1) mo lg)) 432 := by rw [← hWE]; exact hD0.row _ _ rfl
          have bE : Below wC.heap.size wC wE := by rw [← hWE, ← hWD]; exact below_setRow ((Below.refl _ _).alloc (Nat.le_refl _) _) (Nat.le_refl _) _
          have GE := hide (GC.out.below bE GC.out.lt)
          have AE := hide (AC.out.below bE AC.out.lt)
          have EE := hide hE0
          have gbE := gbC.trans (bE.mono gbC.size)
          have hGE := hG.up gbE (Nat.le_refl _)
          rw [zero32] at hWA
          have GRX := GR
          clear hA0 bA hB0 bB hC0 bC hD0 hE0 bE GR HAR gbr gbC hqm
          go_wp2_with (first | refine wpW_load_at 23 _ rfl w.heap.size 0 (by rfl) (by rfl) _ 32 _ (GRX.out.at_ 0 (by omega) (fun i hi => by rw [Nat.zero_add])) Tryd.underlying23 rfl info26 ?_ | refine wpList_storeH rfl _ _ rfl rfl wr.heap.size h rfl rfl _ HA0.out ?_ | refine wpW_load_at 23 _ rfl w.heap.size 0 (by rfl) (by rfl) _ 32 _ (by first | exact GC.out.at_ 0 (by omega) (fun i hi => by rw [Nat.zero_add]) | (rw [hWC]; exact GC.out.at_ 0 (by omega) (fun i hi => by rw [Nat.zero_add]))) Tryd.underlying23 rfl info26 ?_ | refine wpW_load_at 23 _ rfl wr.heap.size 0 (by rfl) (by rfl) _ 32 _ (by first | exact HC0.out.at_ 0 (by omega) (fun i hi => by rw [Nat.zero_add]) | (rw [hWC]; exact HC0.out.at_ 0 (by omega) (fun i hi => by rw [Nat.zero_add]))) Tryd.underlying23 rfl info26 ?_ | refine wpW_build (by rfl) 26 #[(0, .const (.int .i64 1)), (3, .tmp 89)] rfl [(0, .int .i64 1), (3, .agg (tabv (bv h) 32))] (by simp [Act.eval, Act.put]) _ (bW0 h (upd h 0 1) mo lg) ?_ | refine wpW_build (by rfl) 26 #[(0, .const (.int .i64 1)), (2, .tmp 92)] rfl [(0, .int .i64 1), (2, .int .i64 (-1 - mo))] (by simp [Act.eval, Act.put]) _ (bW1 h (upd h 0 1) mo lg) ?_ | refine wpW_build (by rfl) 26 #[(0, .const (.int .i64 1)), (2, .const (.int .i64 1152921504606846977))] rfl [(0, .int .i64 1), (2, .int .i64 1152921504606846977)] (by simp [Act.eval, Act.put]) _ (bW2 h (upd h 0 1) mo lg) ?_ | refine wpW_build (by rfl) 26 #[(0, .const (.int .i64 1)), (2, .const (.int .i64 1)), (1, .const (.int .i64 2048))] rfl [(0, .int .i64 1), (2, .int .i64 1), (1, .int .i64 2048)] (by simp [Act.eval, Act.put]) _ (bW3 h (upd h 0 1) mo lg) ?_ | refine wpW_build (by rfl) 26 #[(0, .const (.int .i64 1)), (2, .const (.int .i64 1)), (1, .tmp 97)] rfl [(0, .int .i64 1), (2, .int .i64 1), (1, .int .i64 (-1 - mo))] (by simp [Act.eval, Act.put]) _ (bW4 h (upd h 0 1) mo lg) ?_ | refine wpW_build (by rfl) 26 #[(0, .const (.int .i64 1)), (2, .const (.int .i64 1)), (4, .const (.string ⟨#[120]⟩))] rfl [(0, .int .i64 1), (2, .int .i64 1), (4, .string ⟨#[120]⟩)] (by simp [Act.eval, Act.put]) _ (bW5 h (upd h 0 1) mo lg) ?_ | refine wpW_build (by rfl) 26 #[(0, .const (.int .i64 2)), (2, .const (.int .i64 1))] rfl [(0, .int .i64 2), (2, .int .i64 1)] (by simp [Act.eval, Act.put]) _ (bW6 h (upd h 0 1) mo lg) ?_ | refine wpW_build (by rfl) 26 #[(0, .const (.int .i64 2)), (4, .const (.string ⟨#[120]⟩))] rfl [(0, .int .i64 2), (4, .string ⟨#[120]⟩)] (by simp [Act.eval, Act.put]) _ (bW7 h (upd h 0 1) mo lg) ?_ | refine wpW_build (by rfl) 26 #[(0, .const (.int .i64 3)), (2, .const (.int .i64 1))] rfl [(0, .int .i64 3), (2, .int .i64 1)] (by simp [Act.eval, Act.put]) _ (bW8 h (upd h 0 1) mo lg) ?_ | refine wpW_build (by rfl) 26 #[(0, .const (.int .i64 3)), (3, .tmp 103)] rfl [(0, .int .i64 3), (3, .agg (tabv (bv (upd h 0 1)) 32))] (by simp [Act.eval, Act.put]) _ (bW9 h (upd h 0 1) mo lg) ?_ | refine wpW_build (by rfl) 26 #[(0, .const (.int .i64 3)), (4, .tmp 105)] rfl [(0, .int .i64 3), (4, .string lg)] (by simp [Act.eval, Act.put]) _ (bW10 h (upd h 0 1) mo lg) ?_ | refine wpW_build (by rfl) 26 #[(0, .const (.int .i64 4)), (2, .const (.int .i64 1))] rfl [(0, .int .i64 4), (2, .int .i64 1)] (by simp [Act.eval, Act.put]) _ (bW11 h (upd h 0 1) mo lg) ?_ | refine wpW_build (by rfl) 33 #[(0, .tmp 90), (1, .tmp 93), (2, .tmp 94), (3, .tmp 95), (4, .tmp 98), (5, .tmp 99), (6, .tmp 100), (7, .tmp 101), (8, .tmp 102), (9, .tmp 104), (10, .tmp 106), (11, .tmp 107)] rfl [(0, .agg (tabv (Upd.v ⟨1, 0, 0, h, nilB⟩) 36)), (1, .agg (tabv (Upd.v ⟨1, 0, -1 - mo, fun _ => 0, nilB⟩) 36)), (2, .agg (tabv (Upd.v ⟨1, 0, 1152921504606846977, fun _ => 0, nilB⟩) 36)), (3, .agg (tabv (Upd.v ⟨1, 2048, 1, fun _ => 0, nilB⟩) 36)), (4, .agg (tabv (Upd.v ⟨1, -1 - mo, 1, fun _ => 0, nilB⟩) 36)), (5, .agg (tabv (Upd.v ⟨1, 0, 1, fun _ => 0, ⟨#[120]⟩⟩) 36)), (6, .agg (tabv (Upd.v ⟨2, 0, 1, fun _ => 0, nilB⟩) 36)), (7, .agg (tabv (Upd.v ⟨2, 0, 0, fun _ => 0, ⟨#[120]⟩⟩) 36)), (8, .agg (tabv (Upd.v ⟨3, 0, 1, fun _ => 0, nilB⟩) 36)), (9, .agg (tabv (Upd.v ⟨3, 0, 0, (upd h 0 1), nilB⟩) 36)), (10, .agg (tabv (Upd.v ⟨3, 0, 0, fun _ => 0, lg⟩) 36)), (11, .agg (tabv (Upd.v ⟨4, 0, 1, fun _ => 0, nilB⟩) 36))] (by simp [Act.eval, Act.put]) _ (built12 ⟨1, 0, 0, h, nilB⟩ ⟨1, 0, -1 - mo, fun _ => 0, nilB⟩ ⟨1, 0, 1152921504606846977, fun _ => 0, nilB⟩ ⟨1, 2048, 1, fun _ => 0, nilB⟩ ⟨1, -1 - mo, 1, fun _ => 0, nilB⟩ ⟨1, 0, 1, fun _ => 0, ⟨#[120]⟩⟩ ⟨2, 0, 1, fun _ => 0, nilB⟩ ⟨2, 0, 0, fun _ => 0, ⟨#[120]⟩⟩ ⟨3, 0, 1, fun _ => 0, nilB⟩ ⟨3, 0, 0, (upd h 0 1), nilB⟩ ⟨3, 0, 0, fun _ => 0, lg⟩ ⟨4, 0, 1, fun _ => 0, nilB⟩) ?_ | refine wpList_alloc_z rfl 33 _ 432 info12z rfl ?_ | refine wpList_store_part rfl 33 _ _ rfl rfl wC.heap.size 0 (rowN (wrongU h (upd h 0 1) mo lg)) 432 rfl rfl 33 _ 432 (by first | exact HD0.out | (rw [hWD]; exact HD0.out)) (by omega) info12s (fun i _ => rowN_one _ i) (rowN (wrongU h (upd h 0 1) mo lg)) (fun i hi => by unfold splice; rw [if_pos (by omega), Nat.sub_zero]) ?_ | fail)
          generalize hgO : wr.heap.size = gO at hWA hWB hWC
          clear hWA hWB hWC hWD hWE HA0 HC0 GC AC HD0 cB fB GRX
          have hgW : wC.heap.size < wE.heap.size := EE.out.lt
          generalize wC.heap.size = gW at EE hgW ⊢
          clear hgO
          go_loopw [16] (fun i wq => ∃ j : Nat, j ≤ 12 ∧ i = .int .i64 (j : Int) ∧ Below wE.heap.size wE wq) (fun i _ => 12 - (intOf i).toNat)
          case atStart => exact ⟨0, by omega, rfl, Below.refl _ _⟩
          case round =>
            obtain ⟨j, hj, rfl, hbr⟩ := hrel
            have er := EE.out.below hbr EE.out.lt
            have ar := AE.out.below hbr AE.out.lt
            by_cases hlt : j < 12
            · have hd : decide ((j : Int) < 12) = true := decide_eq_true (by omega)
              have hk0 : (0 : Int) ≤ (j : Int) := by omega
              have hk1 : (j : Int) < 12 := by omega
              have hv := wrong_not h (upd h 0 1) mo lg hm0 rfl HLG.out j hlt
              have hA := row_at (n := 12) er j hlt
              obtain ⟨u, hu⟩ : ∃ u, wrongU h (upd h 0 1) mo lg j = u := ⟨_, rfl⟩
              rw [hu] at hA hv
              have hA2 := row_at (n := 6) ar 0 (by omega)
              obtain ⟨r0, hr0⟩ : ∃ r, rightU h nt l64 0 = r := ⟨_, rfl⟩
              rw [hr0, Nat.zero_mul] at hA2
              have WU := hide (fun w : World => write_any u w)
              have VU := hide (fun w : World => valid_any u w)
              rw [hv] at VU
              rw [show writeS u = ⟨#[]⟩ by unfold writeS; rw [if_neg (by rw [hv]; decide)]; rfl, show writeE u = 120 by unfold writeE; rw [if_neg (by rw [hv]; decide)]] at WU
              have NU := hide (fun (w w1 : World) (hG : Glob n w1) (e : w.alloc (.cells (tabv r0.v 36) 26) = w1) => next_any n none (some ⟨w.heap.size, 0, none⟩) 0 1 0 1 [] [r0] rfl rfl (by omega) (by omega) u w1 hG (.inl rfl) (by rw [← e]; exact upds_one w r0))
              rw [next_not _ _ hv] at NU
              have HA := hide hA
              have HA2 := hide hA2
              have HER := hide er.lt
              have HAR := hide ar.lt
              clear hA hA2 hv hu hr0 er ar
              go_wp2_with (first | refine wpW_load_at 26 _ rfl gW (j * 36) (by rfl) (by rfl) _ 36 _ HA.out Tryd.underlying26 rfl infoU ?_ | fail)
              refine (WU.out _).mono ?_
              rintro e w7 ⟨rfl, hb7⟩
              have HA7 := hide (HA.out.below hb7 HER.out)
              have HA27 := hide (HA2.out.below hb7 HAR.out)
              have HER7 := hide (Nat.lt_of_lt_of_le HER.out hb7.size)
              have HAR7 := hide (Nat.lt_of_lt_of_le HAR.out hb7.size)
              have hbr7 := hbr.trans (hb7.mono hbr.size)
              have gb7 := gbE.trans (hbr7.mono gbE.size)
              have hG7 := hG.up gb7 (Nat.le_refl _)
              clear hb7 hbr
              go_wp2
              refine wp_region_noPanic ?_
              refine wp_region_held_drew (S := fun wx => Below w7.heap.size w7 wx) (by kernel_rfl) ((Below.refl _ _).drew) (fun hHeld => ?_)
              refine Cu.takeH 0 (some 120) (.int .i64 120) rfl rfl (by kernel_rfl) (by kernel_rfl) (by kernel_rfl) (fun _ _ _ h => h) (by rfl) (fun w hw => by first | rfl | (go_simp; done) | (go_simp; rfl) | (go_simp; omega)) hHeld ?_
              simp only [Act.put, List.setIfInBounds_toArray, List.set_cons_zero, List.set_cons_succ]
              refine Cu.takeH 1 (some 121) (.bool false) rfl rfl (by kernel_rfl) (by kernel_rfl) (by kernel_rfl) (fun _ _ _ h => h) (by rfl) (fun w hw => by first | rfl | (go_simp; done) | (go_simp; rfl) | (go_simp; omega)) hHeld ?_
              simp only [Act.put, List.setIfInBounds_toArray, List.set_cons_zero, List.set_cons_succ]
              refine Cu.takeH 2 (some 122) (.bool false) rfl rfl (by kernel_rfl) (by kernel_rfl) (by kernel_rfl) (fun _ _ _ h => h) (by rfl) (fun w hw => by first | rfl | (go_simp; done) | (go_simp; rfl) | (go_simp; omega)) hHeld ?_
              simp only [Act.put, List.setIfInBounds_toArray, List.set_cons_zero, List.set_cons_succ]
              refine Cu.takeH 3 (some 123) (.string ⟨#[]⟩) rfl rfl (by kernel_rfl) (by kernel_rfl) (by kernel_rfl) (fun _ _ _ h => h) (by rfl) (fun w hw => by first | rfl | (go_simp; done) | (go_simp; rfl) | (go_simp; omega)) hHeld ?_
              simp only [Act.put, List.setIfInBounds_toArray, List.set_cons_zero, List.set_cons_succ]
              refine Cu.takeH 4 (some 124) (.bool false) rfl rfl (by kernel_rfl) (by kernel_rfl) (by kernel_rfl) (fun _ _ _ h => h) (by rfl) (fun w hw => by first | rfl | (go_simp; done) | (go_simp; rfl) | (go_simp; omega)) hHeld ?_
              simp only [Act.put, List.setIfInBounds_toArray, List.set_cons_zero, List.set_cons_succ]
              refine Cu.takeH 5 (some 125) (.bool false) rfl rfl (by kernel_rfl) (by kernel_rfl) (by kernel_rfl) (fun _ _ _ h => h) (by rfl) (fun w hw => by first | rfl | (go_simp; done) | (go_simp; rfl) | (go_simp; omega)) hHeld ?_
              simp only [Act.put, List.setIfInBounds_toArray, List.set_cons_zero, List.set_cons_succ]
              refine Cu.takeH 6 (some 126) (.bool false) rfl rfl (by kernel_rfl) (by kernel_rfl) (by kernel_rfl) (fun _ _ _ h => h) (by rfl) (fun w hw => by first | rfl | (go_simp; done) | (go_simp; rfl) | (go_simp; omega)) hHeld ?_
              simp only [Act.put, List.setIfInBounds_toArray, List.set_cons_zero, List.set_cons_succ]
              refine Cu.takeH 7 (some 127) (.int .i64 (j : Int)) rfl rfl (by kernel_rfl) (by kernel_rfl) (by kernel_rfl) (fun _ _ _ h => h) (by rfl) (fun w hw => by first | rfl | (go_simp; done) | (go_simp; rfl) | (go_simp; omega)) hHeld ?_
              simp only [Act.put, List.setIfInBounds_toArray, List.set_cons_zero, List.set_cons_succ]
              refine Cu.takeH 8 (some 128) (.pointer (some ⟨gW, j * 36, none⟩)) rfl rfl (by kernel_rfl) (by kernel_rfl) (by kernel_rfl) (fun _ _ _ h => h) (by rfl) (fun w hw => by first | rfl | (go_simp; done) | (go_simp; rfl) | (go_simp; omega)) hHeld ?_
              simp only [Act.put, List.setIfInBounds_toArray, List.set_cons_zero, List.set_cons_succ]
              refine Cu.takeH 9 (some 129) (.agg (tabv u.v 36)) rfl rfl (by kernel_rfl) (by kernel_rfl) (by kernel_rfl) (fun _ _ _ h => h) (by rfl) (fun w hw => run_load_at w 26 _ rfl _ (j * 36) (by rfl) _ 36 _ (HA7.out.below hw HER7.out) Tryd.underlying26 rfl infoU) hHeld ?_
              simp only [Act.put, List.setIfInBounds_toArray, List.set_cons_zero, List.set_cons_succ]
              refine wpAnyH_ready (rs := [10]) (by kernel_rfl) (by simp) (AllReadyH.cons rfl (fun K hK => ?_) AllReadyH.nil)
              rw [if_pos (by rfl)]
              go_simp
              refine (VU.out _).mono ?_
              rintro e w8 ⟨rfl, hb8⟩
              try go_wp2_with fail
              refine hK.out _ _ (hHeld.trans (hb8.mono hHeld.size)) (fun hH => ?_)
              clear hK K hHeld
              have hHeld := hH
              clear hH
              refine Cu.takeH 11 (some 131) (.bool false) rfl rfl (by kernel_rfl) (by kernel_rfl) (by kernel_rfl) (fun _ _ _ h => h) (by rfl) (fun w hw => by first | rfl | (go_simp; done) | (go_simp; rfl) | (go_simp; omega)) hHeld ?_
              simp only [Act.put, List.setIfInBounds_toArray, List.set_cons_zero, List.set_cons_succ]
              refine Cu.takeH 12 (some 132) (.bool false) rfl rfl (by kernel_rfl) (by kernel_rfl) (by kernel_rfl) (fun _ _ _ h => h) (by rfl) (fun w hw => by first | rfl | (go_simp; done) | (go_simp; rfl) | (go_simp; omega)) hHeld ?_
              simp only [Act.put, List.setIfInBounds_toArray, List.set_cons_zero, List.set_cons_succ]
              refine Cu.takeH 13 (some 133) (.pointer (some ⟨w4.heap.size, 0, none⟩)) rfl rfl (by kernel_rfl) (by kernel_rfl) (by kernel_rfl) (fun _ _ _ h => h) (by rfl) (fun w hw => by first | rfl | (go_simp; done) | (go_simp; rfl) | (go_simp; omega)) hHeld ?_
              simp only [Act.put, List.setIfInBounds_toArray, List.set_cons_zero, List.set_cons_succ]
              refine Cu.takeH 14 (some 134) (.agg (tabv r0.v 36)) rfl rfl (by kernel_rfl) (by kernel_rfl) (by kernel_rfl) (fun _ _ _ h => h) (by rfl) (fun w hw => run_load_at w 26 _ rfl _ (0) (by rfl) _ 36 _ (HA27.out.below hw HAR7.out) Tryd.underlying26 rfl infoU) hHeld ?_
              simp only [Act.put, List.setIfInBounds_toArray, List.set_cons_zero, List.set_cons_succ]
              refine Cu.takeH 16 (some 136) (.int .i64 (j : Int)) rfl rfl (by kernel_rfl) (by kernel_rfl) (by kernel_rfl) (fun _ _ _ h => h) (by rfl) (fun w hw => by first | rfl | (go_simp; done) | (go_simp; rfl) | (go_simp; omega)) hHeld ?_
              simp only [Act.put, List.setIfInBounds_toArray, List.set_cons_zero, List.set_cons_succ]
              refine Cu.takeH 17 (some 137) (.pointer (some ⟨gW, j * 36, none⟩)) rfl rfl (by kernel_rfl) (by kernel_rfl) (by kernel_rfl) (fun _ _ _ h => h) (by rfl) (fun w hw => by first | rfl | (go_simp; done) | (go_simp; rfl) | (go_simp; omega)) hHeld ?_
              simp only [Act.put, List.setIfInBounds_toArray, List.set_cons_zero, List.set_cons_succ]
              refine Cu.takeH 18 (some 138) (.agg (tabv u.v 36)) rfl rfl (by kernel_rfl) (by kernel_rfl) (by kernel_rfl) (fun _ _ _ h => h) (by rfl) (fun w hw => run_load_at w 26 _ rfl _ (j * 36) (by rfl) _ 36 _ (HA7.out.below hw HER7.out) Tryd.underlying26 rfl infoU) hHeld ?_
              simp only [Act.put, List.setIfInBounds_toArray, List.set_cons_zero, List.set_cons_succ]
              refine wpAnyH_ready (rs := [15]) (by kernel_rfl) (by simp) (AllReadyH.cons rfl (fun K hK => ?_) AllReadyH.nil)
              rw [if_pos (by rfl)]
              refine wpRun (v := .slice (some ⟨w8.heap.size, 0, none⟩) 1 1) (w' := w8.alloc (.cells (tabv r0.v 36) 26)) (by have := run_sliceU w8 r0; simp [execOp, this, Act.eval, Result.andThen]) ?_
              simp only [Act.put, List.setIfInBounds_toArray, List.set_cons_zero, List.set_cons_succ]
              refine hK.out _ _ (hHeld.alloc hHeld.size _) (fun hH => ?_)
              clear hK K hHeld
              have hHeld := hH
              clear hH
              refine wpAnyH_ready (rs := [19]) (by kernel_rfl) (by simp) (AllReadyH.cons rfl (fun K hK => ?_) AllReadyH.nil)
              rw [if_pos (by rfl)]
              go_simp
              refine (NU.out w8 _ (hG7.up hHeld (Nat.le_refl _)) rfl).mono ?_
              rintro e w9 ⟨rfl, hb9⟩
              try go_wp2_with fail
              refine hK.out _ _ (hHeld.trans (hb9.mono hHeld.size)) (fun hH => ?_)
              clear hK K hHeld
              have hHeld := hH
              clear hH
              refine Cu.takeH 20 (some 140) (.bool false) rfl rfl (by kernel_rfl) (by kernel_rfl) (by kernel_rfl) (fun _ _ _ h => h) (by rfl) (fun w hw => by first | rfl | (go_simp; done) | (go_simp; rfl) | (go_simp; omega)) hHeld ?_
              simp only [Act.put, List.setIfInBounds_toArray, List.set_cons_zero, List.set_cons_succ]
              refine Cu.takeH 21 (some 141) (.bool false) rfl rfl (by kernel_rfl) (by kernel_rfl) (by kernel_rfl) (fun _ _ _ h => h) (by rfl) (fun w hw => by first | rfl | (go_simp; done) | (go_simp; rfl) | (go_simp; omega)) hHeld ?_
              simp only [Act.put, List.setIfInBounds_toArray, List.set_cons_zero, List.set_cons_succ]
              refine ⟨by kernel_rfl, ?_⟩
              refine NoPanic.normal ?_
              have hbr9 := hbr7.trans (hHeld.mono hbr7.size)
              clear hHeld hb8 hb9 hbr7
              go_wp2
              go_roundw
              case rel => exact ⟨j + 1, by omega, by go_num, hbr9⟩
              case measure => simp [intOf]; omega
            · have hj12 : j = 12 := by omega
              subst hj12
              have hd : decide (((12 : Nat) : Int) < 12) = false := by decide
              rw [show ((12 : Nat) : Int) = 12 from rfl]
              have gr := GE.out.below hbr GE.out.lt
              have gbr := gbE.trans (hbr.mono gbE.size)
              clear er ar EE AE GE gbE hbr hGE
              obtain ⟨wF, lz, rm, ownF, hlz, hnz, bF⟩ := make_letter wr h
              obtain ⟨a, ha⟩ : ∃ a : Upd, (⟨1, 0, 1, h, nilB⟩ : Upd) = a := ⟨_, rfl⟩
              have bRa := bR0 h nt
              rw [ha] at bRa hnz
              obtain ⟨wG, wH, hWG, qG, hWH, rH, rbH⟩ := newU wF a
              have gbrS := gbr.size
              have bFS : wr.heap.size < wF.heap.size := (ownF.lt wr.heap.size rfl).2
              have hF : Hid (Has wF w.heap.size 23 (bv h) 32) := gr.below bF gr.lt
              have bG : Below wF.heap.size wF wG := by rw [← hWG]; exact (Below.refl _ _).alloc (Nat.le_refl _) _
              have ownH := ownF.below rbH (Nat.le_refl _)
              have gbH := gbr.trans ((bF.trans (rbH.mono bF.size)).mono gbr.size)
              have hU : Upds wH (some ⟨wr.heap.size, 0, none⟩) lz := by
                obtain ⟨ad', c', ee, hU, _⟩ := ownH.upds
                simp only [Value.slice.injEq] at ee
                obtain ⟨rfl, _, _⟩ := ee
                exact hU
              have N1 := hide (fun (w : World) (hG : Glob n w) (hu : Upds w (some ⟨wr.heap.size, 0, none⟩) lz) => next_any n (some ⟨wr.heap.size, 0, none⟩) none 2047 0 2047 0 lz [] hlz rfl (by omega) (by omega) a w hG hu (.inl rfl))
              rw [hnz] at N1
              have QG := hide qG
              have RH := hide rH
              have BRA := hide bRa
              have HU := hide hU
              have OH := hide ownH
              have HLZ := hide hlz
              have hzw : Hid (w.heap.size ≤ wr.heap.size) := gbrS
              have hzF : Hid (wr.heap.size ≠ wF.heap.size) := Nat.ne_of_lt bFS
              have RM := hide rm
              have GBH := hide gbH
              clear ownF bF bRa hnz qG rH rbH gr gbr hU ownH ha rm hlz gbrS bFS gbH bG
              generalize hgZ : wr.heap.size = gz at RM OH HU N1 hzw hzF
              go_upto_region 29 with (first | refine wpList_makeS rfl 35 _ _ rfl (.int .i64 2047) (.int .i64 2047) rfl rfl RM.out ?_ | fail)
              clear hgZ RM
              go_upto_region 30 with (first | refine wpW_load_at 23 _ rfl w.heap.size 0 (by rfl) (by rfl) _ 32 _ (hF.out.at_ 0 (by omega) (fun i hi => by rw [Nat.zero_add])) Tryd.underlying23 rfl info26 ?_ | refine wpW_build (by rfl) 26 #[(0, .const (.int .i64 1)), (2, .const (.int .i64 1)), (3, .tmp 143)] rfl [(0, .int .i64 1), (2, .int .i64 1), (3, .agg (tabv (bv h) 32))] (by simp [Act.eval, Act.put]) _ BRA.out ?_ | refine wpList_storeU rfl _ _ rfl rfl wF.heap.size a rfl rfl _ QG.out ?_ | fail)
              try rw [hWH]
              generalize hgF : wF.heap.size = gF at RH hzF ⊢
              clear hWG hWH hgF QG BRA hF
              go_wp2_with (first | refine wpW_load_at 26 _ rfl (gF) (0) (by rfl) (by rfl) _ 36 _ (RH.out.at_ 0 (by omega) (fun i hi => by rw [Nat.zero_add])) Tryd.underlying26 rfl infoU ?_ | fail)
              refine (N1.out _ (hG.up GBH.out (Nat.le_refl _)) HU.out).mono ?_
              rintro e wI ⟨rfl, hbI⟩
              have rI := RH.out.below hbI RH.out.lt
              have oI := OH.out.below hbI (Nat.le_refl _)
              have gbI := GBH.out.trans (hbI.mono GBH.out.size)
              obtain ⟨v2, wJ, wK, r1, r2, oK, hsame, bK⟩ := appU_step wI gz (.slice (some ⟨gz, 0, none⟩) 2047 2047) lz a oI (by rw [HLZ.out]; omega) (by have := (oI.lt gz rfl).2; omega)
              have hlen2 : (lz ++ [a]).length = 2048 := by rw [List.length_append, HLZ.out]; rfl
              obtain ⟨ad2, c2, hv2, hU2, _⟩ := oK.upds
              rw [hlen2] at hv2
              subst hv2
              have rK : Has wK gF 26 a.v 36 := by
                unfold Has
                rw [hsame gF rI.lt (fun e => hzF.out (by simpa [Value.ownBlock] using e))]
                exact rI
              have gbK := gbI.trans (bK.mono hzw.out)
              have N2 := hide (fun (w : World) (hG : Glob n w) (hu : Upds w ad2 (lz ++ [a])) => next_any n ad2 none 2048 0 c2 0 (lz ++ [a]) [] hlen2 rfl (by omega) (by omega) a w hG hu (.inl rfl))
              rw [next_full _ hlen2] at N2
              have N3 := hide (fun (w : World) (hG : Glob n w) (hu : Upds w ad2 (lz ++ [a])) => next_any n ad2 none 2048 0 c2 0 (lz ++ [a]) [] hlen2 rfl (by omega) (by omega) Upd.zero w hG hu (.inl rfl))
              rw [next_full _ hlen2] at N3
              have RI := hide rI
              have RK := hide rK
              have R1 := hide r1
              have R2 := hide r2
              have HU2 := hide hU2
              have GBK := hide gbK
              clear rI oI gbI rK r1 r2 oK bK hsame hlen2 hU2 hbI N1 HU OH RH GBH HLZ gbK
              go_upto_region 33 with (first | refine wpW_load_at 26 _ rfl (gF) (0) (by rfl) (by rfl) _ 36 _ (RI.out.at_ 0 (by omega) (fun i hi => by rw [Nat.zero_add])) Tryd.underlying26 rfl infoU ?_ | refine wpList_slice1 rfl 35 _ rfl (.agg (tabv a.v 36)) rfl R1.out ?_ | (at_builtin; refine wpList_app rfl _ _ _ rfl R2.out ?_))
              clear R1 R2 RI
              go_wp2_with (first | refine wpW_load_at 26 _ rfl (gF) (0) (by rfl) (by rfl) _ 36 _ (RK.out.at_ 0 (by omega) (fun i hi => by rw [Nat.zero_add])) Tryd.underlying26 rfl infoU ?_ | fail)
              refine (N2.out _ (hG.up GBK.out (Nat.le_refl _)) HU2.out).mono ?_
              rintro e wL ⟨rfl, hbL⟩
              have gbL := GBK.out.trans (hbL.mono GBK.out.size)
              have HU3 := hide (HU2.out.below hbL)
              clear hbL GBK N2
              go_wp2_with (first | refine wpW_build (by rfl) 26 #[] rfl [] (by simp) _ builtZ ?_ | fail)
              refine (N3.out _ (hG.up gbL (Nat.le_refl _)) HU3.out).mono ?_
              rintro e wM ⟨rfl, hbM⟩
              have gbM := gbL.trans (hbM.mono gbL.size)
              clear hbM gbL
              go_wp2
              go_ret
              exact ⟨by first | rfl | simp, gbM⟩
end Go.Proofs.YtoepmlagolfhcaaDoor
