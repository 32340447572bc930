/-
  Read of the document (printed by gen_rread.py).
-/
import Derived.Test.YtlohfoggcdaeiaaGreatURSize
namespace Go.Proofs.YtlohfoggcdaeiaaGreat
set_option maxRecDepth 20000
open Go.RowKit S
set_option linter.unusedVariables false
set_option linter.unusedSimpArgs false
open Cu (nb be hl ofL)
set_option maxRecDepth 100000 in
theorem builtKI (x y : Int) : Tryz.prog.built 36 [(0, .int .i64 x), (1, .int .i64 y)] = some (tabv (Upd.v ⟨x, y, 0, fun _ => 0, nilB⟩) 36) := by kernel_rfl
theorem run_buildKI {o : Oper} {a : Act} (w : World) (p0 p1 : Operand) (ho : o.op = .build 36 #[(0, p0), (1, p1)]) (x y : Int) (h0 : a.eval p0 = .int .i64 x) (h1 : a.eval p1 = .int .i64 y) : (execOp a.eval o).run Tryz.prog w = .ok (.value (.agg (tabv (Upd.v ⟨x, y, 0, fun _ => 0, nilB⟩) 36))) w := by
  have e : ((#[(0, p0), (1, p1)] : Array (Nat × Operand)).map fun (i, y) => (i, a.eval y)).toList = [(0, .int .i64 x), (1, .int .i64 y)] := by
    rw [Array.toList_map]
    show [(0, a.eval p0), (1, a.eval p1)] = _
    rw [h0, h1]
  unfold execOp
  simp only [ho, Sem.run_bind, run_build w 36 _ _ (by rw [e]; exact builtKI x y), Result.andThen_ok, Sem.run_pure]
theorem conv_i64 (X : Nat) (h1 : X < 9223372036854775808) (w : World) : (convert 79 2 (.int .u64 (X : Int))).run Tryz.prog w = .ok (.int .i64 (X : Int)) w := by
  have h := run_convert_int (P := Tryz.prog) (w := w) 79 2 .u64 (X : Int) (by kernel_rfl) (by kernel_rfl)
  rw [show Tryz.prog.intKind 2 = .i64 by kernel_rfl, show IntKind.i64.wrap (X : Int) = X by rw [IntKind.wrap_i64]; omega] at h
  exact h
theorem ext_ofL (b : ByteArray) (l : List UInt8) (hb : b.data.toList = l) (i j : Nat) : b.extract i j = ofL ((l.drop i).take (j - i)) := by
  have := Cu.ofL_extract l i j
  rw [← hb, Cu.ofL_of] at this
  rw [this, hb, List.drop_take]
set_option maxRecDepth 100000 in
set_option maxHeartbeats 4000000 in
theorem rr_empty (b : ByteArray) (w : World) (hb : b.toList.isEmpty = true) : Calls Tryz.prog 39 #[.string b] w fun e w' => e = .returned (.tuple #[.agg (tabv Upd.zero.v 36), .int .i64 0, .int .i64 2]) ∧ Below w.heap.size w w' := by
  obtain ⟨w3, hW⟩ : ∃ w3, w.alloc (.cells (tabv Upd.zero.v 36) 36) = w3 := ⟨_, rfl⟩
  have g0 : Has w3 w.heap.size 36 Upd.zero.v 36 := by rw [← hW]; exact Has.new w 36 Upd.zero.v 36 _ rfl
  have gb : Below w.heap.size w w3 := by rw [← hW]; exact (Below.refl w.heap.size w).alloc (Nat.le_refl _) _
  rw [← zero36] at hW
  obtain ⟨w4, w5, hW4, q4, hW5, r5, rb5⟩ := newU w3 Upd.zero
  have Q4 := hide q4
  have N5 := hide r5
  have G5 := hide (g0.below rb5 g0.lt)
  have gb5 := gb.trans (rb5.mono gb.size)
  have lt5 : w.heap.size < w3.heap.size := g0.lt
  have LT5 := hide lt5
  generalize hgN : w3.heap.size = gN at Q4 N5 LT5 hW5
  clear q4 r5 rb5 g0 gb lt5
  go_enter Tryz.func39, Tryz.ntmps39
  go_wp2_with (first | refine wpW_build (by rfl) 36 #[] rfl [] (by simp) _ builtZ ?_ | refine wpList_storeU rfl _ _ rfl rfl gN Upd.zero rfl rfl _ Q4.out ?_ | refine wpW_load_at 36 _ rfl gN 0 (by rfl) (by rfl) _ 36 _ (by first | exact N5.out.at_ 0 (by omega) (fun i hi => by rw [Nat.zero_add]) | (rw [hW5]; exact N5.out.at_ 0 (by omega) (fun i hi => by rw [Nat.zero_add]))) Tryz.underlying36 rfl infoU ?_ | refine wpList_storeU rfl _ _ rfl rfl w.heap.size Upd.zero rfl rfl _ G5.out ?_)
  exact bodyPost_ret (resU3 _ w.heap.size _ _ (.int .i64 0) (.int .i64 2) 2 3 4 (G5.out.row _ Upd.zero.v rfl) rfl rfl rfl _ rfl) rfl ⟨rfl, below_setRow gb5 (Nat.le_refl _) _⟩
set_option maxRecDepth 100000 in
set_option maxHeartbeats 4000000 in
theorem rr_neg (b : ByteArray) (N : Int) (w : World) (hb : b.toList.isEmpty = false) (SZ : ∀ w : World, Calls Tryz.prog 64 #[.string b] w fun e w' => e = .returned (.int .i64 N) ∧ w = w') (hd1 : decide (N < 0) = true) : Calls Tryz.prog 39 #[.string b] w fun e w' => e = .returned (.tuple #[.agg (tabv Upd.zero.v 36), .int .i64 0, .int .i64 120]) ∧ Below w.heap.size w w' := by
  have SZ := hide SZ
  obtain ⟨w3, hW⟩ : ∃ w3, w.alloc (.cells (tabv Upd.zero.v 36) 36) = w3 := ⟨_, rfl⟩
  have g0 : Has w3 w.heap.size 36 Upd.zero.v 36 := by rw [← hW]; exact Has.new w 36 Upd.zero.v 36 _ rfl
  have gb : Below w.heap.size w w3 := by rw [← hW]; exact (Below.refl w.heap.size w).alloc (Nat.le_refl _) _
  rw [← zero36] at hW
  obtain ⟨w4, w5, hW4, q4, hW5, r5, rb5⟩ := newU w3 Upd.zero
  have Q4 := hide q4
  have N5 := hide r5
  have G5 := hide (g0.below rb5 g0.lt)
  have gb5 := gb.trans (rb5.mono gb.size)
  have lt5 : w.heap.size < w3.heap.size := g0.lt
  have LT5 := hide lt5
  generalize hgN : w3.heap.size = gN at Q4 N5 LT5 hW5
  clear q4 r5 rb5 g0 gb lt5
  go_enter Tryz.func39, Tryz.ntmps39
  go_wp2_with (first | refine wpW_build (by rfl) 36 #[] rfl [] (by simp) _ builtZ ?_ | refine wpList_storeU rfl _ _ rfl rfl gN Upd.zero rfl rfl _ Q4.out ?_ | fail)
  try rw [hW5]
  refine (SZ.out _).mono ?_
  rintro e w6 ⟨rfl, rfl⟩
  clear hW hW4 hW5 Q4
  go_wp2_with (first | refine wpW_load_at 36 _ rfl (gN) (0) (by rfl) (by rfl) _ 36 _ (N5.out.at_ 0 (by omega) (fun i hi => by rw [Nat.zero_add])) Tryz.underlying36 rfl infoU ?_ | refine wpList_storeU rfl _ _ rfl rfl w.heap.size Upd.zero rfl rfl _ G5.out ?_)
  exact bodyPost_ret (resU3 _ w.heap.size _ _ (.int .i64 0) (.int .i64 120) 2 3 4 (G5.out.row _ Upd.zero.v rfl) rfl rfl rfl _ rfl) rfl ⟨rfl, below_setRow gb5 (Nat.le_refl _) _⟩
set_option maxRecDepth 100000 in
set_option maxHeartbeats 4000000 in
theorem rr_zero (b : ByteArray) (N : Int) (w : World) (hb : b.toList.isEmpty = false) (SZ : ∀ w : World, Calls Tryz.prog 64 #[.string b] w fun e w' => e = .returned (.int .i64 N) ∧ w = w') (hd1 : decide (N < 0) = false) (hd2 : (N == 0) = true) : Calls Tryz.prog 39 #[.string b] w fun e w' => e = .returned (.tuple #[.agg (tabv Upd.zero.v 36), .int .i64 0, .int .i64 2]) ∧ Below w.heap.size w w' := by
  have SZ := hide SZ
  obtain ⟨w3, hW⟩ : ∃ w3, w.alloc (.cells (tabv Upd.zero.v 36) 36) = w3 := ⟨_, rfl⟩
  have g0 : Has w3 w.heap.size 36 Upd.zero.v 36 := by rw [← hW]; exact Has.new w 36 Upd.zero.v 36 _ rfl
  have gb : Below w.heap.size w w3 := by rw [← hW]; exact (Below.refl w.heap.size w).alloc (Nat.le_refl _) _
  rw [← zero36] at hW
  obtain ⟨w4, w5, hW4, q4, hW5, r5, rb5⟩ := newU w3 Upd.zero
  have Q4 := hide q4
  have N5 := hide r5
  have G5 := hide (g0.below rb5 g0.lt)
  have gb5 := gb.trans (rb5.mono gb.size)
  have lt5 : w.heap.size < w3.heap.size := g0.lt
  have LT5 := hide lt5
  generalize hgN : w3.heap.size = gN at Q4 N5 LT5 hW5
  clear q4 r5 rb5 g0 gb lt5
  go_enter Tryz.func39, Tryz.ntmps39
  go_wp2_with (first | refine wpW_build (by rfl) 36 #[] rfl [] (by simp) _ builtZ ?_ | refine wpList_storeU rfl _ _ rfl rfl gN Upd.zero rfl rfl _ Q4.out ?_ | fail)
  try rw [hW5]
  refine (SZ.out _).mono ?_
  rintro e w6 ⟨rfl, rfl⟩
  clear hW hW4 hW5 Q4
  go_wp2_with (first | refine wpW_load_at 36 _ rfl (gN) (0) (by rfl) (by rfl) _ 36 _ (N5.out.at_ 0 (by omega) (fun i hi => by rw [Nat.zero_add])) Tryz.underlying36 rfl infoU ?_ | refine wpList_storeU rfl _ _ rfl rfl w.heap.size Upd.zero rfl rfl _ G5.out ?_)
  exact bodyPost_ret (resU3 _ w.heap.size _ _ (.int .i64 0) (.int .i64 2) 2 3 4 (G5.out.row _ Upd.zero.v rfl) rfl rfl rfl _ rfl) rfl ⟨rfl, below_setRow gb5 (Nat.le_refl _) _⟩
set_option maxRecDepth 100000 in
set_option maxHeartbeats 4000000 in
theorem rr_less (b : ByteArray) (N : Int) (w : World) (hb : b.toList.isEmpty = false) (SZ : ∀ w : World, Calls Tryz.prog 64 #[.string b] w fun e w' => e = .returned (.int .i64 N) ∧ w = w') (hd1 : decide (N < 0) = false) (hd2 : (N == 0) = false) (hd3 : decide ((b.size : Int) < N) = true) : Calls Tryz.prog 39 #[.string b] w fun e w' => e = .returned (.tuple #[.agg (tabv Upd.zero.v 36), .int .i64 0, .int .i64 2]) ∧ Below w.heap.size w w' := by
  have SZ := hide SZ
  obtain ⟨w3, hW⟩ : ∃ w3, w.alloc (.cells (tabv Upd.zero.v 36) 36) = w3 := ⟨_, rfl⟩
  have g0 : Has w3 w.heap.size 36 Upd.zero.v 36 := by rw [← hW]; exact Has.new w 36 Upd.zero.v 36 _ rfl
  have gb : Below w.heap.size w w3 := by rw [← hW]; exact (Below.refl w.heap.size w).alloc (Nat.le_refl _) _
  rw [← zero36] at hW
  obtain ⟨w4, w5, hW4, q4, hW5, r5, rb5⟩ := newU w3 Upd.zero
  have Q4 := hide q4
  have N5 := hide r5
  have G5 := hide (g0.below rb5 g0.lt)
  have gb5 := gb.trans (rb5.mono gb.size)
  have lt5 : w.heap.size < w3.heap.size := g0.lt
  have LT5 := hide lt5
  generalize hgN : w3.heap.size = gN at Q4 N5 LT5 hW5
  clear q4 r5 rb5 g0 gb lt5
  go_enter Tryz.func39, Tryz.ntmps39
  go_wp2_with (first | refine wpW_build (by rfl) 36 #[] rfl [] (by simp) _ builtZ ?_ | refine wpList_storeU rfl _ _ rfl rfl gN Upd.zero rfl rfl _ Q4.out ?_ | fail)
  try rw [hW5]
  refine (SZ.out _).mono ?_
  rintro e w6 ⟨rfl, rfl⟩
  clear hW hW4 hW5 Q4
  go_wp2_with (first | refine wpW_load_at 36 _ rfl (gN) (0) (by rfl) (by rfl) _ 36 _ (N5.out.at_ 0 (by omega) (fun i hi => by rw [Nat.zero_add])) Tryz.underlying36 rfl infoU ?_ | refine wpList_storeU rfl _ _ rfl rfl w.heap.size Upd.zero rfl rfl _ G5.out ?_)
  exact bodyPost_ret (resU3 _ w.heap.size _ _ (.int .i64 0) (.int .i64 2) 2 3 4 (G5.out.row _ Upd.zero.v rfl) rfl rfl rfl _ rfl) rfl ⟨rfl, below_setRow gb5 (Nat.le_refl _) _⟩
set_option maxRecDepth 100000 in
set_option maxHeartbeats 4000000 in
theorem rr_1 (b : ByteArray) (r : List UInt8) (hb : b.data.toList = 1 :: r) (hz : b.size ≤ 281474976710656) (hlen : 42 ≤ r.length) (w : World) : Calls Tryz.prog 39 #[.string b] w fun e w' => e = .returned (.tuple #[.agg (tabv (chk ⟨1, (be (r.take 2) : Int), IntKind.i64.wrap (be ((r.drop 2).take 8) : Int), hashOf ((r.drop 10).take 32), nilB⟩ 43).1.v 36), .int .i64 (chk ⟨1, (be (r.take 2) : Int), IntKind.i64.wrap (be ((r.drop 2).take 8) : Int), hashOf ((r.drop 10).take 32), nilB⟩ 43).2.1, .int .i64 (chk ⟨1, (be (r.take 2) : Int), IntKind.i64.wrap (be ((r.drop 2).take 8) : Int), hashOf ((r.drop 10).take 32), nilB⟩ 43).2.2]) ∧ Below w.heap.size w w' := by
  have hsz : b.size = r.length + 1 := by rw [← Cu.str_len, hb]; rfl
  have hse : b.toList.isEmpty = false := by
    rw [ByteArray.toList_eq, hb]; rfl
  have SZ := hide (fun w : World => rsize_any 1 r b hb hz w)
  rw [show sizeA (1 :: r) = 43 by unfold sizeA; dsimp only; rw [if_pos rfl]] at SZ
  have HX : Hid (∀ w : World, (Instr.index 9 (.string b) (.int .i64 0)).run Tryz.prog w = .ok (.int .u8 1) w) := fun w => by
    have := Cu.index_text b 0 (by omega) w
    rw [hb] at this
    exact this
  have e13 : b.extract 1 3 = ofL (r.take 2) := by rw [ext_ofL b _ hb 1 3]; rfl
  have NB2 := fun w : World => Cu.xNumber (b.extract 1 3) w (by rw [e13, Cu.ofL_size, List.length_take]; omega)
  rw [e13, Cu.ofL_data, ← e13] at NB2
  have hi2 := be2_lt r
  obtain ⟨I, hI⟩ : ∃ I, be (r.take 2) = I := ⟨_, rfl⟩
  rw [hI] at NB2 hi2 ⊢
  have CI : ∀ w : World, (convert 79 2 (.int .u64 (I : Int))).run Tryz.prog w = .ok (.int .i64 (I : Int)) w := fun w => conv_i64 I (by omega) w
  have CK : ∀ w : World, (convert 5 3 (.int .u8 1)).run Tryz.prog w = .ok (.int .i64 1) w := fun w => by
    have h := run_convert_int (P := Tryz.prog) (w := w) 5 3 .u8 1 (by kernel_rfl) (by kernel_rfl)
    exact h
  have NB2 := hide NB2
  have hq3 : (3 : Int) ≤ (b.size : Int) := by omega
  have e311 : b.extract 3 11 = ofL ((r.drop 2).take 8) := by rw [ext_ofL b _ hb 3 11]; rfl
  have e1143 : b.extract 11 43 = ofL ((r.drop 10).take 32) := by rw [ext_ofL b _ hb 11 43]; rfl
  have NB8 := fun w : World => Cu.xNumber (b.extract 3 11) w (by rw [e311, Cu.ofL_size, List.length_take]; omega)
  rw [e311, Cu.ofL_data, ← e311] at NB8
  have HH := fun w : World => rhash_any (b.extract 11 43) (by rw [e1143, Cu.ofL_size, List.length_take, List.length_drop]; omega) w
  rw [e1143, Cu.ofL_data, ← e1143] at HH
  have hv8 : be ((r.drop 2).take 8) < 18446744073709551616 := by
    have := Cu.be_lt ((r.drop 2).take 8)
    rw [show ((r.drop 2).take 8).length = 8 by rw [List.length_take, List.length_drop]; omega] at this
    omega
  obtain ⟨V, hV⟩ : ∃ V, be ((r.drop 2).take 8) = V := ⟨_, rfl⟩
  obtain ⟨Hh, hHh⟩ : ∃ V, hashOf ((r.drop 10).take 32) = V := ⟨_, rfl⟩
  rw [hV] at NB8 hv8 ⊢
  rw [hHh] at HH ⊢
  have NB8 := hide NB8
  have HH := hide HH
  have hq11 : (11 : Int) ≤ (b.size : Int) := by omega
  have hq43 : (43 : Int) ≤ (b.size : Int) := by omega
  have hdl : decide ((b.size : Int) < 43) = false := decide_eq_false (by omega)
  clear e311 e1143 hV hHh
  obtain ⟨X, hX⟩ : ∃ X, chk ⟨1, (I : Int), IntKind.i64.wrap (V : Int), Hh, nilB⟩ 43 = X := ⟨_, rfl⟩
  rw [hX]
  have HX0 := hide hX
  clear hb e13 hI hlen hsz hz hX
  obtain ⟨w3, hW⟩ : ∃ w3, w.alloc (.cells (tabv Upd.zero.v 36) 36) = w3 := ⟨_, rfl⟩
  have g0 : Has w3 w.heap.size 36 Upd.zero.v 36 := by rw [← hW]; exact Has.new w 36 Upd.zero.v 36 _ rfl
  have gb : Below w.heap.size w w3 := by rw [← hW]; exact (Below.refl w.heap.size w).alloc (Nat.le_refl _) _
  rw [← zero36] at hW
  obtain ⟨w4, w5, hW4, q4, hW5, r5, rb5⟩ := newU w3 Upd.zero
  have Q4 := hide q4
  have N5 := hide r5
  have G5 := hide (g0.below rb5 g0.lt)
  have gb5 := gb.trans (rb5.mono gb.size)
  have lt5 : w.heap.size < w3.heap.size := g0.lt
  have LT5 := hide lt5
  generalize hgN : w3.heap.size = gN at Q4 N5 LT5 hW5
  clear q4 r5 rb5 g0 gb lt5
  go_enter Tryz.func39, Tryz.ntmps39
  go_wp2_with (first | refine wpW_build (by rfl) 36 #[] rfl [] (by simp) _ builtZ ?_ | refine wpList_storeU rfl _ _ rfl rfl gN Upd.zero rfl rfl _ Q4.out ?_ | fail)
  try rw [hW5]
  refine (SZ.out _).mono ?_
  rintro e w6 ⟨rfl, rfl⟩
  clear hW hW4 hW5 Q4
  go_wp2
  refine wp_region_noPanic ?_
  refine wp_region_held_drew (S := fun wx => Below w5.heap.size w5 wx) (by kernel_rfl) ((Below.refl _ _).drew) (fun hHeld => ?_)
  refine Cu.takeH 0 (some 27) (.string b) rfl rfl (by kernel_rfl) (by kernel_rfl) (by kernel_rfl) (fun _ _ _ h => h) (by rfl) (fun w hw => by first | rfl | (go_simp; done) | (go_simp; rfl) | (go_simp; omega)) hHeld ?_
  simp only [Act.put, List.setIfInBounds_toArray, List.set_cons_zero, List.set_cons_succ]
  refine Cu.takeH 1 (some 28) (.int .u8 1) rfl rfl (by kernel_rfl) (by kernel_rfl) (by kernel_rfl) (fun _ _ _ h => h) (by rfl) (fun w hw => by have hx := HX.out w; first | rfl | (go_simp; done) | (go_simp; rfl) | (go_simp; omega)) hHeld ?_
  simp only [Act.put, List.setIfInBounds_toArray, List.set_cons_zero, List.set_cons_succ]
  refine Cu.takeH 2 (some 29) (.int .i64 1) rfl rfl (by kernel_rfl) (by kernel_rfl) (by kernel_rfl) (fun _ _ _ h => h) (by rfl) (fun w hw => by have hx := CK w; first | rfl | (go_simp; done) | (go_simp; rfl) | (go_simp; omega)) hHeld ?_
  simp only [Act.put, List.setIfInBounds_toArray, List.set_cons_zero, List.set_cons_succ]
  refine Cu.takeH 3 (some 30) (.string b) rfl rfl (by kernel_rfl) (by kernel_rfl) (by kernel_rfl) (fun _ _ _ h => h) (by rfl) (fun w hw => by first | rfl | (go_simp; done) | (go_simp; rfl) | (go_simp; omega)) hHeld ?_
  simp only [Act.put, List.setIfInBounds_toArray, List.set_cons_zero, List.set_cons_succ]
  refine Cu.takeH 4 (some 31) (.string (b.extract 1 3)) rfl rfl (by kernel_rfl) (by kernel_rfl) (by kernel_rfl) (fun _ _ _ h => h) (by rfl) (fun w hw => by first | rfl | (go_simp; done) | (go_simp; rfl) | (go_simp; omega)) hHeld ?_
  simp only [Act.put, List.setIfInBounds_toArray, List.set_cons_zero, List.set_cons_succ]
  refine wpAnyH_ready (rs := [5, 8]) (by kernel_rfl) (by simp) (AllReadyH.cons rfl (fun K hK => ?_) (AllReadyH.cons rfl (fun K hK => ?_) AllReadyH.nil))
  · rw [if_pos (by rfl)]
    go_simp
    refine (NB2.out _).mono ?_
    rintro e w7 ⟨rfl, rfl⟩
    try go_wp2_with fail
    refine hK.out _ _ hHeld (fun hH => ?_)
    clear hK K hHeld
    have hHeld := hH
    clear hH
    refine Cu.takeH 6 (some 33) (.int .i64 (I : Int)) rfl rfl (by kernel_rfl) (by kernel_rfl) (by kernel_rfl) (fun _ _ _ h => h) (by rfl) (fun w hw => by have hx := CI w; first | rfl | (go_simp; done) | (go_simp; rfl) | (go_simp; omega)) hHeld ?_
    simp only [Act.put, List.setIfInBounds_toArray, List.set_cons_zero, List.set_cons_succ]
    refine Cu.takeH 7 (some 34) (.agg (tabv (Upd.v ⟨1, (I : Int), 0, fun _ => 0, nilB⟩) 36)) rfl rfl (by kernel_rfl) (by kernel_rfl) (by kernel_rfl) (fun _ _ _ h => h) (by rfl) (fun w hw => run_buildKI w _ _ rfl 1 (I : Int) rfl rfl) hHeld ?_
    simp only [Act.put, List.setIfInBounds_toArray, List.set_cons_zero, List.set_cons_succ]
    refine wpAnyH_ready (rs := [8]) (by kernel_rfl) (by simp) (AllReadyH.cons rfl (fun K hK => ?_) AllReadyH.nil)
    rw [if_pos (by rfl)]
    go_simp
    refine hK.out _ _ (hHeld.alloc hHeld.size _) (fun hH => ?_)
    clear hK K hHeld
    have hHeld := hH
    clear hH
    refine wpAnyH_ready (rs := [9]) (by kernel_rfl) (by simp) (AllReadyH.cons rfl (fun K hK => ?_) AllReadyH.nil)
    rw [if_pos (by rfl)]
    have q8 : Has (w5.alloc (.cells (tabv Upd.zero.v 36) 36)) w5.heap.size 36 Upd.zero.v 36 := Has.new w5 36 Upd.zero.v 36 _ rfl
    rw [← zero36] at q8
    refine wp_storeU _ _ rfl rfl w5.heap.size ⟨1, (I : Int), 0, fun _ => 0, nilB⟩ rfl rfl _ q8 ?_
    have r8 := q8.row _ (Upd.v ⟨1, (I : Int), 0, fun _ => 0, nilB⟩) rfl
    refine hK.out _ _ (below_setRow hHeld (Nat.le_refl _) _) (fun hH => ?_)
    clear hK K hHeld
    refine ⟨by kernel_rfl, ?_⟩
    refine NoPanic.normal ?_
    generalize hw8 : World.setRow _ w5.heap.size _ = w8 at hH ⊢
    have R8 : Hid (Has w8 w5.heap.size 36 (Upd.v ⟨1, (I : Int), 0, fun _ => 0, nilB⟩) 36) := by rw [← hw8]; exact r8
    have G8 := hide (G5.out.below hH G5.out.lt)
    have N8 := hide (N5.out.below hH N5.out.lt)
    have gb8 := gb5.trans (hH.mono gb5.size)
    have HG6 : Hid (gN < w5.heap.size ∧ w.heap.size < w5.heap.size) := ⟨N5.out.lt, G5.out.lt⟩
    clear r8 q8 hw8 hH gb5 G5 N5
    generalize w5.heap.size = G6 at R8 HG6 ⊢
    have c0 : w8.cell? ⟨G6, 0, none⟩ = some (.int .i64 1) := R8.out.cell 0 (by omega)
    go_wp2_with fail
    refine (NB8.out _).mono ?_
    rintro e w9 ⟨rfl, rfl⟩
    by_cases hbig : 1152921504606846976 < V
    · have hdb : decide ((V : Int) > 1152921504606846976) = true := decide_eq_true (by omega)
      have hno : validB ⟨1, (I : Int), IntKind.i64.wrap (V : Int), Hh, nilB⟩ = false := by
        rw [Bool.eq_false_iff]
        intro h
        rcases valid_kinds h with ⟨_, h1, h2, _⟩ | ⟨h0, _⟩ | ⟨h0, _⟩
        · simp only at h1 h2
          rw [IntKind.wrap_i64] at h1 h2
          omega
        · simp at h0
        · simp at h0
      have hX2 : X = (Upd.zero, 0, 120) := HX0.out.symm.trans (by unfold chk; rw [hno, if_neg (by decide)])
      go_wp2_with (first | refine wpW_load_at 36 _ rfl (gN) (0) (by rfl) (by rfl) _ 36 _ (N8.out.at_ 0 (by omega) (fun i hi => by rw [Nat.zero_add])) Tryz.underlying36 rfl infoU ?_ | refine wpList_storeU rfl _ _ rfl rfl w.heap.size Upd.zero rfl rfl _ G8.out ?_)
      exact bodyPost_ret (resU3 _ w.heap.size _ _ (.int .i64 0) (.int .i64 120) 2 3 4 (G8.out.row _ Upd.zero.v rfl) rfl rfl rfl _ rfl) rfl ⟨by rw [hX2], below_setRow gb8 (Nat.le_refl _) _⟩
    · have hdb : decide ((V : Int) > 1152921504606846976) = false := decide_eq_false (by omega)
      have CV : ∀ w : World, (convert 79 2 (.int .u64 (V : Int))).run Tryz.prog w = .ok (.int .i64 (V : Int)) w := fun w => conv_i64 V (by omega) w
      have hVw : IntKind.i64.wrap (V : Int) = (V : Int) := by rw [IntKind.wrap_i64]; omega
      rw [hVw] at HX0
      have HCV := hide CV
      clear CV hVw hbig
      have c2 : w8.cell? ⟨G6, 2, none⟩ = some (.int .i64 0) := R8.out.cell 2 (by omega)
      have f2 := R8.out.frozen 2
      obtain ⟨wC, hWC⟩ : ∃ x, w8.setCell ⟨G6, 2, none⟩ (.int .i64 (V : Int)) = x := ⟨_, rfl⟩
      have RC : Hid (Has wC G6 36 (Upd.v ⟨1, (I : Int), (V : Int), fun _ => 0, nilB⟩) 36) := by rw [← hWC]; exact R8.out.setAmt V
      have GC : Hid (Has wC w.heap.size 36 Upd.zero.v 36) := by rw [← hWC]; exact G8.out.other _ _ (Nat.ne_of_lt HG6.out.2)
      have NC : Hid (Has wC gN 36 Upd.zero.v 36) := by rw [← hWC]; exact N8.out.other _ _ (Nat.ne_of_lt HG6.out.1)
      have gbC : Below w.heap.size w wC := by rw [← hWC]; exact gb8.setCell (Nat.le_of_lt HG6.out.2) _
      go_wp2_with (first | refine Cu.wpList_conv rfl _ _ _ rfl .u64 .i64 (V : Int) (V : Int) (by rfl) (HCV.out _) ?_ | fail)
      try rw [hWC]
      refine (HH.out _).mono ?_
      rintro e wD ⟨rfl, hbD⟩
      have RD := hide (RC.out.below hbD RC.out.lt)
      have GD := hide (GC.out.below hbD GC.out.lt)
      have ND := hide (NC.out.below hbD NC.out.lt)
      have gbD := gbC.trans (hbD.mono gbC.size)
      clear hbD gbC hWC c2 f2 c0 gb8
      obtain ⟨wL, hWL⟩ : ∃ x, wD.setRow G6 (tabv (Upd.v ⟨1, (I : Int), (V : Int), Hh, nilB⟩) 36) = x := ⟨_, rfl⟩
      have RL : Hid (Has wL G6 36 (Upd.v ⟨1, (I : Int), (V : Int), Hh, nilB⟩) 36) := by rw [← hWL]; exact RD.out.row _ _ rfl
      have GL : Hid (Has wL w.heap.size 36 Upd.zero.v 36) := by rw [← hWL]; exact GD.out.row_other _ _ (Nat.ne_of_lt HG6.out.2)
      have NL : Hid (Has wL gN 36 Upd.zero.v 36) := by rw [← hWL]; exact ND.out.row_other _ _ (Nat.ne_of_lt HG6.out.1)
      have gbL : Below w.heap.size w wL := by rw [← hWL]; exact below_setRow gbD (Nat.le_of_lt HG6.out.2) _
      have VV := hide (fun w : World => rvalid_any ⟨1, (I : Int), (V : Int), Hh, nilB⟩ w)
      go_wp2_with (first | refine wpList_storeUH rfl _ _ rfl rfl G6 ⟨1, (I : Int), (V : Int), fun _ => 0, nilB⟩ Hh rfl rfl RD.out ?_ |  refine wpW_load_at 36 _ rfl G6 0 (by rfl) (by rfl) _ 36 _ (by first | exact RL.out.at_ 0 (by omega) (fun i hi => by rw [Nat.zero_add]) | (rw [hWL]; exact RL.out.at_ 0 (by omega) (fun i hi => by rw [Nat.zero_add]))) Tryz.underlying36 rfl infoU ?_ | fail)
      try rw [hWL]
      refine (VV.out _).mono ?_
      rintro e wv ⟨rfl, hbv⟩
      have Gv := hide (GL.out.below hbv GL.out.lt)
      have Nv := hide (NL.out.below hbv NL.out.lt)
      have Rv := hide (RL.out.below hbv RL.out.lt)
      have gbv := gbL.trans (hbv.mono gbL.size)
      clear hbv VV
      cases hv : validB ⟨1, (I : Int), (V : Int), Hh, nilB⟩ with
      | false =>
        have hX2 : X = (Upd.zero, 0, 120) := HX0.out.symm.trans (by unfold chk; rw [hv, if_neg (by decide)])
        go_wp2_with (first | refine wpW_load_at 36 _ rfl (gN) (0) (by rfl) (by rfl) _ 36 _ (Nv.out.at_ 0 (by omega) (fun i hi => by rw [Nat.zero_add])) Tryz.underlying36 rfl infoU ?_ | refine wpList_storeU rfl _ _ rfl rfl w.heap.size Upd.zero rfl rfl _ Gv.out ?_)
        exact bodyPost_ret (resU3 _ w.heap.size _ _ (.int .i64 0) (.int .i64 120) 2 3 4 (Gv.out.row _ Upd.zero.v rfl) rfl rfl rfl _ rfl) rfl ⟨by rw [hX2], below_setRow gbv (Nat.le_refl _) _⟩
      | true =>
        have hX2 : X = (⟨1, (I : Int), (V : Int), Hh, nilB⟩, 43, 0) := HX0.out.symm.trans (by unfold chk; rw [hv, if_pos rfl])
        go_wp2_with (first | refine wpW_load_at 36 _ rfl (G6) (0) (by rfl) (by rfl) _ 36 _ (Rv.out.at_ 0 (by omega) (fun i hi => by rw [Nat.zero_add])) Tryz.underlying36 rfl infoU ?_ | refine wpList_storeU rfl _ _ rfl rfl w.heap.size ⟨1, (I : Int), (V : Int), Hh, nilB⟩ rfl rfl _ Gv.out ?_)
        exact bodyPost_ret (resU3 _ w.heap.size _ _ (.int .i64 (43)) (.int .i64 0) 2 3 4 (Gv.out.row _ (Upd.v ⟨1, (I : Int), (V : Int), Hh, nilB⟩) rfl) rfl rfl rfl _ rfl) rfl ⟨by rw [hX2], below_setRow gbv (Nat.le_refl _) _⟩
  · rw [if_pos (by rfl)]
    go_simp
    refine hK.out _ _ (hHeld.alloc hHeld.size _) (fun hH => ?_)
    clear hK K hHeld
    have hHeld := hH
    clear hH
    refine wpAnyH_ready (rs := [5]) (by kernel_rfl) (by simp) (AllReadyH.cons rfl (fun K hK => ?_) AllReadyH.nil)
    rw [if_pos (by rfl)]
    go_simp
    refine (NB2.out _).mono ?_
    rintro e w7 ⟨rfl, rfl⟩
    try go_wp2_with fail
    refine hK.out _ _ hHeld (fun hH => ?_)
    clear hK K hHeld
    have hHeld := hH
    clear hH
    refine Cu.takeH 6 (some 33) (.int .i64 (I : Int)) rfl rfl (by kernel_rfl) (by kernel_rfl) (by kernel_rfl) (fun _ _ _ h => h) (by rfl) (fun w hw => by have hx := CI w; first | rfl | (go_simp; done) | (go_simp; rfl) | (go_simp; omega)) hHeld ?_
    simp only [Act.put, List.setIfInBounds_toArray, List.set_cons_zero, List.set_cons_succ]
    refine Cu.takeH 7 (some 34) (.agg (tabv (Upd.v ⟨1, (I : Int), 0, fun _ => 0, nilB⟩) 36)) rfl rfl (by kernel_rfl) (by kernel_rfl) (by kernel_rfl) (fun _ _ _ h => h) (by rfl) (fun w hw => run_buildKI w _ _ rfl 1 (I : Int) rfl rfl) hHeld ?_
    simp only [Act.put, List.setIfInBounds_toArray, List.set_cons_zero, List.set_cons_succ]
    refine wpAnyH_ready (rs := [9]) (by kernel_rfl) (by simp) (AllReadyH.cons rfl (fun K hK => ?_) AllReadyH.nil)
    rw [if_pos (by rfl)]
    have q8 : Has (w5.alloc (.cells (tabv Upd.zero.v 36) 36)) w5.heap.size 36 Upd.zero.v 36 := Has.new w5 36 Upd.zero.v 36 _ rfl
    rw [← zero36] at q8
    refine wp_storeU _ _ rfl rfl w5.heap.size ⟨1, (I : Int), 0, fun _ => 0, nilB⟩ rfl rfl _ q8 ?_
    have r8 := q8.row _ (Upd.v ⟨1, (I : Int), 0, fun _ => 0, nilB⟩) rfl
    refine hK.out _ _ (below_setRow hHeld (Nat.le_refl _) _) (fun hH => ?_)
    clear hK K hHeld
    refine ⟨by kernel_rfl, ?_⟩
    refine NoPanic.normal ?_
    generalize hw8 : World.setRow _ w5.heap.size _ = w8 at hH ⊢
    have R8 : Hid (Has w8 w5.heap.size 36 (Upd.v ⟨1, (I : Int), 0, fun _ => 0, nilB⟩) 36) := by rw [← hw8]; exact r8
    have G8 := hide (G5.out.below hH G5.out.lt)
    have N8 := hide (N5.out.below hH N5.out.lt)
    have gb8 := gb5.trans (hH.mono gb5.size)
    have HG6 : Hid (gN < w5.heap.size ∧ w.heap.size < w5.heap.size) := ⟨N5.out.lt, G5.out.lt⟩
    clear r8 q8 hw8 hH gb5 G5 N5
    generalize w5.heap.size = G6 at R8 HG6 ⊢
    have c0 : w8.cell? ⟨G6, 0, none⟩ = some (.int .i64 1) := R8.out.cell 0 (by omega)
    go_wp2_with fail
    refine (NB8.out _).mono ?_
    rintro e w9 ⟨rfl, rfl⟩
    by_cases hbig : 1152921504606846976 < V
    · have hdb : decide ((V : Int) > 1152921504606846976) = true := decide_eq_true (by omega)
      have hno : validB ⟨1, (I : Int), IntKind.i64.wrap (V : Int), Hh, nilB⟩ = false := by
        rw [Bool.eq_false_iff]
        intro h
        rcases valid_kinds h with ⟨_, h1, h2, _⟩ | ⟨h0, _⟩ | ⟨h0, _⟩
        · simp only at h1 h2
          rw [IntKind.wrap_i64] at h1 h2
          omega
        · simp at h0
        · simp at h0
      have hX2 : X = (Upd.zero, 0, 120) := HX0.out.symm.trans (by unfold chk; rw [hno, if_neg (by decide)])
      go_wp2_with (first | refine wpW_load_at 36 _ rfl (gN) (0) (by rfl) (by rfl) _ 36 _ (N8.out.at_ 0 (by omega) (fun i hi => by rw [Nat.zero_add])) Tryz.underlying36 rfl infoU ?_ | refine wpList_storeU rfl _ _ rfl rfl w.heap.size Upd.zero rfl rfl _ G8.out ?_)
      exact bodyPost_ret (resU3 _ w.heap.size _ _ (.int .i64 0) (.int .i64 120) 2 3 4 (G8.out.row _ Upd.zero.v rfl) rfl rfl rfl _ rfl) rfl ⟨by rw [hX2], below_setRow gb8 (Nat.le_refl _) _⟩
    · have hdb : decide ((V : Int) > 1152921504606846976) = false := decide_eq_false (by omega)
      have CV : ∀ w : World, (convert 79 2 (.int .u64 (V : Int))).run Tryz.prog w = .ok (.int .i64 (V : Int)) w := fun w => conv_i64 V (by omega) w
      have hVw : IntKind.i64.wrap (V : Int) = (V : Int) := by rw [IntKind.wrap_i64]; omega
      rw [hVw] at HX0
      have HCV := hide CV
      clear CV hVw hbig
      have c2 : w8.cell? ⟨G6, 2, none⟩ = some (.int .i64 0) := R8.out.cell 2 (by omega)
      have f2 := R8.out.frozen 2
      obtain ⟨wC, hWC⟩ : ∃ x, w8.setCell ⟨G6, 2, none⟩ (.int .i64 (V : Int)) = x := ⟨_, rfl⟩
      have RC : Hid (Has wC G6 36 (Upd.v ⟨1, (I : Int), (V : Int), fun _ => 0, nilB⟩) 36) := by rw [← hWC]; exact R8.out.setAmt V
      have GC : Hid (Has wC w.heap.size 36 Upd.zero.v 36) := by rw [← hWC]; exact G8.out.other _ _ (Nat.ne_of_lt HG6.out.2)
      have NC : Hid (Has wC gN 36 Upd.zero.v 36) := by rw [← hWC]; exact N8.out.other _ _ (Nat.ne_of_lt HG6.out.1)
      have gbC : Below w.heap.size w wC := by rw [← hWC]; exact gb8.setCell (Nat.le_of_lt HG6.out.2) _
      go_wp2_with (first | refine Cu.wpList_conv rfl _ _ _ rfl .u64 .i64 (V : Int) (V : Int) (by rfl) (HCV.out _) ?_ | fail)
      try rw [hWC]
      refine (HH.out _).mono ?_
      rintro e wD ⟨rfl, hbD⟩
      have RD := hide (RC.out.below hbD RC.out.lt)
      have GD := hide (GC.out.below hbD GC.out.lt)
      have ND := hide (NC.out.below hbD NC.out.lt)
      have gbD := gbC.trans (hbD.mono gbC.size)
      clear hbD gbC hWC c2 f2 c0 gb8
      obtain ⟨wL, hWL⟩ : ∃ x, wD.setRow G6 (tabv (Upd.v ⟨1, (I : Int), (V : Int), Hh, nilB⟩) 36) = x := ⟨_, rfl⟩
      have RL : Hid (Has wL G6 36 (Upd.v ⟨1, (I : Int), (V : Int), Hh, nilB⟩) 36) := by rw [← hWL]; exact RD.out.row _ _ rfl
      have GL : Hid (Has wL w.heap.size 36 Upd.zero.v 36) := by rw [← hWL]; exact GD.out.row_other _ _ (Nat.ne_of_lt HG6.out.2)
      have NL : Hid (Has wL gN 36 Upd.zero.v 36) := by rw [← hWL]; exact ND.out.row_other _ _ (Nat.ne_of_lt HG6.out.1)
      have gbL : Below w.heap.size w wL := by rw [← hWL]; exact below_setRow gbD (Nat.le_of_lt HG6.out.2) _
      have VV := hide (fun w : World => rvalid_any ⟨1, (I : Int), (V : Int), Hh, nilB⟩ w)
      go_wp2_with (first | refine wpList_storeUH rfl _ _ rfl rfl G6 ⟨1, (I : Int), (V : Int), fun _ => 0, nilB⟩ Hh rfl rfl RD.out ?_ |  refine wpW_load_at 36 _ rfl G6 0 (by rfl) (by rfl) _ 36 _ (by first | exact RL.out.at_ 0 (by omega) (fun i hi => by rw [Nat.zero_add]) | (rw [hWL]; exact RL.out.at_ 0 (by omega) (fun i hi => by rw [Nat.zero_add]))) Tryz.underlying36 rfl infoU ?_ | fail)
      try rw [hWL]
      refine (VV.out _).mono ?_
      rintro e wv ⟨rfl, hbv⟩
      have Gv := hide (GL.out.below hbv GL.out.lt)
      have Nv := hide (NL.out.below hbv NL.out.lt)
      have Rv := hide (RL.out.below hbv RL.out.lt)
      have gbv := gbL.trans (hbv.mono gbL.size)
      clear hbv VV
      cases hv : validB ⟨1, (I : Int), (V : Int), Hh, nilB⟩ with
      | false =>
        have hX2 : X = (Upd.zero, 0, 120) := HX0.out.symm.trans (by unfold chk; rw [hv, if_neg (by decide)])
        go_wp2_with (first | refine wpW_load_at 36 _ rfl (gN) (0) (by rfl) (by rfl) _ 36 _ (Nv.out.at_ 0 (by omega) (fun i hi => by rw [Nat.zero_add])) Tryz.underlying36 rfl infoU ?_ | refine wpList_storeU rfl _ _ rfl rfl w.heap.size Upd.zero rfl rfl _ Gv.out ?_)
        exact bodyPost_ret (resU3 _ w.heap.size _ _ (.int .i64 0) (.int .i64 120) 2 3 4 (Gv.out.row _ Upd.zero.v rfl) rfl rfl rfl _ rfl) rfl ⟨by rw [hX2], below_setRow gbv (Nat.le_refl _) _⟩
      | true =>
        have hX2 : X = (⟨1, (I : Int), (V : Int), Hh, nilB⟩, 43, 0) := HX0.out.symm.trans (by unfold chk; rw [hv, if_pos rfl])
        go_wp2_with (first | refine wpW_load_at 36 _ rfl (G6) (0) (by rfl) (by rfl) _ 36 _ (Rv.out.at_ 0 (by omega) (fun i hi => by rw [Nat.zero_add])) Tryz.underlying36 rfl infoU ?_ | refine wpList_storeU rfl _ _ rfl rfl w.heap.size ⟨1, (I : Int), (V : Int), Hh, nilB⟩ rfl rfl _ Gv.out ?_)
        exact bodyPost_ret (resU3 _ w.heap.size _ _ (.int .i64 (43)) (.int .i64 0) 2 3 4 (Gv.out.row _ (Upd.v ⟨1, (I : Int), (V : Int), Hh, nilB⟩) rfl) rfl rfl rfl _ rfl) rfl ⟨by rw [hX2], below_setRow gbv (Nat.le_refl _) _⟩
set_option maxRecDepth 100000 in
set_option maxHeartbeats 4000000 in
theorem rr_2 (b : ByteArray) (r : List UInt8) (hb : b.data.toList = 2 :: r) (hz : b.size ≤ 281474976710656) (hlen : 34 ≤ r.length) (w : World) : Calls Tryz.prog 39 #[.string b] w fun e w' => e = .returned (.tuple #[.agg (tabv (chk ⟨2, (be (r.take 2) : Int), 0, hashOf ((r.drop 2).take 32), nilB⟩ 35).1.v 36), .int .i64 (chk ⟨2, (be (r.take 2) : Int), 0, hashOf ((r.drop 2).take 32), nilB⟩ 35).2.1, .int .i64 (chk ⟨2, (be (r.take 2) : Int), 0, hashOf ((r.drop 2).take 32), nilB⟩ 35).2.2]) ∧ Below w.heap.size w w' := by
  have hsz : b.size = r.length + 1 := by rw [← Cu.str_len, hb]; rfl
  have hse : b.toList.isEmpty = false := by
    rw [ByteArray.toList_eq, hb]; rfl
  have SZ := hide (fun w : World => rsize_any 2 r b hb hz w)
  rw [show sizeA (2 :: r) = 35 by unfold sizeA; dsimp only; rw [if_neg (by decide), if_pos rfl]] at SZ
  have HX : Hid (∀ w : World, (Instr.index 9 (.string b) (.int .i64 0)).run Tryz.prog w = .ok (.int .u8 2) w) := fun w => by
    have := Cu.index_text b 0 (by omega) w
    rw [hb] at this
    exact this
  have e13 : b.extract 1 3 = ofL (r.take 2) := by rw [ext_ofL b _ hb 1 3]; rfl
  have NB2 := fun w : World => Cu.xNumber (b.extract 1 3) w (by rw [e13, Cu.ofL_size, List.length_take]; omega)
  rw [e13, Cu.ofL_data, ← e13] at NB2
  have hi2 := be2_lt r
  obtain ⟨I, hI⟩ : ∃ I, be (r.take 2) = I := ⟨_, rfl⟩
  rw [hI] at NB2 hi2 ⊢
  have CI : ∀ w : World, (convert 79 2 (.int .u64 (I : Int))).run Tryz.prog w = .ok (.int .i64 (I : Int)) w := fun w => conv_i64 I (by omega) w
  have CK : ∀ w : World, (convert 5 3 (.int .u8 2)).run Tryz.prog w = .ok (.int .i64 2) w := fun w => by
    have h := run_convert_int (P := Tryz.prog) (w := w) 5 3 .u8 2 (by kernel_rfl) (by kernel_rfl)
    exact h
  have NB2 := hide NB2
  have hq3 : (3 : Int) ≤ (b.size : Int) := by omega
  have e335 : b.extract 3 35 = ofL ((r.drop 2).take 32) := by rw [ext_ofL b _ hb 3 35]; rfl
  have HH := fun w : World => rhash_any (b.extract 3 35) (by rw [e335, Cu.ofL_size, List.length_take, List.length_drop]; omega) w
  rw [e335, Cu.ofL_data, ← e335] at HH
  obtain ⟨Hh, hHh⟩ : ∃ V, hashOf ((r.drop 2).take 32) = V := ⟨_, rfl⟩
  rw [hHh] at HH ⊢
  have HH := hide HH
  have hq35 : (35 : Int) ≤ (b.size : Int) := by omega
  have hdl : decide ((b.size : Int) < 35) = false := decide_eq_false (by omega)
  clear e335 hHh
  obtain ⟨X, hX⟩ : ∃ X, chk ⟨2, (I : Int), 0, Hh, nilB⟩ 35 = X := ⟨_, rfl⟩
  rw [hX]
  have HX0 := hide hX
  clear hb e13 hI hlen hsz hz hX
  obtain ⟨w3, hW⟩ : ∃ w3, w.alloc (.cells (tabv Upd.zero.v 36) 36) = w3 := ⟨_, rfl⟩
  have g0 : Has w3 w.heap.size 36 Upd.zero.v 36 := by rw [← hW]; exact Has.new w 36 Upd.zero.v 36 _ rfl
  have gb : Below w.heap.size w w3 := by rw [← hW]; exact (Below.refl w.heap.size w).alloc (Nat.le_refl _) _
  rw [← zero36] at hW
  obtain ⟨w4, w5, hW4, q4, hW5, r5, rb5⟩ := newU w3 Upd.zero
  have Q4 := hide q4
  have N5 := hide r5
  have G5 := hide (g0.below rb5 g0.lt)
  have gb5 := gb.trans (rb5.mono gb.size)
  have lt5 : w.heap.size < w3.heap.size := g0.lt
  have LT5 := hide lt5
  generalize hgN : w3.heap.size = gN at Q4 N5 LT5 hW5
  clear q4 r5 rb5 g0 gb lt5
  go_enter Tryz.func39, Tryz.ntmps39
  go_wp2_with (first | refine wpW_build (by rfl) 36 #[] rfl [] (by simp) _ builtZ ?_ | refine wpList_storeU rfl _ _ rfl rfl gN Upd.zero rfl rfl _ Q4.out ?_ | fail)
  try rw [hW5]
  refine (SZ.out _).mono ?_
  rintro e w6 ⟨rfl, rfl⟩
  clear hW hW4 hW5 Q4
  go_wp2
  refine wp_region_noPanic ?_
  refine wp_region_held_drew (S := fun wx => Below w5.heap.size w5 wx) (by kernel_rfl) ((Below.refl _ _).drew) (fun hHeld => ?_)
  refine Cu.takeH 0 (some 27) (.string b) rfl rfl (by kernel_rfl) (by kernel_rfl) (by kernel_rfl) (fun _ _ _ h => h) (by rfl) (fun w hw => by first | rfl | (go_simp; done) | (go_simp; rfl) | (go_simp; omega)) hHeld ?_
  simp only [Act.put, List.setIfInBounds_toArray, List.set_cons_zero, List.set_cons_succ]
  refine Cu.takeH 1 (some 28) (.int .u8 2) rfl rfl (by kernel_rfl) (by kernel_rfl) (by kernel_rfl) (fun _ _ _ h => h) (by rfl) (fun w hw => by have hx := HX.out w; first | rfl | (go_simp; done) | (go_simp; rfl) | (go_simp; omega)) hHeld ?_
  simp only [Act.put, List.setIfInBounds_toArray, List.set_cons_zero, List.set_cons_succ]
  refine Cu.takeH 2 (some 29) (.int .i64 2) rfl rfl (by kernel_rfl) (by kernel_rfl) (by kernel_rfl) (fun _ _ _ h => h) (by rfl) (fun w hw => by have hx := CK w; first | rfl | (go_simp; done) | (go_simp; rfl) | (go_simp; omega)) hHeld ?_
  simp only [Act.put, List.setIfInBounds_toArray, List.set_cons_zero, List.set_cons_succ]
  refine Cu.takeH 3 (some 30) (.string b) rfl rfl (by kernel_rfl) (by kernel_rfl) (by kernel_rfl) (fun _ _ _ h => h) (by rfl) (fun w hw => by first | rfl | (go_simp; done) | (go_simp; rfl) | (go_simp; omega)) hHeld ?_
  simp only [Act.put, List.setIfInBounds_toArray, List.set_cons_zero, List.set_cons_succ]
  refine Cu.takeH 4 (some 31) (.string (b.extract 1 3)) rfl rfl (by kernel_rfl) (by kernel_rfl) (by kernel_rfl) (fun _ _ _ h => h) (by rfl) (fun w hw => by first | rfl | (go_simp; done) | (go_simp; rfl) | (go_simp; omega)) hHeld ?_
  simp only [Act.put, List.setIfInBounds_toArray, List.set_cons_zero, List.set_cons_succ]
  refine wpAnyH_ready (rs := [5, 8]) (by kernel_rfl) (by simp) (AllReadyH.cons rfl (fun K hK => ?_) (AllReadyH.cons rfl (fun K hK => ?_) AllReadyH.nil))
  · rw [if_pos (by rfl)]
    go_simp
    refine (NB2.out _).mono ?_
    rintro e w7 ⟨rfl, rfl⟩
    try go_wp2_with fail
    refine hK.out _ _ hHeld (fun hH => ?_)
    clear hK K hHeld
    have hHeld := hH
    clear hH
    refine Cu.takeH 6 (some 33) (.int .i64 (I : Int)) rfl rfl (by kernel_rfl) (by kernel_rfl) (by kernel_rfl) (fun _ _ _ h => h) (by rfl) (fun w hw => by have hx := CI w; first | rfl | (go_simp; done) | (go_simp; rfl) | (go_simp; omega)) hHeld ?_
    simp only [Act.put, List.setIfInBounds_toArray, List.set_cons_zero, List.set_cons_succ]
    refine Cu.takeH 7 (some 34) (.agg (tabv (Upd.v ⟨2, (I : Int), 0, fun _ => 0, nilB⟩) 36)) rfl rfl (by kernel_rfl) (by kernel_rfl) (by kernel_rfl) (fun _ _ _ h => h) (by rfl) (fun w hw => run_buildKI w _ _ rfl 2 (I : Int) rfl rfl) hHeld ?_
    simp only [Act.put, List.setIfInBounds_toArray, List.set_cons_zero, List.set_cons_succ]
    refine wpAnyH_ready (rs := [8]) (by kernel_rfl) (by simp) (AllReadyH.cons rfl (fun K hK => ?_) AllReadyH.nil)
    rw [if_pos (by rfl)]
    go_simp
    refine hK.out _ _ (hHeld.alloc hHeld.size _) (fun hH => ?_)
    clear hK K hHeld
    have hHeld := hH
    clear hH
    refine wpAnyH_ready (rs := [9]) (by kernel_rfl) (by simp) (AllReadyH.cons rfl (fun K hK => ?_) AllReadyH.nil)
    rw [if_pos (by rfl)]
    have q8 : Has (w5.alloc (.cells (tabv Upd.zero.v 36) 36)) w5.heap.size 36 Upd.zero.v 36 := Has.new w5 36 Upd.zero.v 36 _ rfl
    rw [← zero36] at q8
    refine wp_storeU _ _ rfl rfl w5.heap.size ⟨2, (I : Int), 0, fun _ => 0, nilB⟩ rfl rfl _ q8 ?_
    have r8 := q8.row _ (Upd.v ⟨2, (I : Int), 0, fun _ => 0, nilB⟩) rfl
    refine hK.out _ _ (below_setRow hHeld (Nat.le_refl _) _) (fun hH => ?_)
    clear hK K hHeld
    refine ⟨by kernel_rfl, ?_⟩
    refine NoPanic.normal ?_
    generalize hw8 : World.setRow _ w5.heap.size _ = w8 at hH ⊢
    have R8 : Hid (Has w8 w5.heap.size 36 (Upd.v ⟨2, (I : Int), 0, fun _ => 0, nilB⟩) 36) := by rw [← hw8]; exact r8
    have G8 := hide (G5.out.below hH G5.out.lt)
    have N8 := hide (N5.out.below hH N5.out.lt)
    have gb8 := gb5.trans (hH.mono gb5.size)
    have HG6 : Hid (gN < w5.heap.size ∧ w.heap.size < w5.heap.size) := ⟨N5.out.lt, G5.out.lt⟩
    clear r8 q8 hw8 hH gb5 G5 N5
    generalize w5.heap.size = G6 at R8 HG6 ⊢
    have c0 : w8.cell? ⟨G6, 0, none⟩ = some (.int .i64 2) := R8.out.cell 0 (by omega)
    go_wp2_with fail
    refine (HH.out _).mono ?_
    rintro e wD ⟨rfl, hbD⟩
    have RD := hide (R8.out.below hbD R8.out.lt)
    have GD := hide (G8.out.below hbD G8.out.lt)
    have ND := hide (N8.out.below hbD N8.out.lt)
    have gbD := gb8.trans (hbD.mono gb8.size)
    clear hbD c0 gb8
    obtain ⟨wL, hWL⟩ : ∃ x, wD.setRow G6 (tabv (Upd.v ⟨2, (I : Int), 0, Hh, nilB⟩) 36) = x := ⟨_, rfl⟩
    have RL : Hid (Has wL G6 36 (Upd.v ⟨2, (I : Int), 0, Hh, nilB⟩) 36) := by rw [← hWL]; exact RD.out.row _ _ rfl
    have GL : Hid (Has wL w.heap.size 36 Upd.zero.v 36) := by rw [← hWL]; exact GD.out.row_other _ _ (Nat.ne_of_lt HG6.out.2)
    have NL : Hid (Has wL gN 36 Upd.zero.v 36) := by rw [← hWL]; exact ND.out.row_other _ _ (Nat.ne_of_lt HG6.out.1)
    have gbL : Below w.heap.size w wL := by rw [← hWL]; exact below_setRow gbD (Nat.le_of_lt HG6.out.2) _
    have VV := hide (fun w : World => rvalid_any ⟨2, (I : Int), 0, Hh, nilB⟩ w)
    go_wp2_with (first | refine wpList_storeUH rfl _ _ rfl rfl G6 ⟨2, (I : Int), 0, fun _ => 0, nilB⟩ Hh rfl rfl RD.out ?_ |  refine wpW_load_at 36 _ rfl G6 0 (by rfl) (by rfl) _ 36 _ (by first | exact RL.out.at_ 0 (by omega) (fun i hi => by rw [Nat.zero_add]) | (rw [hWL]; exact RL.out.at_ 0 (by omega) (fun i hi => by rw [Nat.zero_add]))) Tryz.underlying36 rfl infoU ?_ | fail)
    try rw [hWL]
    refine (VV.out _).mono ?_
    rintro e wv ⟨rfl, hbv⟩
    have Gv := hide (GL.out.below hbv GL.out.lt)
    have Nv := hide (NL.out.below hbv NL.out.lt)
    have Rv := hide (RL.out.below hbv RL.out.lt)
    have gbv := gbL.trans (hbv.mono gbL.size)
    clear hbv VV
    cases hv : validB ⟨2, (I : Int), 0, Hh, nilB⟩ with
    | false =>
      have hX2 : X = (Upd.zero, 0, 120) := HX0.out.symm.trans (by unfold chk; rw [hv, if_neg (by decide)])
      go_wp2_with (first | refine wpW_load_at 36 _ rfl (gN) (0) (by rfl) (by rfl) _ 36 _ (Nv.out.at_ 0 (by omega) (fun i hi => by rw [Nat.zero_add])) Tryz.underlying36 rfl infoU ?_ | refine wpList_storeU rfl _ _ rfl rfl w.heap.size Upd.zero rfl rfl _ Gv.out ?_)
      exact bodyPost_ret (resU3 _ w.heap.size _ _ (.int .i64 0) (.int .i64 120) 2 3 4 (Gv.out.row _ Upd.zero.v rfl) rfl rfl rfl _ rfl) rfl ⟨by rw [hX2], below_setRow gbv (Nat.le_refl _) _⟩
    | true =>
      have hX2 : X = (⟨2, (I : Int), 0, Hh, nilB⟩, 35, 0) := HX0.out.symm.trans (by unfold chk; rw [hv, if_pos rfl])
      go_wp2_with (first | refine wpW_load_at 36 _ rfl (G6) (0) (by rfl) (by rfl) _ 36 _ (Rv.out.at_ 0 (by omega) (fun i hi => by rw [Nat.zero_add])) Tryz.underlying36 rfl infoU ?_ | refine wpList_storeU rfl _ _ rfl rfl w.heap.size ⟨2, (I : Int), 0, Hh, nilB⟩ rfl rfl _ Gv.out ?_)
      exact bodyPost_ret (resU3 _ w.heap.size _ _ (.int .i64 (35)) (.int .i64 0) 2 3 4 (Gv.out.row _ (Upd.v ⟨2, (I : Int), 0, Hh, nilB⟩) rfl) rfl rfl rfl _ rfl) rfl ⟨by rw [hX2], below_setRow gbv (Nat.le_refl _) _⟩
  · rw [if_pos (by rfl)]
    go_simp
    refine hK.out _ _ (hHeld.alloc hHeld.size _) (fun hH => ?_)
    clear hK K hHeld
    have hHeld := hH
    clear hH
    refine wpAnyH_ready (rs := [5]) (by kernel_rfl) (by simp) (AllReadyH.cons rfl (fun K hK => ?_) AllReadyH.nil)
    rw [if_pos (by rfl)]
    go_simp
    refine (NB2.out _).mono ?_
    rintro e w7 ⟨rfl, rfl⟩
    try go_wp2_with fail
    refine hK.out _ _ hHeld (fun hH => ?_)
    clear hK K hHeld
    have hHeld := hH
    clear hH
    refine Cu.takeH 6 (some 33) (.int .i64 (I : Int)) rfl rfl (by kernel_rfl) (by kernel_rfl) (by kernel_rfl) (fun _ _ _ h => h) (by rfl) (fun w hw => by have hx := CI w; first | rfl | (go_simp; done) | (go_simp; rfl) | (go_simp; omega)) hHeld ?_
    simp only [Act.put, List.setIfInBounds_toArray, List.set_cons_zero, List.set_cons_succ]
    refine Cu.takeH 7 (some 34) (.agg (tabv (Upd.v ⟨2, (I : Int), 0, fun _ => 0, nilB⟩) 36)) rfl rfl (by kernel_rfl) (by kernel_rfl) (by kernel_rfl) (fun _ _ _ h => h) (by rfl) (fun w hw => run_buildKI w _ _ rfl 2 (I : Int) rfl rfl) hHeld ?_
    simp only [Act.put, List.setIfInBounds_toArray, List.set_cons_zero, List.set_cons_succ]
    refine wpAnyH_ready (rs := [9]) (by kernel_rfl) (by simp) (AllReadyH.cons rfl (fun K hK => ?_) AllReadyH.nil)
    rw [if_pos (by rfl)]
    have q8 : Has (w5.alloc (.cells (tabv Upd.zero.v 36) 36)) w5.heap.size 36 Upd.zero.v 36 := Has.new w5 36 Upd.zero.v 36 _ rfl
    rw [← zero36] at q8
    refine wp_storeU _ _ rfl rfl w5.heap.size ⟨2, (I : Int), 0, fun _ => 0, nilB⟩ rfl rfl _ q8 ?_
    have r8 := q8.row _ (Upd.v ⟨2, (I : Int), 0, fun _ => 0, nilB⟩) rfl
    refine hK.out _ _ (below_setRow hHeld (Nat.le_refl _) _) (fun hH => ?_)
    clear hK K hHeld
    refine ⟨by kernel_rfl, ?_⟩
    refine NoPanic.normal ?_
    generalize hw8 : World.setRow _ w5.heap.size _ = w8 at hH ⊢
    have R8 : Hid (Has w8 w5.heap.size 36 (Upd.v ⟨2, (I : Int), 0, fun _ => 0, nilB⟩) 36) := by rw [← hw8]; exact r8
    have G8 := hide (G5.out.below hH G5.out.lt)
    have N8 := hide (N5.out.below hH N5.out.lt)
    have gb8 := gb5.trans (hH.mono gb5.size)
    have HG6 : Hid (gN < w5.heap.size ∧ w.heap.size < w5.heap.size) := ⟨N5.out.lt, G5.out.lt⟩
    clear r8 q8 hw8 hH gb5 G5 N5
    generalize w5.heap.size = G6 at R8 HG6 ⊢
    have c0 : w8.cell? ⟨G6, 0, none⟩ = some (.int .i64 2) := R8.out.cell 0 (by omega)
    go_wp2_with fail
    refine (HH.out _).mono ?_
    rintro e wD ⟨rfl, hbD⟩
    have RD := hide (R8.out.below hbD R8.out.lt)
    have GD := hide (G8.out.below hbD G8.out.lt)
    have ND := hide (N8.out.below hbD N8.out.lt)
    have gbD := gb8.trans (hbD.mono gb8.size)
    clear hbD c0 gb8
    obtain ⟨wL, hWL⟩ : ∃ x, wD.setRow G6 (tabv (Upd.v ⟨2, (I : Int), 0, Hh, nilB⟩) 36) = x := ⟨_, rfl⟩
    have RL : Hid (Has wL G6 36 (Upd.v ⟨2, (I : Int), 0, Hh, nilB⟩) 36) := by rw [← hWL]; exact RD.out.row _ _ rfl
    have GL : Hid (Has wL w.heap.size 36 Upd.zero.v 36) := by rw [← hWL]; exact GD.out.row_other _ _ (Nat.ne_of_lt HG6.out.2)
    have NL : Hid (Has wL gN 36 Upd.zero.v 36) := by rw [← hWL]; exact ND.out.row_other _ _ (Nat.ne_of_lt HG6.out.1)
    have gbL : Below w.heap.size w wL := by rw [← hWL]; exact below_setRow gbD (Nat.le_of_lt HG6.out.2) _
    have VV := hide (fun w : World => rvalid_any ⟨2, (I : Int), 0, Hh, nilB⟩ w)
    go_wp2_with (first | refine wpList_storeUH rfl _ _ rfl rfl G6 ⟨2, (I : Int), 0, fun _ => 0, nilB⟩ Hh rfl rfl RD.out ?_ |  refine wpW_load_at 36 _ rfl G6 0 (by rfl) (by rfl) _ 36 _ (by first | exact RL.out.at_ 0 (by omega) (fun i hi => by rw [Nat.zero_add]) | (rw [hWL]; exact RL.out.at_ 0 (by omega) (fun i hi => by rw [Nat.zero_add]))) Tryz.underlying36 rfl infoU ?_ | fail)
    try rw [hWL]
    refine (VV.out _).mono ?_
    rintro e wv ⟨rfl, hbv⟩
    have Gv := hide (GL.out.below hbv GL.out.lt)
    have Nv := hide (NL.out.below hbv NL.out.lt)
    have Rv := hide (RL.out.below hbv RL.out.lt)
    have gbv := gbL.trans (hbv.mono gbL.size)
    clear hbv VV
    cases hv : validB ⟨2, (I : Int), 0, Hh, nilB⟩ with
    | false =>
      have hX2 : X = (Upd.zero, 0, 120) := HX0.out.symm.trans (by unfold chk; rw [hv, if_neg (by decide)])
      go_wp2_with (first | refine wpW_load_at 36 _ rfl (gN) (0) (by rfl) (by rfl) _ 36 _ (Nv.out.at_ 0 (by omega) (fun i hi => by rw [Nat.zero_add])) Tryz.underlying36 rfl infoU ?_ | refine wpList_storeU rfl _ _ rfl rfl w.heap.size Upd.zero rfl rfl _ Gv.out ?_)
      exact bodyPost_ret (resU3 _ w.heap.size _ _ (.int .i64 0) (.int .i64 120) 2 3 4 (Gv.out.row _ Upd.zero.v rfl) rfl rfl rfl _ rfl) rfl ⟨by rw [hX2], below_setRow gbv (Nat.le_refl _) _⟩
    | true =>
      have hX2 : X = (⟨2, (I : Int), 0, Hh, nilB⟩, 35, 0) := HX0.out.symm.trans (by unfold chk; rw [hv, if_pos rfl])
      go_wp2_with (first | refine wpW_load_at 36 _ rfl (G6) (0) (by rfl) (by rfl) _ 36 _ (Rv.out.at_ 0 (by omega) (fun i hi => by rw [Nat.zero_add])) Tryz.underlying36 rfl infoU ?_ | refine wpList_storeU rfl _ _ rfl rfl w.heap.size ⟨2, (I : Int), 0, Hh, nilB⟩ rfl rfl _ Gv.out ?_)
      exact bodyPost_ret (resU3 _ w.heap.size _ _ (.int .i64 (35)) (.int .i64 0) 2 3 4 (Gv.out.row _ (Upd.v ⟨2, (I : Int), 0, Hh, nilB⟩) rfl) rfl rfl rfl _ rfl) rfl ⟨by rw [hX2], below_setRow gbv (Nat.le_refl _) _⟩
set_option maxRecDepth 100000 in
set_option maxHeartbeats 4000000 in
theorem rr_3 (b : ByteArray) (r : List UInt8) (m : Nat) (hb : b.data.toList = 3 :: r) (hz : b.size ≤ 281474976710656) (hm : be ((r.drop 2).take 2) = m) (hm64 : m ≤ 64) (hlen : 4 + m ≤ r.length) (w : World) : Calls Tryz.prog 39 #[.string b] w fun e w' => e = .returned (.tuple #[.agg (tabv (chk ⟨3, (be (r.take 2) : Int), 0, fun _ => 0, ofL ((r.drop 4).take m)⟩ (5 + (m : Int))).1.v 36), .int .i64 (chk ⟨3, (be (r.take 2) : Int), 0, fun _ => 0, ofL ((r.drop 4).take m)⟩ (5 + (m : Int))).2.1, .int .i64 (chk ⟨3, (be (r.take 2) : Int), 0, fun _ => 0, ofL ((r.drop 4).take m)⟩ (5 + (m : Int))).2.2]) ∧ Below w.heap.size w w' := by
  have hsz : b.size = r.length + 1 := by rw [← Cu.str_len, hb]; rfl
  have hse : b.toList.isEmpty = false := by
    rw [ByteArray.toList_eq, hb]; rfl
  have SZ := hide (fun w : World => rsize_any 3 r b hb hz w)
  rw [show sizeA (3 :: r) = 5 + (m : Int) by unfold sizeA; dsimp only; rw [if_neg (by decide), if_neg (by decide), if_pos rfl, if_neg (by omega), hm, if_neg (by omega)]] at SZ
  have HX : Hid (∀ w : World, (Instr.index 9 (.string b) (.int .i64 0)).run Tryz.prog w = .ok (.int .u8 3) w) := fun w => by
    have := Cu.index_text b 0 (by omega) w
    rw [hb] at this
    exact this
  have e13 : b.extract 1 3 = ofL (r.take 2) := by rw [ext_ofL b _ hb 1 3]; rfl
  have NB2 := fun w : World => Cu.xNumber (b.extract 1 3) w (by rw [e13, Cu.ofL_size, List.length_take]; omega)
  rw [e13, Cu.ofL_data, ← e13] at NB2
  have hi2 := be2_lt r
  obtain ⟨I, hI⟩ : ∃ I, be (r.take 2) = I := ⟨_, rfl⟩
  rw [hI] at NB2 hi2 ⊢
  have CI : ∀ w : World, (convert 79 2 (.int .u64 (I : Int))).run Tryz.prog w = .ok (.int .i64 (I : Int)) w := fun w => conv_i64 I (by omega) w
  have CK : ∀ w : World, (convert 5 3 (.int .u8 3)).run Tryz.prog w = .ok (.int .i64 3) w := fun w => by
    have h := run_convert_int (P := Tryz.prog) (w := w) 5 3 .u8 3 (by kernel_rfl) (by kernel_rfl)
    exact h
  have NB2 := hide NB2
  have hq3 : (3 : Int) ≤ (b.size : Int) := by omega
  have e5n : b.extract 5 (5 + m) = ofL ((r.drop 4).take m) := by rw [ext_ofL b _ hb 5 (5 + m), Nat.add_sub_cancel_left]; rfl
  obtain ⟨Nt, hNt⟩ : ∃ V, ofL ((r.drop 4).take m) = V := ⟨_, rfl⟩
  rw [hNt] at e5n ⊢
  have hq5 : (5 : Int) ≤ 5 + (m : Int) := by omega
  have hq5n : 5 + (m : Int) ≤ (b.size : Int) := by omega
  have hdl : decide ((b.size : Int) < 5 + (m : Int)) = false := decide_eq_false (by omega)
  have hdn : decide (5 + (m : Int) < 0) = false := decide_eq_false (by omega)
  have hdz : (5 + (m : Int) == 0) = false := by simp; omega
  have htn : (5 + (m : Int)).toNat = 5 + m := by omega
  clear hNt hm hm64
  obtain ⟨X, hX⟩ : ∃ X, chk ⟨3, (I : Int), 0, fun _ => 0, Nt⟩ (5 + (m : Int)) = X := ⟨_, rfl⟩
  rw [hX]
  have HX0 := hide hX
  clear hb e13 hI hlen hsz hz hX
  obtain ⟨w3, hW⟩ : ∃ w3, w.alloc (.cells (tabv Upd.zero.v 36) 36) = w3 := ⟨_, rfl⟩
  have g0 : Has w3 w.heap.size 36 Upd.zero.v 36 := by rw [← hW]; exact Has.new w 36 Upd.zero.v 36 _ rfl
  have gb : Below w.heap.size w w3 := by rw [← hW]; exact (Below.refl w.heap.size w).alloc (Nat.le_refl _) _
  rw [← zero36] at hW
  obtain ⟨w4, w5, hW4, q4, hW5, r5, rb5⟩ := newU w3 Upd.zero
  have Q4 := hide q4
  have N5 := hide r5
  have G5 := hide (g0.below rb5 g0.lt)
  have gb5 := gb.trans (rb5.mono gb.size)
  have lt5 : w.heap.size < w3.heap.size := g0.lt
  have LT5 := hide lt5
  generalize hgN : w3.heap.size = gN at Q4 N5 LT5 hW5
  clear q4 r5 rb5 g0 gb lt5
  go_enter Tryz.func39, Tryz.ntmps39
  go_wp2_with (first | refine wpW_build (by rfl) 36 #[] rfl [] (by simp) _ builtZ ?_ | refine wpList_storeU rfl _ _ rfl rfl gN Upd.zero rfl rfl _ Q4.out ?_ | fail)
  try rw [hW5]
  refine (SZ.out _).mono ?_
  rintro e w6 ⟨rfl, rfl⟩
  clear hW hW4 hW5 Q4
  go_wp2
  refine wp_region_noPanic ?_
  refine wp_region_held_drew (S := fun wx => Below w5.heap.size w5 wx) (by kernel_rfl) ((Below.refl _ _).drew) (fun hHeld => ?_)
  refine Cu.takeH 0 (some 27) (.string b) rfl rfl (by kernel_rfl) (by kernel_rfl) (by kernel_rfl) (fun _ _ _ h => h) (by rfl) (fun w hw => by first | rfl | (go_simp; done) | (go_simp; rfl) | (go_simp; omega)) hHeld ?_
  simp only [Act.put, List.setIfInBounds_toArray, List.set_cons_zero, List.set_cons_succ]
  refine Cu.takeH 1 (some 28) (.int .u8 3) rfl rfl (by kernel_rfl) (by kernel_rfl) (by kernel_rfl) (fun _ _ _ h => h) (by rfl) (fun w hw => by have hx := HX.out w; first | rfl | (go_simp; done) | (go_simp; rfl) | (go_simp; omega)) hHeld ?_
  simp only [Act.put, List.setIfInBounds_toArray, List.set_cons_zero, List.set_cons_succ]
  refine Cu.takeH 2 (some 29) (.int .i64 3) rfl rfl (by kernel_rfl) (by kernel_rfl) (by kernel_rfl) (fun _ _ _ h => h) (by rfl) (fun w hw => by have hx := CK w; first | rfl | (go_simp; done) | (go_simp; rfl) | (go_simp; omega)) hHeld ?_
  simp only [Act.put, List.setIfInBounds_toArray, List.set_cons_zero, List.set_cons_succ]
  refine Cu.takeH 3 (some 30) (.string b) rfl rfl (by kernel_rfl) (by kernel_rfl) (by kernel_rfl) (fun _ _ _ h => h) (by rfl) (fun w hw => by first | rfl | (go_simp; done) | (go_simp; rfl) | (go_simp; omega)) hHeld ?_
  simp only [Act.put, List.setIfInBounds_toArray, List.set_cons_zero, List.set_cons_succ]
  refine Cu.takeH 4 (some 31) (.string (b.extract 1 3)) rfl rfl (by kernel_rfl) (by kernel_rfl) (by kernel_rfl) (fun _ _ _ h => h) (by rfl) (fun w hw => by first | rfl | (go_simp; done) | (go_simp; rfl) | (go_simp; omega)) hHeld ?_
  simp only [Act.put, List.setIfInBounds_toArray, List.set_cons_zero, List.set_cons_succ]
  refine wpAnyH_ready (rs := [5, 8]) (by kernel_rfl) (by simp) (AllReadyH.cons rfl (fun K hK => ?_) (AllReadyH.cons rfl (fun K hK => ?_) AllReadyH.nil))
  · rw [if_pos (by rfl)]
    go_simp
    refine (NB2.out _).mono ?_
    rintro e w7 ⟨rfl, rfl⟩
    try go_wp2_with fail
    refine hK.out _ _ hHeld (fun hH => ?_)
    clear hK K hHeld
    have hHeld := hH
    clear hH
    refine Cu.takeH 6 (some 33) (.int .i64 (I : Int)) rfl rfl (by kernel_rfl) (by kernel_rfl) (by kernel_rfl) (fun _ _ _ h => h) (by rfl) (fun w hw => by have hx := CI w; first | rfl | (go_simp; done) | (go_simp; rfl) | (go_simp; omega)) hHeld ?_
    simp only [Act.put, List.setIfInBounds_toArray, List.set_cons_zero, List.set_cons_succ]
    refine Cu.takeH 7 (some 34) (.agg (tabv (Upd.v ⟨3, (I : Int), 0, fun _ => 0, nilB⟩) 36)) rfl rfl (by kernel_rfl) (by kernel_rfl) (by kernel_rfl) (fun _ _ _ h => h) (by rfl) (fun w hw => run_buildKI w _ _ rfl 3 (I : Int) rfl rfl) hHeld ?_
    simp only [Act.put, List.setIfInBounds_toArray, List.set_cons_zero, List.set_cons_succ]
    refine wpAnyH_ready (rs := [8]) (by kernel_rfl) (by simp) (AllReadyH.cons rfl (fun K hK => ?_) AllReadyH.nil)
    rw [if_pos (by rfl)]
    go_simp
    refine hK.out _ _ (hHeld.alloc hHeld.size _) (fun hH => ?_)
    clear hK K hHeld
    have hHeld := hH
    clear hH
    refine wpAnyH_ready (rs := [9]) (by kernel_rfl) (by simp) (AllReadyH.cons rfl (fun K hK => ?_) AllReadyH.nil)
    rw [if_pos (by rfl)]
    have q8 : Has (w5.alloc (.cells (tabv Upd.zero.v 36) 36)) w5.heap.size 36 Upd.zero.v 36 := Has.new w5 36 Upd.zero.v 36 _ rfl
    rw [← zero36] at q8
    refine wp_storeU _ _ rfl rfl w5.heap.size ⟨3, (I : Int), 0, fun _ => 0, nilB⟩ rfl rfl _ q8 ?_
    have r8 := q8.row _ (Upd.v ⟨3, (I : Int), 0, fun _ => 0, nilB⟩) rfl
    refine hK.out _ _ (below_setRow hHeld (Nat.le_refl _) _) (fun hH => ?_)
    clear hK K hHeld
    refine ⟨by kernel_rfl, ?_⟩
    refine NoPanic.normal ?_
    generalize hw8 : World.setRow _ w5.heap.size _ = w8 at hH ⊢
    have R8 : Hid (Has w8 w5.heap.size 36 (Upd.v ⟨3, (I : Int), 0, fun _ => 0, nilB⟩) 36) := by rw [← hw8]; exact r8
    have G8 := hide (G5.out.below hH G5.out.lt)
    have N8 := hide (N5.out.below hH N5.out.lt)
    have gb8 := gb5.trans (hH.mono gb5.size)
    have HG6 : Hid (gN < w5.heap.size ∧ w.heap.size < w5.heap.size) := ⟨N5.out.lt, G5.out.lt⟩
    clear r8 q8 hw8 hH gb5 G5 N5
    generalize w5.heap.size = G6 at R8 HG6 ⊢
    have c0 : w8.cell? ⟨G6, 0, none⟩ = some (.int .i64 3) := R8.out.cell 0 (by omega)
    have c3 : w8.cell? ⟨G6, 35, none⟩ = some (.string nilB) := R8.out.cell 35 (by omega)
    have f3 := R8.out.frozen 35
    obtain ⟨wL, hWL⟩ : ∃ x, w8.setCell ⟨G6, 35, none⟩ (.string Nt) = x := ⟨_, rfl⟩
    have RL : Hid (Has wL G6 36 (Upd.v ⟨3, (I : Int), 0, fun _ => 0, Nt⟩) 36) := by rw [← hWL]; exact R8.out.setNote Nt
    have GL : Hid (Has wL w.heap.size 36 Upd.zero.v 36) := by rw [← hWL]; exact G8.out.other _ _ (Nat.ne_of_lt HG6.out.2)
    have NL : Hid (Has wL gN 36 Upd.zero.v 36) := by rw [← hWL]; exact N8.out.other _ _ (Nat.ne_of_lt HG6.out.1)
    have gbL : Below w.heap.size w wL := by rw [← hWL]; exact gb8.setCell (Nat.le_of_lt HG6.out.2) _
    have VV := hide (fun w : World => rvalid_any ⟨3, (I : Int), 0, fun _ => 0, Nt⟩ w)
    go_wp2_with (first |  refine wpW_load_at 36 _ rfl G6 0 (by rfl) (by rfl) _ 36 _ (by first | exact RL.out.at_ 0 (by omega) (fun i hi => by rw [Nat.zero_add]) | (rw [hWL]; exact RL.out.at_ 0 (by omega) (fun i hi => by rw [Nat.zero_add]))) Tryz.underlying36 rfl infoU ?_ | fail)
    try rw [hWL]
    refine (VV.out _).mono ?_
    rintro e wv ⟨rfl, hbv⟩
    have Gv := hide (GL.out.below hbv GL.out.lt)
    have Nv := hide (NL.out.below hbv NL.out.lt)
    have Rv := hide (RL.out.below hbv RL.out.lt)
    have gbv := gbL.trans (hbv.mono gbL.size)
    clear hbv VV
    cases hv : validB ⟨3, (I : Int), 0, fun _ => 0, Nt⟩ with
    | false =>
      have hX2 : X = (Upd.zero, 0, 120) := HX0.out.symm.trans (by unfold chk; rw [hv, if_neg (by decide)])
      go_wp2_with (first | refine wpW_load_at 36 _ rfl (gN) (0) (by rfl) (by rfl) _ 36 _ (Nv.out.at_ 0 (by omega) (fun i hi => by rw [Nat.zero_add])) Tryz.underlying36 rfl infoU ?_ | refine wpList_storeU rfl _ _ rfl rfl w.heap.size Upd.zero rfl rfl _ Gv.out ?_)
      exact bodyPost_ret (resU3 _ w.heap.size _ _ (.int .i64 0) (.int .i64 120) 2 3 4 (Gv.out.row _ Upd.zero.v rfl) rfl rfl rfl _ rfl) rfl ⟨by rw [hX2], below_setRow gbv (Nat.le_refl _) _⟩
    | true =>
      have hX2 : X = (⟨3, (I : Int), 0, fun _ => 0, Nt⟩, 5 + (m : Int), 0) := HX0.out.symm.trans (by unfold chk; rw [hv, if_pos rfl])
      go_wp2_with (first | refine wpW_load_at 36 _ rfl (G6) (0) (by rfl) (by rfl) _ 36 _ (Rv.out.at_ 0 (by omega) (fun i hi => by rw [Nat.zero_add])) Tryz.underlying36 rfl infoU ?_ | refine wpList_storeU rfl _ _ rfl rfl w.heap.size ⟨3, (I : Int), 0, fun _ => 0, Nt⟩ rfl rfl _ Gv.out ?_)
      exact bodyPost_ret (resU3 _ w.heap.size _ _ (.int .i64 (5 + (m : Int))) (.int .i64 0) 2 3 4 (Gv.out.row _ (Upd.v ⟨3, (I : Int), 0, fun _ => 0, Nt⟩) rfl) rfl rfl rfl _ rfl) rfl ⟨by rw [hX2], below_setRow gbv (Nat.le_refl _) _⟩
  · rw [if_pos (by rfl)]
    go_simp
    refine hK.out _ _ (hHeld.alloc hHeld.size _) (fun hH => ?_)
    clear hK K hHeld
    have hHeld := hH
    clear hH
    refine wpAnyH_ready (rs := [5]) (by kernel_rfl) (by simp) (AllReadyH.cons rfl (fun K hK => ?_) AllReadyH.nil)
    rw [if_pos (by rfl)]
    go_simp
    refine (NB2.out _).mono ?_
    rintro e w7 ⟨rfl, rfl⟩
    try go_wp2_with fail
    refine hK.out _ _ hHeld (fun hH => ?_)
    clear hK K hHeld
    have hHeld := hH
    clear hH
    refine Cu.takeH 6 (some 33) (.int .i64 (I : Int)) rfl rfl (by kernel_rfl) (by kernel_rfl) (by kernel_rfl) (fun _ _ _ h => h) (by rfl) (fun w hw => by have hx := CI w; first | rfl | (go_simp; done) | (go_simp; rfl) | (go_simp; omega)) hHeld ?_
    simp only [Act.put, List.setIfInBounds_toArray, List.set_cons_zero, List.set_cons_succ]
    refine Cu.takeH 7 (some 34) (.agg (tabv (Upd.v ⟨3, (I : Int), 0, fun _ => 0, nilB⟩) 36)) rfl rfl (by kernel_rfl) (by kernel_rfl) (by kernel_rfl) (fun _ _ _ h => h) (by rfl) (fun w hw => run_buildKI w _ _ rfl 3 (I : Int) rfl rfl) hHeld ?_
    simp only [Act.put, List.setIfInBounds_toArray, List.set_cons_zero, List.set_cons_succ]
    refine wpAnyH_ready (rs := [9]) (by kernel_rfl) (by simp) (AllReadyH.cons rfl (fun K hK => ?_) AllReadyH.nil)
    rw [if_pos (by rfl)]
    have q8 : Has (w5.alloc (.cells (tabv Upd.zero.v 36) 36)) w5.heap.size 36 Upd.zero.v 36 := Has.new w5 36 Upd.zero.v 36 _ rfl
    rw [← zero36] at q8
    refine wp_storeU _ _ rfl rfl w5.heap.size ⟨3, (I : Int), 0, fun _ => 0, nilB⟩ rfl rfl _ q8 ?_
    have r8 := q8.row _ (Upd.v ⟨3, (I : Int), 0, fun _ => 0, nilB⟩) rfl
    refine hK.out _ _ (below_setRow hHeld (Nat.le_refl _) _) (fun hH => ?_)
    clear hK K hHeld
    refine ⟨by kernel_rfl, ?_⟩
    refine NoPanic.normal ?_
    generalize hw8 : World.setRow _ w5.heap.size _ = w8 at hH ⊢
    have R8 : Hid (Has w8 w5.heap.size 36 (Upd.v ⟨3, (I : Int), 0, fun _ => 0, nilB⟩) 36) := by rw [← hw8]; exact r8
    have G8 := hide (G5.out.below hH G5.out.lt)
    have N8 := hide (N5.out.below hH N5.out.lt)
    have gb8 := gb5.trans (hH.mono gb5.size)
    have HG6 : Hid (gN < w5.heap.size ∧ w.heap.size < w5.heap.size) := ⟨N5.out.lt, G5.out.lt⟩
    clear r8 q8 hw8 hH gb5 G5 N5
    generalize w5.heap.size = G6 at R8 HG6 ⊢
    have c0 : w8.cell? ⟨G6, 0, none⟩ = some (.int .i64 3) := R8.out.cell 0 (by omega)
    have c3 : w8.cell? ⟨G6, 35, none⟩ = some (.string nilB) := R8.out.cell 35 (by omega)
    have f3 := R8.out.frozen 35
    obtain ⟨wL, hWL⟩ : ∃ x, w8.setCell ⟨G6, 35, none⟩ (.string Nt) = x := ⟨_, rfl⟩
    have RL : Hid (Has wL G6 36 (Upd.v ⟨3, (I : Int), 0, fun _ => 0, Nt⟩) 36) := by rw [← hWL]; exact R8.out.setNote Nt
    have GL : Hid (Has wL w.heap.size 36 Upd.zero.v 36) := by rw [← hWL]; exact G8.out.other _ _ (Nat.ne_of_lt HG6.out.2)
    have NL : Hid (Has wL gN 36 Upd.zero.v 36) := by rw [← hWL]; exact N8.out.other _ _ (Nat.ne_of_lt HG6.out.1)
    have gbL : Below w.heap.size w wL := by rw [← hWL]; exact gb8.setCell (Nat.le_of_lt HG6.out.2) _
    have VV := hide (fun w : World => rvalid_any ⟨3, (I : Int), 0, fun _ => 0, Nt⟩ w)
    go_wp2_with (first |  refine wpW_load_at 36 _ rfl G6 0 (by rfl) (by rfl) _ 36 _ (by first | exact RL.out.at_ 0 (by omega) (fun i hi => by rw [Nat.zero_add]) | (rw [hWL]; exact RL.out.at_ 0 (by omega) (fun i hi => by rw [Nat.zero_add]))) Tryz.underlying36 rfl infoU ?_ | fail)
    try rw [hWL]
    refine (VV.out _).mono ?_
    rintro e wv ⟨rfl, hbv⟩
    have Gv := hide (GL.out.below hbv GL.out.lt)
    have Nv := hide (NL.out.below hbv NL.out.lt)
    have Rv := hide (RL.out.below hbv RL.out.lt)
    have gbv := gbL.trans (hbv.mono gbL.size)
    clear hbv VV
    cases hv : validB ⟨3, (I : Int), 0, fun _ => 0, Nt⟩ with
    | false =>
      have hX2 : X = (Upd.zero, 0, 120) := HX0.out.symm.trans (by unfold chk; rw [hv, if_neg (by decide)])
      go_wp2_with (first | refine wpW_load_at 36 _ rfl (gN) (0) (by rfl) (by rfl) _ 36 _ (Nv.out.at_ 0 (by omega) (fun i hi => by rw [Nat.zero_add])) Tryz.underlying36 rfl infoU ?_ | refine wpList_storeU rfl _ _ rfl rfl w.heap.size Upd.zero rfl rfl _ Gv.out ?_)
      exact bodyPost_ret (resU3 _ w.heap.size _ _ (.int .i64 0) (.int .i64 120) 2 3 4 (Gv.out.row _ Upd.zero.v rfl) rfl rfl rfl _ rfl) rfl ⟨by rw [hX2], below_setRow gbv (Nat.le_refl _) _⟩
    | true =>
      have hX2 : X = (⟨3, (I : Int), 0, fun _ => 0, Nt⟩, 5 + (m : Int), 0) := HX0.out.symm.trans (by unfold chk; rw [hv, if_pos rfl])
      go_wp2_with (first | refine wpW_load_at 36 _ rfl (G6) (0) (by rfl) (by rfl) _ 36 _ (Rv.out.at_ 0 (by omega) (fun i hi => by rw [Nat.zero_add])) Tryz.underlying36 rfl infoU ?_ | refine wpList_storeU rfl _ _ rfl rfl w.heap.size ⟨3, (I : Int), 0, fun _ => 0, Nt⟩ rfl rfl _ Gv.out ?_)
      exact bodyPost_ret (resU3 _ w.heap.size _ _ (.int .i64 (5 + (m : Int))) (.int .i64 0) 2 3 4 (Gv.out.row _ (Upd.v ⟨3, (I : Int), 0, fun _ => 0, Nt⟩) rfl) rfl rfl rfl _ rfl) rfl ⟨by rw [hX2], below_setRow gbv (Nat.le_refl _) _⟩
theorem rread_any (b : ByteArray) (w : World) (hz : b.size ≤ 281474976710656) : Calls Tryz.prog 39 #[.string b] w fun e w' => e = .returned (.tuple #[.agg (tabv (rdL b.data.toList).1.v 36), .int .i64 (rdL b.data.toList).2.1, .int .i64 (rdL b.data.toList).2.2]) ∧ Below w.heap.size w w' := by
  cases hl : b.data.toList with
  | nil => exact rr_empty b w (by rw [ByteArray.toList_eq, hl]; rfl)
  | cons c r =>
    have hse : b.toList.isEmpty = false := by rw [ByteArray.toList_eq, hl]; rfl
    have hsz : b.size = r.length + 1 := by rw [← Cu.str_len, hl]; rfl
    have SZ := fun w : World => rsize_any c r b hl hz w
    unfold rdL
    dsimp only
    by_cases c1 : c = 1
    · rw [if_pos c1]
      have hS : sizeA (c :: r) = 43 := by unfold sizeA; dsimp only; rw [if_pos c1]
      rw [hS] at SZ
      by_cases hs : r.length < 42
      · rw [if_pos hs]
        exact rr_less b 43 w hse SZ (by decide) (by decide) (decide_eq_true (by omega))
      · rw [if_neg hs]
        subst c1
        exact rr_1 b r hl hz (by omega) w
    · rw [if_neg c1]
      by_cases c2 : c = 2
      · rw [if_pos c2]
        have hS : sizeA (c :: r) = 35 := by unfold sizeA; dsimp only; rw [if_neg c1, if_pos c2]
        rw [hS] at SZ
        by_cases hs : r.length < 34
        · rw [if_pos hs]
          exact rr_less b 35 w hse SZ (by decide) (by decide) (decide_eq_true (by omega))
        · rw [if_neg hs]
          subst c2
          exact rr_2 b r hl hz (by omega) w
      · rw [if_neg c2]
        by_cases c3 : c = 3
        · rw [if_pos c3]
          by_cases h4 : r.length < 4
          · rw [if_pos h4]
            have hS : sizeA (c :: r) = 0 := by unfold sizeA; dsimp only; rw [if_neg c1, if_neg c2, if_pos c3, if_pos h4]
            rw [hS] at SZ
            exact rr_zero b 0 w hse SZ (by decide) (by decide)
          · rw [if_neg h4]
            obtain ⟨m, hm⟩ : ∃ m, be ((r.drop 2).take 2) = m := ⟨_, rfl⟩
            rw [hm]
            by_cases h64 : 64 < m
            · rw [if_pos h64]
              have hS : sizeA (c :: r) = -1 := by unfold sizeA; dsimp only; rw [if_neg c1, if_neg c2, if_pos c3, if_neg h4, hm, if_pos h64]
              rw [hS] at SZ
              exact rr_neg b (-1) w hse SZ (by decide)
            · rw [if_neg h64]
              have hS : sizeA (c :: r) = 5 + (m : Int) := by unfold sizeA; dsimp only; rw [if_neg c1, if_neg c2, if_pos c3, if_neg h4, hm, if_neg h64]
              rw [hS] at SZ
              by_cases hs : r.length < 4 + m
              · rw [if_pos hs]
                exact rr_less b (5 + (m : Int)) w hse SZ (decide_eq_false (by omega)) (by simp; omega) (decide_eq_true (by omega))
              · rw [if_neg hs]
                subst c3
                exact rr_3 b r m hl hz hm (by omega) (by omega) w
        · rw [if_neg c3]
          have hS : sizeA (c :: r) = -1 := by unfold sizeA; dsimp only; rw [if_neg c1, if_neg c2, if_neg c3]
          rw [hS] at SZ
          exact rr_neg b (-1) w hse SZ (by decide)
end Go.Proofs.YtlohfoggcdaeiaaGreat
