/-
  MsgForms: the walk (printed by gen_m17.py).
-/
import Derived.Test.YtfohdolhobooiaaMForms1
import Derived.Deep.CutRange
namespace Go.Proofs.Ytfohdolhobooiaa
open Go.RowKit S
set_option linter.unusedVariables false
set_option linter.unusedSimpArgs false
open Cu (nb be hl ofL CW Mw CR Mr RS takeS takeA hOf nil8 num doneS)
theorem run_buildW {o : Oper} {a : Act} (w : World) (T : TypeId) (ps : Array (Nat × Operand)) (ho : o.op = .build T ps) (vals : List (Nat × Value)) (he : (ps.map fun (i, y) => (i, a.eval y)).toList = vals) (cs : Array Value) (hb : Try.prog.built T vals = some cs) : (execOp a.eval o).run Try.prog w = .ok (.value (.agg cs)) w := by
  unfold execOp
  simp only [ho, Sem.run_bind, run_build w T _ _ (by rw [he]; exact hb), Result.andThen_ok, Sem.run_pure]
theorem run_addS {o : Oper} {a : Act} (w : World) (x y : Operand) (A B C : ByteArray) (ho : o.op = .binOp .add 9 x y 9) (hx : a.eval x = .string A) (hy : a.eval y = .string B) (hs : A.size + B.size ≤ 9223372036854775807) (hC : A ++ B = C) : (execOp a.eval o).run Try.prog w = .ok (.value (.string C)) w := by
  have h := run_string_add_sum (P := Try.prog) w A B hs
  rw [hC] at h
  unfold execOp
  simp only [ho, hx, hy]
  go_simp
theorem run_convW {o : Oper} {a : Act} (w : World) (s d : TypeId) (x : Operand) (X r : Value) (ho : o.op = .convert s d x) (hx : a.eval x = X) (hr : (convert s d X).run Try.prog w = .ok r w) : (execOp a.eval o).run Try.prog w = .ok (.value r) w := by
  unfold execOp
  simp only [ho, hx, hr, Sem.run_bind, Result.andThen_ok]
  rfl
theorem run_mov {o : Oper} {a : Act} (w : World) (x : Operand) (v : Value) (ho : o.op = .move x) (hx : a.eval x = v) : (execOp a.eval o).run Try.prog w = .ok (.value v) w := by
  unfold execOp
  simp only [ho, hx]
  rfl
theorem run_asg {o : Oper} {a : Act} (w : World) (x : Operand) (v : Value) (ho : o.op = .assign x) (hx : a.eval x = v) : (execOp a.eval o).run Try.prog w = .ok (.value v) w := by
  unfold execOp
  simp only [ho, hx]
  rfl
theorem run_ext0 {o : Oper} {a : Act} (w : World) (x : Operand) (u v : Value) (ho : o.op = .extract x 0) (hx : a.eval x = .tuple #[u, v]) : (execOp a.eval o).run Try.prog w = .ok (.value u) w := by
  unfold execOp
  simp only [ho, hx]
  rfl
theorem run_ext1 {o : Oper} {a : Act} (w : World) (x : Operand) (u v : Value) (ho : o.op = .extract x 1) (hx : a.eval x = .tuple #[u, v]) : (execOp a.eval o).run Try.prog w = .ok (.value v) w := by
  unfold execOp
  simp only [ho, hx]
  rfl
def strV (F : Nat → ByteArray) : Nat → Value := fun i => .string (F i)
theorem builtS4 (t0 t1 t2 t3 : ByteArray) : Try.prog.built 45 [(0, .string t0), (1, .string t1), (2, .string t2), (3, .string t3)] = some (tabv (strV (four t0 t1 t2 t3)) 4) := by kernel_rfl
theorem infoS4 : (Try.prog.info? 45).map (·.size) = some 4 := by kernel_rfl
/-- MsgForms' variables. -/
structure FV (w0 : World) (g7 g8 g13 : Nat) (h s : Nat → UInt8) (F : Nat → Msg) (w : World) : Prop where
  rh : Has w g7 23 (bv h) 32
  rs : Has w g8 23 (bv s) 32
  rl : Has w g13 42 (rowM F) 280
  bel : Below g7 w0 w
  ord : g7 < g8 ∧ g8 < g13
theorem FV.below {w0 : World} {g7 g8 g13 : Nat} {h s : Nat → UInt8} {F : Nat → Msg} {w w' : World} (k : FV w0 g7 g8 g13 h s F w) (hb : Below w.heap.size w w') : FV w0 g7 g8 g13 h s F w' :=
  ⟨k.rh.below hb k.rh.lt, k.rs.below hb k.rs.lt, k.rl.below hb k.rl.lt, k.bel.trans (hb.mono (Nat.le_of_lt k.rh.lt)), k.ord⟩
theorem at0 {w : World} {g m : Nat} {t : TypeId} {f : Nat → Value} (h : Has w g t f m) : At w g 0 f m := h.at_ 0 (by omega) (fun i hi => by rw [Nat.zero_add])
section
variable {P : Program} {o : Oper} {a : Act} {w : World} {K : Act → World → Prop} {Q : Exit → Act → World → Prop}
theorem wp_store_partM (ty : TypeId) (x y : Operand) (ho : o.op = .store ty x y) (hd : o.dst = none) (g of : Nat) (h : Nat → Value) (k : Nat) (hx : a.eval x = .pointer (some ⟨g, of, none⟩)) (hy : a.eval y = .agg (tabv h k)) (t : TypeId) (f : Nat → Value) (m : Nat) (hg : Has w g t f m) (hof : of + k ≤ m) (hi : (P.info? ty).map (·.size) = some k) (h1 : ∀ i, i < k → (h i).oneCell' = true) (f' : Nat → Value) (hf : ∀ i, i < m → splice f of h k i = f' i)
    (hk : K a (w.setRow g (tabv f' m))) : o.wp P a w K Q := by
  unfold Oper.wp execOp
  simp only [ho, hx, hy, Instr.storeAt, Instr.sureAddr, Sem.run_bind, Sem.run_pure, Result.andThen_ok, run_storeVar_part w g of t ty f h m k hg hof hi h1]
  rw [tabv_congr _ f' m (fun i hi => hf i hi)]
  unfold Oper.upon
  first | exact hk | (simp only [hd]; exact hk)
end
set_option maxRecDepth 100000 in
set_option maxHeartbeats 80000000 in
theorem mforms_walk (one two : Int) (h s : Nat → UInt8) (note : ByteArray) (hz : note.size ≤ 140737488351232) (h1 : -9223372036854775808 ≤ one ∧ one ≤ 9223372036854775807) (w : World) : Calls Try.prog 5 #[.int .i64 one, .int .i64 two, .agg (tabv (bv h) 32), .agg (tabv (bv s) 32), .string note] w fun e w' => e = .returned (.bool true) ∧ Below w.heap.size w w' := by
  obtain ⟨w1, hW1⟩ : ∃ wX, w.alloc (.cells (tabv (bv h) 32) 23) = wX := ⟨_, rfl⟩
  have r1 : Has w1 w.heap.size 23 (bv h) 32 := by rw [← hW1]; exact Has.new w 23 (bv h) 32 _ rfl
  have b1 : Below w.heap.size w w1 := by rw [← hW1]; exact (Below.refl w.heap.size w).alloc (Nat.le_refl _) _
  obtain ⟨w2, hW2⟩ : ∃ wX, w1.alloc (.cells (tabv (bv s) 32) 23) = wX := ⟨_, rfl⟩
  have r2 : Has w2 w1.heap.size 23 (bv s) 32 := by rw [← hW2]; exact Has.new w1 23 (bv s) 32 _ rfl
  have b2 : Below w1.heap.size w1 w2 := by rw [← hW2]; exact (Below.refl w1.heap.size w1).alloc (Nat.le_refl _) _
  have R1 := hide (r1.below b2 r1.lt)
  have R2 := hide r2
  have G2 : Hid (Below w.heap.size w w2) := b1.trans (b2.mono b1.size)
  have L12 : Hid (w.heap.size < w1.heap.size) := r1.lt
  have I1 := hide (fun w : World => lindex_any one w)
  have I2 := hide (fun w : World => lindex_any two w)
  have OA := hide (idxOf_ok one)
  have OB := hide (idxOf_ok two)
  have OO : Hid (one ≠ idxOf one → idxB one = false) := idxOf_out one
  generalize idxOf one = a at I1 OA OO
  generalize idxOf two = b at I2 OB
  have H1 := hide h1
  have HZ := hide hz
  clear r1 b1 r2 b2 h1 hz
  go_enter Try.func5, Try.ntmps5
  go_wp2_with fail
  refine (mhead_any _).mono ?_
  rintro e w3 ⟨rfl, hb⟩
  have R3 := hide (R1.out.below hb R1.out.lt)
  have S3 := hide (R2.out.below hb R2.out.lt)
  have G3 : Hid (Below w.heap.size w w3) := G2.out.trans (hb.mono G2.out.size)
  clear hb R1 R2 G2
  generalize hg7 : w.heap.size = g7 at R3 G3 L12 ⊢
  generalize w1.heap.size = g8 at S3 L12 ⊢
  clear hW1 hW2
  go_wp2_with fail
  refine (I1.out _).mono ?_
  rintro e wv ⟨rfl, rfl⟩
  go_wp2_with fail
  refine (I2.out _).mono ?_
  rintro e wv ⟨rfl, rfl⟩
  go_upto_region 5 with fail
  obtain ⟨w4, w5, hW4, r4, hW5, r5, b5⟩ := new4 w3 (fM a b h s)
  have RN := hide r4
  have K5 : Hid (FV w g7 g8 w3.heap.size h s (fM a b h s) w5) := ⟨R3.out.below b5 R3.out.lt, S3.out.below b5 S3.out.lt, r5, G3.out.trans (b5.mono (Nat.le_of_lt R3.out.lt)), L12.out, S3.out.lt⟩
  clear r4 r5 b5 I1 I2 L12 G3
  go_upto_region 6 with (first | refine wpW_load_at 23 _ rfl (g7) (0) (by rfl) (by rfl) _ 32 _ (at0 R3.out) Try.underlying23 rfl info26 ?_ | refine wpW_load_at 23 _ rfl (g8) (0) (by rfl) (by rfl) _ 32 _ (at0 S3.out) Try.underlying23 rfl info26 ?_ | refine wpW_build (by rfl) 25 #[(0, .const (.int .i64 4)), (3, .tmp 35), (5, .tmp 36)] rfl [(0, .int .i64 4), (3, .int .i64 a), (5, .agg (tabv (bv h) 32))] (by first | rfl | (simp [Act.eval, Act.put]; done)) _ (bF4 a h) ?_ | refine wpW_build (by rfl) 25 #[(0, .const (.int .i64 5)), (3, .tmp 38), (6, .tmp 39), (5, .tmp 40)] rfl [(0, .int .i64 5), (3, .int .i64 a), (6, .agg (tabv (bv s) 32)), (5, .agg (tabv (bv h) 32))] (by first | rfl | (simp [Act.eval, Act.put]; done)) _ (bF5 a h s) ?_ | refine wpW_build (by rfl) 25 #[(0, .const (.int .i64 6)), (3, .tmp 42), (4, .tmp 43), (6, .tmp 44)] rfl [(0, .int .i64 6), (3, .int .i64 a), (4, .int .i64 b), (6, .agg (tabv (bv s) 32))] (by first | rfl | (simp [Act.eval, Act.put]; done)) _ (bF6 a b s) ?_ | refine wpW_build (by rfl) 25 #[(0, .const (.int .i64 7)), (3, .tmp 46)] rfl [(0, .int .i64 7), (3, .int .i64 b)] (by first | rfl | (simp [Act.eval, Act.put]; done)) _ (bF7 b) ?_ | refine wpW_build (by rfl) 42 #[(0, .tmp 37), (1, .tmp 41), (2, .tmp 45), (3, .tmp 47)] rfl [(0, .agg (tabv (Msg.v ⟨4, 0, 0, a, 0, h, z32, nilB⟩) 70)), (1, .agg (tabv (Msg.v ⟨5, 0, 0, a, 0, h, s, nilB⟩) 70)), (2, .agg (tabv (Msg.v ⟨6, 0, 0, a, b, z32, s, nilB⟩) 70)), (3, .agg (tabv (Msg.v ⟨7, 0, 0, b, 0, z32, z32, nilB⟩) 70))] (by first | rfl | (simp [Act.eval, Act.put]; done)) _ (built4M _ _ _ _) ?_ | refine wpList_store4 rfl _ _ rfl rfl w3.heap.size (fM a b h s) rfl rfl _ RN.out ?_ | fail)
  try rw [hW5]
  generalize w3.heap.size = g13 at K5 ⊢
  clear hW4 hW5 RN R3 S3
  have NA := hide (fun w : World => lnumber_any a w)
  have NB := hide (fun w : World => lnumber_any b w)
  have ET : Hid (∀ i, fT a b h s i = ofL (bytesM (fM a b h s i))) := fun i => fT_eq a b h s OA.out OB.out i
  have EF : Hid (fT a b h s = four (⟨#[4]⟩ ++ ofL (nb (U64n a) 8) ++ strOf h 32) (⟨#[5]⟩ ++ ofL (nb (U64n a) 8) ++ strOf s 32 ++ strOf h 32) (⟨#[6]⟩ ++ ofL (nb (U64n a) 8) ++ ofL (nb (U64n b) 8) ++ strOf s 32) (⟨#[7]⟩ ++ ofL (nb (U64n b) 8))) := rfl
  have za : (ofL (nb (U64n a) 8)).size = 8 := by rw [Cu.ofL_size, Cu.nb_length]
  have zb : (ofL (nb (U64n b) 8)).size = 8 := by rw [Cu.ofL_size, Cu.nb_length]
  have zh : (strOf h 32).size = 32 := strOf_size _ _
  have zs : (strOf s 32).size = 32 := strOf_size _ _
  obtain ⟨P4, hP4⟩ : ∃ X, (⟨#[4]⟩ : ByteArray) ++ ofL (nb (U64n a) 8) = X := ⟨_, rfl⟩
  have zP4 : P4.size = 9 := by rw [← hP4, ByteArray.size_append]; show 1 + _ = _; omega
  rw [hP4] at EF
  have EP4 := hide hP4
  clear hP4
  obtain ⟨Q4, hQ4⟩ : ∃ X, P4 ++ strOf h 32 = X := ⟨_, rfl⟩
  have zQ4 : Q4.size = 41 := by rw [← hQ4, ByteArray.size_append]; omega
  rw [hQ4] at EF
  have EQ4 := hide hQ4
  clear hQ4
  obtain ⟨P5, hP5⟩ : ∃ X, (⟨#[5]⟩ : ByteArray) ++ ofL (nb (U64n a) 8) = X := ⟨_, rfl⟩
  have zP5 : P5.size = 9 := by rw [← hP5, ByteArray.size_append]; show 1 + _ = _; omega
  rw [hP5] at EF
  have EP5 := hide hP5
  clear hP5
  obtain ⟨Q5, hQ5⟩ : ∃ X, P5 ++ strOf s 32 = X := ⟨_, rfl⟩
  have zQ5 : Q5.size = 41 := by rw [← hQ5, ByteArray.size_append]; omega
  rw [hQ5] at EF
  have EQ5 := hide hQ5
  clear hQ5
  obtain ⟨R5, hR5⟩ : ∃ X, Q5 ++ strOf h 32 = X := ⟨_, rfl⟩
  have zR5 : R5.size = 73 := by rw [← hR5, ByteArray.size_append]; omega
  rw [hR5] at EF
  have ER5 := hide hR5
  clear hR5
  obtain ⟨P6, hP6⟩ : ∃ X, (⟨#[6]⟩ : ByteArray) ++ ofL (nb (U64n a) 8) = X := ⟨_, rfl⟩
  have zP6 : P6.size = 9 := by rw [← hP6, ByteArray.size_append]; show 1 + _ = _; omega
  rw [hP6] at EF
  have EP6 := hide hP6
  clear hP6
  obtain ⟨Q6, hQ6⟩ : ∃ X, P6 ++ ofL (nb (U64n b) 8) = X := ⟨_, rfl⟩
  have zQ6 : Q6.size = 17 := by rw [← hQ6, ByteArray.size_append]; omega
  rw [hQ6] at EF
  have EQ6 := hide hQ6
  clear hQ6
  obtain ⟨R6, hR6⟩ : ∃ X, Q6 ++ strOf s 32 = X := ⟨_, rfl⟩
  have zR6 : R6.size = 49 := by rw [← hR6, ByteArray.size_append]; omega
  rw [hR6] at EF
  have ER6 := hide hR6
  clear hR6
  obtain ⟨P7, hP7⟩ : ∃ X, (⟨#[7]⟩ : ByteArray) ++ ofL (nb (U64n b) 8) = X := ⟨_, rfl⟩
  have zP7 : P7.size = 9 := by rw [← hP7, ByteArray.size_append]; show 1 + _ = _; omega
  rw [hP7] at EF
  have EP7 := hide hP7
  clear hP7
  generalize ofL (nb (U64n a) 8) = XA at NA za EP4 EQ4 EP5 EQ5 ER5 EP6 EQ6 ER6 EP7
  generalize ofL (nb (U64n b) 8) = XB at NB zb EP4 EQ4 EP5 EQ5 ER5 EP6 EQ6 ER6 EP7
  generalize hSH : strOf h 32 = XH at zh EP4 EQ4 EP5 EQ5 ER5 EP6 EQ6 ER6 EP7
  generalize hSS : strOf s 32 = XS at zs EP4 EQ4 EP5 EQ5 ER5 EP6 EQ6 ER6 EP7
  have HSH := hide hSH
  have HSS := hide hSS
  clear hSH hSS
  generalize fT a b h s = FT at ET EF
  go_cut [14] from 29 (fun s14 wx => ∃ g14, s14 = .pointer (some ⟨g14, 0, none⟩) ∧ Has wx g14 45 (strV FT) 4 ∧ Below w5.heap.size w5 wx)
  case first =>
    as_aux_lemma =>
      go_wp2
      refine wp_region_noPanic ?_
      refine wp_region_held_drew (S := fun wx => Below w5.heap.size w5 wx) (by kernel_rfl) ((Below.refl _ _).drew) (fun hHeld => ?_)
      generalize hwd : World.drew w5 = wd at hHeld ⊢
      refine Cu.takeH 0 (some 49) (.int .i64 a) rfl rfl (by kernel_rfl) (by kernel_rfl) (by kernel_rfl) (fun _ _ _ h => h) (by rfl) (fun w hw => by first | rfl | (go_simp; done) | (go_simp; rfl) | (go_simp; omega)) hHeld ?_
      simp only [Act.put, List.setIfInBounds_toArray, List.set_cons_zero, List.set_cons_succ]
      refine Cu.takeH 3 (some 52) (.slice (some ⟨g7, 0, none⟩) 32 32) rfl rfl (by kernel_rfl) (by kernel_rfl) (by kernel_rfl) (fun _ _ _ h => h) (by rfl) (fun w hw => by first | rfl | (go_simp; done) | (go_simp; rfl) | (go_simp; omega)) hHeld ?_
      simp only [Act.put, List.setIfInBounds_toArray, List.set_cons_zero, List.set_cons_succ]
      refine Cu.takeH 4 (some 53) (.string XH) rfl rfl (by kernel_rfl) (by kernel_rfl) (by kernel_rfl) (fun _ _ _ h => h) (by rfl) (fun w hw => run_convW w _ _ _ _ _ rfl (by rfl) (by rw [← HSH.out]; exact run_conv_at (at0 (K5.out.rh.below hw K5.out.rh.lt)))) hHeld ?_
      simp only [Act.put, List.setIfInBounds_toArray, List.set_cons_zero, List.set_cons_succ]
      refine Cu.takeH 6 (some 55) (.int .i64 a) rfl rfl (by kernel_rfl) (by kernel_rfl) (by kernel_rfl) (fun _ _ _ h => h) (by rfl) (fun w hw => by first | rfl | (go_simp; done) | (go_simp; rfl) | (go_simp; omega)) hHeld ?_
      simp only [Act.put, List.setIfInBounds_toArray, List.set_cons_zero, List.set_cons_succ]
      refine Cu.takeH 9 (some 58) (.slice (some ⟨g8, 0, none⟩) 32 32) rfl rfl (by kernel_rfl) (by kernel_rfl) (by kernel_rfl) (fun _ _ _ h => h) (by rfl) (fun w hw => by first | rfl | (go_simp; done) | (go_simp; rfl) | (go_simp; omega)) hHeld ?_
      simp only [Act.put, List.setIfInBounds_toArray, List.set_cons_zero, List.set_cons_succ]
      refine Cu.takeH 10 (some 59) (.string XS) rfl rfl (by kernel_rfl) (by kernel_rfl) (by kernel_rfl) (fun _ _ _ h => h) (by rfl) (fun w hw => run_convW w _ _ _ _ _ rfl (by rfl) (by rw [← HSS.out]; exact run_conv_at (at0 (K5.out.rs.below hw K5.out.rs.lt)))) hHeld ?_
      simp only [Act.put, List.setIfInBounds_toArray, List.set_cons_zero, List.set_cons_succ]
      refine Cu.takeH 12 (some 61) (.slice (some ⟨g7, 0, none⟩) 32 32) rfl rfl (by kernel_rfl) (by kernel_rfl) (by kernel_rfl) (fun _ _ _ h => h) (by rfl) (fun w hw => by first | rfl | (go_simp; done) | (go_simp; rfl) | (go_simp; omega)) hHeld ?_
      simp only [Act.put, List.setIfInBounds_toArray, List.set_cons_zero, List.set_cons_succ]
      refine Cu.takeH 13 (some 62) (.string XH) rfl rfl (by kernel_rfl) (by kernel_rfl) (by kernel_rfl) (fun _ _ _ h => h) (by rfl) (fun w hw => run_convW w _ _ _ _ _ rfl (by rfl) (by rw [← HSH.out]; exact run_conv_at (at0 (K5.out.rh.below hw K5.out.rh.lt)))) hHeld ?_
      simp only [Act.put, List.setIfInBounds_toArray, List.set_cons_zero, List.set_cons_succ]
      refine Cu.takeH 15 (some 64) (.int .i64 a) rfl rfl (by kernel_rfl) (by kernel_rfl) (by kernel_rfl) (fun _ _ _ h => h) (by rfl) (fun w hw => by first | rfl | (go_simp; done) | (go_simp; rfl) | (go_simp; omega)) hHeld ?_
      simp only [Act.put, List.setIfInBounds_toArray, List.set_cons_zero, List.set_cons_succ]
      refine Cu.takeH 18 (some 67) (.int .i64 b) rfl rfl (by kernel_rfl) (by kernel_rfl) (by kernel_rfl) (fun _ _ _ h => h) (by rfl) (fun w hw => by first | rfl | (go_simp; done) | (go_simp; rfl) | (go_simp; omega)) hHeld ?_
      simp only [Act.put, List.setIfInBounds_toArray, List.set_cons_zero, List.set_cons_succ]
      refine Cu.takeH 21 (some 70) (.slice (some ⟨g8, 0, none⟩) 32 32) rfl rfl (by kernel_rfl) (by kernel_rfl) (by kernel_rfl) (fun _ _ _ h => h) (by rfl) (fun w hw => by first | rfl | (go_simp; done) | (go_simp; rfl) | (go_simp; omega)) hHeld ?_
      simp only [Act.put, List.setIfInBounds_toArray, List.set_cons_zero, List.set_cons_succ]
      refine Cu.takeH 22 (some 71) (.string XS) rfl rfl (by kernel_rfl) (by kernel_rfl) (by kernel_rfl) (fun _ _ _ h => h) (by rfl) (fun w hw => run_convW w _ _ _ _ _ rfl (by rfl) (by rw [← HSS.out]; exact run_conv_at (at0 (K5.out.rs.below hw K5.out.rs.lt)))) hHeld ?_
      simp only [Act.put, List.setIfInBounds_toArray, List.set_cons_zero, List.set_cons_succ]
      refine Cu.takeH 24 (some 73) (.int .i64 b) rfl rfl (by kernel_rfl) (by kernel_rfl) (by kernel_rfl) (fun _ _ _ h => h) (by rfl) (fun w hw => by first | rfl | (go_simp; done) | (go_simp; rfl) | (go_simp; omega)) hHeld ?_
      simp only [Act.put, List.setIfInBounds_toArray, List.set_cons_zero, List.set_cons_succ]
      refine wpAnyH_ready (rs := [1, 28]) (by kernel_rfl) (by simp) (AllReadyH.cons rfl (fun K hK => ?_) (AllReadyH.cons rfl (fun K hK => ?_) AllReadyH.nil))
      · rw [if_pos (by rfl)]
        go_simp
        refine (NA.out _).mono ?_
        rintro e wcc ⟨rfl, hbq⟩
        try go_wp2_with fail
        refine hK.out _ _ (hHeld.trans (hbq.mono hHeld.size)) (fun hH => ?_)
        clear hbq
        clear hK hHeld
        have hHeld := hH
        clear hH
        refine Cu.takeH 2 (some 51) (.string P4) rfl rfl (by kernel_rfl) (by kernel_rfl) (by kernel_rfl) (fun _ _ _ h => h) (by rfl) (fun w hw => run_addS w _ _ ⟨#[4]⟩ XA P4 rfl (by rfl) (by rfl) (by show 1 + _ ≤ _; omega) EP4.out) hHeld ?_
        simp only [Act.put, List.setIfInBounds_toArray, List.set_cons_zero, List.set_cons_succ]
        refine Cu.takeH 5 (some 54) (.string Q4) rfl rfl (by kernel_rfl) (by kernel_rfl) (by kernel_rfl) (fun _ _ _ h => h) (by rfl) (fun w hw => run_addS w _ _ P4 XH Q4 rfl (by rfl) (by rfl) (by omega) EQ4.out) hHeld ?_
        simp only [Act.put, List.setIfInBounds_toArray, List.set_cons_zero, List.set_cons_succ]
        refine wpAnyH_ready (rs := [7, 28]) (by kernel_rfl) (by simp) (AllReadyH.cons rfl (fun K hK => ?_) (AllReadyH.cons rfl (fun K hK => ?_) AllReadyH.nil))
        · rw [if_pos (by rfl)]
          go_simp
          refine (NA.out _).mono ?_
          rintro e wccc ⟨rfl, hbq⟩
          try go_wp2_with fail
          refine hK.out _ _ (hHeld.trans (hbq.mono hHeld.size)) (fun hH => ?_)
          clear hbq
          clear hK hHeld
          have hHeld := hH
          clear hH
          refine Cu.takeH 8 (some 57) (.string P5) rfl rfl (by kernel_rfl) (by kernel_rfl) (by kernel_rfl) (fun _ _ _ h => h) (by rfl) (fun w hw => run_addS w _ _ ⟨#[5]⟩ XA P5 rfl (by rfl) (by rfl) (by show 1 + _ ≤ _; omega) EP5.out) hHeld ?_
          simp only [Act.put, List.setIfInBounds_toArray, List.set_cons_zero, List.set_cons_succ]
          refine Cu.takeH 11 (some 60) (.string Q5) rfl rfl (by kernel_rfl) (by kernel_rfl) (by kernel_rfl) (fun _ _ _ h => h) (by rfl) (fun w hw => run_addS w _ _ P5 XS Q5 rfl (by rfl) (by rfl) (by omega) EQ5.out) hHeld ?_
          simp only [Act.put, List.setIfInBounds_toArray, List.set_cons_zero, List.set_cons_succ]
          refine Cu.takeH 14 (some 63) (.string R5) rfl rfl (by kernel_rfl) (by kernel_rfl) (by kernel_rfl) (fun _ _ _ h => h) (by rfl) (fun w hw => run_addS w _ _ Q5 XH R5 rfl (by rfl) (by rfl) (by omega) ER5.out) hHeld ?_
          simp only [Act.put, List.setIfInBounds_toArray, List.set_cons_zero, List.set_cons_succ]
          refine wpAnyH_ready (rs := [16, 28]) (by kernel_rfl) (by simp) (AllReadyH.cons rfl (fun K hK => ?_) (AllReadyH.cons rfl (fun K hK => ?_) AllReadyH.nil))
          · rw [if_pos (by rfl)]
            go_simp
            refine (NA.out _).mono ?_
            rintro e wcccc ⟨rfl, hbq⟩
            try go_wp2_with fail
            refine hK.out _ _ (hHeld.trans (hbq.mono hHeld.size)) (fun hH => ?_)
            clear hbq
            clear hK hHeld
            have hHeld := hH
            clear hH
            refine Cu.takeH 17 (some 66) (.string P6) rfl rfl (by kernel_rfl) (by kernel_rfl) (by kernel_rfl) (fun _ _ _ h => h) (by rfl) (fun w hw => run_addS w _ _ ⟨#[6]⟩ XA P6 rfl (by rfl) (by rfl) (by show 1 + _ ≤ _; omega) EP6.out) hHeld ?_
            simp only [Act.put, List.setIfInBounds_toArray, List.set_cons_zero, List.set_cons_succ]
            refine wpAnyH_ready (rs := [19, 28]) (by kernel_rfl) (by simp) (AllReadyH.cons rfl (fun K hK => ?_) (AllReadyH.cons rfl (fun K hK => ?_) AllReadyH.nil))
            · rw [if_pos (by rfl)]
              go_simp
              refine (NB.out _).mono ?_
              rintro e wccccc ⟨rfl, hbq⟩
              try go_wp2_with fail
              refine hK.out _ _ (hHeld.trans (hbq.mono hHeld.size)) (fun hH => ?_)
              clear hbq
              clear hK hHeld
              have hHeld := hH
              clear hH
              refine Cu.takeH 20 (some 69) (.string Q6) rfl rfl (by kernel_rfl) (by kernel_rfl) (by kernel_rfl) (fun _ _ _ h => h) (by rfl) (fun w hw => run_addS w _ _ P6 XB Q6 rfl (by rfl) (by rfl) (by omega) EQ6.out) hHeld ?_
              simp only [Act.put, List.setIfInBounds_toArray, List.set_cons_zero, List.set_cons_succ]
              refine Cu.takeH 23 (some 72) (.string R6) rfl rfl (by kernel_rfl) (by kernel_rfl) (by kernel_rfl) (fun _ _ _ h => h) (by rfl) (fun w hw => run_addS w _ _ Q6 XS R6 rfl (by rfl) (by rfl) (by omega) ER6.out) hHeld ?_
              simp only [Act.put, List.setIfInBounds_toArray, List.set_cons_zero, List.set_cons_succ]
              refine wpAnyH_ready (rs := [25, 28]) (by kernel_rfl) (by simp) (AllReadyH.cons rfl (fun K hK => ?_) (AllReadyH.cons rfl (fun K hK => ?_) AllReadyH.nil))
              · rw [if_pos (by rfl)]
                go_simp
                refine (NB.out _).mono ?_
                rintro e wcccccc ⟨rfl, hbq⟩
                try go_wp2_with fail
                refine hK.out _ _ (hHeld.trans (hbq.mono hHeld.size)) (fun hH => ?_)
                clear hbq
                clear hK hHeld
                have hHeld := hH
                clear hH
                refine Cu.takeH 26 (some 75) (.string P7) rfl rfl (by kernel_rfl) (by kernel_rfl) (by kernel_rfl) (fun _ _ _ h => h) (by rfl) (fun w hw => run_addS w _ _ ⟨#[7]⟩ XB P7 rfl (by rfl) (by rfl) (by show 1 + _ ≤ _; omega) EP7.out) hHeld ?_
                simp only [Act.put, List.setIfInBounds_toArray, List.set_cons_zero, List.set_cons_succ]
                refine Cu.takeH 27 (some 76) (.agg (tabv (strV (four Q4 R5 R6 P7)) 4)) rfl rfl (by kernel_rfl) (by kernel_rfl) (by kernel_rfl) (fun _ _ _ h => h) (by rfl) (fun w hw => run_buildW w _ _ rfl [(0, .string Q4), (1, .string R5), (2, .string R6), (3, .string P7)] (by first | rfl | (simp [Act.eval]; done)) _ (builtS4 _ _ _ _)) hHeld ?_
                simp only [Act.put, List.setIfInBounds_toArray, List.set_cons_zero, List.set_cons_succ]
                refine wpAnyH_ready (rs := [28]) (by kernel_rfl) (by simp) (AllReadyH.cons rfl (fun K hK => ?_) AllReadyH.nil)
                rw [if_pos (by rfl)]
                go_simp
                have qN : Has (World.alloc wcccccc (.cells #[.string { data := #[] }, .string { data := #[] }, .string { data := #[] }, .string { data := #[] }] 45)) (Array.size (World.heap wcccccc)) 45 (strV (fun _ => ⟨#[]⟩)) 4 := Has.new wcccccc 45 _ 4 _ rfl
                have bN : Below (Array.size (World.heap wcccccc)) wcccccc (World.alloc wcccccc (.cells #[.string { data := #[] }, .string { data := #[] }, .string { data := #[] }, .string { data := #[] }] 45)) := (Below.refl _ _).alloc (Nat.le_refl _) _
                have hgHs : w5.heap.size ≤ Array.size (World.heap wcccccc) := hHeld.size
                have sN := hHeld.trans (bN.mono hHeld.size)
                generalize hwe : World.alloc wcccccc (.cells #[.string { data := #[] }, .string { data := #[] }, .string { data := #[] }, .string { data := #[] }] 45) = weccccca at qN bN sN ⊢
                refine hK.out _ _ sN (fun hH => ?_)
                clear sN bN hwe
                clear hK hHeld
                have hHeld := hH
                clear hH
                generalize hgHe : Array.size (World.heap wcccccc) = gH at qN hgHs ⊢
                try simp only [Act.put, List.setIfInBounds_toArray, List.set_cons_zero, List.set_cons_succ]
                refine wpAnyH_ready (rs := [29]) (by kernel_rfl) (by simp) (AllReadyH.cons rfl (fun K hK => ?_) AllReadyH.nil)
                rw [if_pos (by rfl)]
                refine wp_store_partM 45 _ _ rfl rfl gH 0 (strV (four Q4 R5 R6 P7)) 4 rfl rfl 45 _ 4 qN (by omega) infoS4 (fun i _ => rfl) (strV (four Q4 R5 R6 P7)) (fun i hi => by unfold splice; rw [if_pos (by omega), Nat.sub_zero]) ?_
                have bF : Below w5.heap.size w5 (weccccca.setRow gH (tabv (strV (four Q4 R5 R6 P7)) 4)) := below_setRow hHeld hgHs _
                refine hK.out _ _ bF (fun hH => ?_)
                clear hK hHeld hH
                refine wpAnyH_done (by kernel_rfl) ?_ _
                refine NoPanic.normal ?_
                have rHF : Has (weccccca.setRow gH (tabv (strV (four Q4 R5 R6 P7)) 4)) gH 45 (strV FT) 4 := by rw [EF.out]; exact qN.row _ _ rfl
                go_wp2
                go_meet
                exact ⟨_, rfl, rHF, bF⟩
              · rw [if_pos (by rfl)]
                go_simp
                have qN : Has (World.alloc wccccc (.cells #[.string { data := #[] }, .string { data := #[] }, .string { data := #[] }, .string { data := #[] }] 45)) (Array.size (World.heap wccccc)) 45 (strV (fun _ => ⟨#[]⟩)) 4 := Has.new wccccc 45 _ 4 _ rfl
                have bN : Below (Array.size (World.heap wccccc)) wccccc (World.alloc wccccc (.cells #[.string { data := #[] }, .string { data := #[] }, .string { data := #[] }, .string { data := #[] }] 45)) := (Below.refl _ _).alloc (Nat.le_refl _) _
                have hgHs : w5.heap.size ≤ Array.size (World.heap wccccc) := hHeld.size
                have sN := hHeld.trans (bN.mono hHeld.size)
                generalize hwe : World.alloc wccccc (.cells #[.string { data := #[] }, .string { data := #[] }, .string { data := #[] }, .string { data := #[] }] 45) = wecccca at qN bN sN ⊢
                refine hK.out _ _ sN (fun hH => ?_)
                clear sN bN hwe
                clear hK hHeld
                have hHeld := hH
                clear hH
                generalize hgHe : Array.size (World.heap wccccc) = gH at qN hgHs ⊢
                try simp only [Act.put, List.setIfInBounds_toArray, List.set_cons_zero, List.set_cons_succ]
                refine wpAnyH_ready (rs := [25]) (by kernel_rfl) (by simp) (AllReadyH.cons rfl (fun K hK => ?_) AllReadyH.nil)
                rw [if_pos (by rfl)]
                go_simp
                refine (NB.out _).mono ?_
                rintro e wcccccac ⟨rfl, hbq⟩
                try go_wp2_with fail
                have qN := qN.below hbq qN.lt
                refine hK.out _ _ (hHeld.trans (hbq.mono hHeld.size)) (fun hH => ?_)
                clear hbq
                clear hK hHeld
                have hHeld := hH
                clear hH
                refine Cu.takeH 26 (some 75) (.string P7) rfl rfl (by kernel_rfl) (by kernel_rfl) (by kernel_rfl) (fun _ _ _ h => h) (by rfl) (fun w hw => run_addS w _ _ ⟨#[7]⟩ XB P7 rfl (by rfl) (by rfl) (by show 1 + _ ≤ _; omega) EP7.out) hHeld ?_
                simp only [Act.put, List.setIfInBounds_toArray, List.set_cons_zero, List.set_cons_succ]
                refine Cu.takeH 27 (some 76) (.agg (tabv (strV (four Q4 R5 R6 P7)) 4)) rfl rfl (by kernel_rfl) (by kernel_rfl) (by kernel_rfl) (fun _ _ _ h => h) (by rfl) (fun w hw => run_buildW w _ _ rfl [(0, .string Q4), (1, .string R5), (2, .string R6), (3, .string P7)] (by first | rfl | (simp [Act.eval]; done)) _ (builtS4 _ _ _ _)) hHeld ?_
                simp only [Act.put, List.setIfInBounds_toArray, List.set_cons_zero, List.set_cons_succ]
                refine wpAnyH_ready (rs := [29]) (by kernel_rfl) (by simp) (AllReadyH.cons rfl (fun K hK => ?_) AllReadyH.nil)
                rw [if_pos (by rfl)]
                refine wp_store_partM 45 _ _ rfl rfl gH 0 (strV (four Q4 R5 R6 P7)) 4 rfl rfl 45 _ 4 qN (by omega) infoS4 (fun i _ => rfl) (strV (four Q4 R5 R6 P7)) (fun i hi => by unfold splice; rw [if_pos (by omega), Nat.sub_zero]) ?_
                have bF : Below w5.heap.size w5 (wcccccac.setRow gH (tabv (strV (four Q4 R5 R6 P7)) 4)) := below_setRow hHeld hgHs _
                refine hK.out _ _ bF (fun hH => ?_)
                clear hK hHeld hH
                refine wpAnyH_done (by kernel_rfl) ?_ _
                refine NoPanic.normal ?_
                have rHF : Has (wcccccac.setRow gH (tabv (strV (four Q4 R5 R6 P7)) 4)) gH 45 (strV FT) 4 := by rw [EF.out]; exact qN.row _ _ rfl
                go_wp2
                go_meet
                exact ⟨_, rfl, rHF, bF⟩
            · rw [if_pos (by rfl)]
              go_simp
              have qN : Has (World.alloc wcccc (.cells #[.string { data := #[] }, .string { data := #[] }, .string { data := #[] }, .string { data := #[] }] 45)) (Array.size (World.heap wcccc)) 45 (strV (fun _ => ⟨#[]⟩)) 4 := Has.new wcccc 45 _ 4 _ rfl
              have bN : Below (Array.size (World.heap wcccc)) wcccc (World.alloc wcccc (.cells #[.string { data := #[] }, .string { data := #[] }, .string { data := #[] }, .string { data := #[] }] 45)) := (Below.refl _ _).alloc (Nat.le_refl _) _
              have hgHs : w5.heap.size ≤ Array.size (World.heap wcccc) := hHeld.size
              have sN := hHeld.trans (bN.mono hHeld.size)
              generalize hwe : World.alloc wcccc (.cells #[.string { data := #[] }, .string { data := #[] }, .string { data := #[] }, .string { data := #[] }] 45) = weccca at qN bN sN ⊢
              refine hK.out _ _ sN (fun hH => ?_)
              clear sN bN hwe
              clear hK hHeld
              have hHeld := hH
              clear hH
              generalize hgHe : Array.size (World.heap wcccc) = gH at qN hgHs ⊢
              try simp only [Act.put, List.setIfInBounds_toArray, List.set_cons_zero, List.set_cons_succ]
              refine wpAnyH_ready (rs := [19]) (by kernel_rfl) (by simp) (AllReadyH.cons rfl (fun K hK => ?_) AllReadyH.nil)
              rw [if_pos (by rfl)]
              go_simp
              refine (NB.out _).mono ?_
              rintro e wccccac ⟨rfl, hbq⟩
              try go_wp2_with fail
              have qN := qN.below hbq qN.lt
              refine hK.out _ _ (hHeld.trans (hbq.mono hHeld.size)) (fun hH => ?_)
              clear hbq
              clear hK hHeld
              have hHeld := hH
              clear hH
              refine Cu.takeH 20 (some 69) (.string Q6) rfl rfl (by kernel_rfl) (by kernel_rfl) (by kernel_rfl) (fun _ _ _ h => h) (by rfl) (fun w hw => run_addS w _ _ P6 XB Q6 rfl (by rfl) (by rfl) (by omega) EQ6.out) hHeld ?_
              simp only [Act.put, List.setIfInBounds_toArray, List.set_cons_zero, List.set_cons_succ]
              refine Cu.takeH 23 (some 72) (.string R6) rfl rfl (by kernel_rfl) (by kernel_rfl) (by kernel_rfl) (fun _ _ _ h => h) (by rfl) (fun w hw => run_addS w _ _ Q6 XS R6 rfl (by rfl) (by rfl) (by omega) ER6.out) hHeld ?_
              simp only [Act.put, List.setIfInBounds_toArray, List.set_cons_zero, List.set_cons_succ]
              refine wpAnyH_ready (rs := [25]) (by kernel_rfl) (by simp) (AllReadyH.cons rfl (fun K hK => ?_) AllReadyH.nil)
              rw [if_pos (by rfl)]
              go_simp
              refine (NB.out _).mono ?_
              rintro e wccccacc ⟨rfl, hbq⟩
              try go_wp2_with fail
              have qN := qN.below hbq qN.lt
              refine hK.out _ _ (hHeld.trans (hbq.mono hHeld.size)) (fun hH => ?_)
              clear hbq
              clear hK hHeld
              have hHeld := hH
              clear hH
              refine Cu.takeH 26 (some 75) (.string P7) rfl rfl (by kernel_rfl) (by kernel_rfl) (by kernel_rfl) (fun _ _ _ h => h) (by rfl) (fun w hw => run_addS w _ _ ⟨#[7]⟩ XB P7 rfl (by rfl) (by rfl) (by show 1 + _ ≤ _; omega) EP7.out) hHeld ?_
              simp only [Act.put, List.setIfInBounds_toArray, List.set_cons_zero, List.set_cons_succ]
              refine Cu.takeH 27 (some 76) (.agg (tabv (strV (four Q4 R5 R6 P7)) 4)) rfl rfl (by kernel_rfl) (by kernel_rfl) (by kernel_rfl) (fun _ _ _ h => h) (by rfl) (fun w hw => run_buildW w _ _ rfl [(0, .string Q4), (1, .string R5), (2, .string R6), (3, .string P7)] (by first | rfl | (simp [Act.eval]; done)) _ (builtS4 _ _ _ _)) hHeld ?_
              simp only [Act.put, List.setIfInBounds_toArray, List.set_cons_zero, List.set_cons_succ]
              refine wpAnyH_ready (rs := [29]) (by kernel_rfl) (by simp) (AllReadyH.cons rfl (fun K hK => ?_) AllReadyH.nil)
              rw [if_pos (by rfl)]
              refine wp_store_partM 45 _ _ rfl rfl gH 0 (strV (four Q4 R5 R6 P7)) 4 rfl rfl 45 _ 4 qN (by omega) infoS4 (fun i _ => rfl) (strV (four Q4 R5 R6 P7)) (fun i hi => by unfold splice; rw [if_pos (by omega), Nat.sub_zero]) ?_
              have bF : Below w5.heap.size w5 (wccccacc.setRow gH (tabv (strV (four Q4 R5 R6 P7)) 4)) := below_setRow hHeld hgHs _
              refine hK.out _ _ bF (fun hH => ?_)
              clear hK hHeld hH
              refine wpAnyH_done (by kernel_rfl) ?_ _
              refine NoPanic.normal ?_
              have rHF : Has (wccccacc.setRow gH (tabv (strV (four Q4 R5 R6 P7)) 4)) gH 45 (strV FT) 4 := by rw [EF.out]; exact qN.row _ _ rfl
              go_wp2
              go_meet
              exact ⟨_, rfl, rHF, bF⟩
          · rw [if_pos (by rfl)]
            go_simp
            have qN : Has (World.alloc wccc (.cells #[.string { data := #[] }, .string { data := #[] }, .string { data := #[] }, .string { data := #[] }] 45)) (Array.size (World.heap wccc)) 45 (strV (fun _ => ⟨#[]⟩)) 4 := Has.new wccc 45 _ 4 _ rfl
            have bN : Below (Array.size (World.heap wccc)) wccc (World.alloc wccc (.cells #[.string { data := #[] }, .string { data := #[] }, .string { data := #[] }, .string { data := #[] }] 45)) := (Below.refl _ _).alloc (Nat.le_refl _) _
            have hgHs : w5.heap.size ≤ Array.size (World.heap wccc) := hHeld.size
            have sN := hHeld.trans (bN.mono hHeld.size)
            generalize hwe : World.alloc wccc (.cells #[.string { data := #[] }, .string { data := #[] }, .string { data := #[] }, .string { data := #[] }] 45) = wecca at qN bN sN ⊢
            refine hK.out _ _ sN (fun hH => ?_)
            clear sN bN hwe
            clear hK hHeld
            have hHeld := hH
            clear hH
            generalize hgHe : Array.size (World.heap wccc) = gH at qN hgHs ⊢
            try simp only [Act.put, List.setIfInBounds_toArray, List.set_cons_zero, List.set_cons_succ]
            refine wpAnyH_ready (rs := [16]) (by kernel_rfl) (by simp) (AllReadyH.cons rfl (fun K hK => ?_) AllReadyH.nil)
            rw [if_pos (by rfl)]
            go_simp
            refine (NA.out _).mono ?_
            rintro e wcccac ⟨rfl, hbq⟩
            try go_wp2_with fail
            have qN := qN.below hbq qN.lt
            refine hK.out _ _ (hHeld.trans (hbq.mono hHeld.size)) (fun hH => ?_)
            clear hbq
            clear hK hHeld
            have hHeld := hH
            clear hH
            refine Cu.takeH 17 (some 66) (.string P6) rfl rfl (by kernel_rfl) (by kernel_rfl) (by kernel_rfl) (fun _ _ _ h => h) (by rfl) (fun w hw => run_addS w _ _ ⟨#[6]⟩ XA P6 rfl (by rfl) (by rfl) (by show 1 + _ ≤ _; omega) EP6.out) hHeld ?_
            simp only [Act.put, List.setIfInBounds_toArray, List.set_cons_zero, List.set_cons_succ]
            refine wpAnyH_ready (rs := [19]) (by kernel_rfl) (by simp) (AllReadyH.cons rfl (fun K hK => ?_) AllReadyH.nil)
            rw [if_pos (by rfl)]
            go_simp
            refine (NB.out _).mono ?_
            rintro e wcccacc ⟨rfl, hbq⟩
            try go_wp2_with fail
            have qN := qN.below hbq qN.lt
            refine hK.out _ _ (hHeld.trans (hbq.mono hHeld.size)) (fun hH => ?_)
            clear hbq
            clear hK hHeld
            have hHeld := hH
            clear hH
            refine Cu.takeH 20 (some 69) (.string Q6) rfl rfl (by kernel_rfl) (by kernel_rfl) (by kernel_rfl) (fun _ _ _ h => h) (by rfl) (fun w hw => run_addS w _ _ P6 XB Q6 rfl (by rfl) (by rfl) (by omega) EQ6.out) hHeld ?_
            simp only [Act.put, List.setIfInBounds_toArray, List.set_cons_zero, List.set_cons_succ]
            refine Cu.takeH 23 (some 72) (.string R6) rfl rfl (by kernel_rfl) (by kernel_rfl) (by kernel_rfl) (fun _ _ _ h => h) (by rfl) (fun w hw => run_addS w _ _ Q6 XS R6 rfl (by rfl) (by rfl) (by omega) ER6.out) hHeld ?_
            simp only [Act.put, List.setIfInBounds_toArray, List.set_cons_zero, List.set_cons_succ]
            refine wpAnyH_ready (rs := [25]) (by kernel_rfl) (by simp) (AllReadyH.cons rfl (fun K hK => ?_) AllReadyH.nil)
            rw [if_pos (by rfl)]
            go_simp
            refine (NB.out _).mono ?_
            rintro e wcccaccc ⟨rfl, hbq⟩
            try go_wp2_with fail
            have qN := qN.below hbq qN.lt
            refine hK.out _ _ (hHeld.trans (hbq.mono hHeld.size)) (fun hH => ?_)
            clear hbq
            clear hK hHeld
            have hHeld := hH
            clear hH
            refine Cu.takeH 26 (some 75) (.string P7) rfl rfl (by kernel_rfl) (by kernel_rfl) (by kernel_rfl) (fun _ _ _ h => h) (by rfl) (fun w hw => run_addS w _ _ ⟨#[7]⟩ XB P7 rfl (by rfl) (by rfl) (by show 1 + _ ≤ _; omega) EP7.out) hHeld ?_
            simp only [Act.put, List.setIfInBounds_toArray, List.set_cons_zero, List.set_cons_succ]
            refine Cu.takeH 27 (some 76) (.agg (tabv (strV (four Q4 R5 R6 P7)) 4)) rfl rfl (by kernel_rfl) (by kernel_rfl) (by kernel_rfl) (fun _ _ _ h => h) (by rfl) (fun w hw => run_buildW w _ _ rfl [(0, .string Q4), (1, .string R5), (2, .string R6), (3, .string P7)] (by first | rfl | (simp [Act.eval]; done)) _ (builtS4 _ _ _ _)) hHeld ?_
            simp only [Act.put, List.setIfInBounds_toArray, List.set_cons_zero, List.set_cons_succ]
            refine wpAnyH_ready (rs := [29]) (by kernel_rfl) (by simp) (AllReadyH.cons rfl (fun K hK => ?_) AllReadyH.nil)
            rw [if_pos (by rfl)]
            refine wp_store_partM 45 _ _ rfl rfl gH 0 (strV (four Q4 R5 R6 P7)) 4 rfl rfl 45 _ 4 qN (by omega) infoS4 (fun i _ => rfl) (strV (four Q4 R5 R6 P7)) (fun i hi => by unfold splice; rw [if_pos (by omega), Nat.sub_zero]) ?_
            have bF : Below w5.heap.size w5 (wcccaccc.setRow gH (tabv (strV (four Q4 R5 R6 P7)) 4)) := below_setRow hHeld hgHs _
            refine hK.out _ _ bF (fun hH => ?_)
            clear hK hHeld hH
            refine wpAnyH_done (by kernel_rfl) ?_ _
            refine NoPanic.normal ?_
            have rHF : Has (wcccaccc.setRow gH (tabv (strV (four Q4 R5 R6 P7)) 4)) gH 45 (strV FT) 4 := by rw [EF.out]; exact qN.row _ _ rfl
            go_wp2
            go_meet
            exact ⟨_, rfl, rHF, bF⟩
        · rw [if_pos (by rfl)]
          go_simp
          have qN : Has (World.alloc wcc (.cells #[.string { data := #[] }, .string { data := #[] }, .string { data := #[] }, .string { data := #[] }] 45)) (Array.size (World.heap wcc)) 45 (strV (fun _ => ⟨#[]⟩)) 4 := Has.new wcc 45 _ 4 _ rfl
          have bN : Below (Array.size (World.heap wcc)) wcc (World.alloc wcc (.cells #[.string { data := #[] }, .string { data := #[] }, .string { data := #[] }, .string { data := #[] }] 45)) := (Below.refl _ _).alloc (Nat.le_refl _) _
          have hgHs : w5.heap.size ≤ Array.size (World.heap wcc) := hHeld.size
          have sN := hHeld.trans (bN.mono hHeld.size)
          generalize hwe : World.alloc wcc (.cells #[.string { data := #[] }, .string { data := #[] }, .string { data := #[] }, .string { data := #[] }] 45) = weca at qN bN sN ⊢
          refine hK.out _ _ sN (fun hH => ?_)
          clear sN bN hwe
          clear hK hHeld
          have hHeld := hH
          clear hH
          generalize hgHe : Array.size (World.heap wcc) = gH at qN hgHs ⊢
          try simp only [Act.put, List.setIfInBounds_toArray, List.set_cons_zero, List.set_cons_succ]
          refine wpAnyH_ready (rs := [7]) (by kernel_rfl) (by simp) (AllReadyH.cons rfl (fun K hK => ?_) AllReadyH.nil)
          rw [if_pos (by rfl)]
          go_simp
          refine (NA.out _).mono ?_
          rintro e wccac ⟨rfl, hbq⟩
          try go_wp2_with fail
          have qN := qN.below hbq qN.lt
          refine hK.out _ _ (hHeld.trans (hbq.mono hHeld.size)) (fun hH => ?_)
          clear hbq
          clear hK hHeld
          have hHeld := hH
          clear hH
          refine Cu.takeH 8 (some 57) (.string P5) rfl rfl (by kernel_rfl) (by kernel_rfl) (by kernel_rfl) (fun _ _ _ h => h) (by rfl) (fun w hw => run_addS w _ _ ⟨#[5]⟩ XA P5 rfl (by rfl) (by rfl) (by show 1 + _ ≤ _; omega) EP5.out) hHeld ?_
          simp only [Act.put, List.setIfInBounds_toArray, List.set_cons_zero, List.set_cons_succ]
          refine Cu.takeH 11 (some 60) (.string Q5) rfl rfl (by kernel_rfl) (by kernel_rfl) (by kernel_rfl) (fun _ _ _ h => h) (by rfl) (fun w hw => run_addS w _ _ P5 XS Q5 rfl (by rfl) (by rfl) (by omega) EQ5.out) hHeld ?_
          simp only [Act.put, List.setIfInBounds_toArray, List.set_cons_zero, List.set_cons_succ]
          refine Cu.takeH 14 (some 63) (.string R5) rfl rfl (by kernel_rfl) (by kernel_rfl) (by kernel_rfl) (fun _ _ _ h => h) (by rfl) (fun w hw => run_addS w _ _ Q5 XH R5 rfl (by rfl) (by rfl) (by omega) ER5.out) hHeld ?_
          simp only [Act.put, List.setIfInBounds_toArray, List.set_cons_zero, List.set_cons_succ]
          refine wpAnyH_ready (rs := [16]) (by kernel_rfl) (by simp) (AllReadyH.cons rfl (fun K hK => ?_) AllReadyH.nil)
          rw [if_pos (by rfl)]
          go_simp
          refine (NA.out _).mono ?_
          rintro e wccacc ⟨rfl, hbq⟩
          try go_wp2_with fail
          have qN := qN.below hbq qN.lt
          refine hK.out _ _ (hHeld.trans (hbq.mono hHeld.size)) (fun hH => ?_)
          clear hbq
          clear hK hHeld
          have hHeld := hH
          clear hH
          refine Cu.takeH 17 (some 66) (.string P6) rfl rfl (by kernel_rfl) (by kernel_rfl) (by kernel_rfl) (fun _ _ _ h => h) (by rfl) (fun w hw => run_addS w _ _ ⟨#[6]⟩ XA P6 rfl (by rfl) (by rfl) (by show 1 + _ ≤ _; omega) EP6.out) hHeld ?_
          simp only [Act.put, List.setIfInBounds_toArray, List.set_cons_zero, List.set_cons_succ]
          refine wpAnyH_ready (rs := [19]) (by kernel_rfl) (by simp) (AllReadyH.cons rfl (fun K hK => ?_) AllReadyH.nil)
          rw [if_pos (by rfl)]
          go_simp
          refine (NB.out _).mono ?_
          rintro e wccaccc ⟨rfl, hbq⟩
          try go_wp2_with fail
          have qN := qN.below hbq qN.lt
          refine hK.out _ _ (hHeld.trans (hbq.mono hHeld.size)) (fun hH => ?_)
          clear hbq
          clear hK hHeld
          have hHeld := hH
          clear hH
          refine Cu.takeH 20 (some 69) (.string Q6) rfl rfl (by kernel_rfl) (by kernel_rfl) (by kernel_rfl) (fun _ _ _ h => h) (by rfl) (fun w hw => run_addS w _ _ P6 XB Q6 rfl (by rfl) (by rfl) (by omega) EQ6.out) hHeld ?_
          simp only [Act.put, List.setIfInBounds_toArray, List.set_cons_zero, List.set_cons_succ]
          refine Cu.takeH 23 (some 72) (.string R6) rfl rfl (by kernel_rfl) (by kernel_rfl) (by kernel_rfl) (fun _ _ _ h => h) (by rfl) (fun w hw => run_addS w _ _ Q6 XS R6 rfl (by rfl) (by rfl) (by omega) ER6.out) hHeld ?_
          simp only [Act.put, List.setIfInBounds_toArray, List.set_cons_zero, List.set_cons_succ]
          refine wpAnyH_ready (rs := [25]) (by kernel_rfl) (by simp) (AllReadyH.cons rfl (fun K hK => ?_) AllReadyH.nil)
          rw [if_pos (by rfl)]
          go_simp
          refine (NB.out _).mono ?_
          rintro e wccacccc ⟨rfl, hbq⟩
          try go_wp2_with fail
          have qN := qN.below hbq qN.lt
          refine hK.out _ _ (hHeld.trans (hbq.mono hHeld.size)) (fun hH => ?_)
          clear hbq
          clear hK hHeld
          have hHeld := hH
          clear hH
          refine Cu.takeH 26 (some 75) (.string P7) rfl rfl (by kernel_rfl) (by kernel_rfl) (by kernel_rfl) (fun _ _ _ h => h) (by rfl) (fun w hw => run_addS w _ _ ⟨#[7]⟩ XB P7 rfl (by rfl) (by rfl) (by show 1 + _ ≤ _; omega) EP7.out) hHeld ?_
          simp only [Act.put, List.setIfInBounds_toArray, List.set_cons_zero, List.set_cons_succ]
          refine Cu.takeH 27 (some 76) (.agg (tabv (strV (four Q4 R5 R6 P7)) 4)) rfl rfl (by kernel_rfl) (by kernel_rfl) (by kernel_rfl) (fun _ _ _ h => h) (by rfl) (fun w hw => run_buildW w _ _ rfl [(0, .string Q4), (1, .string R5), (2, .string R6), (3, .string P7)] (by first | rfl | (simp [Act.eval]; done)) _ (builtS4 _ _ _ _)) hHeld ?_
          simp only [Act.put, List.setIfInBounds_toArray, List.set_cons_zero, List.set_cons_succ]
          refine wpAnyH_ready (rs := [29]) (by kernel_rfl) (by simp) (AllReadyH.cons rfl (fun K hK => ?_) AllReadyH.nil)
          rw [if_pos (by rfl)]
          refine wp_store_partM 45 _ _ rfl rfl gH 0 (strV (four Q4 R5 R6 P7)) 4 rfl rfl 45 _ 4 qN (by omega) infoS4 (fun i _ => rfl) (strV (four Q4 R5 R6 P7)) (fun i hi => by unfold splice; rw [if_pos (by omega), Nat.sub_zero]) ?_
          have bF : Below w5.heap.size w5 (wccacccc.setRow gH (tabv (strV (four Q4 R5 R6 P7)) 4)) := below_setRow hHeld hgHs _
          refine hK.out _ _ bF (fun hH => ?_)
          clear hK hHeld hH
          refine wpAnyH_done (by kernel_rfl) ?_ _
          refine NoPanic.normal ?_
          have rHF : Has (wccacccc.setRow gH (tabv (strV (four Q4 R5 R6 P7)) 4)) gH 45 (strV FT) 4 := by rw [EF.out]; exact qN.row _ _ rfl
          go_wp2
          go_meet
          exact ⟨_, rfl, rHF, bF⟩
      · rw [if_pos (by rfl)]
        go_simp
        have qN : Has (World.alloc wd (.cells #[.string { data := #[] }, .string { data := #[] }, .string { data := #[] }, .string { data := #[] }] 45)) (Array.size (World.heap wd)) 45 (strV (fun _ => ⟨#[]⟩)) 4 := Has.new wd 45 _ 4 _ rfl
        have bN : Below (Array.size (World.heap wd)) wd (World.alloc wd (.cells #[.string { data := #[] }, .string { data := #[] }, .string { data := #[] }, .string { data := #[] }] 45)) := (Below.refl _ _).alloc (Nat.le_refl _) _
        have hgHs : w5.heap.size ≤ Array.size (World.heap wd) := hHeld.size
        have sN := hHeld.trans (bN.mono hHeld.size)
        generalize hwe : World.alloc wd (.cells #[.string { data := #[] }, .string { data := #[] }, .string { data := #[] }, .string { data := #[] }] 45) = wea at qN bN sN ⊢
        refine hK.out _ _ sN (fun hH => ?_)
        clear sN bN hwe
        clear hK hHeld
        have hHeld := hH
        clear hH
        generalize hgHe : Array.size (World.heap wd) = gH at qN hgHs ⊢
        try simp only [Act.put, List.setIfInBounds_toArray, List.set_cons_zero, List.set_cons_succ]
        refine wpAnyH_ready (rs := [1]) (by kernel_rfl) (by simp) (AllReadyH.cons rfl (fun K hK => ?_) AllReadyH.nil)
        rw [if_pos (by rfl)]
        go_simp
        refine (NA.out _).mono ?_
        rintro e wcac ⟨rfl, hbq⟩
        try go_wp2_with fail
        have qN := qN.below hbq qN.lt
        refine hK.out _ _ (hHeld.trans (hbq.mono hHeld.size)) (fun hH => ?_)
        clear hbq
        clear hK hHeld
        have hHeld := hH
        clear hH
        refine Cu.takeH 2 (some 51) (.string P4) rfl rfl (by kernel_rfl) (by kernel_rfl) (by kernel_rfl) (fun _ _ _ h => h) (by rfl) (fun w hw => run_addS w _ _ ⟨#[4]⟩ XA P4 rfl (by rfl) (by rfl) (by show 1 + _ ≤ _; omega) EP4.out) hHeld ?_
        simp only [Act.put, List.setIfInBounds_toArray, List.set_cons_zero, List.set_cons_succ]
        refine Cu.takeH 5 (some 54) (.string Q4) rfl rfl (by kernel_rfl) (by kernel_rfl) (by kernel_rfl) (fun _ _ _ h => h) (by rfl) (fun w hw => run_addS w _ _ P4 XH Q4 rfl (by rfl) (by rfl) (by omega) EQ4.out) hHeld ?_
        simp only [Act.put, List.setIfInBounds_toArray, List.set_cons_zero, List.set_cons_succ]
        refine wpAnyH_ready (rs := [7]) (by kernel_rfl) (by simp) (AllReadyH.cons rfl (fun K hK => ?_) AllReadyH.nil)
        rw [if_pos (by rfl)]
        go_simp
        refine (NA.out _).mono ?_
        rintro e wcacc ⟨rfl, hbq⟩
        try go_wp2_with fail
        have qN := qN.below hbq qN.lt
        refine hK.out _ _ (hHeld.trans (hbq.mono hHeld.size)) (fun hH => ?_)
        clear hbq
        clear hK hHeld
        have hHeld := hH
        clear hH
        refine Cu.takeH 8 (some 57) (.string P5) rfl rfl (by kernel_rfl) (by kernel_rfl) (by kernel_rfl) (fun _ _ _ h => h) (by rfl) (fun w hw => run_addS w _ _ ⟨#[5]⟩ XA P5 rfl (by rfl) (by rfl) (by show 1 + _ ≤ _; omega) EP5.out) hHeld ?_
        simp only [Act.put, List.setIfInBounds_toArray, List.set_cons_zero, List.set_cons_succ]
        refine Cu.takeH 11 (some 60) (.string Q5) rfl rfl (by kernel_rfl) (by kernel_rfl) (by kernel_rfl) (fun _ _ _ h => h) (by rfl) (fun w hw => run_addS w _ _ P5 XS Q5 rfl (by rfl) (by rfl) (by omega) EQ5.out) hHeld ?_
        simp only [Act.put, List.setIfInBounds_toArray, List.set_cons_zero, List.set_cons_succ]
        refine Cu.takeH 14 (some 63) (.string R5) rfl rfl (by kernel_rfl) (by kernel_rfl) (by kernel_rfl) (fun _ _ _ h => h) (by rfl) (fun w hw => run_addS w _ _ Q5 XH R5 rfl (by rfl) (by rfl) (by omega) ER5.out) hHeld ?_
        simp only [Act.put, List.setIfInBounds_toArray, List.set_cons_zero, List.set_cons_succ]
        refine wpAnyH_ready (rs := [16]) (by kernel_rfl) (by simp) (AllReadyH.cons rfl (fun K hK => ?_) AllReadyH.nil)
        rw [if_pos (by rfl)]
        go_simp
        refine (NA.out _).mono ?_
        rintro e wcaccc ⟨rfl, hbq⟩
        try go_wp2_with fail
        have qN := qN.below hbq qN.lt
        refine hK.out _ _ (hHeld.trans (hbq.mono hHeld.size)) (fun hH => ?_)
        clear hbq
        clear hK hHeld
        have hHeld := hH
        clear hH
        refine Cu.takeH 17 (some 66) (.string P6) rfl rfl (by kernel_rfl) (by kernel_rfl) (by kernel_rfl) (fun _ _ _ h => h) (by rfl) (fun w hw => run_addS w _ _ ⟨#[6]⟩ XA P6 rfl (by rfl) (by rfl) (by show 1 + _ ≤ _; omega) EP6.out) hHeld ?_
        simp only [Act.put, List.setIfInBounds_toArray, List.set_cons_zero, List.set_cons_succ]
        refine wpAnyH_ready (rs := [19]) (by kernel_rfl) (by simp) (AllReadyH.cons rfl (fun K hK => ?_) AllReadyH.nil)
        rw [if_pos (by rfl)]
        go_simp
        refine (NB.out _).mono ?_
        rintro e wcacccc ⟨rfl, hbq⟩
        try go_wp2_with fail
        have qN := qN.below hbq qN.lt
        refine hK.out _ _ (hHeld.trans (hbq.mono hHeld.size)) (fun hH => ?_)
        clear hbq
        clear hK hHeld
        have hHeld := hH
        clear hH
        refine Cu.takeH 20 (some 69) (.string Q6) rfl rfl (by kernel_rfl) (by kernel_rfl) (by kernel_rfl) (fun _ _ _ h => h) (by rfl) (fun w hw => run_addS w _ _ P6 XB Q6 rfl (by rfl) (by rfl) (by omega) EQ6.out) hHeld ?_
        simp only [Act.put, List.setIfInBounds_toArray, List.set_cons_zero, List.set_cons_succ]
        refine Cu.takeH 23 (some 72) (.string R6) rfl rfl (by kernel_rfl) (by kernel_rfl) (by kernel_rfl) (fun _ _ _ h => h) (by rfl) (fun w hw => run_addS w _ _ Q6 XS R6 rfl (by rfl) (by rfl) (by omega) ER6.out) hHeld ?_
        simp only [Act.put, List.setIfInBounds_toArray, List.set_cons_zero, List.set_cons_succ]
        refine wpAnyH_ready (rs := [25]) (by kernel_rfl) (by simp) (AllReadyH.cons rfl (fun K hK => ?_) AllReadyH.nil)
        rw [if_pos (by rfl)]
        go_simp
        refine (NB.out _).mono ?_
        rintro e wcaccccc ⟨rfl, hbq⟩
        try go_wp2_with fail
        have qN := qN.below hbq qN.lt
        refine hK.out _ _ (hHeld.trans (hbq.mono hHeld.size)) (fun hH => ?_)
        clear hbq
        clear hK hHeld
        have hHeld := hH
        clear hH
        refine Cu.takeH 26 (some 75) (.string P7) rfl rfl (by kernel_rfl) (by kernel_rfl) (by kernel_rfl) (fun _ _ _ h => h) (by rfl) (fun w hw => run_addS w _ _ ⟨#[7]⟩ XB P7 rfl (by rfl) (by rfl) (by show 1 + _ ≤ _; omega) EP7.out) hHeld ?_
        simp only [Act.put, List.setIfInBounds_toArray, List.set_cons_zero, List.set_cons_succ]
        refine Cu.takeH 27 (some 76) (.agg (tabv (strV (four Q4 R5 R6 P7)) 4)) rfl rfl (by kernel_rfl) (by kernel_rfl) (by kernel_rfl) (fun _ _ _ h => h) (by rfl) (fun w hw => run_buildW w _ _ rfl [(0, .string Q4), (1, .string R5), (2, .string R6), (3, .string P7)] (by first | rfl | (simp [Act.eval]; done)) _ (builtS4 _ _ _ _)) hHeld ?_
        simp only [Act.put, List.setIfInBounds_toArray, List.set_cons_zero, List.set_cons_succ]
        refine wpAnyH_ready (rs := [29]) (by kernel_rfl) (by simp) (AllReadyH.cons rfl (fun K hK => ?_) AllReadyH.nil)
        rw [if_pos (by rfl)]
        refine wp_store_partM 45 _ _ rfl rfl gH 0 (strV (four Q4 R5 R6 P7)) 4 rfl rfl 45 _ 4 qN (by omega) infoS4 (fun i _ => rfl) (strV (four Q4 R5 R6 P7)) (fun i hi => by unfold splice; rw [if_pos (by omega), Nat.sub_zero]) ?_
        have bF : Below w5.heap.size w5 (wcaccccc.setRow gH (tabv (strV (four Q4 R5 R6 P7)) 4)) := below_setRow hHeld hgHs _
        refine hK.out _ _ bF (fun hH => ?_)
        clear hK hHeld hH
        refine wpAnyH_done (by kernel_rfl) ?_ _
        refine NoPanic.normal ?_
        have rHF : Has (wcaccccc.setRow gH (tabv (strV (four Q4 R5 R6 P7)) 4)) gH 45 (strV FT) 4 := by rw [EF.out]; exact qN.row _ _ rfl
        go_wp2
        go_meet
        exact ⟨_, rfl, rHF, bF⟩
  case rest =>
  obtain ⟨g14, rfl, hT6, hb6⟩ := hcut
  have K6 := hide (K5.out.below hb6)
  have T6 := hide hT6
  clear hb6 hT6 K5 NA EP4 EQ4 EP5 EQ5 ER5 EP6 EQ6 ER6 EP7 za zb zh zs zP4 zQ4 zP5 zQ5 zR5 zP6 zQ6 zR6 zP7 EF HSH HSS
  have ha := (idxB_iff a).1 OA.out
  have ha0 := ha.1
  have ha1 := ha.2
  clear ha
  go_upto_if 80 with fail
  go_cut [15] from 29 (fun s15 wx => (∃ O : Int, s15 = .int .i64 O ∧ idxB O = false ∧ -9223372036854775808 ≤ O ∧ O ≤ 9223372036854775807) ∧ wx = wc)
  case first =>
    by_cases hq : one = a
    · have hd : (one == a) = true := beq_iff_eq.2 hq
      rw [hd]
      go_wp2_with fail
      go_meet
      exact ⟨⟨-1 - a, rfl, neg_out a OA.out, by omega, by omega⟩, rfl⟩
    · have hd : (one == a) = false := beq_false_of_ne hq
      rw [hd]
      go_wp2_with fail
      go_meet
      exact ⟨⟨one, rfl, OO.out hq, H1.out.1, H1.out.2⟩, rfl⟩
  case rest =>
  obtain ⟨⟨O, rfl, hO1, hO2, hO3⟩, hwx⟩ := hcut
  obtain rfl := hwx.symm
  have HO := hide hO1
  have HR : Hid (-9223372036854775808 ≤ O ∧ O ≤ 9223372036854775807) := ⟨hO2, hO3⟩
  clear hwx hO1 hO2 hO3 H1 OO
  have WF : Hid (∀ (i : Nat) (w : World), Calls Try.prog 8 #[.agg (tabv (fM a b h s i).v 70)] w fun e w' => e = .returned (.tuple #[.string (FT i), .int .i64 0]) ∧ Below w.heap.size w w') := fun i w => by
    have hv := fM_valid a b h s OA.out OB.out i
    have hh := mwrite_any (fM a b h s i) w
    rw [show wrS (fM a b h s i) = FT i by unfold wrS; rw [if_pos hv, ET.out], show wrE (fM a b h s i) = 0 by unfold wrE; rw [if_pos hv]] at hh
    exact hh
  have RF : Hid (∀ (i : Nat), ∃ x, eqM x (fM a b h s i) = true ∧ ∀ w : World, Calls Try.prog 9 #[.string (FT i)] w fun e w' => e = .returned (.tuple #[.agg (tabv x.v 70), .int .i64 0]) ∧ Below w.heap.size w w') := fun i => by
    have hv := fM_valid a b h s OA.out OB.out i
    obtain ⟨x, h1, h2⟩ := rdM_back hv
    refine ⟨x, h2, fun w => ?_⟩
    have hl := bytesM_len hv
    have hh := mread_any (FT i) w (by rw [ET.out, Cu.ofL_size]; omega)
    rw [rdC_of, ET.out, Cu.ofL_data, h1, ← ET.out] at hh
    exact hh
  obtain ⟨X, hX⟩ : ∃ X, (⟨#[120]⟩ : ByteArray) ++ note = X := ⟨_, rfl⟩
  have hX0 : X ≠ nilB := fun e => by
    have := congrArg ByteArray.size (hX.trans e)
    rw [ByteArray.size_append] at this
    have e2 : (⟨#[120]⟩ : ByteArray).size = 1 := rfl
    have e3 : nilB.size = 0 := rfl
    omega
  have aX : Hid (∀ w : World, (Op.stringOp .add ⟨#[120]⟩ note).run Try.prog w = .ok (.string X) w) := fun w => by
    have := run_string_add_sum (P := Try.prog) w ⟨#[120]⟩ note (by have := HZ.out; show 1 + _ ≤ _; omega)
    rw [hX] at this
    exact this
  have WB : Hid (∀ (i k : Nat) (w : World), Calls Try.prog 8 #[.agg (tabv (five (fM a b h s i) X O k).v 70)] w fun e w' => e = .returned (.tuple #[.string ⟨#[]⟩, .int .i64 160]) ∧ Below w.heap.size w w') := fun i k w => by
    have hv := five_bad (fM a b h s i) X O (fM_kind a b h s i).1 hX0 HO.out k
    have hh := mwrite_any (five (fM a b h s i) X O k) w
    rw [show wrS (five (fM a b h s i) X O k) = ⟨#[]⟩ by unfold wrS; rw [hv]; rfl, show wrE (five (fM a b h s i) X O k) = 160 by unfold wrE; rw [hv]; rfl] at hh
    exact hh
  have HXX := hide hX
  clear hX hX0 ET OA OB ha0 ha1
  generalize fM a b h s = F at K6 WF RF WB
  go_wp2
  go_loopw [16] (fun ix wr => ∃ i : Nat, i ≤ 4 ∧ ix = .int .i64 (i : Int) ∧ Hid (FV w g7 g8 g13 h s F wr) ∧ Hid (Has wr g14 45 (strV FT) 4)) (fun ix _ => 4 - (intOf ix).toNat)
  case atStart => exact ⟨0, by omega, rfl, K6.out, T6.out⟩
  case round =>
    obtain ⟨i, hi, rfl, KW, TW⟩ := hrel
    clear K6 T6
    by_cases hlt : i < 4
    · have hd : decide ((i : Int) < 4) = true := decide_eq_true (by omega)
      have hk0 : (0 : Int) ≤ (i : Int) := by omega
      have hk1 : (i : Int) < 4 := by omega
      have HI : Hid (i < 4) := hlt
      have WM := hide (WF.out i)
      obtain ⟨x, hx1, hx2⟩ := RF.out i
      have HXE := hide hx1
      have RX := hide hx2
      have AL : Hid (At wr g13 (i * 70) (F i).v 70) := row_atM (n := 4) KW.out.rl i hlt
      have cT : wr.cell? ⟨g14, i, none⟩ = some (.string (FT i)) := TW.out.cell i hlt
      have WBk := hide (WB.out i)
      obtain ⟨m, hm⟩ : ∃ m, F i = m := ⟨_, rfl⟩
      obtain ⟨t, ht⟩ : ∃ t, FT i = t := ⟨_, rfl⟩
      rw [hm] at WM HXE AL WBk
      rw [ht] at WM RX cT
      clear hx1 hx2 hlt hi
      have HM := hide hm
      have HT := hide ht
      clear hm ht
      as_aux_lemma =>
        go_wp2_with (first | refine wpW_load_at 25 _ rfl (g13) (i * 70) (by rfl) (by rfl) _ 70 _ (AL.out) Try.underlying25 rfl infoM ?_ | fail)
        refine (WM.out _).mono ?_
        rintro e wa ⟨rfl, hb⟩
        have KA := hide (KW.out.below hb)
        have TA := hide (TW.out.below hb TW.out.lt)
        have AA : Hid (At wa g13 (i * 70) m.v 70) := by rw [← HM.out]; exact row_atM (n := 4) KA.out.rl i HI.out
        have cA : wa.cell? ⟨g14, i, none⟩ = some (.string t) := by rw [← HT.out]; exact TA.out.cell i HI.out
        clear hb KW TW AL cT WM
        go_wp2_with fail
        refine (RX.out _).mono ?_
        rintro e wb ⟨rfl, hb⟩
        obtain ⟨wn, wd, hWn, rn, hWd, rd, bd, _⟩ := newM wb x
        have RN := hide rn
        have RD := hide rd
        have bb : Below wa.heap.size wa wd := hb.trans (bd.mono hb.size)
        have KD := hide (KA.out.below bb)
        have TD := hide (TA.out.below bb TA.out.lt)
        clear rn rd bd hb bb KA TA AA cA RX
        go_upto_region 15 with (first | refine wpList_storeM rfl _ _ rfl rfl (wb.heap.size) (x) rfl rfl _ RN.out ?_ | fail)
        try rw [hWd]
        generalize wb.heap.size = g19 at RD ⊢
        clear hWn hWd RN
        have AD : Hid (At wd g13 (i * 70) m.v 70) := by rw [← HM.out]; exact row_atM (n := 4) KD.out.rl i HI.out
        have cD : wd.cell? ⟨g14, i, none⟩ = some (.string t) := by rw [← HT.out]; exact TD.out.cell i HI.out
        have LD : Hid (g13 < wd.heap.size) := KD.out.rl.lt
        have htt : (t.toList == t.toList) = true := beq_self_eq_true _
        have htt2 : (t.toList != t.toList) = false := by simp
        go_wp2
        refine wp_region_noPanic ?_
        refine wp_region_held_drew (S := fun wx => Below wd.heap.size wd wx) (by kernel_rfl) ((Below.refl _ _).drew) (fun hHeld => ?_)
        refine Cu.takeH 0 (some 101) (.string t) rfl rfl (by kernel_rfl) (by kernel_rfl) (by kernel_rfl) (fun _ _ _ h => h) (by rfl) (fun w hw => by first | rfl | (go_simp; done) | (go_simp; rfl) | (go_simp; omega)) hHeld ?_
        simp only [Act.put, List.setIfInBounds_toArray, List.set_cons_zero, List.set_cons_succ]
        refine Cu.takeH 1 (some 102) (.int .i64 (i : Int)) rfl rfl (by kernel_rfl) (by kernel_rfl) (by kernel_rfl) (fun _ _ _ h => h) (by rfl) (fun w hw => by first | rfl | (go_simp; done) | (go_simp; rfl) | (go_simp; omega)) hHeld ?_
        simp only [Act.put, List.setIfInBounds_toArray, List.set_cons_zero, List.set_cons_succ]
        refine Cu.takeH 2 (some 103) (.pointer (some ⟨g14, i, none⟩)) rfl rfl (by kernel_rfl) (by kernel_rfl) (by kernel_rfl) (fun _ _ _ h => h) (by rfl) (fun w hw => by have p0 := hk0; have p1 := hk1; first | rfl | (go_simp; done) | (go_simp; rfl) | (go_simp; omega)) hHeld ?_
        simp only [Act.put, List.setIfInBounds_toArray, List.set_cons_zero, List.set_cons_succ]
        refine Cu.takeH 3 (some 104) (.string t) rfl rfl (by kernel_rfl) (by kernel_rfl) (by kernel_rfl) (fun _ _ _ h => h) (by rfl) (fun w hw => by have c : w.cell? ⟨g14, i, none⟩ = some (.string t) := (hw.cell (World.block_lt_of_cell? _ _ cD)).trans cD; first | (go_simp; done) | (go_simp; rfl)) hHeld ?_
        simp only [Act.put, List.setIfInBounds_toArray, List.set_cons_zero, List.set_cons_succ]
        refine Cu.takeH 4 (some 105) (.bool false) rfl rfl (by kernel_rfl) (by kernel_rfl) (by kernel_rfl) (fun _ _ _ h => h) (by rfl) (fun w hw => by first | rfl | (go_simp; done) | (go_simp; rfl) | (go_simp; omega)) hHeld ?_
        simp only [Act.put, List.setIfInBounds_toArray, List.set_cons_zero, List.set_cons_succ]
        refine Cu.takeH 5 (some 106) (.bool false) rfl rfl (by kernel_rfl) (by kernel_rfl) (by kernel_rfl) (fun _ _ _ h => h) (by rfl) (fun w hw => by first | rfl | (go_simp; done) | (go_simp; rfl) | (go_simp; omega)) hHeld ?_
        simp only [Act.put, List.setIfInBounds_toArray, List.set_cons_zero, List.set_cons_succ]
        refine Cu.takeH 6 (some 107) (.int .i64 0) rfl rfl (by kernel_rfl) (by kernel_rfl) (by kernel_rfl) (fun _ _ _ h => h) (by rfl) (fun w hw => by first | rfl | (go_simp; done) | (go_simp; rfl) | (go_simp; omega)) hHeld ?_
        simp only [Act.put, List.setIfInBounds_toArray, List.set_cons_zero, List.set_cons_succ]
        refine Cu.takeH 7 (some 108) (.bool false) rfl rfl (by kernel_rfl) (by kernel_rfl) (by kernel_rfl) (fun _ _ _ h => h) (by rfl) (fun w hw => by first | rfl | (go_simp; done) | (go_simp; rfl) | (go_simp; omega)) hHeld ?_
        simp only [Act.put, List.setIfInBounds_toArray, List.set_cons_zero, List.set_cons_succ]
        refine Cu.takeH 8 (some 109) (.bool false) rfl rfl (by kernel_rfl) (by kernel_rfl) (by kernel_rfl) (fun _ _ _ h => h) (by rfl) (fun w hw => by first | rfl | (go_simp; done) | (go_simp; rfl) | (go_simp; omega)) hHeld ?_
        simp only [Act.put, List.setIfInBounds_toArray, List.set_cons_zero, List.set_cons_succ]
        refine Cu.takeH 9 (some 110) (.bool false) rfl rfl (by kernel_rfl) (by kernel_rfl) (by kernel_rfl) (fun _ _ _ h => h) (by rfl) (fun w hw => by first | rfl | (go_simp; done) | (go_simp; rfl) | (go_simp; omega)) hHeld ?_
        simp only [Act.put, List.setIfInBounds_toArray, List.set_cons_zero, List.set_cons_succ]
        refine Cu.takeH 10 (some 111) (.agg (tabv x.v 70)) rfl rfl (by kernel_rfl) (by kernel_rfl) (by kernel_rfl) (fun _ _ _ h => h) (by rfl) (fun w hw => run_load_at w 25 _ rfl g19 0 (by rfl) _ 70 _ (at0 (RD.out.below hw RD.out.lt)) Try.underlying25 rfl infoM) hHeld ?_
        simp only [Act.put, List.setIfInBounds_toArray, List.set_cons_zero, List.set_cons_succ]
        refine Cu.takeH 11 (some 112) (.int .i64 (i : Int)) rfl rfl (by kernel_rfl) (by kernel_rfl) (by kernel_rfl) (fun _ _ _ h => h) (by rfl) (fun w hw => by first | rfl | (go_simp; done) | (go_simp; rfl) | (go_simp; omega)) hHeld ?_
        simp only [Act.put, List.setIfInBounds_toArray, List.set_cons_zero, List.set_cons_succ]
        refine Cu.takeH 12 (some 113) (.pointer (some ⟨g13, i * 70, none⟩)) rfl rfl (by kernel_rfl) (by kernel_rfl) (by kernel_rfl) (fun _ _ _ h => h) (by rfl) (fun w hw => by have p0 := hk0; have p1 := hk1; first | rfl | (go_simp; done) | (go_simp; rfl) | (go_simp; omega)) hHeld ?_
        simp only [Act.put, List.setIfInBounds_toArray, List.set_cons_zero, List.set_cons_succ]
        refine Cu.takeH 13 (some 114) (.agg (tabv m.v 70)) rfl rfl (by kernel_rfl) (by kernel_rfl) (by kernel_rfl) (fun _ _ _ h => h) (by rfl) (fun w hw => run_load_at w 25 _ rfl g13 (i * 70) (by rfl) _ 70 _ (AD.out.below hw LD.out) Try.underlying25 rfl infoM) hHeld ?_
        simp only [Act.put, List.setIfInBounds_toArray, List.set_cons_zero, List.set_cons_succ]
        refine Cu.takeH 14 (some 115) (.bool false) rfl rfl (by kernel_rfl) (by kernel_rfl) (by kernel_rfl) (fun _ _ _ h => h) (by rfl) (fun w hw => run_neM w _ _ x m true rfl (by rfl) (by rfl) HXE.out) hHeld ?_
        simp only [Act.put, List.setIfInBounds_toArray, List.set_cons_zero, List.set_cons_succ]
        refine Cu.takeH 15 (some 116) (.bool false) rfl rfl (by kernel_rfl) (by kernel_rfl) (by kernel_rfl) (fun _ _ _ h => h) (by rfl) (fun w hw => by first | rfl | (go_simp; done) | (go_simp; rfl) | (go_simp; omega)) hHeld ?_
        simp only [Act.put, List.setIfInBounds_toArray, List.set_cons_zero, List.set_cons_succ]
        refine Cu.takeH 16 (some 117) (.bool false) rfl rfl (by kernel_rfl) (by kernel_rfl) (by kernel_rfl) (fun _ _ _ h => h) (by rfl) (fun w hw => by first | rfl | (go_simp; done) | (go_simp; rfl) | (go_simp; omega)) hHeld ?_
        simp only [Act.put, List.setIfInBounds_toArray, List.set_cons_zero, List.set_cons_succ]
        refine Cu.takeH 17 (some 118) (.int .i64 0) rfl rfl (by kernel_rfl) (by kernel_rfl) (by kernel_rfl) (fun _ _ _ h => h) (by rfl) (fun w hw => by first | rfl | (go_simp; done) | (go_simp; rfl) | (go_simp; omega)) hHeld ?_
        simp only [Act.put, List.setIfInBounds_toArray, List.set_cons_zero, List.set_cons_succ]
        refine Cu.takeH 18 (some 119) (.bool false) rfl rfl (by kernel_rfl) (by kernel_rfl) (by kernel_rfl) (fun _ _ _ h => h) (by rfl) (fun w hw => by first | rfl | (go_simp; done) | (go_simp; rfl) | (go_simp; omega)) hHeld ?_
        simp only [Act.put, List.setIfInBounds_toArray, List.set_cons_zero, List.set_cons_succ]
        refine Cu.takeH 19 (some 120) (.bool false) rfl rfl (by kernel_rfl) (by kernel_rfl) (by kernel_rfl) (fun _ _ _ h => h) (by rfl) (fun w hw => by first | rfl | (go_simp; done) | (go_simp; rfl) | (go_simp; omega)) hHeld ?_
        simp only [Act.put, List.setIfInBounds_toArray, List.set_cons_zero, List.set_cons_succ]
        refine ⟨by kernel_rfl, ?_⟩
        refine NoPanic.normal ?_
        obtain ⟨we, hwe⟩ : ∃ z, World.drew wd = z := ⟨_, rfl⟩
        have bE : Below wd.heap.size wd we := by rw [← hwe]; exact (Below.refl _ _).drew
        have KE := hide (KD.out.below bE)
        have TE := hide (TD.out.below bE TD.out.lt)
        clear hHeld
        try rw [hwe]
        clear hwe bE KD TD AD cD LD RD HXE
        have AE : Hid (At we g13 (i * 70) m.v 70) := by rw [← HM.out]; exact row_atM (n := 4) KE.out.rl i HI.out
        have LE : Hid (g13 < we.heap.size) := KE.out.rl.lt
        go_wp2
        refine wp_region_noPanic ?_
        refine wp_region_held_drew (S := fun wx => Below we.heap.size we wx) (by kernel_rfl) ((Below.refl _ _).drew) (fun hHeld => ?_)
        generalize hwd : World.drew we = wf at hHeld ⊢
        refine Cu.takeH 0 (some 121) (.int .i64 (i : Int)) rfl rfl (by kernel_rfl) (by kernel_rfl) (by kernel_rfl) (fun _ _ _ h => h) (by rfl) (fun w hw => by first | rfl | (go_simp; done) | (go_simp; rfl) | (go_simp; omega)) hHeld ?_
        simp only [Act.put, List.setIfInBounds_toArray, List.set_cons_zero, List.set_cons_succ]
        refine Cu.takeH 1 (some 122) (.pointer (some ⟨g13, i * 70, none⟩)) rfl rfl (by kernel_rfl) (by kernel_rfl) (by kernel_rfl) (fun _ _ _ h => h) (by rfl) (fun w hw => by have p0 := hk0; have p1 := hk1; first | rfl | (go_simp; done) | (go_simp; rfl) | (go_simp; omega)) hHeld ?_
        simp only [Act.put, List.setIfInBounds_toArray, List.set_cons_zero, List.set_cons_succ]
        refine Cu.takeH 2 (some 123) (.agg (tabv m.v 70)) rfl rfl (by kernel_rfl) (by kernel_rfl) (by kernel_rfl) (fun _ _ _ h => h) (by rfl) (fun w hw => run_load_at w 25 _ rfl g13 (i * 70) (by rfl) _ 70 _ (AE.out.below hw LE.out) Try.underlying25 rfl infoM) hHeld ?_
        simp only [Act.put, List.setIfInBounds_toArray, List.set_cons_zero, List.set_cons_succ]
        refine Cu.takeH 3 (some 124) (.int .i64 (i : Int)) rfl rfl (by kernel_rfl) (by kernel_rfl) (by kernel_rfl) (fun _ _ _ h => h) (by rfl) (fun w hw => by first | rfl | (go_simp; done) | (go_simp; rfl) | (go_simp; omega)) hHeld ?_
        simp only [Act.put, List.setIfInBounds_toArray, List.set_cons_zero, List.set_cons_succ]
        refine Cu.takeH 4 (some 125) (.pointer (some ⟨g13, i * 70, none⟩)) rfl rfl (by kernel_rfl) (by kernel_rfl) (by kernel_rfl) (fun _ _ _ h => h) (by rfl) (fun w hw => by have p0 := hk0; have p1 := hk1; first | rfl | (go_simp; done) | (go_simp; rfl) | (go_simp; omega)) hHeld ?_
        simp only [Act.put, List.setIfInBounds_toArray, List.set_cons_zero, List.set_cons_succ]
        refine Cu.takeH 5 (some 126) (.agg (tabv m.v 70)) rfl rfl (by kernel_rfl) (by kernel_rfl) (by kernel_rfl) (fun _ _ _ h => h) (by rfl) (fun w hw => run_load_at w 25 _ rfl g13 (i * 70) (by rfl) _ 70 _ (AE.out.below hw LE.out) Try.underlying25 rfl infoM) hHeld ?_
        simp only [Act.put, List.setIfInBounds_toArray, List.set_cons_zero, List.set_cons_succ]
        refine Cu.takeH 6 (some 127) (.int .i64 (i : Int)) rfl rfl (by kernel_rfl) (by kernel_rfl) (by kernel_rfl) (fun _ _ _ h => h) (by rfl) (fun w hw => by first | rfl | (go_simp; done) | (go_simp; rfl) | (go_simp; omega)) hHeld ?_
        simp only [Act.put, List.setIfInBounds_toArray, List.set_cons_zero, List.set_cons_succ]
        refine Cu.takeH 7 (some 128) (.pointer (some ⟨g13, i * 70, none⟩)) rfl rfl (by kernel_rfl) (by kernel_rfl) (by kernel_rfl) (fun _ _ _ h => h) (by rfl) (fun w hw => by have p0 := hk0; have p1 := hk1; first | rfl | (go_simp; done) | (go_simp; rfl) | (go_simp; omega)) hHeld ?_
        simp only [Act.put, List.setIfInBounds_toArray, List.set_cons_zero, List.set_cons_succ]
        refine Cu.takeH 8 (some 129) (.agg (tabv m.v 70)) rfl rfl (by kernel_rfl) (by kernel_rfl) (by kernel_rfl) (fun _ _ _ h => h) (by rfl) (fun w hw => run_load_at w 25 _ rfl g13 (i * 70) (by rfl) _ 70 _ (AE.out.below hw LE.out) Try.underlying25 rfl infoM) hHeld ?_
        simp only [Act.put, List.setIfInBounds_toArray, List.set_cons_zero, List.set_cons_succ]
        refine Cu.takeH 9 (some 130) (.int .i64 (i : Int)) rfl rfl (by kernel_rfl) (by kernel_rfl) (by kernel_rfl) (fun _ _ _ h => h) (by rfl) (fun w hw => by first | rfl | (go_simp; done) | (go_simp; rfl) | (go_simp; omega)) hHeld ?_
        simp only [Act.put, List.setIfInBounds_toArray, List.set_cons_zero, List.set_cons_succ]
        refine Cu.takeH 10 (some 131) (.pointer (some ⟨g13, i * 70, none⟩)) rfl rfl (by kernel_rfl) (by kernel_rfl) (by kernel_rfl) (fun _ _ _ h => h) (by rfl) (fun w hw => by have p0 := hk0; have p1 := hk1; first | rfl | (go_simp; done) | (go_simp; rfl) | (go_simp; omega)) hHeld ?_
        simp only [Act.put, List.setIfInBounds_toArray, List.set_cons_zero, List.set_cons_succ]
        refine Cu.takeH 11 (some 132) (.agg (tabv m.v 70)) rfl rfl (by kernel_rfl) (by kernel_rfl) (by kernel_rfl) (fun _ _ _ h => h) (by rfl) (fun w hw => run_load_at w 25 _ rfl g13 (i * 70) (by rfl) _ 70 _ (AE.out.below hw LE.out) Try.underlying25 rfl infoM) hHeld ?_
        simp only [Act.put, List.setIfInBounds_toArray, List.set_cons_zero, List.set_cons_succ]
        refine Cu.takeH 12 (some 133) (.int .i64 (i : Int)) rfl rfl (by kernel_rfl) (by kernel_rfl) (by kernel_rfl) (fun _ _ _ h => h) (by rfl) (fun w hw => by first | rfl | (go_simp; done) | (go_simp; rfl) | (go_simp; omega)) hHeld ?_
        simp only [Act.put, List.setIfInBounds_toArray, List.set_cons_zero, List.set_cons_succ]
        refine Cu.takeH 13 (some 134) (.pointer (some ⟨g13, i * 70, none⟩)) rfl rfl (by kernel_rfl) (by kernel_rfl) (by kernel_rfl) (fun _ _ _ h => h) (by rfl) (fun w hw => by have p0 := hk0; have p1 := hk1; first | rfl | (go_simp; done) | (go_simp; rfl) | (go_simp; omega)) hHeld ?_
        simp only [Act.put, List.setIfInBounds_toArray, List.set_cons_zero, List.set_cons_succ]
        refine Cu.takeH 14 (some 135) (.agg (tabv m.v 70)) rfl rfl (by kernel_rfl) (by kernel_rfl) (by kernel_rfl) (fun _ _ _ h => h) (by rfl) (fun w hw => run_load_at w 25 _ rfl g13 (i * 70) (by rfl) _ 70 _ (AE.out.below hw LE.out) Try.underlying25 rfl infoM) hHeld ?_
        simp only [Act.put, List.setIfInBounds_toArray, List.set_cons_zero, List.set_cons_succ]
        refine Cu.takeH 15 (some 136) (.agg (tabv (rowM fun _ => m) 350)) rfl rfl (by kernel_rfl) (by kernel_rfl) (by kernel_rfl) (fun _ _ _ h => h) (by rfl) (fun w hw => run_buildW w _ _ rfl [(0, .agg (tabv m.v 70)), (1, .agg (tabv m.v 70)), (2, .agg (tabv m.v 70)), (3, .agg (tabv m.v 70)), (4, .agg (tabv m.v 70))] (by first | rfl | (simp [Act.eval]; done)) _ (built5M m)) hHeld ?_
        simp only [Act.put, List.setIfInBounds_toArray, List.set_cons_zero, List.set_cons_succ]
        refine wpAnyH_ready (rs := [16]) (by kernel_rfl) (by simp) (AllReadyH.cons rfl (fun K hK => ?_) AllReadyH.nil)
        rw [if_pos (by rfl)]
        go_simp
        have qN : Has (World.alloc wf (.cells Try.zeroCells46 46)) (Array.size (World.heap wf)) 46 (rowM fun _ => Msg.zero) 350 := by rw [zero350]; exact Has.new wf 46 _ 350 _ rfl
        have bN : Below (Array.size (World.heap wf)) wf (World.alloc wf (.cells Try.zeroCells46 46)) := (Below.refl _ _).alloc (Nat.le_refl _) _
        have hgHs : we.heap.size ≤ Array.size (World.heap wf) := hHeld.size
        have sN := hHeld.trans (bN.mono hHeld.size)
        generalize hwe : World.alloc wf (.cells Try.zeroCells46 46) = wg at qN bN sN ⊢
        refine hK.out _ _ sN (fun hH => ?_)
        clear sN bN hwe
        clear hK hHeld
        have hHeld := hH
        clear hH
        generalize hgHe : Array.size (World.heap wf) = gH at qN hgHs ⊢
        try simp only [Act.put, List.setIfInBounds_toArray, List.set_cons_zero, List.set_cons_succ]
        refine wpAnyH_ready (rs := [17]) (by kernel_rfl) (by simp) (AllReadyH.cons rfl (fun K hK => ?_) AllReadyH.nil)
        rw [if_pos (by rfl)]
        refine wp_store_partM 46 _ _ rfl rfl gH 0 (rowM fun _ => m) 350 rfl rfl 46 _ 350 qN (by omega) info5M (fun q _ => rowM_one _ q) (rowM (fiveF m X O 0)) (fun q hq => by unfold splice; rw [if_pos (by omega), Nat.sub_zero]; rfl) ?_
        have bF : Below we.heap.size we (wg.setRow gH (tabv (rowM (fiveF m X O 0)) 350)) := below_setRow hHeld hgHs _
        refine hK.out _ _ bF (fun hH => ?_)
        clear hK hHeld hH
        refine wpAnyH_done (by kernel_rfl) ?_ _
        refine NoPanic.normal ?_
        have v0 : Has (wg.setRow gH (tabv (rowM (fiveF m X O 0)) 350)) gH 46 (rowM (fiveF m X O 0)) 350 := qN.row _ _ rfl
        generalize hwq : wg.setRow gH (tabv (rowM (fiveF m X O 0)) 350) = y0 at v0 bF ⊢
        have V0 := hide v0
        have K0 := hide (KE.out.below bF)
        have T0 := hide (TE.out.below bF TE.out.lt)
        have LG : Hid (g7 < gH ∧ g8 < gH ∧ g13 < gH ∧ g14 < gH) := ⟨Nat.lt_of_lt_of_le KE.out.rh.lt hgHs, Nat.lt_of_lt_of_le KE.out.rs.lt hgHs, Nat.lt_of_lt_of_le KE.out.rl.lt hgHs, Nat.lt_of_lt_of_le TE.out.lt hgHs⟩
        clear hwq v0 bF qN hgHs KE TE AE LE hgHe hwd
        have cO : y0.cell? ⟨gH, 1, none⟩ = some (.int .i64 m.id) := fiveF_cell 0 1 V0.out (by omega) (by omega)
        have fO := V0.out.frozen 1
        obtain ⟨y1, hWy⟩ : ∃ z, y0.setCell ⟨gH, 1, none⟩ (.int .i64 1) = z := ⟨_, rfl⟩
        have V1 : Hid (Has y1 gH 46 (rowM (fiveF m X O 1)) 350) := by rw [← hWy]; exact fiveF_step 0 1 _ V0.out (by omega) (by omega) (fun q hq => fe0 m X O q hq)
        have bY : Below gH y0 y1 := by rw [← hWy]; exact (Below.refl gH y0).setCell (show gH ≤ (⟨gH, 1, none⟩ : Addr).block from Nat.le_refl _) _
        have K1 : Hid (FV w g7 g8 g13 h s F y1) := ⟨K0.out.rh.below bY LG.out.1, K0.out.rs.below bY LG.out.2.1, K0.out.rl.below bY LG.out.2.2.1, K0.out.bel.trans (bY.mono (Nat.le_of_lt LG.out.1)), K0.out.ord⟩
        have T1 := hide (T0.out.below bY LG.out.2.2.2)
        clear bY
        go_upto_region 19 with fail
        try rw [hWy]
        clear hWy cO fO V0 K0 T0
        have cO : y1.cell? ⟨gH, 72, none⟩ = some (.int .i64 m.amt) := fiveF_cell 1 2 V1.out (by omega) (by omega)
        have fO := V1.out.frozen 72
        obtain ⟨y2, hWy⟩ : ∃ z, y1.setCell ⟨gH, 72, none⟩ (.int .i64 (-1)) = z := ⟨_, rfl⟩
        have V2 : Hid (Has y2 gH 46 (rowM (fiveF m X O 2)) 350) := by rw [← hWy]; exact fiveF_step 1 2 _ V1.out (by omega) (by omega) (fun q hq => fe1 m X O q hq)
        have bY : Below gH y1 y2 := by rw [← hWy]; exact (Below.refl gH y1).setCell (show gH ≤ (⟨gH, 72, none⟩ : Addr).block from Nat.le_refl _) _
        have K2 : Hid (FV w g7 g8 g13 h s F y2) := ⟨K1.out.rh.below bY LG.out.1, K1.out.rs.below bY LG.out.2.1, K1.out.rl.below bY LG.out.2.2.1, K1.out.bel.trans (bY.mono (Nat.le_of_lt LG.out.1)), K1.out.ord⟩
        have T2 := hide (T1.out.below bY LG.out.2.2.2)
        clear bY
        go_upto_region 20 with fail
        try rw [hWy]
        clear hWy cO fO V1 K1 T1
        have cO : y2.cell? ⟨gH, 209, none⟩ = some (.string m.note) := fiveF_cell 2 69 V2.out (by omega) (by omega)
        have fO := V2.out.frozen 209
        obtain ⟨y3, hWy⟩ : ∃ z, y2.setCell ⟨gH, 209, none⟩ (.string X) = z := ⟨_, rfl⟩
        have V3 : Hid (Has y3 gH 46 (rowM (fiveF m X O 3)) 350) := by rw [← hWy]; exact fiveF_step 2 69 _ V2.out (by omega) (by omega) (fun q hq => fe2 m X O q hq)
        have bY : Below gH y2 y3 := by rw [← hWy]; exact (Below.refl gH y2).setCell (show gH ≤ (⟨gH, 209, none⟩ : Addr).block from Nat.le_refl _) _
        have K3 : Hid (FV w g7 g8 g13 h s F y3) := ⟨K2.out.rh.below bY LG.out.1, K2.out.rs.below bY LG.out.2.1, K2.out.rl.below bY LG.out.2.2.1, K2.out.bel.trans (bY.mono (Nat.le_of_lt LG.out.1)), K2.out.ord⟩
        have T3 := hide (T2.out.below bY LG.out.2.2.2)
        clear bY
        have aX2 := aX.out
        go_upto_region 21 with fail
        try rw [hWy]
        clear hWy cO fO V2 K2 T2
        clear aX2
        have cO : y3.cell? ⟨gH, 213, none⟩ = some (.int .i64 m.idx) := fiveF_cell 3 3 V3.out (by omega) (by omega)
        have fO := V3.out.frozen 213
        obtain ⟨y4, hWy⟩ : ∃ z, y3.setCell ⟨gH, 213, none⟩ (.int .i64 O) = z := ⟨_, rfl⟩
        have V4 : Hid (Has y4 gH 46 (rowM (fiveF m X O 4)) 350) := by rw [← hWy]; exact fiveF_step 3 3 _ V3.out (by omega) (by omega) (fun q hq => fe3 m X O q hq)
        have bY : Below gH y3 y4 := by rw [← hWy]; exact (Below.refl gH y3).setCell (show gH ≤ (⟨gH, 213, none⟩ : Addr).block from Nat.le_refl _) _
        have K4 : Hid (FV w g7 g8 g13 h s F y4) := ⟨K3.out.rh.below bY LG.out.1, K3.out.rs.below bY LG.out.2.1, K3.out.rl.below bY LG.out.2.2.1, K3.out.bel.trans (bY.mono (Nat.le_of_lt LG.out.1)), K3.out.ord⟩
        have T4 := hide (T3.out.below bY LG.out.2.2.2)
        clear bY
        go_upto_region 22 with fail
        try rw [hWy]
        clear hWy cO fO V3 K3 T3
        have cO : y4.cell? ⟨gH, 284, none⟩ = some (.int .i64 m.nxt) := fiveF_cell 4 4 V4.out (by omega) (by omega)
        have fO := V4.out.frozen 284
        obtain ⟨y5, hWy⟩ : ∃ z, y4.setCell ⟨gH, 284, none⟩ (.int .i64 O) = z := ⟨_, rfl⟩
        have V5 : Hid (Has y5 gH 46 (rowM (fiveF m X O 5)) 350) := by rw [← hWy]; exact fiveF_step 4 4 _ V4.out (by omega) (by omega) (fun q hq => fe4 m X O q hq)
        have bY : Below gH y4 y5 := by rw [← hWy]; exact (Below.refl gH y4).setCell (show gH ≤ (⟨gH, 284, none⟩ : Addr).block from Nat.le_refl _) _
        have K5 : Hid (FV w g7 g8 g13 h s F y5) := ⟨K4.out.rh.below bY LG.out.1, K4.out.rs.below bY LG.out.2.1, K4.out.rl.below bY LG.out.2.2.1, K4.out.bel.trans (bY.mono (Nat.le_of_lt LG.out.1)), K4.out.ord⟩
        have T5 := hide (T4.out.below bY LG.out.2.2.2)
        clear bY
        go_upto_region 23 with fail
        try rw [hWy]
        clear hWy cO fO V4 K4 T4
        go_wp2
        go_loopw [22] (fun ik wr => ∃ k : Nat, k ≤ 5 ∧ ik = .int .i64 (k : Int) ∧ Hid (FV w g7 g8 g13 h s F wr) ∧ Hid (Has wr g14 45 (strV FT) 4) ∧ Hid (Has wr gH 46 (rowM (fiveF m X O 5)) 350)) (fun ik _ => 5 - (intOf ik).toNat)
        case atStart => exact ⟨0, by omega, rfl, K5.out, T5.out, V5.out⟩
        case round =>
          obtain ⟨k, hk, rfl, KQ, TQ, VQ⟩ := hrel
          clear K5 T5 V5
          by_cases hlk : k < 5
          · have hd2 : decide ((k : Int) < 5) = true := decide_eq_true (by omega)
            have hq0 : (0 : Int) ≤ (k : Int) := by omega
            have hq1 : (k : Int) < 5 := by omega
            have HKk : Hid (k < 5) := hlk
            have AB : Hid (At wr gH (k * 70) (five m X O k).v 70) := by
              have := row_atM (n := 5) VQ.out k hlk
              rw [fiveF_all m X O k hlk] at this
              exact this
            clear hlk hk
            go_wp2_with (first | refine wpW_load_at 25 _ rfl (gH) (k * 70) (by rfl) (by rfl) _ 70 _ (AB.out) Try.underlying25 rfl infoM ?_ | fail)
            refine (WBk.out k _).mono ?_
            rintro e wz ⟨rfl, hb⟩
            have KZ := hide (KQ.out.below hb)
            have TZ := hide (TQ.out.below hb TQ.out.lt)
            have VZ := hide (VQ.out.below hb VQ.out.lt)
            clear hb KQ TQ VQ AB
            go_wp2
            go_roundw
            case rel => exact ⟨k + 1, by have := HKk.out; omega, by go_num, KZ.out, TZ.out, VZ.out⟩
            case measure => have := HKk.out; simp [intOf]; omega
          · have hk5 : k = 5 := by omega
            subst hk5
            have hd2 : decide (((5 : Nat) : Int) < 5) = false := by decide
            rw [show ((5 : Nat) : Int) = 5 from rfl]
            clear hlk hk VQ
            go_wp2
            go_roundw
            case rel => exact ⟨i + 1, by have := HI.out; omega, by go_num, KQ.out, TQ.out⟩
            case measure => have := HI.out; simp [intOf]; omega
    · have hi4 : i = 4 := by omega
      subst hi4
      have hd : decide (((4 : Nat) : Int) < 4) = false := by decide
      rw [show ((4 : Nat) : Int) = 4 from rfl]
      clear hlt hi WF RF WB
      obtain ⟨Z0, hZ0⟩ : ∃ Z, Msg.zero = Z := ⟨_, rfl⟩
      have o4 := out4 O HR.out HO.out h
      have o6 := out6 a O HR.out HO.out s
      have o7 := out7 b note
      have NO := hide (fun w : World => lnumber_any O w)
      have NA := hide (fun w : World => lnumber_any a w)
      have NB := hide (fun w : World => lnumber_any b w)
      have zo : (ofL (nb (U64n O) 8)).size = 8 := by rw [Cu.ofL_size, Cu.nb_length]
      have za : (ofL (nb (U64n a) 8)).size = 8 := by rw [Cu.ofL_size, Cu.nb_length]
      have zb : (ofL (nb (U64n b) 8)).size = 8 := by rw [Cu.ofL_size, Cu.nb_length]
      have zh : (strOf h 32).size = 32 := strOf_size _ _
      have zs : (strOf s 32).size = 32 := strOf_size _ _
      generalize ofL (nb (U64n O) 8) = XO at NO zo o4 o6
      generalize ofL (nb (U64n a) 8) = XA at NA za o6
      generalize ofL (nb (U64n b) 8) = XB at NB zb o7
      generalize hXH : strOf h 32 = XH at zh o4
      generalize hXS : strOf s 32 = XS at zs o6
      have HXH := hide hXH
      have HXS := hide hXS
      clear hXH hXS
      obtain ⟨P4, hP4⟩ : ∃ Z, (⟨#[4]⟩ : ByteArray) ++ XO = Z := ⟨_, rfl⟩
      have zP4 : P4.size = 9 := by rw [← hP4, ByteArray.size_append]; show 1 + _ = _; omega
      rw [hP4] at o4
      have EP4 := hide hP4
      clear hP4
      obtain ⟨Q4, hQ4⟩ : ∃ Z, P4 ++ XH = Z := ⟨_, rfl⟩
      have zQ4 : Q4.size = 41 := by rw [← hQ4, ByteArray.size_append]; omega
      rw [hQ4] at o4
      have EQ4 := hide hQ4
      clear hQ4
      obtain ⟨P6, hP6⟩ : ∃ Z, (⟨#[6]⟩ : ByteArray) ++ XA = Z := ⟨_, rfl⟩
      have zP6 : P6.size = 9 := by rw [← hP6, ByteArray.size_append]; show 1 + _ = _; omega
      rw [hP6] at o6
      have EP6 := hide hP6
      clear hP6
      obtain ⟨Q6, hQ6⟩ : ∃ Z, P6 ++ XO = Z := ⟨_, rfl⟩
      have zQ6 : Q6.size = 17 := by rw [← hQ6, ByteArray.size_append]; omega
      rw [hQ6] at o6
      have EQ6 := hide hQ6
      clear hQ6
      obtain ⟨R6, hR6⟩ : ∃ Z, Q6 ++ XS = Z := ⟨_, rfl⟩
      have zR6 : R6.size = 49 := by rw [← hR6, ByteArray.size_append]; omega
      rw [hR6] at o6
      have ER6 := hide hR6
      clear hR6
      have RQ := fun w => mread_any Q4 w (by omega)
      rw [rdC_of, o4] at RQ
      unfold badM at RQ
      rw [hZ0] at RQ
      have RQ := hide RQ
      have RR := fun w => mread_any R6 w (by omega)
      rw [rdC_of, o6] at RR
      unfold badM at RR
      rw [hZ0] at RR
      have RR := hide RR
      have a7 := hide (fun w : World => run_string_add_sum (P := Try.prog) w ⟨#[7]⟩ XB (by show 1 + _ ≤ _; omega))
      have a8 := hide (fun w : World => run_string_add_sum (P := Try.prog) w (⟨#[7]⟩ ++ XB) ⟨#[120]⟩ (by rw [ByteArray.size_append]; show 1 + _ + 1 ≤ _; omega))
      have a9 := hide (fun w : World => run_string_add_sum (P := Try.prog) w (⟨#[7]⟩ ++ XB ++ ⟨#[120]⟩) note (by rw [ByteArray.size_append, ByteArray.size_append]; show 1 + _ + 1 + _ ≤ _; have := HZ.out; omega))
      have R7 := fun w => mread_any (⟨#[7]⟩ ++ XB ++ ⟨#[120]⟩ ++ note) w (by rw [ByteArray.size_append, ByteArray.size_append, ByteArray.size_append]; show 1 + _ + 1 + _ ≤ _; have := HZ.out; omega)
      rw [rdC_of, o7] at R7
      unfold badM at R7
      rw [hZ0] at R7
      have R7 := hide R7
      clear o4 o6 o7 hZ0 TW aX HXX HO HR
      go_upto_region 29 with fail
      go_cut [23, 24] from 29 (fun s23 s24 wx => s24 = .int .i64 160 ∧ Below wr.heap.size wr wx)
      case first =>
        as_aux_lemma =>
          go_wp2
          refine wp_region_noPanic ?_
          refine wp_region_held_drew (S := fun wx => Below wr.heap.size wr wx) (by kernel_rfl) ((Below.refl _ _).drew) (fun hHeld => ?_)
          generalize hwd : World.drew wr = wd at hHeld ⊢
          refine Cu.takeH 0 (some 169) (.int .i64 O) rfl rfl (by kernel_rfl) (by kernel_rfl) (by kernel_rfl) (fun _ _ _ h => h) (by rfl) (fun w hw => by first | rfl | (go_simp; done) | (go_simp; rfl) | (go_simp; omega)) hHeld ?_
          simp only [Act.put, List.setIfInBounds_toArray, List.set_cons_zero, List.set_cons_succ]
          refine Cu.takeH 3 (some 172) (.slice (some ⟨g7, 0, none⟩) 32 32) rfl rfl (by kernel_rfl) (by kernel_rfl) (by kernel_rfl) (fun _ _ _ h => h) (by rfl) (fun w hw => by first | rfl | (go_simp; done) | (go_simp; rfl) | (go_simp; omega)) hHeld ?_
          simp only [Act.put, List.setIfInBounds_toArray, List.set_cons_zero, List.set_cons_succ]
          refine Cu.takeH 4 (some 173) (.string XH) rfl rfl (by kernel_rfl) (by kernel_rfl) (by kernel_rfl) (fun _ _ _ h => h) (by rfl) (fun w hw => run_convW w _ _ _ _ _ rfl (by rfl) (by rw [← HXH.out]; exact run_conv_at (at0 (KW.out.rh.below hw KW.out.rh.lt)))) hHeld ?_
          simp only [Act.put, List.setIfInBounds_toArray, List.set_cons_zero, List.set_cons_succ]
          refine wpAnyH_ready (rs := [1, 10]) (by kernel_rfl) (by simp) (AllReadyH.cons rfl (fun K hK => ?_) (AllReadyH.cons rfl (fun K hK => ?_) AllReadyH.nil))
          · rw [if_pos (by rfl)]
            go_simp
            refine (NO.out _).mono ?_
            rintro e wcc ⟨rfl, hbq⟩
            try go_wp2_with fail
            refine hK.out _ _ (hHeld.trans (hbq.mono hHeld.size)) (fun hH => ?_)
            clear hbq
            clear hK hHeld
            have hHeld := hH
            clear hH
            refine Cu.takeH 2 (some 171) (.string P4) rfl rfl (by kernel_rfl) (by kernel_rfl) (by kernel_rfl) (fun _ _ _ h => h) (by rfl) (fun w hw => run_addS w _ _ ⟨#[4]⟩ XO P4 rfl (by rfl) (by rfl) (by show 1 + _ ≤ _; omega) EP4.out) hHeld ?_
            simp only [Act.put, List.setIfInBounds_toArray, List.set_cons_zero, List.set_cons_succ]
            refine Cu.takeH 5 (some 174) (.string Q4) rfl rfl (by kernel_rfl) (by kernel_rfl) (by kernel_rfl) (fun _ _ _ h => h) (by rfl) (fun w hw => run_addS w _ _ P4 XH Q4 rfl (by rfl) (by rfl) (by omega) EQ4.out) hHeld ?_
            simp only [Act.put, List.setIfInBounds_toArray, List.set_cons_zero, List.set_cons_succ]
            refine wpAnyH_ready (rs := [6, 10]) (by kernel_rfl) (by simp) (AllReadyH.cons rfl (fun K hK => ?_) (AllReadyH.cons rfl (fun K hK => ?_) AllReadyH.nil))
            · rw [if_pos (by rfl)]
              go_simp
              refine (RQ.out _).mono ?_
              rintro e wccc ⟨rfl, hbq⟩
              try go_wp2_with fail
              refine hK.out _ _ (hHeld.trans (hbq.mono hHeld.size)) (fun hH => ?_)
              clear hbq
              clear hK hHeld
              have hHeld := hH
              clear hH
              refine Cu.takeH 7 (some 168) (.tuple #[.agg (tabv Z0.v 70), .int .i64 160]) rfl rfl (by kernel_rfl) (by kernel_rfl) (by kernel_rfl) (fun _ _ _ h => h) (by rfl) (fun w hw => run_mov w _ _ rfl (by rfl)) hHeld ?_
              simp only [Act.put, List.setIfInBounds_toArray, List.set_cons_zero, List.set_cons_succ]
              refine Cu.takeH 8 (some 176) (.agg (tabv Z0.v 70)) rfl rfl (by kernel_rfl) (by kernel_rfl) (by kernel_rfl) (fun _ _ _ h => h) (by rfl) (fun w hw => run_ext0 w _ _ _ rfl (by rfl)) hHeld ?_
              simp only [Act.put, List.setIfInBounds_toArray, List.set_cons_zero, List.set_cons_succ]
              refine Cu.takeH 9 (some 177) (.int .i64 160) rfl rfl (by kernel_rfl) (by kernel_rfl) (by kernel_rfl) (fun _ _ _ h => h) (by rfl) (fun w hw => run_ext1 w _ _ _ rfl (by rfl)) hHeld ?_
              simp only [Act.put, List.setIfInBounds_toArray, List.set_cons_zero, List.set_cons_succ]
              refine wpAnyH_ready (rs := [10]) (by kernel_rfl) (by simp) (AllReadyH.cons rfl (fun K hK => ?_) AllReadyH.nil)
              rw [if_pos (by rfl)]
              go_simp
              have qN : Has (World.alloc wccc (.cells Try.zeroCells25 25)) (Array.size (World.heap wccc)) 25 Msg.zero.v 70 := by rw [zero70]; exact Has.new wccc 25 _ 70 _ rfl
              have bN : Below (Array.size (World.heap wccc)) wccc (World.alloc wccc (.cells Try.zeroCells25 25)) := (Below.refl _ _).alloc (Nat.le_refl _) _
              have hgHs : wr.heap.size ≤ Array.size (World.heap wccc) := hHeld.size
              have sN := hHeld.trans (bN.mono hHeld.size)
              generalize hwe : World.alloc wccc (.cells Try.zeroCells25 25) = wecca at qN bN sN ⊢
              refine hK.out _ _ sN (fun hH => ?_)
              clear sN bN hwe
              clear hK hHeld
              have hHeld := hH
              clear hH
              generalize hgHe : Array.size (World.heap wccc) = gN at qN hgHs ⊢
              try simp only [Act.put, List.setIfInBounds_toArray, List.set_cons_zero, List.set_cons_succ]
              refine wpAnyH_ready (rs := [11]) (by kernel_rfl) (by simp) (AllReadyH.cons rfl (fun K hK => ?_) AllReadyH.nil)
              rw [if_pos (by rfl)]
              refine wp_store_partM 25 _ _ rfl rfl gN 0 Z0.v 70 rfl rfl 25 _ 70 qN (by omega) infoM (fun q _ => oneM _ q) Z0.v (fun q hq => by unfold splice; rw [if_pos (by omega), Nat.sub_zero]) ?_
              have bF : Below wr.heap.size wr (wecca.setRow gN (tabv Z0.v 70)) := below_setRow hHeld hgHs _
              refine hK.out _ _ bF (fun hH => ?_)
              clear hK hHeld bF
              have hHeld := hH
              clear hH
              refine Cu.takeH 12 (some 24) (.int .i64 160) rfl rfl (by kernel_rfl) (by kernel_rfl) (by kernel_rfl) (fun _ _ _ h => h) (by rfl) (fun w hw => by first | rfl | (go_simp; done) | (go_simp; rfl) | (go_simp; omega)) hHeld ?_
              simp only [Act.put, List.setIfInBounds_toArray, List.set_cons_zero, List.set_cons_succ]
              refine ⟨by kernel_rfl, ?_⟩
              refine NoPanic.normal ?_
              have bF := hHeld
              go_wp2
              go_meet
              exact ⟨rfl, bF⟩
            · rw [if_pos (by rfl)]
              go_simp
              have qN : Has (World.alloc wcc (.cells Try.zeroCells25 25)) (Array.size (World.heap wcc)) 25 Msg.zero.v 70 := by rw [zero70]; exact Has.new wcc 25 _ 70 _ rfl
              have bN : Below (Array.size (World.heap wcc)) wcc (World.alloc wcc (.cells Try.zeroCells25 25)) := (Below.refl _ _).alloc (Nat.le_refl _) _
              have hgHs : wr.heap.size ≤ Array.size (World.heap wcc) := hHeld.size
              have sN := hHeld.trans (bN.mono hHeld.size)
              generalize hwe : World.alloc wcc (.cells Try.zeroCells25 25) = weca at qN bN sN ⊢
              refine hK.out _ _ sN (fun hH => ?_)
              clear sN bN hwe
              clear hK hHeld
              have hHeld := hH
              clear hH
              generalize hgHe : Array.size (World.heap wcc) = gN at qN hgHs ⊢
              try simp only [Act.put, List.setIfInBounds_toArray, List.set_cons_zero, List.set_cons_succ]
              refine wpAnyH_ready (rs := [6]) (by kernel_rfl) (by simp) (AllReadyH.cons rfl (fun K hK => ?_) AllReadyH.nil)
              rw [if_pos (by rfl)]
              go_simp
              refine (RQ.out _).mono ?_
              rintro e wccac ⟨rfl, hbq⟩
              try go_wp2_with fail
              have qN := qN.below hbq qN.lt
              refine hK.out _ _ (hHeld.trans (hbq.mono hHeld.size)) (fun hH => ?_)
              clear hbq
              clear hK hHeld
              have hHeld := hH
              clear hH
              refine Cu.takeH 7 (some 168) (.tuple #[.agg (tabv Z0.v 70), .int .i64 160]) rfl rfl (by kernel_rfl) (by kernel_rfl) (by kernel_rfl) (fun _ _ _ h => h) (by rfl) (fun w hw => run_mov w _ _ rfl (by rfl)) hHeld ?_
              simp only [Act.put, List.setIfInBounds_toArray, List.set_cons_zero, List.set_cons_succ]
              refine Cu.takeH 8 (some 176) (.agg (tabv Z0.v 70)) rfl rfl (by kernel_rfl) (by kernel_rfl) (by kernel_rfl) (fun _ _ _ h => h) (by rfl) (fun w hw => run_ext0 w _ _ _ rfl (by rfl)) hHeld ?_
              simp only [Act.put, List.setIfInBounds_toArray, List.set_cons_zero, List.set_cons_succ]
              refine Cu.takeH 9 (some 177) (.int .i64 160) rfl rfl (by kernel_rfl) (by kernel_rfl) (by kernel_rfl) (fun _ _ _ h => h) (by rfl) (fun w hw => run_ext1 w _ _ _ rfl (by rfl)) hHeld ?_
              simp only [Act.put, List.setIfInBounds_toArray, List.set_cons_zero, List.set_cons_succ]
              refine wpAnyH_ready (rs := [11]) (by kernel_rfl) (by simp) (AllReadyH.cons rfl (fun K hK => ?_) AllReadyH.nil)
              rw [if_pos (by rfl)]
              refine wp_store_partM 25 _ _ rfl rfl gN 0 Z0.v 70 rfl rfl 25 _ 70 qN (by omega) infoM (fun q _ => oneM _ q) Z0.v (fun q hq => by unfold splice; rw [if_pos (by omega), Nat.sub_zero]) ?_
              have bF : Below wr.heap.size wr (wccac.setRow gN (tabv Z0.v 70)) := below_setRow hHeld hgHs _
              refine hK.out _ _ bF (fun hH => ?_)
              clear hK hHeld bF
              have hHeld := hH
              clear hH
              refine Cu.takeH 12 (some 24) (.int .i64 160) rfl rfl (by kernel_rfl) (by kernel_rfl) (by kernel_rfl) (fun _ _ _ h => h) (by rfl) (fun w hw => by first | rfl | (go_simp; done) | (go_simp; rfl) | (go_simp; omega)) hHeld ?_
              simp only [Act.put, List.setIfInBounds_toArray, List.set_cons_zero, List.set_cons_succ]
              refine ⟨by kernel_rfl, ?_⟩
              refine NoPanic.normal ?_
              have bF := hHeld
              go_wp2
              go_meet
              exact ⟨rfl, bF⟩
          · rw [if_pos (by rfl)]
            go_simp
            have qN : Has (World.alloc wd (.cells Try.zeroCells25 25)) (Array.size (World.heap wd)) 25 Msg.zero.v 70 := by rw [zero70]; exact Has.new wd 25 _ 70 _ rfl
            have bN : Below (Array.size (World.heap wd)) wd (World.alloc wd (.cells Try.zeroCells25 25)) := (Below.refl _ _).alloc (Nat.le_refl _) _
            have hgHs : wr.heap.size ≤ Array.size (World.heap wd) := hHeld.size
            have sN := hHeld.trans (bN.mono hHeld.size)
            generalize hwe : World.alloc wd (.cells Try.zeroCells25 25) = wea at qN bN sN ⊢
            refine hK.out _ _ sN (fun hH => ?_)
            clear sN bN hwe
            clear hK hHeld
            have hHeld := hH
            clear hH
            generalize hgHe : Array.size (World.heap wd) = gN at qN hgHs ⊢
            try simp only [Act.put, List.setIfInBounds_toArray, List.set_cons_zero, List.set_cons_succ]
            refine wpAnyH_ready (rs := [1]) (by kernel_rfl) (by simp) (AllReadyH.cons rfl (fun K hK => ?_) AllReadyH.nil)
            rw [if_pos (by rfl)]
            go_simp
            refine (NO.out _).mono ?_
            rintro e wcac ⟨rfl, hbq⟩
            try go_wp2_with fail
            have qN := qN.below hbq qN.lt
            refine hK.out _ _ (hHeld.trans (hbq.mono hHeld.size)) (fun hH => ?_)
            clear hbq
            clear hK hHeld
            have hHeld := hH
            clear hH
            refine Cu.takeH 2 (some 171) (.string P4) rfl rfl (by kernel_rfl) (by kernel_rfl) (by kernel_rfl) (fun _ _ _ h => h) (by rfl) (fun w hw => run_addS w _ _ ⟨#[4]⟩ XO P4 rfl (by rfl) (by rfl) (by show 1 + _ ≤ _; omega) EP4.out) hHeld ?_
            simp only [Act.put, List.setIfInBounds_toArray, List.set_cons_zero, List.set_cons_succ]
            refine Cu.takeH 5 (some 174) (.string Q4) rfl rfl (by kernel_rfl) (by kernel_rfl) (by kernel_rfl) (fun _ _ _ h => h) (by rfl) (fun w hw => run_addS w _ _ P4 XH Q4 rfl (by rfl) (by rfl) (by omega) EQ4.out) hHeld ?_
            simp only [Act.put, List.setIfInBounds_toArray, List.set_cons_zero, List.set_cons_succ]
            refine wpAnyH_ready (rs := [6]) (by kernel_rfl) (by simp) (AllReadyH.cons rfl (fun K hK => ?_) AllReadyH.nil)
            rw [if_pos (by rfl)]
            go_simp
            refine (RQ.out _).mono ?_
            rintro e wcacc ⟨rfl, hbq⟩
            try go_wp2_with fail
            have qN := qN.below hbq qN.lt
            refine hK.out _ _ (hHeld.trans (hbq.mono hHeld.size)) (fun hH => ?_)
            clear hbq
            clear hK hHeld
            have hHeld := hH
            clear hH
            refine Cu.takeH 7 (some 168) (.tuple #[.agg (tabv Z0.v 70), .int .i64 160]) rfl rfl (by kernel_rfl) (by kernel_rfl) (by kernel_rfl) (fun _ _ _ h => h) (by rfl) (fun w hw => run_mov w _ _ rfl (by rfl)) hHeld ?_
            simp only [Act.put, List.setIfInBounds_toArray, List.set_cons_zero, List.set_cons_succ]
            refine Cu.takeH 8 (some 176) (.agg (tabv Z0.v 70)) rfl rfl (by kernel_rfl) (by kernel_rfl) (by kernel_rfl) (fun _ _ _ h => h) (by rfl) (fun w hw => run_ext0 w _ _ _ rfl (by rfl)) hHeld ?_
            simp only [Act.put, List.setIfInBounds_toArray, List.set_cons_zero, List.set_cons_succ]
            refine Cu.takeH 9 (some 177) (.int .i64 160) rfl rfl (by kernel_rfl) (by kernel_rfl) (by kernel_rfl) (fun _ _ _ h => h) (by rfl) (fun w hw => run_ext1 w _ _ _ rfl (by rfl)) hHeld ?_
            simp only [Act.put, List.setIfInBounds_toArray, List.set_cons_zero, List.set_cons_succ]
            refine wpAnyH_ready (rs := [11]) (by kernel_rfl) (by simp) (AllReadyH.cons rfl (fun K hK => ?_) AllReadyH.nil)
            rw [if_pos (by rfl)]
            refine wp_store_partM 25 _ _ rfl rfl gN 0 Z0.v 70 rfl rfl 25 _ 70 qN (by omega) infoM (fun q _ => oneM _ q) Z0.v (fun q hq => by unfold splice; rw [if_pos (by omega), Nat.sub_zero]) ?_
            have bF : Below wr.heap.size wr (wcacc.setRow gN (tabv Z0.v 70)) := below_setRow hHeld hgHs _
            refine hK.out _ _ bF (fun hH => ?_)
            clear hK hHeld bF
            have hHeld := hH
            clear hH
            refine Cu.takeH 12 (some 24) (.int .i64 160) rfl rfl (by kernel_rfl) (by kernel_rfl) (by kernel_rfl) (fun _ _ _ h => h) (by rfl) (fun w hw => by first | rfl | (go_simp; done) | (go_simp; rfl) | (go_simp; omega)) hHeld ?_
            simp only [Act.put, List.setIfInBounds_toArray, List.set_cons_zero, List.set_cons_succ]
            refine ⟨by kernel_rfl, ?_⟩
            refine NoPanic.normal ?_
            have bF := hHeld
            go_wp2
            go_meet
            exact ⟨rfl, bF⟩
      case rest =>
      obtain ⟨rfl, hb29⟩ := hcut
      have K29 := hide (KW.out.below hb29)
      clear KW hb29 RQ
      have KW := K29
      clear K29
      obtain ⟨w9, hw9⟩ : ∃ z, wc = z := ⟨_, rfl⟩
      rw [hw9] at KW ⊢
      clear hw9
      go_upto_region 30 with fail
      go_cut [25, 26] from 29 (fun s25 s26 wx => s26 = .int .i64 160 ∧ Below w9.heap.size w9 wx)
      case first =>
        as_aux_lemma =>
          go_wp2
          refine wp_region_noPanic ?_
          refine wp_region_held_drew (S := fun wx => Below w9.heap.size w9 wx) (by kernel_rfl) ((Below.refl _ _).drew) (fun hHeld => ?_)
          generalize hwd : World.drew w9 = wd at hHeld ⊢
          refine Cu.takeH 0 (some 179) (.int .i64 a) rfl rfl (by kernel_rfl) (by kernel_rfl) (by kernel_rfl) (fun _ _ _ h => h) (by rfl) (fun w hw => by first | rfl | (go_simp; done) | (go_simp; rfl) | (go_simp; omega)) hHeld ?_
          simp only [Act.put, List.setIfInBounds_toArray, List.set_cons_zero, List.set_cons_succ]
          refine Cu.takeH 3 (some 182) (.int .i64 O) rfl rfl (by kernel_rfl) (by kernel_rfl) (by kernel_rfl) (fun _ _ _ h => h) (by rfl) (fun w hw => by first | rfl | (go_simp; done) | (go_simp; rfl) | (go_simp; omega)) hHeld ?_
          simp only [Act.put, List.setIfInBounds_toArray, List.set_cons_zero, List.set_cons_succ]
          refine Cu.takeH 6 (some 185) (.slice (some ⟨g8, 0, none⟩) 32 32) rfl rfl (by kernel_rfl) (by kernel_rfl) (by kernel_rfl) (fun _ _ _ h => h) (by rfl) (fun w hw => by first | rfl | (go_simp; done) | (go_simp; rfl) | (go_simp; omega)) hHeld ?_
          simp only [Act.put, List.setIfInBounds_toArray, List.set_cons_zero, List.set_cons_succ]
          refine Cu.takeH 7 (some 186) (.string XS) rfl rfl (by kernel_rfl) (by kernel_rfl) (by kernel_rfl) (fun _ _ _ h => h) (by rfl) (fun w hw => run_convW w _ _ _ _ _ rfl (by rfl) (by rw [← HXS.out]; exact run_conv_at (at0 (KW.out.rs.below hw KW.out.rs.lt)))) hHeld ?_
          simp only [Act.put, List.setIfInBounds_toArray, List.set_cons_zero, List.set_cons_succ]
          refine wpAnyH_ready (rs := [1, 13]) (by kernel_rfl) (by simp) (AllReadyH.cons rfl (fun K hK => ?_) (AllReadyH.cons rfl (fun K hK => ?_) AllReadyH.nil))
          · rw [if_pos (by rfl)]
            go_simp
            refine (NA.out _).mono ?_
            rintro e wcc ⟨rfl, hbq⟩
            try go_wp2_with fail
            refine hK.out _ _ (hHeld.trans (hbq.mono hHeld.size)) (fun hH => ?_)
            clear hbq
            clear hK hHeld
            have hHeld := hH
            clear hH
            refine Cu.takeH 2 (some 181) (.string P6) rfl rfl (by kernel_rfl) (by kernel_rfl) (by kernel_rfl) (fun _ _ _ h => h) (by rfl) (fun w hw => run_addS w _ _ ⟨#[6]⟩ XA P6 rfl (by rfl) (by rfl) (by show 1 + _ ≤ _; omega) EP6.out) hHeld ?_
            simp only [Act.put, List.setIfInBounds_toArray, List.set_cons_zero, List.set_cons_succ]
            refine wpAnyH_ready (rs := [4, 13]) (by kernel_rfl) (by simp) (AllReadyH.cons rfl (fun K hK => ?_) (AllReadyH.cons rfl (fun K hK => ?_) AllReadyH.nil))
            · rw [if_pos (by rfl)]
              go_simp
              refine (NO.out _).mono ?_
              rintro e wccc ⟨rfl, hbq⟩
              try go_wp2_with fail
              refine hK.out _ _ (hHeld.trans (hbq.mono hHeld.size)) (fun hH => ?_)
              clear hbq
              clear hK hHeld
              have hHeld := hH
              clear hH
              refine Cu.takeH 5 (some 184) (.string Q6) rfl rfl (by kernel_rfl) (by kernel_rfl) (by kernel_rfl) (fun _ _ _ h => h) (by rfl) (fun w hw => run_addS w _ _ P6 XO Q6 rfl (by rfl) (by rfl) (by omega) EQ6.out) hHeld ?_
              simp only [Act.put, List.setIfInBounds_toArray, List.set_cons_zero, List.set_cons_succ]
              refine Cu.takeH 8 (some 187) (.string R6) rfl rfl (by kernel_rfl) (by kernel_rfl) (by kernel_rfl) (fun _ _ _ h => h) (by rfl) (fun w hw => run_addS w _ _ Q6 XS R6 rfl (by rfl) (by rfl) (by omega) ER6.out) hHeld ?_
              simp only [Act.put, List.setIfInBounds_toArray, List.set_cons_zero, List.set_cons_succ]
              refine wpAnyH_ready (rs := [9, 13]) (by kernel_rfl) (by simp) (AllReadyH.cons rfl (fun K hK => ?_) (AllReadyH.cons rfl (fun K hK => ?_) AllReadyH.nil))
              · rw [if_pos (by rfl)]
                go_simp
                refine (RR.out _).mono ?_
                rintro e wcccc ⟨rfl, hbq⟩
                try go_wp2_with fail
                refine hK.out _ _ (hHeld.trans (hbq.mono hHeld.size)) (fun hH => ?_)
                clear hbq
                clear hK hHeld
                have hHeld := hH
                clear hH
                refine Cu.takeH 10 (some 178) (.tuple #[.agg (tabv Z0.v 70), .int .i64 160]) rfl rfl (by kernel_rfl) (by kernel_rfl) (by kernel_rfl) (fun _ _ _ h => h) (by rfl) (fun w hw => run_mov w _ _ rfl (by rfl)) hHeld ?_
                simp only [Act.put, List.setIfInBounds_toArray, List.set_cons_zero, List.set_cons_succ]
                refine Cu.takeH 11 (some 189) (.agg (tabv Z0.v 70)) rfl rfl (by kernel_rfl) (by kernel_rfl) (by kernel_rfl) (fun _ _ _ h => h) (by rfl) (fun w hw => run_ext0 w _ _ _ rfl (by rfl)) hHeld ?_
                simp only [Act.put, List.setIfInBounds_toArray, List.set_cons_zero, List.set_cons_succ]
                refine Cu.takeH 12 (some 190) (.int .i64 160) rfl rfl (by kernel_rfl) (by kernel_rfl) (by kernel_rfl) (fun _ _ _ h => h) (by rfl) (fun w hw => run_ext1 w _ _ _ rfl (by rfl)) hHeld ?_
                simp only [Act.put, List.setIfInBounds_toArray, List.set_cons_zero, List.set_cons_succ]
                refine wpAnyH_ready (rs := [13]) (by kernel_rfl) (by simp) (AllReadyH.cons rfl (fun K hK => ?_) AllReadyH.nil)
                rw [if_pos (by rfl)]
                go_simp
                have qN : Has (World.alloc wcccc (.cells Try.zeroCells25 25)) (Array.size (World.heap wcccc)) 25 Msg.zero.v 70 := by rw [zero70]; exact Has.new wcccc 25 _ 70 _ rfl
                have bN : Below (Array.size (World.heap wcccc)) wcccc (World.alloc wcccc (.cells Try.zeroCells25 25)) := (Below.refl _ _).alloc (Nat.le_refl _) _
                have hgHs : w9.heap.size ≤ Array.size (World.heap wcccc) := hHeld.size
                have sN := hHeld.trans (bN.mono hHeld.size)
                generalize hwe : World.alloc wcccc (.cells Try.zeroCells25 25) = weccca at qN bN sN ⊢
                refine hK.out _ _ sN (fun hH => ?_)
                clear sN bN hwe
                clear hK hHeld
                have hHeld := hH
                clear hH
                generalize hgHe : Array.size (World.heap wcccc) = gN at qN hgHs ⊢
                try simp only [Act.put, List.setIfInBounds_toArray, List.set_cons_zero, List.set_cons_succ]
                refine wpAnyH_ready (rs := [14]) (by kernel_rfl) (by simp) (AllReadyH.cons rfl (fun K hK => ?_) AllReadyH.nil)
                rw [if_pos (by rfl)]
                refine wp_store_partM 25 _ _ rfl rfl gN 0 Z0.v 70 rfl rfl 25 _ 70 qN (by omega) infoM (fun q _ => oneM _ q) Z0.v (fun q hq => by unfold splice; rw [if_pos (by omega), Nat.sub_zero]) ?_
                have bF : Below w9.heap.size w9 (weccca.setRow gN (tabv Z0.v 70)) := below_setRow hHeld hgHs _
                refine hK.out _ _ bF (fun hH => ?_)
                clear hK hHeld bF
                have hHeld := hH
                clear hH
                refine Cu.takeH 15 (some 26) (.int .i64 160) rfl rfl (by kernel_rfl) (by kernel_rfl) (by kernel_rfl) (fun _ _ _ h => h) (by rfl) (fun w hw => by first | rfl | (go_simp; done) | (go_simp; rfl) | (go_simp; omega)) hHeld ?_
                simp only [Act.put, List.setIfInBounds_toArray, List.set_cons_zero, List.set_cons_succ]
                refine ⟨by kernel_rfl, ?_⟩
                refine NoPanic.normal ?_
                have bF := hHeld
                go_wp2
                go_meet
                exact ⟨rfl, bF⟩
              · rw [if_pos (by rfl)]
                go_simp
                have qN : Has (World.alloc wccc (.cells Try.zeroCells25 25)) (Array.size (World.heap wccc)) 25 Msg.zero.v 70 := by rw [zero70]; exact Has.new wccc 25 _ 70 _ rfl
                have bN : Below (Array.size (World.heap wccc)) wccc (World.alloc wccc (.cells Try.zeroCells25 25)) := (Below.refl _ _).alloc (Nat.le_refl _) _
                have hgHs : w9.heap.size ≤ Array.size (World.heap wccc) := hHeld.size
                have sN := hHeld.trans (bN.mono hHeld.size)
                generalize hwe : World.alloc wccc (.cells Try.zeroCells25 25) = wecca at qN bN sN ⊢
                refine hK.out _ _ sN (fun hH => ?_)
                clear sN bN hwe
                clear hK hHeld
                have hHeld := hH
                clear hH
                generalize hgHe : Array.size (World.heap wccc) = gN at qN hgHs ⊢
                try simp only [Act.put, List.setIfInBounds_toArray, List.set_cons_zero, List.set_cons_succ]
                refine wpAnyH_ready (rs := [9]) (by kernel_rfl) (by simp) (AllReadyH.cons rfl (fun K hK => ?_) AllReadyH.nil)
                rw [if_pos (by rfl)]
                go_simp
                refine (RR.out _).mono ?_
                rintro e wcccac ⟨rfl, hbq⟩
                try go_wp2_with fail
                have qN := qN.below hbq qN.lt
                refine hK.out _ _ (hHeld.trans (hbq.mono hHeld.size)) (fun hH => ?_)
                clear hbq
                clear hK hHeld
                have hHeld := hH
                clear hH
                refine Cu.takeH 10 (some 178) (.tuple #[.agg (tabv Z0.v 70), .int .i64 160]) rfl rfl (by kernel_rfl) (by kernel_rfl) (by kernel_rfl) (fun _ _ _ h => h) (by rfl) (fun w hw => run_mov w _ _ rfl (by rfl)) hHeld ?_
                simp only [Act.put, List.setIfInBounds_toArray, List.set_cons_zero, List.set_cons_succ]
                refine Cu.takeH 11 (some 189) (.agg (tabv Z0.v 70)) rfl rfl (by kernel_rfl) (by kernel_rfl) (by kernel_rfl) (fun _ _ _ h => h) (by rfl) (fun w hw => run_ext0 w _ _ _ rfl (by rfl)) hHeld ?_
                simp only [Act.put, List.setIfInBounds_toArray, List.set_cons_zero, List.set_cons_succ]
                refine Cu.takeH 12 (some 190) (.int .i64 160) rfl rfl (by kernel_rfl) (by kernel_rfl) (by kernel_rfl) (fun _ _ _ h => h) (by rfl) (fun w hw => run_ext1 w _ _ _ rfl (by rfl)) hHeld ?_
                simp only [Act.put, List.setIfInBounds_toArray, List.set_cons_zero, List.set_cons_succ]
                refine wpAnyH_ready (rs := [14]) (by kernel_rfl) (by simp) (AllReadyH.cons rfl (fun K hK => ?_) AllReadyH.nil)
                rw [if_pos (by rfl)]
                refine wp_store_partM 25 _ _ rfl rfl gN 0 Z0.v 70 rfl rfl 25 _ 70 qN (by omega) infoM (fun q _ => oneM _ q) Z0.v (fun q hq => by unfold splice; rw [if_pos (by omega), Nat.sub_zero]) ?_
                have bF : Below w9.heap.size w9 (wcccac.setRow gN (tabv Z0.v 70)) := below_setRow hHeld hgHs _
                refine hK.out _ _ bF (fun hH => ?_)
                clear hK hHeld bF
                have hHeld := hH
                clear hH
                refine Cu.takeH 15 (some 26) (.int .i64 160) rfl rfl (by kernel_rfl) (by kernel_rfl) (by kernel_rfl) (fun _ _ _ h => h) (by rfl) (fun w hw => by first | rfl | (go_simp; done) | (go_simp; rfl) | (go_simp; omega)) hHeld ?_
                simp only [Act.put, List.setIfInBounds_toArray, List.set_cons_zero, List.set_cons_succ]
                refine ⟨by kernel_rfl, ?_⟩
                refine NoPanic.normal ?_
                have bF := hHeld
                go_wp2
                go_meet
                exact ⟨rfl, bF⟩
            · rw [if_pos (by rfl)]
              go_simp
              have qN : Has (World.alloc wcc (.cells Try.zeroCells25 25)) (Array.size (World.heap wcc)) 25 Msg.zero.v 70 := by rw [zero70]; exact Has.new wcc 25 _ 70 _ rfl
              have bN : Below (Array.size (World.heap wcc)) wcc (World.alloc wcc (.cells Try.zeroCells25 25)) := (Below.refl _ _).alloc (Nat.le_refl _) _
              have hgHs : w9.heap.size ≤ Array.size (World.heap wcc) := hHeld.size
              have sN := hHeld.trans (bN.mono hHeld.size)
              generalize hwe : World.alloc wcc (.cells Try.zeroCells25 25) = weca at qN bN sN ⊢
              refine hK.out _ _ sN (fun hH => ?_)
              clear sN bN hwe
              clear hK hHeld
              have hHeld := hH
              clear hH
              generalize hgHe : Array.size (World.heap wcc) = gN at qN hgHs ⊢
              try simp only [Act.put, List.setIfInBounds_toArray, List.set_cons_zero, List.set_cons_succ]
              refine wpAnyH_ready (rs := [4]) (by kernel_rfl) (by simp) (AllReadyH.cons rfl (fun K hK => ?_) AllReadyH.nil)
              rw [if_pos (by rfl)]
              go_simp
              refine (NO.out _).mono ?_
              rintro e wccac ⟨rfl, hbq⟩
              try go_wp2_with fail
              have qN := qN.below hbq qN.lt
              refine hK.out _ _ (hHeld.trans (hbq.mono hHeld.size)) (fun hH => ?_)
              clear hbq
              clear hK hHeld
              have hHeld := hH
              clear hH
              refine Cu.takeH 5 (some 184) (.string Q6) rfl rfl (by kernel_rfl) (by kernel_rfl) (by kernel_rfl) (fun _ _ _ h => h) (by rfl) (fun w hw => run_addS w _ _ P6 XO Q6 rfl (by rfl) (by rfl) (by omega) EQ6.out) hHeld ?_
              simp only [Act.put, List.setIfInBounds_toArray, List.set_cons_zero, List.set_cons_succ]
              refine Cu.takeH 8 (some 187) (.string R6) rfl rfl (by kernel_rfl) (by kernel_rfl) (by kernel_rfl) (fun _ _ _ h => h) (by rfl) (fun w hw => run_addS w _ _ Q6 XS R6 rfl (by rfl) (by rfl) (by omega) ER6.out) hHeld ?_
              simp only [Act.put, List.setIfInBounds_toArray, List.set_cons_zero, List.set_cons_succ]
              refine wpAnyH_ready (rs := [9]) (by kernel_rfl) (by simp) (AllReadyH.cons rfl (fun K hK => ?_) AllReadyH.nil)
              rw [if_pos (by rfl)]
              go_simp
              refine (RR.out _).mono ?_
              rintro e wccacc ⟨rfl, hbq⟩
              try go_wp2_with fail
              have qN := qN.below hbq qN.lt
              refine hK.out _ _ (hHeld.trans (hbq.mono hHeld.size)) (fun hH => ?_)
              clear hbq
              clear hK hHeld
              have hHeld := hH
              clear hH
              refine Cu.takeH 10 (some 178) (.tuple #[.agg (tabv Z0.v 70), .int .i64 160]) rfl rfl (by kernel_rfl) (by kernel_rfl) (by kernel_rfl) (fun _ _ _ h => h) (by rfl) (fun w hw => run_mov w _ _ rfl (by rfl)) hHeld ?_
              simp only [Act.put, List.setIfInBounds_toArray, List.set_cons_zero, List.set_cons_succ]
              refine Cu.takeH 11 (some 189) (.agg (tabv Z0.v 70)) rfl rfl (by kernel_rfl) (by kernel_rfl) (by kernel_rfl) (fun _ _ _ h => h) (by rfl) (fun w hw => run_ext0 w _ _ _ rfl (by rfl)) hHeld ?_
              simp only [Act.put, List.setIfInBounds_toArray, List.set_cons_zero, List.set_cons_succ]
              refine Cu.takeH 12 (some 190) (.int .i64 160) rfl rfl (by kernel_rfl) (by kernel_rfl) (by kernel_rfl) (fun _ _ _ h => h) (by rfl) (fun w hw => run_ext1 w _ _ _ rfl (by rfl)) hHeld ?_
              simp only [Act.put, List.setIfInBounds_toArray, List.set_cons_zero, List.set_cons_succ]
              refine wpAnyH_ready (rs := [14]) (by kernel_rfl) (by simp) (AllReadyH.cons rfl (fun K hK => ?_) AllReadyH.nil)
              rw [if_pos (by rfl)]
              refine wp_store_partM 25 _ _ rfl rfl gN 0 Z0.v 70 rfl rfl 25 _ 70 qN (by omega) infoM (fun q _ => oneM _ q) Z0.v (fun q hq => by unfold splice; rw [if_pos (by omega), Nat.sub_zero]) ?_
              have bF : Below w9.heap.size w9 (wccacc.setRow gN (tabv Z0.v 70)) := below_setRow hHeld hgHs _
              refine hK.out _ _ bF (fun hH => ?_)
              clear hK hHeld bF
              have hHeld := hH
              clear hH
              refine Cu.takeH 15 (some 26) (.int .i64 160) rfl rfl (by kernel_rfl) (by kernel_rfl) (by kernel_rfl) (fun _ _ _ h => h) (by rfl) (fun w hw => by first | rfl | (go_simp; done) | (go_simp; rfl) | (go_simp; omega)) hHeld ?_
              simp only [Act.put, List.setIfInBounds_toArray, List.set_cons_zero, List.set_cons_succ]
              refine ⟨by kernel_rfl, ?_⟩
              refine NoPanic.normal ?_
              have bF := hHeld
              go_wp2
              go_meet
              exact ⟨rfl, bF⟩
          · rw [if_pos (by rfl)]
            go_simp
            have qN : Has (World.alloc wd (.cells Try.zeroCells25 25)) (Array.size (World.heap wd)) 25 Msg.zero.v 70 := by rw [zero70]; exact Has.new wd 25 _ 70 _ rfl
            have bN : Below (Array.size (World.heap wd)) wd (World.alloc wd (.cells Try.zeroCells25 25)) := (Below.refl _ _).alloc (Nat.le_refl _) _
            have hgHs : w9.heap.size ≤ Array.size (World.heap wd) := hHeld.size
            have sN := hHeld.trans (bN.mono hHeld.size)
            generalize hwe : World.alloc wd (.cells Try.zeroCells25 25) = wea at qN bN sN ⊢
            refine hK.out _ _ sN (fun hH => ?_)
            clear sN bN hwe
            clear hK hHeld
            have hHeld := hH
            clear hH
            generalize hgHe : Array.size (World.heap wd) = gN at qN hgHs ⊢
            try simp only [Act.put, List.setIfInBounds_toArray, List.set_cons_zero, List.set_cons_succ]
            refine wpAnyH_ready (rs := [1]) (by kernel_rfl) (by simp) (AllReadyH.cons rfl (fun K hK => ?_) AllReadyH.nil)
            rw [if_pos (by rfl)]
            go_simp
            refine (NA.out _).mono ?_
            rintro e wcac ⟨rfl, hbq⟩
            try go_wp2_with fail
            have qN := qN.below hbq qN.lt
            refine hK.out _ _ (hHeld.trans (hbq.mono hHeld.size)) (fun hH => ?_)
            clear hbq
            clear hK hHeld
            have hHeld := hH
            clear hH
            refine Cu.takeH 2 (some 181) (.string P6) rfl rfl (by kernel_rfl) (by kernel_rfl) (by kernel_rfl) (fun _ _ _ h => h) (by rfl) (fun w hw => run_addS w _ _ ⟨#[6]⟩ XA P6 rfl (by rfl) (by rfl) (by show 1 + _ ≤ _; omega) EP6.out) hHeld ?_
            simp only [Act.put, List.setIfInBounds_toArray, List.set_cons_zero, List.set_cons_succ]
            refine wpAnyH_ready (rs := [4]) (by kernel_rfl) (by simp) (AllReadyH.cons rfl (fun K hK => ?_) AllReadyH.nil)
            rw [if_pos (by rfl)]
            go_simp
            refine (NO.out _).mono ?_
            rintro e wcacc ⟨rfl, hbq⟩
            try go_wp2_with fail
            have qN := qN.below hbq qN.lt
            refine hK.out _ _ (hHeld.trans (hbq.mono hHeld.size)) (fun hH => ?_)
            clear hbq
            clear hK hHeld
            have hHeld := hH
            clear hH
            refine Cu.takeH 5 (some 184) (.string Q6) rfl rfl (by kernel_rfl) (by kernel_rfl) (by kernel_rfl) (fun _ _ _ h => h) (by rfl) (fun w hw => run_addS w _ _ P6 XO Q6 rfl (by rfl) (by rfl) (by omega) EQ6.out) hHeld ?_
            simp only [Act.put, List.setIfInBounds_toArray, List.set_cons_zero, List.set_cons_succ]
            refine Cu.takeH 8 (some 187) (.string R6) rfl rfl (by kernel_rfl) (by kernel_rfl) (by kernel_rfl) (fun _ _ _ h => h) (by rfl) (fun w hw => run_addS w _ _ Q6 XS R6 rfl (by rfl) (by rfl) (by omega) ER6.out) hHeld ?_
            simp only [Act.put, List.setIfInBounds_toArray, List.set_cons_zero, List.set_cons_succ]
            refine wpAnyH_ready (rs := [9]) (by kernel_rfl) (by simp) (AllReadyH.cons rfl (fun K hK => ?_) AllReadyH.nil)
            rw [if_pos (by rfl)]
            go_simp
            refine (RR.out _).mono ?_
            rintro e wcaccc ⟨rfl, hbq⟩
            try go_wp2_with fail
            have qN := qN.below hbq qN.lt
            refine hK.out _ _ (hHeld.trans (hbq.mono hHeld.size)) (fun hH => ?_)
            clear hbq
            clear hK hHeld
            have hHeld := hH
            clear hH
            refine Cu.takeH 10 (some 178) (.tuple #[.agg (tabv Z0.v 70), .int .i64 160]) rfl rfl (by kernel_rfl) (by kernel_rfl) (by kernel_rfl) (fun _ _ _ h => h) (by rfl) (fun w hw => run_mov w _ _ rfl (by rfl)) hHeld ?_
            simp only [Act.put, List.setIfInBounds_toArray, List.set_cons_zero, List.set_cons_succ]
            refine Cu.takeH 11 (some 189) (.agg (tabv Z0.v 70)) rfl rfl (by kernel_rfl) (by kernel_rfl) (by kernel_rfl) (fun _ _ _ h => h) (by rfl) (fun w hw => run_ext0 w _ _ _ rfl (by rfl)) hHeld ?_
            simp only [Act.put, List.setIfInBounds_toArray, List.set_cons_zero, List.set_cons_succ]
            refine Cu.takeH 12 (some 190) (.int .i64 160) rfl rfl (by kernel_rfl) (by kernel_rfl) (by kernel_rfl) (fun _ _ _ h => h) (by rfl) (fun w hw => run_ext1 w _ _ _ rfl (by rfl)) hHeld ?_
            simp only [Act.put, List.setIfInBounds_toArray, List.set_cons_zero, List.set_cons_succ]
            refine wpAnyH_ready (rs := [14]) (by kernel_rfl) (by simp) (AllReadyH.cons rfl (fun K hK => ?_) AllReadyH.nil)
            rw [if_pos (by rfl)]
            refine wp_store_partM 25 _ _ rfl rfl gN 0 Z0.v 70 rfl rfl 25 _ 70 qN (by omega) infoM (fun q _ => oneM _ q) Z0.v (fun q hq => by unfold splice; rw [if_pos (by omega), Nat.sub_zero]) ?_
            have bF : Below w9.heap.size w9 (wcaccc.setRow gN (tabv Z0.v 70)) := below_setRow hHeld hgHs _
            refine hK.out _ _ bF (fun hH => ?_)
            clear hK hHeld bF
            have hHeld := hH
            clear hH
            refine Cu.takeH 15 (some 26) (.int .i64 160) rfl rfl (by kernel_rfl) (by kernel_rfl) (by kernel_rfl) (fun _ _ _ h => h) (by rfl) (fun w hw => by first | rfl | (go_simp; done) | (go_simp; rfl) | (go_simp; omega)) hHeld ?_
            simp only [Act.put, List.setIfInBounds_toArray, List.set_cons_zero, List.set_cons_succ]
            refine ⟨by kernel_rfl, ?_⟩
            refine NoPanic.normal ?_
            have bF := hHeld
            go_wp2
            go_meet
            exact ⟨rfl, bF⟩
      case rest =>
      obtain ⟨rfl, hb30⟩ := hcut
      have K30 := hide (KW.out.below hb30)
      clear KW hb30 RR
      go_upto_region 31 with fail
      generalize hL7 : (⟨#[7]⟩ : ByteArray) = L7 at R7 a7 a8 a9 ⊢
      generalize hLx : (⟨#[120]⟩ : ByteArray) = Lx at R7 a8 a9 ⊢
      generalize L7 ++ XB = T1 at R7 a7 a8 a9
      generalize T1 ++ Lx = T2 at R7 a8 a9
      generalize T2 ++ note = T3 at R7 a9
      have a7 := a7.out
      have a8 := a8.out
      have a9 := a9.out
      clear hL7 hLx
      go_wp2_with fail
      refine (NB.out _).mono ?_
      rintro e wn1 ⟨rfl, hb⟩
      have K31 := hide (K30.out.below hb)
      clear hb K30
      go_wp2_with fail
      refine (R7.out _).mono ?_
      rintro e wn2 ⟨rfl, hb⟩
      obtain ⟨wq1, wq2, hWn, rn, hWq, rq, bq, _⟩ := newM wn2 Z0
      have RN := hide rn
      have K32 := hide ((K31.out.below hb).below bq)
      clear rn rq bq hb K31 a7 a8 a9
      go_wp2_with (first | rw [hWq] | refine wpList_storeM rfl _ _ rfl rfl (wn2.heap.size) (Z0) rfl rfl _ RN.out ?_ | fail)
      try rw [hWq]
      go_ret
      exact ⟨by first | rfl | simp, by first | exact K32.out.bel | (rw [hg7]; exact K32.out.bel)⟩
end Go.Proofs.Ytfohdolhobooiaa
