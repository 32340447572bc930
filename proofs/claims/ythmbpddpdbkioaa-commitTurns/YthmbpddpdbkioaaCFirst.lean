/-
  first (printed by gen_c7.py).
-/
import Derived.Test.YthmbpddpdbkioaaCRead
namespace Go.Proofs.Ythmbpddpdbkioaa
open Go.RowKit S
set_option linter.unusedVariables false
set_option linter.unusedSimpArgs false
open Cu (nb be hl hOf ofL num nil8 takeS takeA RS CW Mw CR Mr)
section
variable {P : Program} {ops : Array Oper} {rest : List Oper} {o : Oper} {a : Act} {w w' : World} {Q : Exit → Act → World → Prop}
theorem wpW_run (hw : Region.wanted o (yielded ops a.tmps) = true) (v : Value) (h : (execOp a.eval o).run P w = .ok (.value v) w') (k : wpList P ops Q rest (a.put o.dst v) w') : wpList P ops Q (o :: rest) a w := by
  refine wpList_step fun K hK => ?_
  rw [if_pos hw]
  exact wpRun h (hK _ _ k)
theorem wpW_index (hw : Region.wanted o (yielded ops a.tmps) = true) (t : TypeId) (x y : Operand) (ho : o.op = .index t x y) (X Y r : Value) (hx : a.eval x = X) (hy : a.eval y = Y) (h : (Instr.index t X Y).run P w = .ok r w) (k : wpList P ops Q rest (a.put o.dst r) w) : wpList P ops Q (o :: rest) a w :=
  wpW_run hw r (by unfold execOp; simp only [ho, hx, hy, h, Sem.run_bind, Result.andThen_ok]; rfl) k
end
theorem newHL (w : World) (h : Nat → UInt8) (x y : Int) (v : Value) : ∃ wE wF wG wH, w.alloc (.cells #[.int .u8 0, .int .u8 0, .int .u8 0, .int .u8 0, .int .u8 0, .int .u8 0, .int .u8 0, .int .u8 0, .int .u8 0, .int .u8 0, .int .u8 0, .int .u8 0, .int .u8 0, .int .u8 0, .int .u8 0, .int .u8 0, .int .u8 0, .int .u8 0, .int .u8 0, .int .u8 0, .int .u8 0, .int .u8 0, .int .u8 0, .int .u8 0, .int .u8 0, .int .u8 0, .int .u8 0, .int .u8 0, .int .u8 0, .int .u8 0, .int .u8 0, .int .u8 0] 30) = wE ∧ wE.alloc (.cells #[.int .i64 0, .int .i64 0, .slice none 0 0] 24) = wF ∧ wF.setRow w.heap.size (tabv (bv h) 32) = wG ∧ wG.setRow wE.heap.size (tabv (ledv x y v) 3) = wH ∧ Has wF w.heap.size 30 (bv (fun _ => 0)) 32 ∧ Has wG wE.heap.size 24 (ledv 0 0 (.slice none 0 0)) 3 ∧ Has wH w.heap.size 30 (bv h) 32 ∧ Has wH wE.heap.size 24 (ledv x y v) 3 ∧ Below w.heap.size w wH := by
  have r1 : Has (w.alloc (.cells #[.int .u8 0, .int .u8 0, .int .u8 0, .int .u8 0, .int .u8 0, .int .u8 0, .int .u8 0, .int .u8 0, .int .u8 0, .int .u8 0, .int .u8 0, .int .u8 0, .int .u8 0, .int .u8 0, .int .u8 0, .int .u8 0, .int .u8 0, .int .u8 0, .int .u8 0, .int .u8 0, .int .u8 0, .int .u8 0, .int .u8 0, .int .u8 0, .int .u8 0, .int .u8 0, .int .u8 0, .int .u8 0, .int .u8 0, .int .u8 0, .int .u8 0, .int .u8 0] 30)) w.heap.size 30 (bv (fun _ => 0)) 32 := by rw [zero32c]; exact Has.new w 30 _ 32 _ rfl
  generalize hE : w.alloc (.cells #[.int .u8 0, .int .u8 0, .int .u8 0, .int .u8 0, .int .u8 0, .int .u8 0, .int .u8 0, .int .u8 0, .int .u8 0, .int .u8 0, .int .u8 0, .int .u8 0, .int .u8 0, .int .u8 0, .int .u8 0, .int .u8 0, .int .u8 0, .int .u8 0, .int .u8 0, .int .u8 0, .int .u8 0, .int .u8 0, .int .u8 0, .int .u8 0, .int .u8 0, .int .u8 0, .int .u8 0, .int .u8 0, .int .u8 0, .int .u8 0, .int .u8 0, .int .u8 0] 30) = wE at r1
  have b1 : Below w.heap.size w wE := by rw [← hE]; exact (Below.refl _ _).alloc (Nat.le_refl _) _
  have r2 : Has (wE.alloc (.cells #[.int .i64 0, .int .i64 0, .slice none 0 0] 24)) wE.heap.size 24 (ledv 0 0 (.slice none 0 0)) 3 := by rw [zeroL]; exact Has.new wE 24 _ 3 _ rfl
  generalize hF : wE.alloc (.cells #[.int .i64 0, .int .i64 0, .slice none 0 0] 24) = wF at r2
  have b2 : Below wE.heap.size wE wF := by rw [← hF]; exact (Below.refl _ _).alloc (Nat.le_refl _) _
  have hlt := r1.lt
  have q1 := r1.below b2 r1.lt
  refine ⟨wE, wF, _, _, rfl, hF, rfl, rfl, q1, r2.row_other _ _ (by omega), (q1.row _ _ rfl).row_other _ _ (by omega), (r2.row_other _ _ (by omega)).row _ _ rfl, below_setRow (below_setRow (b1.trans (b2.mono b1.size)) (Nat.le_refl _) _) (by omega) _⟩
def p9 : Pen := ⟨true, 3, 9, fun _ => 0⟩
def h7 : Nat → UInt8 := fun i => if i = 0 then 7 else 0
set_option maxRecDepth 100000 in
theorem built_p9 : Try.prog.built 36 [(0, .bool true), (1, .int .i64 3), (2, .int .i64 9)] = some (tabv p9.v 35) := by kernel_rfl
set_option maxRecDepth 100000 in
theorem built_p9f : Try.prog.built 36 [(1, .int .i64 3), (2, .int .i64 9)] = some (tabv (flipP p9).v 35) := by kernel_rfl
theorem built_h7 : Try.prog.built 30 [(0, .int .u8 7)] = some (tabv (bv h7) 32) := by kernel_rfl
theorem ok_p9 : okP p9 = true := by decide +kernel
theorem snd_p9 : Snd 10 20 [p9] := ⟨⟨by decide +kernel, by decide +kernel⟩, fun i hi p hp => by
  have : i = 0 := by simpa using hi
  subst this
  simp only [List.getElem?_cons_zero, Option.some.injEq] at hp
  subst hp
  exact ⟨ok_p9, fun q h0 => absurd h0 (by omega)⟩, by decide +kernel, by decide +kernel⟩
theorem rng_p9 : Rng [p9] := fun p hp => by rw [List.mem_singleton] at hp; subst hp; decide
theorem arg15 : Arg 1 5 := by unfold Arg; omega
theorem txt_p9 : (textB 1 5 h7 10 20 [p9]).length = 108 := by rw [textB_length]; rfl
theorem txt_0 : Cu.byteAt (textB 1 5 h7 10 20 [p9]) 0 = 1 := by decide +kernel
theorem txt_8 : Cu.byteAt (textB 1 5 h7 10 20 [p9]) 8 = 5 := by decide +kernel
theorem txt_9 : Cu.byteAt (textB 1 5 h7 10 20 [p9]) 9 = 7 := by decide +kernel
theorem txt_59 : Cu.byteAt (textB 1 5 h7 10 20 [p9]) 59 = 1 := by decide +kernel
theorem turn_p9 : turnP [p9] = [flipP p9] := rfl
theorem idx_p9 {T : ByteArray} (hT : T = ofL (textB 1 5 h7 10 20 [p9])) (k : Nat) (hk : k < 108) (c : Nat) (hc : (Cu.byteAt (textB 1 5 h7 10 20 [p9]) k).toNat = c) (w : World) : (Instr.index 9 (.string T) (.int .i64 (k : Int))).run Try.prog w = .ok (.int .u8 (c : Int)) w := by
  have hs : T.size = 108 := by rw [hT, Cu.ofL_size, txt_p9]
  have := Cu.index_text T k (by omega) w
  rw [hT, Cu.ofL_data, hc] at this
  rw [hT]
  exact this
theorem Pens.new (w : World) (s : Pen) : Pens (w.alloc (.cells (tabv s.v 35) 36)) (some ⟨w.heap.size, 0, none⟩) [s] := .inr ⟨w.heap.size, 0, rfl, by rw [size_alloc]; omega, fun i u hu => by
  have hi : i = 0 := by have := (List.getElem?_eq_some_iff.1 hu).1; simpa using this
  subst hi
  simp only [List.getElem?_cons_zero, Option.some.injEq] at hu
  subst hu
  have h := Has.new w 36 s.v 35 _ rfl
  intro j hj
  rw [show 0 + 0 * 35 + j = j by omega]
  exact h.cell j hj⟩
set_option maxRecDepth 100000 in
set_option maxHeartbeats 4000000 in
theorem first_any (w : World) : Calls Try.prog 9 #[] w fun e w' => e = .returned (.bool true) ∧ Below w.heap.size w w' := by
  have RS1 := hide (run_sliceP w p9)
  have hP0 := Pens.new w p9
  obtain ⟨w1, hW1⟩ : ∃ z, w.alloc (.cells (tabv p9.v 35) 36) = z := ⟨_, rfl⟩
  rw [hW1] at RS1 hP0
  have b1 : Below w.heap.size w w1 := by rw [← hW1]; exact (Below.refl _ _).alloc (Nat.le_refl _) _
  obtain ⟨w2, w3, hW2, r2, hW3, r3, b3⟩ := newL w1 10 20 (.slice (some ⟨w.heap.size, 0, none⟩) 1 1)
  have R2 := hide r2
  have R3 := hide r3
  have gb3 : Below w.heap.size w w3 := b1.trans (b3.mono b1.size)
  have HP3 := hide (hP0.below b3)
  have hg01 : w.heap.size < w1.heap.size := by rw [← hW1, size_alloc]; omega
  clear hP0 r2 r3 b1 b3 hW1
  go_enter Try.func9, Try.ntmps9
  go_upto_region 2 with (first | refine wpW_build (by rfl) 36 #[(0, .const (.bool true)), (1, .const (.int .i64 3)), (2, .const (.int .i64 9))] rfl [(0, .bool true), (1, .int .i64 3), (2, .int .i64 9)] (by first | rfl | (simp [Act.eval, Act.put]; done)) _ built_p9 ?_ | refine wpList_slice1 rfl 22 _ rfl (.agg (tabv p9.v 35)) rfl RS1.out ?_ | refine wpW_build (by rfl) 24 #[(0, .const (.int .i64 10)), (1, .const (.int .i64 20)), (2, .tmp 11)] rfl [(0, .int .i64 10), (1, .int .i64 20), (2, (.slice (some ⟨w.heap.size, 0, none⟩) 1 1))] (by first | rfl | (simp [Act.eval, Act.put]; done)) _ (built_led 10 20 _ 1 1) ?_ | refine wpList_storeL rfl _ _ rfl rfl w1.heap.size 10 20 (.slice (some ⟨w.heap.size, 0, none⟩) 1 1) rfl rfl rfl _ R2.out ?_)
  try rw [hW3]
  generalize hg1 : w1.heap.size = g1 at R3 hg01 ⊢
  generalize hg0 : w.heap.size = g0 at R3 HP3 hg01 gb3 ⊢
  have HG01 := hide hg01
  have HG0 : Hid (w.heap.size = g0) := hg0
  clear hW2 hW3 R2 RS1 hg1 hg01
  go_wp2_with (first | refine wpW_build (by rfl) 30 #[(0, .const (.int .u8 7))] rfl [(0, .int .u8 7)] (by first | rfl | (simp [Act.eval, Act.put]; done)) _ built_h7 ?_ | refine wpW_load_at 24 _ rfl (g1) (0) (by rfl) (by rfl) _ 3 _ (R3.out.at_ 0 (by omega) (fun i hi => by rw [Nat.zero_add])) Try.underlying24 rfl infoL ?_ | fail)
  refine (text_any 1 5 h7 10 20 (some ⟨g0, 0, none⟩) 1 1 [p9] rfl (by omega) _ HP3.out).mono ?_
  rintro e w4 ⟨T, c4, rfl, hTA, hb4⟩
  obtain ⟨hT, hc4⟩ := hTA.good arg15 snd_p9
  subst hc4
  have HT := hide hT
  have R4 := hide (R3.out.below hb4 R3.out.lt)
  have HP4 := hide (HP3.out.below hb4)
  have gb4 : Below g0 w w4 := gb3.trans (hb4.mono (by have := R3.out.lt; have := HG01.out; omega))
  clear hTA hT hb4 gb3 R3 HP3
  go_wp2_with fail
  refine (read_any T _).mono ?_
  rintro e w5 ⟨o5, n5, h5, x5, y5, l5, v5, err5, rfl, hO5, hb5, hC5⟩
  have hRd : RdOk T 1 5 h7 10 20 [p9] := ⟨arg15, snd_p9, rng_p9, HT.out⟩
  obtain ⟨herr, hrd⟩ : err5 = 0 ∧ RdOk T o5 n5 h5 x5 y5 l5 := by
    rcases hC5 with h | h
    · exact h
    · exact absurd hRd (h.2.2.2.2.2.2.2 _ _ _ _ _ _)
  obtain ⟨e1, e2, e3, e4, e5, e6⟩ := hrd.one hRd
  subst herr e1 e2 e4 e5
  have E3 := hide e3
  have E6 := hide e6
  obtain ⟨ad5, c5, hv5, hS5, _, _, _⟩ := hO5.pens
  obtain ⟨n5', hn5⟩ : ∃ n, l5.length = n := ⟨_, rfl⟩
  rw [hn5] at hv5
  subst hv5
  have HN5 := hide hn5
  have hn5b : n5' ≤ 1 := by rw [← hn5, e6.1]; exact Nat.le_refl 1
  have HNB := hide hn5b
  have R5 := hide (R4.out.below hb5 R4.out.lt)
  have HP5 := hide (HP4.out.below hb5)
  have gb5 : Below g0 w w5 := gb4.trans (hb5.mono (by have := R4.out.lt; have := HG01.out; omega))
  clear hC5 hRd hrd e3 e6 hO5 hb5 gb4 R4 HP4 hn5 hn5b
  obtain ⟨wE, wF, wG, wH, hWE, hWF, hWG, hWH, qF, qG, qH, qL, bH⟩ := newHL w5 h5 10 20 (.slice ad5 n5' c5)
  have QF := hide qF
  have QG := hide qG
  have QH := hide qH
  have QL := hide qL
  have R6 := hide (R5.out.below bH R5.out.lt)
  have HP6 := hide (HP5.out.below bH)
  have HS6 := hide (hS5.below bH)
  have gb6 : Below g0 w wH := gb5.trans (bH.mono (by have := R5.out.lt; have := HG01.out; omega))
  clear qF qG qH qL bH gb5 R5 HP5 hS5
  go_upto_region 4 with (first | refine wpList_storeHH rfl _ _ rfl rfl w5.heap.size h5 rfl rfl _ QF.out ?_ | (rw [hWG]; refine wpList_storeL rfl _ _ rfl rfl wE.heap.size 10 20 (.slice ad5 n5' c5) rfl rfl rfl _ QG.out ?_) | refine wpList_storeL rfl _ _ rfl rfl wE.heap.size 10 20 (.slice ad5 n5' c5) rfl rfl rfl _ QG.out ?_)
  try rw [hWG]
  try rw [hWH]
  generalize hgh : w5.heap.size = gh at QH ⊢
  generalize hgl : wE.heap.size = gl at QL ⊢
  clear hWE hWF hWG hWH QF QG hgh hgl
  go_wp2_with (first | refine wpW_load_at 24 _ rfl (g1) (0) (by rfl) (by rfl) _ 3 _ (R6.out.at_ 0 (by omega) (fun i hi => by rw [Nat.zero_add])) Try.underlying24 rfl infoL ?_ | fail)
  refine (turn_any 10 20 (some ⟨g0, 0, none⟩) 1 1 [p9] rfl (by omega) _ HP6.out).mono ?_
  rintro e w7 ⟨⟨v7, rfl, hO7⟩, hb7⟩
  rw [turn_p9] at hO7
  obtain ⟨ad7, c7, hv7, hS7, _, _, _⟩ := hO7.pens
  subst hv7
  have R7 := hide (R6.out.below hb7 R6.out.lt)
  have HP7 := hide (HP6.out.below hb7)
  have HS7 := hide (HS6.out.below hb7)
  have QH7 := hide (QH.out.below hb7 QH.out.lt)
  have QL7 := hide (QL.out.below hb7 QL.out.lt)
  have gb7 : Below g0 w w7 := gb6.trans (hb7.mono (by have := R6.out.lt; have := HG01.out; omega))
  have HS7b := hide hS7
  clear hb7 gb6 R6 HP6 HS6 QH QL hO7 hS7
  obtain ⟨w8, w9, hW8, r8, hW9, r9, b9⟩ := newL w7 20 10 (.slice ad7 1 c7)
  have R8 := hide r8
  have R9 := hide r9
  have K1 := hide (R7.out.below b9 R7.out.lt)
  have HP9 := hide (HP7.out.below b9)
  have HS9 := hide (HS7.out.below b9)
  have HT9 := hide (HS7b.out.below b9)
  have QH9 := hide (QH7.out.below b9 QH7.out.lt)
  have QL9 := hide (QL7.out.below b9 QL7.out.lt)
  have gb9 : Below g0 w w9 := gb7.trans (b9.mono (by have := R7.out.lt; have := HG01.out; omega))
  clear r8 r9 b9 gb7 R7 HP7 HS7 HS7b QH7 QL7
  go_upto_region 5 with (first | refine wpList_storeL rfl _ _ rfl rfl w7.heap.size 20 10 (.slice ad7 1 c7) rfl rfl rfl _ R8.out ?_)
  try rw [hW9]
  generalize hg9 : w7.heap.size = g9 at R9 ⊢
  clear hW8 hW9 R8 hg9
  have HEQ : Hid (∀ w : World, (Op.equalIn 10000 30 (.agg (tabv (bv h5) 32)) (.agg (tabv (bv h7) 32))).run Try.prog w = .ok true w) := fun w => by rw [eq26]; exact congrArg (fun b => Result.ok b w) E3.out
  have hszT : ((T.size : Nat) : Int) = 108 := by rw [HT.out, Cu.ofL_size, txt_p9]; rfl
  have X0 : Hid (∀ w : World, (Instr.index 9 (.string T) (.int .i64 0)).run Try.prog w = .ok (.int .u8 1) w) := fun w => idx_p9 HT.out 0 (by omega) 1 (by rw [txt_0]; rfl) w
  have X8 : Hid (∀ w : World, (Instr.index 9 (.string T) (.int .i64 8)).run Try.prog w = .ok (.int .u8 5) w) := fun w => idx_p9 HT.out 8 (by omega) 5 (by rw [txt_8]; rfl) w
  have X9 : Hid (∀ w : World, (Instr.index 9 (.string T) (.int .i64 9)).run Try.prog w = .ok (.int .u8 7) w) := fun w => idx_p9 HT.out 9 (by omega) 7 (by rw [txt_9]; rfl) w
  have X59 : Hid (∀ w : World, (Instr.index 9 (.string T) (.int .i64 59)).run Try.prog w = .ok (.int .u8 1) w) := fun w => idx_p9 HT.out 59 (by omega) 1 (by rw [txt_59]; rfl) w
  go_wp2_with (first | refine wpW_index (by rfl) 9 (.tmp 41) (.const (.int .i64 0)) rfl (.string T) (.int .i64 0) (.int .u8 1) (by rfl) (by rfl) (X0.out _) ?_ | refine wpW_index (by rfl) 9 (.tmp 46) (.const (.int .i64 8)) rfl (.string T) (.int .i64 8) (.int .u8 5) (by rfl) (by rfl) (X8.out _) ?_ | refine wpW_index (by rfl) 9 (.tmp 51) (.const (.int .i64 9)) rfl (.string T) (.int .i64 9) (.int .u8 7) (by rfl) (by rfl) (X9.out _) ?_ | refine wpW_index (by rfl) 9 (.tmp 56) (.const (.int .i64 59)) rfl (.string T) (.int .i64 59) (.int .u8 1) (by rfl) (by rfl) (X59.out _) ?_ | refine wpW_load_at 30 _ rfl (gh) (0) (by rfl) (by rfl) _ 32 _ (QH9.out.at_ 0 (by omega) (fun i hi => by rw [Nat.zero_add])) Try.underlying30 rfl info26 ?_ | refine wpW_build (by rfl) 30 #[(0, .const (.int .u8 7))] rfl [(0, .int .u8 7)] (by first | rfl | (simp [Act.eval, Act.put]; done)) _ built_h7 ?_ | refine wpW_run (by rfl) (.bool true) (run_eqH _ (.tmp 69) (.tmp 70) (tabv (bv h5) 32) (tabv (bv h7) 32) true rfl (by rfl) (by rfl) (HEQ.out _)) ?_ | refine wpW_load_at 24 _ rfl (gl) (0) (by rfl) (by rfl) _ 3 _ (QL9.out.at_ 0 (by omega) (fun i hi => by rw [Nat.zero_add])) Try.underlying24 rfl infoL ?_ | refine wpW_load_at 24 _ rfl (g1) (0) (by rfl) (by rfl) _ 3 _ (K1.out.at_ 0 (by omega) (fun i hi => by rw [Nat.zero_add])) Try.underlying24 rfl infoL ?_ | fail)
  refine (same_any 10 20 10 20 ad5 (some ⟨g0, 0, none⟩) n5' c5 1 1 l5 [p9] HN5.out rfl (by have := HNB.out; omega) (by omega) _ HS9.out HP9.out).mono ?_
  rintro e wP ⟨R, rfl, hR, hbP⟩
  obtain rfl : R = true := hR.2 ⟨rfl, rfl, E6.out⟩
  have R9P := hide (R9.out.below hbP R9.out.lt)
  have HTP := hide (HT9.out.below hbP)
  have gbP : Below g0 w wP := gb9.trans (hbP.mono (by have := K1.out.lt; have := HG01.out; omega))
  clear hR hbP gb9 R9 HT9
  have RSP := hide (run_sliceP wP (flipP p9))
  have hPF := Pens.new wP (flipP p9)
  have bF : Below wP.heap.size wP (wP.alloc (.cells (tabv (flipP p9).v 35) 36)) := (Below.refl _ _).alloc (Nat.le_refl _) _
  have HTF := hide (HTP.out.below bF)
  have gbF : Below g0 w (wP.alloc (.cells (tabv (flipP p9).v 35) 36)) := gbP.trans (bF.mono (by have := R9P.out.lt; have := gbP.size; have := HG0.out; omega))
  generalize hWZ : wP.alloc (.cells (tabv (flipP p9).v 35) 36) = wZ at RSP hPF HTF gbF
  have HPF := hide hPF
  have hsZ : g0 ≤ wP.heap.size := by have := gbP.size; have := HG0.out; omega
  clear hPF bF gbP HTP hWZ
  go_wp2_with (first | refine wpW_load_at 24 _ rfl (g9) (0) (by rfl) (by rfl) _ 3 _ (R9P.out.at_ 0 (by omega) (fun i hi => by rw [Nat.zero_add])) Try.underlying24 rfl infoL ?_ | refine wpW_build (by rfl) 36 #[(1, .const (.int .i64 3)), (2, .const (.int .i64 9))] rfl [(1, .int .i64 3), (2, .int .i64 9)] (by first | rfl | (simp [Act.eval, Act.put]; done)) _ built_p9f ?_ | refine wpW_slice1 (by rfl) 22 (.tmp 80) rfl (.agg (tabv (flipP p9).v 35)) (by rfl) RSP.out ?_ | refine wpW_build (by rfl) 24 #[(0, .const (.int .i64 20)), (1, .const (.int .i64 10)), (2, .tmp 81)] rfl [(0, .int .i64 20), (1, .int .i64 10), (2, .slice (some ⟨wP.heap.size, 0, none⟩) 1 1)] (by first | rfl | (simp [Act.eval, Act.put]; done)) _ (built_led 20 10 _ 1 1) ?_ | fail)
  refine (same_any 20 10 20 10 ad7 (some ⟨wP.heap.size, 0, none⟩) 1 c7 1 1 [flipP p9] [flipP p9] rfl rfl (by omega) (by omega) _ HTF.out HPF.out).mono ?_
  rintro e wQ ⟨R, rfl, hR, hbQ⟩
  obtain rfl : R = true := hR.2 ⟨rfl, rfl, eqL_refl _⟩
  have gbQ : Below g0 w wQ := gbF.trans (hbQ.mono (by have := gbF.size; have := HG0.out; omega))
  clear hR hbQ gbF
  go_wp2
  go_ret
  exact ⟨rfl, by first | exact gbQ | (rw [hg0]; exact gbQ)⟩
end Go.Proofs.Ythmbpddpdbkioaa
