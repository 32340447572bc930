/-
  head (printed by gen_m6.py).
-/
import Derived.Test.YtfohdolhobooiaaMWrite
namespace Go.Proofs.Ytfohdolhobooiaa
open Go.RowKit S
set_option linter.unusedVariables false
set_option linter.unusedSimpArgs false
open Cu (nb be hl ofL CW Mw CR Mr RS takeS takeA hOf nil8 num doneS)
section
variable {ops : Array Oper} {rest : List Oper} {o : Oper} {a : Act} {w : World} {Q : Exit → Act → World → Prop}
theorem run_eqUm {o : Oper} {a : Act} (w : World) (x y : Operand) (s t : Upd) (R : Bool) (ho : o.op = .binOp .eql 34 x y 34) (hx : a.eval x = .agg (tabv s.v 36)) (hy : a.eval y = .agg (tabv t.v 36)) (hq : eqU s t = R) : (execOp a.eval o).run Try.prog w = .ok (.value (.bool R)) w := by
  have gh := guardU
  have hq2 : ∀ w : World, (Op.equalIn 10000 34 (.agg (tabv s.v 36)) (.agg (tabv t.v 36))).run Try.prog w = .ok R w := fun w => by rw [eqUD, hq]
  unfold execOp
  simp only [ho, hx, hy]
  go_simp
theorem run_neUm {o : Oper} {a : Act} (w : World) (x y : Operand) (s t : Upd) (R : Bool) (ho : o.op = .binOp .neq 34 x y 34) (hx : a.eval x = .agg (tabv s.v 36)) (hy : a.eval y = .agg (tabv t.v 36)) (hq : eqU s t = R) : (execOp a.eval o).run Try.prog w = .ok (.value (.bool (!R))) w := by
  have gh := guardU
  have hq2 : ∀ w : World, (Op.equalIn 10000 34 (.agg (tabv s.v 36)) (.agg (tabv t.v 36))).run Try.prog w = .ok R w := fun w => by rw [eqUD, hq]
  unfold execOp
  simp only [ho, hx, hy]
  go_simp
theorem wpW_eqUm (hw : Region.wanted o (yielded ops a.tmps) = true) (x y : Operand) (ho : o.op = .binOp .eql 34 x y 34) (s t : Upd) (R : Bool) (hx : a.eval x = .agg (tabv s.v 36)) (hy : a.eval y = .agg (tabv t.v 36)) (hq : eqU s t = R)
    (k : wpList Try.prog ops Q rest (a.put o.dst (.bool R)) w) : wpList Try.prog ops Q (o :: rest) a w := by
  refine wpList_step fun K hK => ?_
  rw [if_pos hw]
  exact wpRun (run_eqUm w x y s t R ho hx hy hq) (hK _ _ k)
end
def m1H : Msg := ⟨7, 0, 0, 3, 0, z32, z32, nilB⟩
def m4H : Msg := ⟨4, 0, 0, -1, 0, z32, z32, nilB⟩
def m5H : Msg := ⟨1, 9, 0, 7, 0, z32, z32, nilB⟩
def u6H : Upd := ⟨9, 0, 0, z32, ⟨#[120]⟩⟩
def u1H : Upd := ⟨1, 9, 0, z32, nilB⟩
def xH : Msg := ⟨9, 0, 0, 0, 0, z32, z32, ⟨#[120]⟩⟩
def tH : ByteArray := ⟨#[4, 0, 0, 0, 0, 0, 0, 1, 2, 49, 50, 51, 52, 53, 54, 55, 56, 57, 48, 49, 50, 51, 52, 53, 54, 55, 56, 57, 48, 49, 50, 51, 52, 53, 54, 55, 56, 57, 48, 49, 50]⟩
set_option maxRecDepth 100000 in
theorem built1 : Try.prog.built 25 [(0, .int .i64 7), (3, .int .i64 3)] = some (tabv m1H.v 70) := by kernel_rfl
set_option maxRecDepth 100000 in
theorem built4 : Try.prog.built 25 [(0, .int .i64 4), (3, .int .i64 (-1))] = some (tabv m4H.v 70) := by kernel_rfl
set_option maxRecDepth 100000 in
theorem built5 : Try.prog.built 25 [(0, .int .i64 1), (1, .int .i64 9), (3, .int .i64 7)] = some (tabv m5H.v 70) := by kernel_rfl
set_option maxRecDepth 100000 in
theorem built6 : Try.prog.built 34 [(0, .int .i64 9), (4, .string ⟨#[120]⟩)] = some (tabv u6H.v 36) := by kernel_rfl
set_option maxRecDepth 100000 in
theorem built7 : Try.prog.built 34 [(0, .int .i64 1), (1, .int .i64 9)] = some (tabv u1H.v 36) := by kernel_rfl
set_option maxRecDepth 100000 in
theorem built8 : Try.prog.built 25 [(0, .int .i64 9), (7, .string ⟨#[120]⟩)] = some (tabv xH.v 70) := by kernel_rfl
theorem h1S : wrS m1H = ⟨#[7, 0, 0, 0, 0, 0, 0, 0, 3]⟩ := by decide +kernel
theorem h1E : wrE m1H = 0 := by decide +kernel
theorem h4E : wrE m4H = 160 := by decide +kernel
theorem h2K : (rdC tH).1.kind = 4 := by rw [rdC_of]; decide +kernel
theorem h2I : (rdC tH).1.idx = 258 := by rw [rdC_of]; decide +kernel
theorem h2H : (rdC tH).1.hash 31 = 50 := by rw [rdC_of]; decide +kernel
theorem h2E : (rdC tH).2 = 0 := by rw [rdC_of]; decide +kernel
theorem h3E : (rdC ⟨#[8]⟩).2 = 160 := by rw [rdC_of]; decide +kernel
theorem h5U : m5H.upd = u1H := rfl
theorem h6M : ofU u6H = xH := rfl
theorem h7U : eqU u1H u1H = true := eqU_refl _
set_option maxRecDepth 100000 in
set_option maxHeartbeats 4000000 in
theorem mhead_any (w : World) : Calls Try.prog 7 #[] w fun e w' => e = .returned (.bool true) ∧ Below w.heap.size w w' := by
  have A1 := hide (mwrite_any m1H)
  rw [h1S, h1E] at A1
  have A4 := hide (mwrite_any m4H)
  rw [h4E] at A4
  have A2 := fun w => mread_any tH w (by decide)
  rw [h2E] at A2
  have e1 := h2K
  have e2 := h2I
  have e3 := h2H
  generalize (rdC tH).1 = m2 at A2 e1 e2 e3
  have A3 := fun w => mread_any ⟨#[8]⟩ w (by decide)
  rw [h3E] at A3
  generalize (rdC ⟨#[8]⟩).1 = m3 at A3
  generalize wrS m4H = s4 at A4
  have A2 := hide A2
  have A3 := hide A3
  have E1 := hide e1
  have E2 := hide e2
  have E3 := hide e3
  have A5 := hide (fun w => update_any_yes m5H (.inl rfl) w)
  rw [h5U] at A5
  have A6 := hide (fun w => of_any u6H w)
  rw [h6M] at A6
  clear e1 e2 e3
  go_enter Try.func7, Try.ntmps7
  go_wp2_with (first | refine wpW_build (by rfl) 25 #[(0, .const (.int .i64 7)), (3, .const (.int .i64 3))] rfl [(0, .int .i64 7), (3, .int .i64 3)] (by first | rfl | (simp [Act.eval, Act.put]; done)) _ built1 ?_ | fail)
  refine (A1.out _).mono ?_
  rintro e w1 ⟨rfl, hb1⟩
  have GB : Hid (Below w.heap.size w w1) := hb1
  clear hb1 A1
  go_wp2_with fail
  refine (A2.out _).mono ?_
  rintro e w2 ⟨rfl, hb2⟩
  obtain ⟨w3, w4, hW3, r3, hW4, r4, b4, b3⟩ := newM w2 m2
  have R3 := hide r3
  have R4 := hide r4
  have GB4 : Hid (Below w.heap.size w w4) := (GB.out.trans (hb2.mono GB.out.size)).trans (b4.mono (Nat.le_trans GB.out.size hb2.size))
  clear hb2 r3 r4 b4 b3 GB A2
  go_upto_region 3 with (first | refine wpList_storeM rfl _ _ rfl rfl (w2.heap.size) (m2) rfl rfl _ R3.out ?_ | fail)
  try rw [hW4]
  generalize hgq : w2.heap.size = g2 at R4 ⊢
  clear hW3 hW4 R3 hgq
  go_wp2_with fail
  refine (A3.out _).mono ?_
  rintro e w5 ⟨rfl, hb5⟩
  obtain ⟨w6, w7, hW6, r6, hW7, r7, b7, b6⟩ := newM w5 m3
  have R6 := hide r6
  have Q5 := R4.out.below hb5 R4.out.lt
  have R7 := hide (Q5.below b7 Q5.lt)
  have GB7 : Hid (Below w.heap.size w w7) := (GB4.out.trans (hb5.mono GB4.out.size)).trans (b7.mono (Nat.le_trans GB4.out.size hb5.size))
  clear hb5 r6 r7 b7 b6 Q5 R4 GB4 A3
  go_upto_region 4 with (first | refine wpList_storeM rfl _ _ rfl rfl (w5.heap.size) (m3) rfl rfl _ R6.out ?_ | fail)
  try rw [hW7]
  clear hW6 hW7 R6
  go_wp2_with (first | refine wpW_build (by rfl) 25 #[(0, .const (.int .i64 4)), (3, .const (.int .i64 (-1)))] rfl [(0, .int .i64 4), (3, .int .i64 (-1))] (by first | rfl | (simp [Act.eval, Act.put]; done)) _ built4 ?_ | fail)
  refine (A4.out _).mono ?_
  rintro e w8 ⟨rfl, hb8⟩
  have R8 := hide (R7.out.below hb8 R7.out.lt)
  have GB8 : Hid (Below w.heap.size w w8) := GB7.out.trans (hb8.mono GB7.out.size)
  clear hb8 R7 GB7 A4
  go_wp2_with (first | refine wpW_build (by rfl) 25 #[(0, .const (.int .i64 1)), (1, .const (.int .i64 9)), (3, .const (.int .i64 7))] rfl [(0, .int .i64 1), (1, .int .i64 9), (3, .int .i64 7)] (by first | rfl | (simp [Act.eval, Act.put]; done)) _ built5 ?_ | fail)
  refine (A5.out _).mono ?_
  rintro e w9 ⟨rfl, hb9⟩
  obtain ⟨w10, w11, hW10, r10, hW11, r11, b11, b10⟩ := newU2 w9 u1H
  have R10 := hide r10
  have Q9 := R8.out.below hb9 R8.out.lt
  have R11 := hide (Q9.below b11 Q9.lt)
  have V11 := hide r11
  have GB11 : Hid (Below w.heap.size w w11) := (GB8.out.trans (hb9.mono GB8.out.size)).trans (b11.mono (Nat.le_trans GB8.out.size hb9.size))
  clear hb9 r10 r11 b11 b10 Q9 R8 GB8 A5
  go_upto_region 6 with (first | refine wpList_storeU rfl _ _ rfl rfl (w9.heap.size) (u1H) rfl rfl _ R10.out ?_ | fail)
  try rw [hW11]
  generalize hgq : w9.heap.size = g9 at V11 ⊢
  clear hW10 hW11 R10 hgq
  go_wp2_with (first | refine wpW_build (by rfl) 34 #[(0, .const (.int .i64 9)), (4, .const (.string ⟨#[120]⟩))] rfl [(0, .int .i64 9), (4, .string ⟨#[120]⟩)] (by first | rfl | (simp [Act.eval, Act.put]; done)) _ built6 ?_ | fail)
  refine (A6.out _).mono ?_
  rintro e w12 ⟨rfl, hb12⟩
  obtain ⟨w13, w14, hW13, r13, hW14, r14, b14, b13⟩ := newM w12 xH
  have R13 := hide r13
  have Q12 := R11.out.below hb12 R11.out.lt
  have R14 := hide (Q12.below b14 Q12.lt)
  have P12 := V11.out.below hb12 V11.out.lt
  have V14 := hide (P12.below b14 P12.lt)
  have X14 := hide r14
  have GB14 : Hid (Below w.heap.size w w14) := (GB11.out.trans (hb12.mono GB11.out.size)).trans (b14.mono (Nat.le_trans GB11.out.size hb12.size))
  clear hb12 r13 r14 b14 b13 Q12 P12 R11 V11 GB11 A6
  go_upto_region 7 with (first | refine wpList_storeM rfl _ _ rfl rfl (w12.heap.size) (xH) rfl rfl _ R13.out ?_ | fail)
  try rw [hW14]
  generalize hgq : w12.heap.size = g12 at X14 ⊢
  clear hW13 hW14 R13 hgq
  have c0 : w14.cell? ⟨g2, 0, none⟩ = some (.int .i64 4) := by rw [← E1.out]; exact R14.out.cell 0 (by omega)
  have c3 : w14.cell? ⟨g2, 3, none⟩ = some (.int .i64 258) := by rw [← E2.out]; exact R14.out.cell 3 (by omega)
  have c36 : w14.cell? ⟨g2, 36, none⟩ = some (.int .u8 50) := by
    have h : w14.cell? ⟨g2, 36, none⟩ = some (.int .u8 ((m2.hash 31).toNat : Int)) := R14.out.cell 36 (by omega)
    rw [E3.out] at h
    exact h
  clear E1 E2 E3 R14
  go_wp2_with (first | refine wpW_load_at 34 _ rfl (g9) (0) (by rfl) (by rfl) _ 36 _ (V14.out.at_ 0 (by omega) (fun i hi => by rw [Nat.zero_add])) Try.underlying34 rfl infoU ?_ | refine wpW_build (by rfl) 34 #[(0, .const (.int .i64 1)), (1, .const (.int .i64 9))] rfl [(0, .int .i64 1), (1, .int .i64 9)] (by first | rfl | (simp [Act.eval, Act.put]; done)) _ built7 ?_ | refine wpW_eqUm (by rfl) (.tmp 72) (.tmp 73) rfl u1H u1H true (by rfl) (by rfl) (eqU_refl _) ?_ | refine wpW_load_at 25 _ rfl (g12) (0) (by rfl) (by rfl) _ 70 _ (X14.out.at_ 0 (by omega) (fun i hi => by rw [Nat.zero_add])) Try.underlying25 rfl infoM ?_ | refine wpW_build (by rfl) 25 #[(0, .const (.int .i64 9)), (7, .const (.string ⟨#[120]⟩))] rfl [(0, .int .i64 9), (7, .string ⟨#[120]⟩)] (by first | rfl | (simp [Act.eval, Act.put]; done)) _ built8 ?_ | refine wpW_eqM (by rfl) (.tmp 80) (.tmp 81) rfl xH xH true (by rfl) (by rfl) (eqM_refl _) ?_ | fail)
  go_ret
  exact ⟨rfl, GB14.out⟩
end Go.Proofs.Ytfohdolhobooiaa
