/-
  lay and Write of the code (printed by gen_m5.py).
-/
import Derived.Test.YtfohdolhobooiaaMRead
namespace Go.Proofs.Ytfohdolhobooiaa
open Go.RowKit S
set_option linter.unusedVariables false
set_option linter.unusedSimpArgs false
open Cu (nb be hl ofL CW Mw CR Mr RS takeS takeA hOf nil8 num doneS)
/-- lay's variables. -/
structure LS (w0 : World) (g p : Nat) (m : Msg) (L : List UInt8) (v : Value) (w : World) : Prop where
  cw : CW w p v (some L)
  var : Has w g 25 m.v 70
  bel : Below g w0 w
  lt : g < p
theorem LS.call {w0 : World} {g p : Nat} {m : Msg} {L L' : List UInt8} {v v' : Value} {w w' : World} (h : LS w0 g p m L v w) (hC : CW w' p v' (some L')) (hM : Mw p w v w' v') : LS w0 g p m L' v' w' :=
  ⟨hC, h.var.mw hM h.lt h.cw, below_mw h.bel hM (Nat.le_of_lt h.lt) (Nat.le_of_lt h.var.lt) h.cw, h.lt⟩
theorem u64_nat (x : Int) : IntKind.u64.wrap x = (U64n x : Int) := by unfold U64n; rw [IntKind.wrap_u64]; omega
theorem u8_nat (x : Int) : IntKind.u8.wrap x = (U8n x : Int) ∧ U8n x < 256 := by unfold U8n; rw [IntKind.wrap_u8]; omega
set_option maxRecDepth 100000 in
set_option maxHeartbeats 4000000 in
theorem lay_yes (m : Msg) (hk : isU m.kind) (w : World) : Calls Try.prog 20 #[.agg (tabv m.v 70)] w fun e w' => e = .returned (.string (ofL (layL m))) ∧ Below w.heap.size w w' := by
  have HL : Hid (writeS m.upd = ofL (layL m)) := by
    show _ = _
    unfold writeS layL
    rw [if_pos hk]
    split <;> rfl
  obtain ⟨w1, hW1⟩ : ∃ wX, w.alloc (.cells (tabv m.v 70) 25) = wX := ⟨_, rfl⟩
  have r1 : Has w1 w.heap.size 25 m.v 70 := by rw [← hW1]; exact Has.new w 25 m.v 70 _ rfl
  have b1 : Below w.heap.size w w1 := by rw [← hW1]; exact (Below.refl w.heap.size w).alloc (Nat.le_refl _) _
  have R1 := hide r1
  go_enter Try.func20, Try.ntmps20
  go_wp2_with (first | refine wpW_load_at 25 _ rfl (w.heap.size) (0) (by rfl) (by rfl) _ 70 _ (R1.out.at_ 0 (by omega) (fun i hi => by rw [Nat.zero_add])) Try.underlying25 rfl infoM ?_ | fail)
  refine (update_any_yes m hk _).mono ?_
  rintro e w2 ⟨rfl, hb2⟩
  obtain ⟨w3, w4, hW3, r3, hW4, r4, b4, b3⟩ := newU2 w2 m.upd
  have R3 := hide r3
  have R4 := hide r4
  have gb4 : Hid (Below w.heap.size w w4) := (b1.trans (hb2.mono b1.size)).trans (b4.mono (Nat.le_trans b1.size hb2.size))
  clear hk hW1 r1 b1 hb2 r3 r4 b4 b3 R1
  go_wp2_with (first | rw [hW4] | refine wpList_storeU rfl _ _ rfl rfl (w2.heap.size) (m.upd) rfl rfl _ R3.out ?_ | refine wpW_load_at 34 _ rfl (w2.heap.size) (0) (by rfl) (by rfl) _ 36 _ (R4.out.at_ 0 (by omega) (fun i hi => by rw [Nat.zero_add])) Try.underlying34 rfl infoU ?_ | fail)
  try rw [hW4]
  refine (write_any m.upd _).mono ?_
  rintro e w5 ⟨rfl, hb5⟩
  have gb5 : Below w.heap.size w w5 := gb4.out.trans (hb5.mono gb4.out.size)
  go_wp2
  go_ret
  exact ⟨congrArg (fun s => Ending.returned (.string s)) HL.out, gb5⟩
set_option maxRecDepth 100000 in
set_option maxHeartbeats 4000000 in
theorem lay_no (m : Msg) (hk : ¬isU m.kind) (w : World) : Calls Try.prog 20 #[.agg (tabv m.v 70)] w fun e w' => e = .returned (.string (ofL (layL m))) ∧ Below w.heap.size w w' := by
  have HK := hide hk
  obtain ⟨w1, hW1⟩ : ∃ wX, w.alloc (.cells (tabv m.v 70) 25) = wX := ⟨_, rfl⟩
  have r1 : Has w1 w.heap.size 25 m.v 70 := by rw [← hW1]; exact Has.new w 25 m.v 70 _ rfl
  have b1 : Below w.heap.size w w1 := by rw [← hW1]; exact (Below.refl w.heap.size w).alloc (Nat.le_refl _) _
  have R1 := hide r1
  go_enter Try.func20, Try.ntmps20
  go_wp2_with (first | refine wpW_load_at 25 _ rfl (w.heap.size) (0) (by rfl) (by rfl) _ 70 _ (R1.out.at_ 0 (by omega) (fun i hi => by rw [Nat.zero_add])) Try.underlying25 rfl infoM ?_ | fail)
  refine (update_any_no m HK.out _).mono ?_
  rintro e w2 ⟨rfl, hb2⟩
  obtain ⟨w3, w4, hW3, r3, hW4, r4, b4, b3⟩ := newU2 w2 Upd.zero
  have R3 := hide r3
  have Q2 := r1.below hb2 r1.lt
  have Q4 := hide (Q2.below b4 Q2.lt)
  have gb4 : Hid (Below w.heap.size w w4) := (b1.trans (hb2.mono b1.size)).trans (b4.mono (Nat.le_trans b1.size hb2.size))
  clear hk hW1 r1 b1 hb2 r4 b4 b3 R1 Q2 r3
  go_upto_region 2 with (first | refine wpList_storeU rfl _ _ rfl rfl (w2.heap.size) (Upd.zero) rfl rfl _ R3.out ?_ | fail)
  try rw [hW4]
  clear hW3 hW4 R3
  generalize hg : w.heap.size = g at Q4 gb4 ⊢
  go_wp2_with fail
  refine (Cu.wNew _).mono ?_
  rintro e w5 ⟨rfl, hC5, hb5, hs5⟩
  have M5 : Hid (LS w g w4.heap.size m [] (.slice none 0 0) w5) := ⟨hC5, Q4.out.below hb5 Q4.out.lt, gb4.out.trans (hb5.mono (Nat.le_of_lt Q4.out.lt)), Q4.out.lt⟩
  generalize w4.heap.size = p at M5 ⊢
  clear hC5 hb5 hs5 Q4 gb4
  obtain ⟨K, hKn⟩ : ∃ K, m.kind = K := ⟨_, rfl⟩
  have KC : Hid (∀ w : World, (convert 3 5 (.int .i64 K)).run Try.prog w = .ok (.int .u8 (U8n K : Int)) w) := fun w => by
    have h := run_convert_int (P := Try.prog) (w := w) 3 5 .i64 K (by kernel_rfl) (by kernel_rfl)
    rw [show Try.prog.intKind 5 = .u8 by kernel_rfl, (u8_nat K).1] at h
    exact h
  have c0 : w5.cell? ⟨g, 0, none⟩ = some (.int .i64 K) := by rw [← hKn]; exact M5.out.var.cell 0 (by omega)
  have HKn := hide hKn
  clear hKn
  go_wp2_with (first | refine Cu.wpList_conv rfl _ _ _ rfl .i64 .u8 K (U8n K : Int) (by rfl) (KC.out _) ?_ | fail)
  refine (Cu.wU8 (U8n K : Int) (U8n K) (u8_nat K).2 rfl p _ (some []) _ M5.out.cw (fun l e => by cases e; simp)).mono ?_
  rintro e w6 ⟨rfl, v6, hC6, hM6⟩
  have hC6 : CW w6 p v6 (some ([] ++ nb (U8n K) 1)) := hC6
  have M6 := hide (M5.out.call hC6 hM6)
  have c3 : w6.cell? ⟨g, 3, none⟩ = some (.int .i64 m.idx) := M6.out.var.cell 3 (by omega)
  clear hC6 hM6 M5 c0 KC
  go_wp2_with fail
  refine (Cu.wI64 m.idx (U64n m.idx) (u64_nat _) p v6 (some ([] ++ nb (U8n K) 1)) _ M6.out.cw (fun l e => by cases e; simp [Cu.nb_length])).mono ?_
  rintro e w7 ⟨rfl, v7, hC7, hM7⟩
  have hC7 : CW w7 p v7 (some (([] ++ nb (U8n K) 1) ++ nb (U64n m.idx) 8)) := hC7
  have M7 := hide (M6.out.call hC7 hM7)
  have hl7 : ((([] : List UInt8) ++ nb (U8n K) 1) ++ nb (U64n m.idx) 8).length = 9 := by simp [Cu.nb_length]
  generalize hL7 : (([] : List UInt8) ++ nb (U8n K) 1) ++ nb (U64n m.idx) 8 = L7 at M7 hl7
  have HL7 : Hid (nb (U8n K) 1 ++ nb (U64n m.idx) 8 = L7) := by show _ = _; rw [← hL7]; rfl
  have c0 : w7.cell? ⟨g, 0, none⟩ = some (.int .i64 K) := by rw [← HKn.out]; exact M7.out.var.cell 0 (by omega)
  clear hC7 hM7 hL7 M6 c3
  have HLL : Hid (layL m = L7 ++ layT m) := by
    show _ = _
    unfold layL
    rw [if_neg HK.out, HKn.out, ← HL7.out, List.append_assoc]
  clear HL7 HK
  go_upto_region 9 with fail
  by_cases k4 : K = 4
  · have HT : Hid (layT m = hl m.hash) := by show _ = _; unfold layT; rw [HKn.out, k4]; rfl
    subst k4
    clear HKn
    have aH : Hid (At w7 g 5 (bv m.hash) 32) := M7.out.var.atHash
    go_wp2_with (first | refine wpW_load_at 23 _ rfl (g) (5) (by rfl) (by rfl) _ 32 _ (aH.out) Try.underlying23 rfl info26 ?_ | fail)
    refine (Cu.wHash m.hash p v7 (some (L7)) _ M7.out.cw (fun l e => by cases e; simp [Cu.nb_length, Cu.hl_length, hl7])).mono ?_
    rintro e w8 ⟨rfl, v8, hCq, hMq⟩
    have hCq : CW w8 p v8 (some (L7 ++ hl m.hash)) := hCq
    have M8 := hide (M7.out.call hCq hMq)
    clear hCq hMq M7 aH
    go_wp2_with fail
    refine (Cu.wOut p v8 (some (L7 ++ hl m.hash)) _ M8.out.cw).mono ?_
    rintro e wo ⟨rfl, hbo⟩
    have gbo : Below g w wo := M8.out.bel.trans (hbo.mono (Nat.le_of_lt M8.out.var.lt))
    go_wp2
    go_ret
    exact ⟨by rw [HLL.out, HT.out]; (first | rfl | (rw [List.append_nil]; rfl) | (rw [← List.append_assoc]; rfl)), by first | exact gbo | (rw [hg]; exact gbo)⟩
  have b4 : (K == 4) = false := beq_false_of_ne k4
  by_cases k5 : K = 5
  · have HT : Hid (layT m = hl m.sec ++ hl m.hash) := by show _ = _; unfold layT; rw [HKn.out, k5]; rfl
    subst k5
    clear HKn
    have aH : Hid (At w7 g 37 (bv m.sec) 32) := M7.out.var.atSec
    go_wp2_with (first | refine wpW_load_at 23 _ rfl (g) (37) (by rfl) (by rfl) _ 32 _ (aH.out) Try.underlying23 rfl info26 ?_ | fail)
    refine (Cu.wHash m.sec p v7 (some (L7)) _ M7.out.cw (fun l e => by cases e; simp [Cu.nb_length, Cu.hl_length, hl7])).mono ?_
    rintro e w8 ⟨rfl, v8, hCq, hMq⟩
    have hCq : CW w8 p v8 (some (L7 ++ hl m.sec)) := hCq
    have M8 := hide (M7.out.call hCq hMq)
    clear hCq hMq M7 aH
    have aH : Hid (At w8 g 5 (bv m.hash) 32) := M8.out.var.atHash
    go_wp2_with (first | refine wpW_load_at 23 _ rfl (g) (5) (by rfl) (by rfl) _ 32 _ (aH.out) Try.underlying23 rfl info26 ?_ | fail)
    refine (Cu.wHash m.hash p v8 (some (L7 ++ hl m.sec)) _ M8.out.cw (fun l e => by cases e; simp [Cu.nb_length, Cu.hl_length, hl7])).mono ?_
    rintro e w9 ⟨rfl, v9, hCq, hMq⟩
    have hCq : CW w9 p v9 (some ((L7 ++ hl m.sec) ++ hl m.hash)) := hCq
    have M9 := hide (M8.out.call hCq hMq)
    clear hCq hMq M8 aH
    go_wp2_with fail
    refine (Cu.wOut p v9 (some ((L7 ++ hl m.sec) ++ hl m.hash)) _ M9.out.cw).mono ?_
    rintro e wo ⟨rfl, hbo⟩
    have gbo : Below g w wo := M9.out.bel.trans (hbo.mono (Nat.le_of_lt M9.out.var.lt))
    go_wp2
    go_ret
    exact ⟨by rw [HLL.out, HT.out]; (first | rfl | (rw [List.append_nil]; rfl) | (rw [← List.append_assoc]; rfl)), by first | exact gbo | (rw [hg]; exact gbo)⟩
  have b5 : (K == 5) = false := beq_false_of_ne k5
  by_cases k6 : K = 6
  · have HT : Hid (layT m = nb (U64n m.nxt) 8 ++ hl m.sec) := by show _ = _; unfold layT; rw [HKn.out, k6]; rfl
    subst k6
    clear HKn
    have c4 : w7.cell? ⟨g, 4, none⟩ = some (.int .i64 m.nxt) := M7.out.var.cell 4 (by omega)
    go_wp2_with fail
    refine (Cu.wI64 m.nxt (U64n m.nxt) (u64_nat _) p v7 (some (L7)) _ M7.out.cw (fun l e => by cases e; simp [Cu.nb_length, Cu.hl_length, hl7])).mono ?_
    rintro e w8 ⟨rfl, v8, hCq, hMq⟩
    have hCq : CW w8 p v8 (some (L7 ++ nb (U64n m.nxt) 8)) := hCq
    have M8 := hide (M7.out.call hCq hMq)
    clear hCq hMq M7 c4
    have aH : Hid (At w8 g 37 (bv m.sec) 32) := M8.out.var.atSec
    go_wp2_with (first | refine wpW_load_at 23 _ rfl (g) (37) (by rfl) (by rfl) _ 32 _ (aH.out) Try.underlying23 rfl info26 ?_ | fail)
    refine (Cu.wHash m.sec p v8 (some (L7 ++ nb (U64n m.nxt) 8)) _ M8.out.cw (fun l e => by cases e; simp [Cu.nb_length, Cu.hl_length, hl7])).mono ?_
    rintro e w9 ⟨rfl, v9, hCq, hMq⟩
    have hCq : CW w9 p v9 (some ((L7 ++ nb (U64n m.nxt) 8) ++ hl m.sec)) := hCq
    have M9 := hide (M8.out.call hCq hMq)
    clear hCq hMq M8 aH
    go_wp2_with fail
    refine (Cu.wOut p v9 (some ((L7 ++ nb (U64n m.nxt) 8) ++ hl m.sec)) _ M9.out.cw).mono ?_
    rintro e wo ⟨rfl, hbo⟩
    have gbo : Below g w wo := M9.out.bel.trans (hbo.mono (Nat.le_of_lt M9.out.var.lt))
    go_wp2
    go_ret
    exact ⟨by rw [HLL.out, HT.out]; (first | rfl | (rw [List.append_nil]; rfl) | (rw [← List.append_assoc]; rfl)), by first | exact gbo | (rw [hg]; exact gbo)⟩
  have b6 : (K == 6) = false := beq_false_of_ne k6
  have HT : Hid (layT m = []) := by show _ = _; unfold layT; rw [HKn.out, if_neg k4, if_neg k5, if_neg k6]
  clear k4 k5 k6 HKn
  go_wp2_with fail
  refine (Cu.wOut p v7 (some (L7)) _ M7.out.cw).mono ?_
  rintro e wo ⟨rfl, hbo⟩
  have gbo : Below g w wo := M7.out.bel.trans (hbo.mono (Nat.le_of_lt M7.out.var.lt))
  go_wp2
  go_ret
  exact ⟨by rw [HLL.out, HT.out]; (first | rfl | (rw [List.append_nil]; rfl) | (rw [← List.append_assoc]; rfl)), by first | exact gbo | (rw [hg]; exact gbo)⟩
theorem lay_any (m : Msg) (w : World) : Calls Try.prog 20 #[.agg (tabv m.v 70)] w fun e w' => e = .returned (.string (ofL (layL m))) ∧ Below w.heap.size w w' := by
  by_cases h : isU m.kind
  · exact lay_yes m h w
  · exact lay_no m h w
theorem run_neM {o : Oper} {a : Act} (w : World) (x y : Operand) (s t : Msg) (R : Bool) (ho : o.op = .binOp .neq 25 x y 25) (hx : a.eval x = .agg (tabv s.v 70)) (hy : a.eval y = .agg (tabv t.v 70)) (hq : eqM s t = R) : (execOp a.eval o).run Try.prog w = .ok (.value (.bool (!R))) w := by
  have gh := guardM
  have hq2 : ∀ w : World, (Op.equalIn 10000 25 (.agg (tabv s.v 70)) (.agg (tabv t.v 70))).run Try.prog w = .ok R w := fun w => by rw [eqMD, hq]
  unfold execOp
  simp only [ho, hx, hy]
  go_simp
theorem run_eqM {o : Oper} {a : Act} (w : World) (x y : Operand) (s t : Msg) (R : Bool) (ho : o.op = .binOp .eql 25 x y 25) (hx : a.eval x = .agg (tabv s.v 70)) (hy : a.eval y = .agg (tabv t.v 70)) (hq : eqM s t = R) : (execOp a.eval o).run Try.prog w = .ok (.value (.bool R)) w := by
  have gh := guardM
  have hq2 : ∀ w : World, (Op.equalIn 10000 25 (.agg (tabv s.v 70)) (.agg (tabv t.v 70))).run Try.prog w = .ok R w := fun w => by rw [eqMD, hq]
  unfold execOp
  simp only [ho, hx, hy]
  go_simp
section
variable {ops : Array Oper} {rest : List Oper} {o : Oper} {a : Act} {w : World} {Q : Exit → Act → World → Prop}
theorem wpW_neM (hw : Region.wanted o (yielded ops a.tmps) = true) (x y : Operand) (ho : o.op = .binOp .neq 25 x y 25) (s t : Msg) (R : Bool) (hx : a.eval x = .agg (tabv s.v 70)) (hy : a.eval y = .agg (tabv t.v 70)) (hq : eqM s t = R)
    (k : wpList Try.prog ops Q rest (a.put o.dst (.bool (!R))) w) : wpList Try.prog ops Q (o :: rest) a w := by
  refine wpList_step fun K hK => ?_
  rw [if_pos hw]
  exact wpRun (run_neM w x y s t R ho hx hy hq) (hK _ _ k)
theorem wpW_eqM (hw : Region.wanted o (yielded ops a.tmps) = true) (x y : Operand) (ho : o.op = .binOp .eql 25 x y 25) (s t : Msg) (R : Bool) (hx : a.eval x = .agg (tabv s.v 70)) (hy : a.eval y = .agg (tabv t.v 70)) (hq : eqM s t = R)
    (k : wpList Try.prog ops Q rest (a.put o.dst (.bool R)) w) : wpList Try.prog ops Q (o :: rest) a w := by
  refine wpList_step fun K hK => ?_
  rw [if_pos hw]
  exact wpRun (run_eqM w x y s t R ho hx hy hq) (hK _ _ k)
end
theorem lay_len (m : Msg) : (layL m).length ≤ 73 := by
  unfold layL
  split
  · split
    · have := writeS_len (by assumption)
      omega
    · simp
  · unfold layT
    repeat' split
    all_goals simp [Cu.nb_length, Cu.hl_length]
set_option maxRecDepth 100000 in
set_option maxHeartbeats 4000000 in
theorem mwrite_any (m : Msg) (w : World) : Calls Try.prog 8 #[.agg (tabv m.v 70)] w fun e w' => e = .returned (.tuple #[.string (wrS m), .int .i64 (wrE m)]) ∧ Below w.heap.size w w' := by
  obtain ⟨w1, hW1⟩ : ∃ wX, w.alloc (.cells (tabv m.v 70) 25) = wX := ⟨_, rfl⟩
  have r1 : Has w1 w.heap.size 25 m.v 70 := by rw [← hW1]; exact Has.new w 25 m.v 70 _ rfl
  have b1 : Below w.heap.size w w1 := by rw [← hW1]; exact (Below.refl w.heap.size w).alloc (Nat.le_refl _) _
  have R1 := hide r1
  go_enter Try.func8, Try.ntmps8
  go_wp2_with (first | refine wpW_load_at 25 _ rfl (w.heap.size) (0) (by rfl) (by rfl) _ 70 _ (R1.out.at_ 0 (by omega) (fun i hi => by rw [Nat.zero_add])) Try.underlying25 rfl infoM ?_ | fail)
  refine (lay_any m _).mono ?_
  rintro e w2 ⟨rfl, hb2⟩
  have Q2 := hide (r1.below hb2 r1.lt)
  have gb2 : Hid (Below w.heap.size w w2) := b1.trans (hb2.mono b1.size)
  clear hW1 r1 b1 hb2 R1
  have RD := mread_any (ofL (layL m)) w2 (by rw [Cu.ofL_size]; have := lay_len m; omega)
  rw [rdC_of, Cu.ofL_data] at RD
  obtain ⟨⟨x, E⟩, hx⟩ : ∃ y, rdM (layL m) = y := ⟨_, rfl⟩
  rw [hx] at RD
  have RD := hide RD
  have HX := hide hx
  clear hx
  go_wp2_with fail
  refine RD.out.mono ?_
  rintro e w3 ⟨rfl, hb3⟩
  obtain ⟨w4, w5, hW4, r4, hW5, r5, b5, b4⟩ := newM w3 x
  have R4 := hide r4
  have R5 := hide r5
  have Q3 := Q2.out.below hb3 Q2.out.lt
  have Q5 := hide (Q3.below b5 Q3.lt)
  have gb5 : Below w.heap.size w w5 := (gb2.out.trans (hb3.mono gb2.out.size)).trans (b5.mono (Nat.le_trans gb2.out.size hb3.size))
  clear hb3 r4 r5 b5 b4 Q3 Q2 gb2 RD
  go_upto_region 3 with (first | refine wpList_storeM rfl _ _ rfl rfl (w3.heap.size) (x) rfl rfl _ R4.out ?_ | fail)
  try rw [hW5]
  generalize hg3 : w3.heap.size = g3 at R5 ⊢
  clear hW4 hW5 R4 hg3
  by_cases hE : E = 0
  · subst hE
    obtain ⟨R, hR⟩ : ∃ R, eqM x m = R := ⟨_, rfl⟩
    have HR := hide hR
    clear hR
    cases R with
    | true =>
      have HV := wrM_yes (m := m) (by rw [HX.out]) (by rw [HX.out]; exact HR.out)
      have HS : Hid (ofL (layL m) = wrS m ∧ wrE m = 0) := ⟨by unfold wrS; rw [if_pos HV.1, HV.2], by unfold wrE; rw [if_pos HV.1]⟩
      clear HV
      go_wp2_with (first | refine wpW_load_at 25 _ rfl (g3) (0) (by rfl) (by rfl) _ 70 _ (R5.out.at_ 0 (by omega) (fun i hi => by rw [Nat.zero_add])) Try.underlying25 rfl infoM ?_ | refine wpW_load_at 25 _ rfl (w.heap.size) (0) (by rfl) (by rfl) _ 70 _ (Q5.out.at_ 0 (by omega) (fun i hi => by rw [Nat.zero_add])) Try.underlying25 rfl infoM ?_ | refine wpW_neM (by rfl) (.tmp 17) (.tmp 18) rfl x m true (by rfl) (by rfl) HR.out ?_ | fail)
      go_ret2
      exact ⟨by rw [HS.out.1, HS.out.2]; rfl, gb5⟩
    | false =>
      have HV := wrM_no (m := m) (fun h => by rw [HX.out] at h; have h2 := h.2; rw [show eqM (x, (0 : Int)).1 m = eqM x m from rfl, HR.out] at h2; cases h2)
      have HS : Hid (nilB = wrS m ∧ wrE m = 160) := ⟨by unfold wrS; rw [HV]; rfl, by unfold wrE; rw [HV]; rfl⟩
      clear HV
      go_wp2_with (first | refine wpW_load_at 25 _ rfl (g3) (0) (by rfl) (by rfl) _ 70 _ (R5.out.at_ 0 (by omega) (fun i hi => by rw [Nat.zero_add])) Try.underlying25 rfl infoM ?_ | refine wpW_load_at 25 _ rfl (w.heap.size) (0) (by rfl) (by rfl) _ 70 _ (Q5.out.at_ 0 (by omega) (fun i hi => by rw [Nat.zero_add])) Try.underlying25 rfl infoM ?_ | refine wpW_neM (by rfl) (.tmp 17) (.tmp 18) rfl x m false (by rfl) (by rfl) HR.out ?_ | fail)
      go_ret2
      exact ⟨by rw [← HS.out.1, HS.out.2]; rfl, gb5⟩
  · have hE1 : (E == 0) = false := beq_false_of_ne hE
    have hE2 : (E != 0) = true := bne_iff_ne.2 hE
    have HV := wrM_no (m := m) (fun h => by rw [HX.out] at h; exact hE h.1)
    have HS : Hid (nilB = wrS m ∧ wrE m = 160) := ⟨by unfold wrS; rw [HV]; rfl, by unfold wrE; rw [HV]; rfl⟩
    clear HV
    go_wp2_with (first | refine wpW_load_at 25 _ rfl (g3) (0) (by rfl) (by rfl) _ 70 _ (R5.out.at_ 0 (by omega) (fun i hi => by rw [Nat.zero_add])) Try.underlying25 rfl infoM ?_ | refine wpW_load_at 25 _ rfl (w.heap.size) (0) (by rfl) (by rfl) _ 70 _ (Q5.out.at_ 0 (by omega) (fun i hi => by rw [Nat.zero_add])) Try.underlying25 rfl infoM ?_ | fail)
    go_ret2
    exact ⟨by rw [← HS.out.1, HS.out.2]; rfl, gb5⟩
end Go.Proofs.Ytfohdolhobooiaa
