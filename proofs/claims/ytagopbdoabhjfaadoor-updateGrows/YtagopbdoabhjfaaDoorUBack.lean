/-
  UpdateBack: the walk (printed by gen_back.py).
-/
import Derived.Test.YtagopbdoabhjfaaDoorUHead
import Derived.Test.YtagopbdoabhjfaaDoorUMath
import Derived.Test.YtagopbdoabhjfaaDoorCurWant
namespace Go.Proofs.YtagopbdoabhjfaaDoor
open Go.RowKit S
set_option linter.unusedVariables false
set_option linter.unusedSimpArgs false
open Cu (nb hl ofL)
section
variable {P : Program} {ops : Array Oper} {rest : List Oper} {o : Oper} {a : Act} {w : World} {Q : Exit → Act → World → Prop}
theorem wpW_un (op : UnOp) (t : TypeId) (x : Operand) (ho : o.op = .unOp op t x) (X r : Value) (hx : a.eval x = X) (hw : Region.wanted o (yielded ops a.tmps) = true) (hr : (Op.unary op X).run P w = .ok r w)
    (h : wpList P ops Q rest (a.put o.dst r) w) : wpList P ops Q (o :: rest) a w := by
  refine wpList_step fun K hK => ?_
  rw [if_pos hw]
  unfold Oper.wp execOp
  simp only [ho, hx, hr, Sem.run_bind, Sem.run_pure, Result.andThen_ok]
  exact hK _ _ h
theorem run_rem (t : TypeId) (k : IntKind) (X Y Z : Int) (hY : Y ≠ 0) (hZ : X.tmod Y = Z) (w : World) : (binOp .rem t (.int k X) (.int k Y)).run P w = .ok (.int k Z) w := by
  rw [binOp_rem, ← hZ]
  unfold Op.intDiv
  rw [if_neg hY]
  rfl
theorem run_neg (k : IntKind) (X Z : Int) (hZ : k.wrap (0 - X) = Z) (w : World) : (Op.unary .neg (.int k X)).run P w = .ok (.int k Z) w := by
  rw [← hZ]; rfl
end
theorem tmod_range (x : Int) (m : Nat) (hm : 0 < m) : -(m : Int) < x.tmod m ∧ x.tmod m < (m : Int) := by
  rcases Int.lt_or_le x 0 with h | h
  · have h1 := Int.tmod_nonneg (m : Int) (show 0 ≤ -x by omega)
    have h2 := Int.tmod_lt_of_pos (-x) (show (0 : Int) < m by omega)
    rw [Int.neg_tmod] at h1 h2
    omega
  · have h1 := Int.tmod_nonneg (m : Int) h
    have h2 := Int.tmod_lt_of_pos x (show (0 : Int) < m by omega)
    omega
theorem empty_false {b : ByteArray} (h : 0 < b.size) : b.toList.isEmpty = false := by
  rw [Bool.eq_false_iff]
  intro hc
  rw [List.isEmpty_iff, ByteArray.toList_eq] at hc
  have h0 : b.data.toList.length = 0 := by rw [hc]; rfl
  rw [Cu.str_len] at h0
  omega
set_option maxRecDepth 100000 in
set_option maxHeartbeats 4000000 in
theorem back_no (n : Num) (u : Upd) (behind : ByteArray) (at_ : Int) (b : ByteArray) (hz1 : behind.size ≤ 140737488351232) (hz2 : b.size ≤ 140737488351232) (w : World) (hG : Glob n w) (hv : validB u = false) : Calls Tryd.prog 3 #[.agg (tabv u.v 36), .string behind, .int .i64 at_, .string b] w fun e w' => e = .returned (.bool true) ∧ Below w.heap.size w w' := by
  obtain ⟨w3, hW⟩ : ∃ x, w.alloc (.cells (tabv u.v 36) 25) = x := ⟨_, rfl⟩
  have g0 : Has w3 w.heap.size 25 u.v 36 := by rw [← hW]; exact Has.new w 25 u.v 36 _ rfl
  have gb : Below w.heap.size w w3 := by rw [← hW]; exact (Below.refl w.heap.size w).alloc (Nat.le_refl _) _
  have G0 := hide g0
  have HD := hide (fun (w : World) (hG : Glob n w) => head_any n w hG)
  have WU := hide (fun w : World => write_any u w)
  have VU := hide (fun w : World => valid_any u w)
  have hgu := guardU
  rw [hv] at VU
  rw [show writeS u = nilB by unfold writeS; rw [if_neg (by rw [hv]; decide)], show writeE u = 120 by unfold writeE; rw [if_neg (by rw [hv]; decide)]] at WU
  clear g0 hv
  unfold nilB at WU
  go_enter Tryd.func3, Tryd.ntmps3
  go_wp2_with fail
  refine (HD.out _ (hG.up gb (Nat.le_refl _))).mono ?_
  rintro e w4 ⟨rfl, hb4⟩
  have gb4 := gb.trans (hb4.mono gb.size)
  have G4 := hide (G0.out.below hb4 G0.out.lt)
  clear hb4 gb hW
  go_wp2_with (first | refine wpW_load_at 25 _ rfl (w.heap.size) (0) (by rfl) (by rfl) _ 36 _ (G4.out.at_ 0 (by omega) (fun i hi => by rw [Nat.zero_add])) Tryd.underlying25 rfl infoU ?_ | fail)
  refine (WU.out _).mono ?_
  rintro e w5 ⟨rfl, hb5⟩
  have gb5 := gb4.trans (hb5.mono gb4.size)
  have G5 := hide (G4.out.below hb5 G4.out.lt)
  clear hb5 gb4
  go_wp2_with (first | refine wpW_load_at 25 _ rfl (w.heap.size) (0) (by rfl) (by rfl) _ 36 _ (G5.out.at_ 0 (by omega) (fun i hi => by rw [Nat.zero_add])) Tryd.underlying25 rfl infoU ?_ | fail)
  refine (VU.out _).mono ?_
  rintro e w6 ⟨rfl, hb6⟩
  have gb6 := gb5.trans (hb6.mono gb5.size)
  clear hb6 gb5
  cases hE : ((rdL b.data.toList).2.2 == 0) with
  | false =>
    have hne : (rdL b.data.toList).2.2 ≠ 0 := by intro h; rw [h] at hE; exact absurd hE (by decide)
    have hcase := rd_err b.data.toList hne
    have hR2 := hide (fun w : World => read_any b w (by omega))
    rw [readC_of] at hR2
    obtain ⟨E, hEE, hE2⟩ : ∃ E : Int, rdL b.data.toList = (Upd.zero, 0, E) ∧ (E = 2 ∨ E = 120) := by
      rcases hcase with h | h
      · exact ⟨2, h, .inl rfl⟩
      · exact ⟨120, h, .inr rfl⟩
    rw [hEE] at hR2
    have hEn : (E != 0) = true := by rcases hE2 with rfl | rfl <;> rfl
    have hqz : ∀ w : World, (Op.equalIn 10000 25 (.agg (tabv Upd.zero.v 36)) (.agg (tabv Upd.zero.v 36))).run Tryd.prog w = .ok true w := fun w => by rw [eqUD, eqU_refl]
    clear hE hne hcase hEE
    go_wp2_with (first |  fail)
    refine (hR2.out _).mono ?_
    rintro e wx ⟨rfl, hbx⟩
    obtain ⟨wy, wz, hWy, py, hWz, rz, rbz⟩ := newU wx Upd.zero
    have Py := hide py
    have Rz := hide rz
    have gbz := gb6.trans ((hbx.trans (rbz.mono hbx.size)).mono gb6.size)
    clear py rz rbz hbx
    rcases hE2 with rfl | rfl
    · go_wp2_with (first | refine wpList_storeU rfl _ _ rfl rfl (wx.heap.size) (Upd.zero) rfl rfl _ Py.out ?_ | refine wpW_load_at 25 _ rfl (wx.heap.size) 0 (by rfl) (by rfl) _ 36 _ (by first | exact Rz.out.at_ 0 (by omega) (fun i hi => by rw [Nat.zero_add]) | (rw [hWz]; exact Rz.out.at_ 0 (by omega) (fun i hi => by rw [Nat.zero_add]))) Tryd.underlying25 rfl infoU ?_ | refine wpW_build (by rfl) 25 #[] rfl [] (by simp) _ builtZ ?_)
      try rw [hWz]
      go_ret
      exact ⟨by simp, gbz⟩
    · go_wp2_with (first | refine wpList_storeU rfl _ _ rfl rfl (wx.heap.size) (Upd.zero) rfl rfl _ Py.out ?_ | refine wpW_load_at 25 _ rfl (wx.heap.size) 0 (by rfl) (by rfl) _ 36 _ (by first | exact Rz.out.at_ 0 (by omega) (fun i hi => by rw [Nat.zero_add]) | (rw [hWz]; exact Rz.out.at_ 0 (by omega) (fun i hi => by rw [Nat.zero_add]))) Tryd.underlying25 rfl infoU ?_ | refine wpW_build (by rfl) 25 #[] rfl [] (by simp) _ builtZ ?_)
      try rw [hWz]
      go_ret
      exact ⟨by simp, gbz⟩
  | true =>
    have hR2 := hide (fun w : World => read_any b w (by omega))
    rw [readC_of] at hR2
    obtain ⟨v, N, hv0⟩ : ∃ v N, rdL b.data.toList = (v, N, 0) := ⟨(rdL b.data.toList).1, (rdL b.data.toList).2.1, by rw [← beq_iff_eq.1 hE]⟩
    obtain ⟨vv, hN0, hN1, hbs⟩ := rd_ok _ _ _ hv0
    rw [hv0] at hR2
    rw [Cu.str_len] at hN1
    obtain ⟨m, rfl⟩ := Int.eq_ofNat_of_zero_le (show 0 ≤ N by omega)
    rw [Int.toNat_natCast] at hbs
    have hex : b.extract 0 m = ofL (bytesU v) := by
      rw [hbs]
      have := Cu.ofL_extract b.data.toList 0 m
      rw [Cu.ofL_of, List.drop_zero] at this
      exact this
    have WV := hide (fun w : World => write_any v w)
    have VV := hide (fun w : World => valid_any v w)
    rw [vv] at VV
    rw [show writeS v = ofL (bytesU v) by unfold writeS; rw [if_pos vv], show writeE v = 0 by unfold writeE; rw [if_pos vv]] at WV
    obtain ⟨T, hT⟩ : ∃ T, ofL (bytesU v) = T := ⟨_, rfl⟩
    rw [hT] at hex WV
    have hd1 : decide ((m : Int) > 0) = true := decide_eq_true (by omega)
    have hd2 : decide ((m : Int) ≤ (b.size : Int)) = true := decide_eq_true hN1
    have hd3 : (0 : Int) ≤ (m : Int) := by omega
    have hm0 : 0 < m := by omega
    have hmb : m ≤ b.size := by omega
    clear hE hv0 hbs hT hN0 vv
    go_wp2_with (first |  fail)
    refine (hR2.out _).mono ?_
    rintro e wx ⟨rfl, hbx⟩
    obtain ⟨wy, wz, hWy, py, hWz, rz, rbz⟩ := newU wx v
    have Py := hide py
    have Rz := hide rz
    have gbz := gb6.trans ((hbx.trans (rbz.mono hbx.size)).mono gb6.size)
    clear py rz rbz hbx
    go_wp2_with (first | refine wpList_storeU rfl _ _ rfl rfl (wx.heap.size) (v) rfl rfl _ Py.out ?_ | refine wpW_load_at 25 _ rfl (wx.heap.size) 0 (by rfl) (by rfl) _ 36 _ (by first | exact Rz.out.at_ 0 (by omega) (fun i hi => by rw [Nat.zero_add]) | (rw [hWz]; exact Rz.out.at_ 0 (by omega) (fun i hi => by rw [Nat.zero_add]))) Tryd.underlying25 rfl infoU ?_ | fail)
    try rw [hWz]
    refine (WV.out _).mono ?_
    rintro e wA ⟨rfl, hbA⟩
    have RA := hide (Rz.out.below hbA Rz.out.lt)
    have gbA := gbz.trans (hbA.mono gbz.size)
    clear hbA gbz hWy hWz Py
    go_wp2_with (first | refine wpW_load_at 25 _ rfl (wx.heap.size) (0) (by rfl) (by rfl) _ 36 _ (RA.out.at_ 0 (by omega) (fun i hi => by rw [Nat.zero_add])) Tryd.underlying25 rfl infoU ?_ | fail)
    refine (VV.out _).mono ?_
    rintro e wB ⟨rfl, hbB⟩
    have gbB := gbA.trans (hbB.mono gbA.size)
    clear hbB gbA
    go_wp2
    go_ret
    exact ⟨by simp, gbB⟩
set_option maxRecDepth 100000 in
set_option maxHeartbeats 4000000 in
theorem back_yes (n : Num) (u : Upd) (behind : ByteArray) (at_ : Int) (b : ByteArray) (hz1 : behind.size ≤ 140737488351232) (hz2 : b.size ≤ 140737488351232) (w : World) (hG : Glob n w) (hv : validB u = true) : Calls Tryd.prog 3 #[.agg (tabv u.v 36), .string behind, .int .i64 at_, .string b] w fun e w' => e = .returned (.bool true) ∧ Below w.heap.size w w' := by
  obtain ⟨w3, hW⟩ : ∃ x, w.alloc (.cells (tabv u.v 36) 25) = x := ⟨_, rfl⟩
  have g0 : Has w3 w.heap.size 25 u.v 36 := by rw [← hW]; exact Has.new w 25 u.v 36 _ rfl
  have gb : Below w.heap.size w w3 := by rw [← hW]; exact (Below.refl w.heap.size w).alloc (Nat.le_refl _) _
  have G0 := hide g0
  have HD := hide (fun (w : World) (hG : Glob n w) => head_any n w hG)
  have WU := hide (fun w : World => write_any u w)
  have VU := hide (fun w : World => valid_any u w)
  have hgu := guardU
  rw [hv] at VU
  rw [show writeS u = ofL (bytesU u) by unfold writeS; rw [if_pos hv], show writeE u = 0 by unfold writeE; rw [if_pos hv]] at WU
  obtain ⟨v1, hr1, hq1⟩ := back_ok hv behind.data.toList
  have hlen := writeS_len hv
  have hcut := fun k hk => back_cut hv k hk
  obtain ⟨s, hs⟩ : ∃ s, ofL (bytesU u) = s := ⟨_, rfl⟩
  have hsz : s.size = (bytesU u).length := by rw [← hs, Cu.ofL_size]
  have hsl : s.data.toList = bytesU u := by rw [← hs, Cu.ofL_data]
  rw [hs] at WU
  have hR1 : readC (s ++ behind) = (v1, (s.size : Int), 0) := by
    rw [readC_of, ByteArray.data_append, Array.toList_append, hsl, hr1, hsz]
  have hR3 : ∀ k, k < s.size → readC (s.extract 0 k) = (Upd.zero, 0, 2) := fun k hk => by
    have := Cu.ofL_extract (bytesU u) 0 k
    rw [hs, List.drop_zero] at this
    rw [this, readC_eq, hcut k (by rw [← hsz]; exact hk)]
    rfl
  have R1 := hide (fun w : World => read_any (s ++ behind) w (by rw [ByteArray.size_append]; omega))
  rw [hR1] at R1
  have R3 := hide (fun (k : Nat) (hk : k < s.size) (w : World) => (show Calls Tryd.prog 11 #[.string (s.extract 0 k)] w fun e w' => e = .returned (.tuple #[.agg (tabv Upd.zero.v 36), .int .i64 0, .int .i64 2]) ∧ Below w.heap.size w w' from by have := read_any (s.extract 0 k) w (by rw [ByteArray.size_extract]; omega); rw [hR3 k hk] at this; exact this))
  have hq : ∀ w : World, (Op.equalIn 10000 25 (.agg (tabv v1.v 36)) (.agg (tabv u.v 36))).run Tryd.prog w = .ok true w := fun w => by rw [eqUD, hq1]
  have hqz : ∀ w : World, (Op.equalIn 10000 25 (.agg (tabv Upd.zero.v 36)) (.agg (tabv Upd.zero.v 36))).run Tryd.prog w = .ok true w := fun w => by rw [eqUD, eqU_refl]
  have hse : s.toList.isEmpty = false := empty_false (by rw [hsz]; exact hlen.1)
  have hM0 : 0 < s.size := by rw [hsz]; exact hlen.1
  have hM1 : s.size ≤ 69 := by rw [hsz]; exact hlen.2
  obtain ⟨R, hR⟩ : ∃ R, at_.tmod (s.size : Int) = R := ⟨_, rfl⟩
  have hrr := tmod_range at_ s.size hM0
  rw [hR] at hrr
  have KR : Hid (∀ w : World, (binOp .rem 3 (.int .i64 at_) (.int .i64 (s.size : Int))).run Tryd.prog w = .ok (.int .i64 R) w) := fun w => run_rem 3 .i64 at_ s.size R (by omega) hR w
  have hmm : ((s.size : Int) != (s.size : Int)) = false := by simp
  clear g0 hv hr1 hq1 hlen hcut hs hsz hsl hR1 hR3 hR
  go_enter Tryd.func3, Tryd.ntmps3
  go_wp2_with fail
  refine (HD.out _ (hG.up gb (Nat.le_refl _))).mono ?_
  rintro e w4 ⟨rfl, hb4⟩
  have gb4 := gb.trans (hb4.mono gb.size)
  have G4 := hide (G0.out.below hb4 G0.out.lt)
  clear hb4 gb hW
  go_wp2_with (first | refine wpW_load_at 25 _ rfl (w.heap.size) (0) (by rfl) (by rfl) _ 36 _ (G4.out.at_ 0 (by omega) (fun i hi => by rw [Nat.zero_add])) Tryd.underlying25 rfl infoU ?_ | fail)
  refine (WU.out _).mono ?_
  rintro e w5 ⟨rfl, hb5⟩
  have gb5 := gb4.trans (hb5.mono gb4.size)
  have G5 := hide (G4.out.below hb5 G4.out.lt)
  clear hb5 gb4
  go_wp2_with (first | refine wpW_load_at 25 _ rfl (w.heap.size) (0) (by rfl) (by rfl) _ 36 _ (G5.out.at_ 0 (by omega) (fun i hi => by rw [Nat.zero_add])) Tryd.underlying25 rfl infoU ?_ | fail)
  refine (VU.out _).mono ?_
  rintro e w6 ⟨rfl, hb6⟩
  have gb6 := gb5.trans (hb6.mono gb5.size)
  have G6 := hide (G5.out.below hb6 G5.out.lt)
  clear hb6 gb5
  go_wp2_with fail
  refine (R1.out _).mono ?_
  rintro e w7 ⟨rfl, hb7⟩
  obtain ⟨w8, w9, hW8, p8, hW9, r9, rb9⟩ := newU w7 v1
  have P8 := hide p8
  have R9 := hide r9
  have b9 : Below w6.heap.size w6 w9 := hb7.trans (rb9.mono hb7.size)
  have gb9 := gb6.trans (b9.mono gb6.size)
  have G9 := hide (G6.out.below b9 G6.out.lt)
  clear p8 r9 rb9 hb7 b9 gb6
  by_cases hneg : R < 0
  · have hdn : decide (R < 0) = true := decide_eq_true hneg
    obtain ⟨k, hk⟩ : ∃ k : Nat, -R = (k : Int) := Int.eq_ofNat_of_zero_le (by omega)
    have KN : Hid (∀ w : World, (Op.unary .neg (.int .i64 R)).run Tryd.prog w = .ok (.int .i64 (k : Int)) w) := fun w => run_neg .i64 R k (by rw [IntKind.wrap_i64]; omega) w
    have hkM : k < s.size := by omega
    have hkb : (k : Int) ≤ 69 := by omega
    have hk0 : (0 : Int) ≤ (k : Int) := by omega
    have hkS : (k : Int) ≤ (s.size : Int) := by omega
    have HKM := hide hkM
    clear hneg hk hrr hM0 hM1 hkM
    go_wp2_with (first | refine wpList_storeU rfl _ _ rfl rfl (w7.heap.size) (v1) rfl rfl _ P8.out ?_ | refine wpW_load_at 25 _ rfl (w7.heap.size) 0 (by rfl) (by rfl) _ 36 _ (by first | exact R9.out.at_ 0 (by omega) (fun i hi => by rw [Nat.zero_add]) | (rw [hW9]; exact R9.out.at_ 0 (by omega) (fun i hi => by rw [Nat.zero_add]))) Tryd.underlying25 rfl infoU ?_ | refine wpW_load_at 25 _ rfl (w.heap.size) 0 (by rfl) (by rfl) _ 36 _ (by first | exact G9.out.at_ 0 (by omega) (fun i hi => by rw [Nat.zero_add]) | (rw [hW9]; exact G9.out.at_ 0 (by omega) (fun i hi => by rw [Nat.zero_add]))) Tryd.underlying25 rfl infoU ?_ | refine Cu.wpW_bin .rem _ _ _ _ rfl (.int .i64 at_) (.int .i64 (s.size : Int)) (.int .i64 R) (by rfl) (by rfl) (by rfl) rfl (KR.out _) ?_ | refine wpW_un .neg _ _ rfl (.int .i64 R) (.int .i64 (k : Int)) (by rfl) (by rfl) (KN.out _) ?_ | fail)
    refine (R3.out k HKM.out _).mono ?_
    rintro e wa ⟨rfl, hba⟩
    obtain ⟨wb, wc, hWb, pb, hWc, rc, rbc⟩ := newU wa Upd.zero
    have Pb := hide pb
    have Rc := hide rc
    have bc : Below w9.heap.size w9 wc := hba.trans (rbc.mono hba.size)
    have gbc := gb9.trans (bc.mono gb9.size)
    clear pb rc rbc hba bc gb9 hW8 hW9 P8
    cases hE : ((rdL b.data.toList).2.2 == 0) with
    | false =>
      have hne : (rdL b.data.toList).2.2 ≠ 0 := by intro h; rw [h] at hE; exact absurd hE (by decide)
      have hcase := rd_err b.data.toList hne
      have hR2 := hide (fun w : World => read_any b w (by omega))
      rw [readC_of] at hR2
      obtain ⟨E, hEE, hE2⟩ : ∃ E : Int, rdL b.data.toList = (Upd.zero, 0, E) ∧ (E = 2 ∨ E = 120) := by
        rcases hcase with h | h
        · exact ⟨2, h, .inl rfl⟩
        · exact ⟨120, h, .inr rfl⟩
      rw [hEE] at hR2
      have hEn : (E != 0) = true := by rcases hE2 with rfl | rfl <;> rfl
      have hqz : ∀ w : World, (Op.equalIn 10000 25 (.agg (tabv Upd.zero.v 36)) (.agg (tabv Upd.zero.v 36))).run Tryd.prog w = .ok true w := fun w => by rw [eqUD, eqU_refl]
      clear hE hne hcase hEE
      go_wp2_with (first | refine wpList_storeU rfl _ _ rfl rfl (wa.heap.size) (Upd.zero) rfl rfl _ Pb.out ?_ | refine wpW_load_at 25 _ rfl (wa.heap.size) 0 (by rfl) (by rfl) _ 36 _ (by first | exact Rc.out.at_ 0 (by omega) (fun i hi => by rw [Nat.zero_add]) | (rw [hWc]; exact Rc.out.at_ 0 (by omega) (fun i hi => by rw [Nat.zero_add]))) Tryd.underlying25 rfl infoU ?_ | refine wpW_build (by rfl) 25 #[] rfl [] (by simp) _ builtZ ?_ |  fail)
      refine (hR2.out _).mono ?_
      rintro e wx ⟨rfl, hbx⟩
      obtain ⟨wy, wz, hWy, py, hWz, rz, rbz⟩ := newU wx Upd.zero
      have Py := hide py
      have Rz := hide rz
      have gbz := gbc.trans ((hbx.trans (rbz.mono hbx.size)).mono gbc.size)
      clear py rz rbz hbx
      rcases hE2 with rfl | rfl
      · go_wp2_with (first | refine wpList_storeU rfl _ _ rfl rfl (wx.heap.size) (Upd.zero) rfl rfl _ Py.out ?_ | refine wpW_load_at 25 _ rfl (wx.heap.size) 0 (by rfl) (by rfl) _ 36 _ (by first | exact Rz.out.at_ 0 (by omega) (fun i hi => by rw [Nat.zero_add]) | (rw [hWz]; exact Rz.out.at_ 0 (by omega) (fun i hi => by rw [Nat.zero_add]))) Tryd.underlying25 rfl infoU ?_ | refine wpW_build (by rfl) 25 #[] rfl [] (by simp) _ builtZ ?_)
        try rw [hWz]
        go_ret
        exact ⟨by simp, gbz⟩
      · go_wp2_with (first | refine wpList_storeU rfl _ _ rfl rfl (wx.heap.size) (Upd.zero) rfl rfl _ Py.out ?_ | refine wpW_load_at 25 _ rfl (wx.heap.size) 0 (by rfl) (by rfl) _ 36 _ (by first | exact Rz.out.at_ 0 (by omega) (fun i hi => by rw [Nat.zero_add]) | (rw [hWz]; exact Rz.out.at_ 0 (by omega) (fun i hi => by rw [Nat.zero_add]))) Tryd.underlying25 rfl infoU ?_ | refine wpW_build (by rfl) 25 #[] rfl [] (by simp) _ builtZ ?_)
        try rw [hWz]
        go_ret
        exact ⟨by simp, gbz⟩
    | true =>
      have hR2 := hide (fun w : World => read_any b w (by omega))
      rw [readC_of] at hR2
      obtain ⟨v, N, hv0⟩ : ∃ v N, rdL b.data.toList = (v, N, 0) := ⟨(rdL b.data.toList).1, (rdL b.data.toList).2.1, by rw [← beq_iff_eq.1 hE]⟩
      obtain ⟨vv, hN0, hN1, hbs⟩ := rd_ok _ _ _ hv0
      rw [hv0] at hR2
      rw [Cu.str_len] at hN1
      obtain ⟨m, rfl⟩ := Int.eq_ofNat_of_zero_le (show 0 ≤ N by omega)
      rw [Int.toNat_natCast] at hbs
      have hex : b.extract 0 m = ofL (bytesU v) := by
        rw [hbs]
        have := Cu.ofL_extract b.data.toList 0 m
        rw [Cu.ofL_of, List.drop_zero] at this
        exact this
      have WV := hide (fun w : World => write_any v w)
      have VV := hide (fun w : World => valid_any v w)
      rw [vv] at VV
      rw [show writeS v = ofL (bytesU v) by unfold writeS; rw [if_pos vv], show writeE v = 0 by unfold writeE; rw [if_pos vv]] at WV
      obtain ⟨T, hT⟩ : ∃ T, ofL (bytesU v) = T := ⟨_, rfl⟩
      rw [hT] at hex WV
      have hd1 : decide ((m : Int) > 0) = true := decide_eq_true (by omega)
      have hd2 : decide ((m : Int) ≤ (b.size : Int)) = true := decide_eq_true hN1
      have hd3 : (0 : Int) ≤ (m : Int) := by omega
      have hm0 : 0 < m := by omega
      have hmb : m ≤ b.size := by omega
      clear hE hv0 hbs hT hN0 vv
      go_wp2_with (first | refine wpList_storeU rfl _ _ rfl rfl (wa.heap.size) (Upd.zero) rfl rfl _ Pb.out ?_ | refine wpW_load_at 25 _ rfl (wa.heap.size) 0 (by rfl) (by rfl) _ 36 _ (by first | exact Rc.out.at_ 0 (by omega) (fun i hi => by rw [Nat.zero_add]) | (rw [hWc]; exact Rc.out.at_ 0 (by omega) (fun i hi => by rw [Nat.zero_add]))) Tryd.underlying25 rfl infoU ?_ | refine wpW_build (by rfl) 25 #[] rfl [] (by simp) _ builtZ ?_ |  fail)
      refine (hR2.out _).mono ?_
      rintro e wx ⟨rfl, hbx⟩
      obtain ⟨wy, wz, hWy, py, hWz, rz, rbz⟩ := newU wx v
      have Py := hide py
      have Rz := hide rz
      have gbz := gbc.trans ((hbx.trans (rbz.mono hbx.size)).mono gbc.size)
      clear py rz rbz hbx
      go_wp2_with (first | refine wpList_storeU rfl _ _ rfl rfl (wx.heap.size) (v) rfl rfl _ Py.out ?_ | refine wpW_load_at 25 _ rfl (wx.heap.size) 0 (by rfl) (by rfl) _ 36 _ (by first | exact Rz.out.at_ 0 (by omega) (fun i hi => by rw [Nat.zero_add]) | (rw [hWz]; exact Rz.out.at_ 0 (by omega) (fun i hi => by rw [Nat.zero_add]))) Tryd.underlying25 rfl infoU ?_ | fail)
      try rw [hWz]
      refine (WV.out _).mono ?_
      rintro e wA ⟨rfl, hbA⟩
      have RA := hide (Rz.out.below hbA Rz.out.lt)
      have gbA := gbz.trans (hbA.mono gbz.size)
      clear hbA gbz hWy hWz Py
      go_wp2_with (first | refine wpW_load_at 25 _ rfl (wx.heap.size) (0) (by rfl) (by rfl) _ 36 _ (RA.out.at_ 0 (by omega) (fun i hi => by rw [Nat.zero_add])) Tryd.underlying25 rfl infoU ?_ | fail)
      refine (VV.out _).mono ?_
      rintro e wB ⟨rfl, hbB⟩
      have gbB := gbA.trans (hbB.mono gbA.size)
      clear hbB gbA
      go_wp2
      go_ret
      exact ⟨by simp, gbB⟩
  · have hdn : decide (R < 0) = false := decide_eq_false hneg
    obtain ⟨k, rfl⟩ : ∃ k : Nat, R = (k : Int) := Int.eq_ofNat_of_zero_le (by omega)
    have hkM : k < s.size := by omega
    have hkb : (k : Int) ≤ 69 := by omega
    have hk0 : (0 : Int) ≤ (k : Int) := by omega
    have hkS : (k : Int) ≤ (s.size : Int) := by omega
    have HKM := hide hkM
    clear hneg hrr hM0 hM1 hkM
    go_wp2_with (first | refine wpList_storeU rfl _ _ rfl rfl (w7.heap.size) (v1) rfl rfl _ P8.out ?_ | refine wpW_load_at 25 _ rfl (w7.heap.size) 0 (by rfl) (by rfl) _ 36 _ (by first | exact R9.out.at_ 0 (by omega) (fun i hi => by rw [Nat.zero_add]) | (rw [hW9]; exact R9.out.at_ 0 (by omega) (fun i hi => by rw [Nat.zero_add]))) Tryd.underlying25 rfl infoU ?_ | refine wpW_load_at 25 _ rfl (w.heap.size) 0 (by rfl) (by rfl) _ 36 _ (by first | exact G9.out.at_ 0 (by omega) (fun i hi => by rw [Nat.zero_add]) | (rw [hW9]; exact G9.out.at_ 0 (by omega) (fun i hi => by rw [Nat.zero_add]))) Tryd.underlying25 rfl infoU ?_ | refine Cu.wpW_bin .rem _ _ _ _ rfl (.int .i64 at_) (.int .i64 (s.size : Int)) (.int .i64 (k : Int)) (by rfl) (by rfl) (by rfl) rfl (KR.out _) ?_ | fail)
    refine (R3.out k HKM.out _).mono ?_
    rintro e wa ⟨rfl, hba⟩
    obtain ⟨wb, wc, hWb, pb, hWc, rc, rbc⟩ := newU wa Upd.zero
    have Pb := hide pb
    have Rc := hide rc
    have bc : Below w9.heap.size w9 wc := hba.trans (rbc.mono hba.size)
    have gbc := gb9.trans (bc.mono gb9.size)
    clear pb rc rbc hba bc gb9 hW8 hW9 P8
    cases hE : ((rdL b.data.toList).2.2 == 0) with
    | false =>
      have hne : (rdL b.data.toList).2.2 ≠ 0 := by intro h; rw [h] at hE; exact absurd hE (by decide)
      have hcase := rd_err b.data.toList hne
      have hR2 := hide (fun w : World => read_any b w (by omega))
      rw [readC_of] at hR2
      obtain ⟨E, hEE, hE2⟩ : ∃ E : Int, rdL b.data.toList = (Upd.zero, 0, E) ∧ (E = 2 ∨ E = 120) := by
        rcases hcase with h | h
        · exact ⟨2, h, .inl rfl⟩
        · exact ⟨120, h, .inr rfl⟩
      rw [hEE] at hR2
      have hEn : (E != 0) = true := by rcases hE2 with rfl | rfl <;> rfl
      have hqz : ∀ w : World, (Op.equalIn 10000 25 (.agg (tabv Upd.zero.v 36)) (.agg (tabv Upd.zero.v 36))).run Tryd.prog w = .ok true w := fun w => by rw [eqUD, eqU_refl]
      clear hE hne hcase hEE
      go_wp2_with (first | refine wpList_storeU rfl _ _ rfl rfl (wa.heap.size) (Upd.zero) rfl rfl _ Pb.out ?_ | refine wpW_load_at 25 _ rfl (wa.heap.size) 0 (by rfl) (by rfl) _ 36 _ (by first | exact Rc.out.at_ 0 (by omega) (fun i hi => by rw [Nat.zero_add]) | (rw [hWc]; exact Rc.out.at_ 0 (by omega) (fun i hi => by rw [Nat.zero_add]))) Tryd.underlying25 rfl infoU ?_ | refine wpW_build (by rfl) 25 #[] rfl [] (by simp) _ builtZ ?_ |  fail)
      refine (hR2.out _).mono ?_
      rintro e wx ⟨rfl, hbx⟩
      obtain ⟨wy, wz, hWy, py, hWz, rz, rbz⟩ := newU wx Upd.zero
      have Py := hide py
      have Rz := hide rz
      have gbz := gbc.trans ((hbx.trans (rbz.mono hbx.size)).mono gbc.size)
      clear py rz rbz hbx
      rcases hE2 with rfl | rfl
      · go_wp2_with (first | refine wpList_storeU rfl _ _ rfl rfl (wx.heap.size) (Upd.zero) rfl rfl _ Py.out ?_ | refine wpW_load_at 25 _ rfl (wx.heap.size) 0 (by rfl) (by rfl) _ 36 _ (by first | exact Rz.out.at_ 0 (by omega) (fun i hi => by rw [Nat.zero_add]) | (rw [hWz]; exact Rz.out.at_ 0 (by omega) (fun i hi => by rw [Nat.zero_add]))) Tryd.underlying25 rfl infoU ?_ | refine wpW_build (by rfl) 25 #[] rfl [] (by simp) _ builtZ ?_)
        try rw [hWz]
        go_ret
        exact ⟨by simp, gbz⟩
      · go_wp2_with (first | refine wpList_storeU rfl _ _ rfl rfl (wx.heap.size) (Upd.zero) rfl rfl _ Py.out ?_ | refine wpW_load_at 25 _ rfl (wx.heap.size) 0 (by rfl) (by rfl) _ 36 _ (by first | exact Rz.out.at_ 0 (by omega) (fun i hi => by rw [Nat.zero_add]) | (rw [hWz]; exact Rz.out.at_ 0 (by omega) (fun i hi => by rw [Nat.zero_add]))) Tryd.underlying25 rfl infoU ?_ | refine wpW_build (by rfl) 25 #[] rfl [] (by simp) _ builtZ ?_)
        try rw [hWz]
        go_ret
        exact ⟨by simp, gbz⟩
    | true =>
      have hR2 := hide (fun w : World => read_any b w (by omega))
      rw [readC_of] at hR2
      obtain ⟨v, N, hv0⟩ : ∃ v N, rdL b.data.toList = (v, N, 0) := ⟨(rdL b.data.toList).1, (rdL b.data.toList).2.1, by rw [← beq_iff_eq.1 hE]⟩
      obtain ⟨vv, hN0, hN1, hbs⟩ := rd_ok _ _ _ hv0
      rw [hv0] at hR2
      rw [Cu.str_len] at hN1
      obtain ⟨m, rfl⟩ := Int.eq_ofNat_of_zero_le (show 0 ≤ N by omega)
      rw [Int.toNat_natCast] at hbs
      have hex : b.extract 0 m = ofL (bytesU v) := by
        rw [hbs]
        have := Cu.ofL_extract b.data.toList 0 m
        rw [Cu.ofL_of, List.drop_zero] at this
        exact this
      have WV := hide (fun w : World => write_any v w)
      have VV := hide (fun w : World => valid_any v w)
      rw [vv] at VV
      rw [show writeS v = ofL (bytesU v) by unfold writeS; rw [if_pos vv], show writeE v = 0 by unfold writeE; rw [if_pos vv]] at WV
      obtain ⟨T, hT⟩ : ∃ T, ofL (bytesU v) = T := ⟨_, rfl⟩
      rw [hT] at hex WV
      have hd1 : decide ((m : Int) > 0) = true := decide_eq_true (by omega)
      have hd2 : decide ((m : Int) ≤ (b.size : Int)) = true := decide_eq_true hN1
      have hd3 : (0 : Int) ≤ (m : Int) := by omega
      have hm0 : 0 < m := by omega
      have hmb : m ≤ b.size := by omega
      clear hE hv0 hbs hT hN0 vv
      go_wp2_with (first | refine wpList_storeU rfl _ _ rfl rfl (wa.heap.size) (Upd.zero) rfl rfl _ Pb.out ?_ | refine wpW_load_at 25 _ rfl (wa.heap.size) 0 (by rfl) (by rfl) _ 36 _ (by first | exact Rc.out.at_ 0 (by omega) (fun i hi => by rw [Nat.zero_add]) | (rw [hWc]; exact Rc.out.at_ 0 (by omega) (fun i hi => by rw [Nat.zero_add]))) Tryd.underlying25 rfl infoU ?_ | refine wpW_build (by rfl) 25 #[] rfl [] (by simp) _ builtZ ?_ |  fail)
      refine (hR2.out _).mono ?_
      rintro e wx ⟨rfl, hbx⟩
      obtain ⟨wy, wz, hWy, py, hWz, rz, rbz⟩ := newU wx v
      have Py := hide py
      have Rz := hide rz
      have gbz := gbc.trans ((hbx.trans (rbz.mono hbx.size)).mono gbc.size)
      clear py rz rbz hbx
      go_wp2_with (first | refine wpList_storeU rfl _ _ rfl rfl (wx.heap.size) (v) rfl rfl _ Py.out ?_ | refine wpW_load_at 25 _ rfl (wx.heap.size) 0 (by rfl) (by rfl) _ 36 _ (by first | exact Rz.out.at_ 0 (by omega) (fun i hi => by rw [Nat.zero_add]) | (rw [hWz]; exact Rz.out.at_ 0 (by omega) (fun i hi => by rw [Nat.zero_add]))) Tryd.underlying25 rfl infoU ?_ | fail)
      try rw [hWz]
      refine (WV.out _).mono ?_
      rintro e wA ⟨rfl, hbA⟩
      have RA := hide (Rz.out.below hbA Rz.out.lt)
      have gbA := gbz.trans (hbA.mono gbz.size)
      clear hbA gbz hWy hWz Py
      go_wp2_with (first | refine wpW_load_at 25 _ rfl (wx.heap.size) (0) (by rfl) (by rfl) _ 36 _ (RA.out.at_ 0 (by omega) (fun i hi => by rw [Nat.zero_add])) Tryd.underlying25 rfl infoU ?_ | fail)
      refine (VV.out _).mono ?_
      rintro e wB ⟨rfl, hbB⟩
      have gbB := gbA.trans (hbB.mono gbA.size)
      clear hbB gbA
      go_wp2
      go_ret
      exact ⟨by simp, gbB⟩
theorem back_walk (n : Num) (u : Upd) (behind : ByteArray) (at_ : Int) (b : ByteArray) (hz1 : behind.size ≤ 140737488351232) (hz2 : b.size ≤ 140737488351232) (w : World) (hG : Glob n w) : Calls Tryd.prog 3 #[.agg (tabv u.v 36), .string behind, .int .i64 at_, .string b] w fun e w' => e = .returned (.bool true) ∧ Below w.heap.size w w' := by
  cases hv : validB u with
  | false => exact back_no n u behind at_ b hz1 hz2 w hG hv
  | true => exact back_yes n u behind at_ b hz1 hz2 w hG hv
end Go.Proofs.YtagopbdoabhjfaaDoor
