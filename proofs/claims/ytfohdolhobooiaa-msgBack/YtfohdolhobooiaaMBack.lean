/-
  MsgBack: the walk (printed by gen_m7.py).
-/
import Derived.Test.YtfohdolhobooiaaMHelp
namespace Go.Proofs.Ytfohdolhobooiaa
open Go.RowKit S
set_option linter.unusedVariables false
set_option linter.unusedSimpArgs false
open Cu (nb be hl ofL CW Mw CR Mr RS takeS takeA hOf nil8 num doneS)
set_option maxRecDepth 100000 in
set_option maxHeartbeats 40000000 in
theorem mback_no (m : Msg) (at_ : Int) (more b : ByteArray) (hz1 : more.size ≤ 140737488351232) (hz2 : b.size ≤ 140737488351232) (w : World) (hv : validM m = false) : Calls Try.prog 3 #[.agg (tabv m.v 70), .int .i64 at_, .string more, .string b] w fun e w' => e = .returned (.bool true) ∧ Below w.heap.size w w' := by
  obtain ⟨w1, hW1⟩ : ∃ wX, w.alloc (.cells (tabv m.v 70) 25) = wX := ⟨_, rfl⟩
  have r1 : Has w1 w.heap.size 25 m.v 70 := by rw [← hW1]; exact Has.new w 25 m.v 70 _ rfl
  have b1 : Below w.heap.size w w1 := by rw [← hW1]; exact (Below.refl w.heap.size w).alloc (Nat.le_refl _) _
  obtain ⟨Z, hZ⟩ : ∃ Z, Msg.zero = Z := ⟨_, rfl⟩
  have HZZ : Hid (eqM Z Msg.zero = true) := by show _ = _; rw [hZ]; exact eqM_refl _
  have R1 := hide r1
  have G1 : Hid (Below w.heap.size w w1) := b1
  obtain ⟨⟨x, E⟩, hx⟩ : ∃ y, rdM b.data.toList = y := ⟨_, rfl⟩
  have RB := fun w => mread_any b w (by omega)
  rw [rdC_of, hx] at RB
  have RB := hide RB
  have HB : Hid ((E = 0 ∧ wrS x = b ∧ wrE x = 0) ∨ (E = 160 ∧ x = Z)) := by
    have h := rdM_bad b.data.toList
    rw [hx] at h
    rcases h with h | h
    · have h : E = 0 := h
      subst h
      obtain ⟨h1, h2⟩ := rdM_ok _ _ hx
      exact .inl ⟨rfl, by unfold wrS; rw [if_pos h1, h2, Cu.ofL_of], by unfold wrE; rw [if_pos h1]⟩
    · obtain ⟨rfl, rfl⟩ := Prod.mk.inj h
      exact .inr ⟨rfl, hZ⟩
  have WM := hide (mwrite_any m)
  clear hx r1 b1
  rw [show wrS m = ⟨#[]⟩ by unfold wrS; rw [hv]; rfl, show wrE m = 160 by unfold wrE; rw [hv]; rfl] at WM
  clear hv hz1 hz2 hZ
  go_enter Try.func3, Try.ntmps3
  go_wp2_with fail
  refine (mhead_any _).mono ?_
  rintro e w2 ⟨rfl, hb⟩
  have R2 := hide (R1.out.below hb R1.out.lt)
  have G2 : Hid (Below w.heap.size w w2) := G1.out.trans (hb.mono G1.out.size)
  clear hb R1 G1 hW1
  go_wp2_with (first | refine wpW_load_at 25 _ rfl (w.heap.size) (0) (by rfl) (by rfl) _ 70 _ (R2.out.at_ 0 (by omega) (fun i hi => by rw [Nat.zero_add])) Try.underlying25 rfl infoM ?_ | fail)
  refine (WM.out _).mono ?_
  rintro e w3 ⟨rfl, hb⟩
  have R3 := hide (R2.out.below hb R2.out.lt)
  have G3 : Hid (Below w.heap.size w w3) := G2.out.trans (hb.mono G2.out.size)
  clear hb R2 G2 WM
  go_wp2_with fail
  refine (RB.out _).mono ?_
  rintro e wx ⟨rfl, hb⟩
  obtain ⟨wnT, wT, hWnT, rn, hWT, rT, bT, _⟩ := newM wx x
  have RNT := hide rn
  have RT := hide rT
  have bbT : Below w3.heap.size w3 wT := hb.trans (bT.mono hb.size)
  have GT : Hid (Below w.heap.size w wT) := G3.out.trans (bbT.mono G3.out.size)
  clear rn rT bT hb
  go_upto_region 18 with (first | refine wpList_storeM rfl _ _ rfl rfl (wx.heap.size) (x) rfl rfl _ RNT.out ?_ | fail)
  try rw [hWT]
  generalize hgq : wx.heap.size = gx at RT ⊢
  clear hWnT hWT RNT hgq
  rcases HB.out with h0 | h0
  · obtain ⟨rfl, hT1, hT2⟩ := h0
    have WX := hide (mwrite_any x)
    rw [hT1, hT2] at WX
    clear hT1 hT2
    go_wp2_with (first | refine wpW_load_at 25 _ rfl (gx) (0) (by rfl) (by rfl) _ 70 _ (RT.out.at_ 0 (by omega) (fun i hi => by rw [Nat.zero_add])) Try.underlying25 rfl infoM ?_ | fail)
    refine (WX.out _).mono ?_
    rintro e wy ⟨rfl, hb⟩
    have gF := GT.out.trans (hb.mono GT.out.size)
    have hbb : (b.toList == b.toList) = true := beq_self_eq_true _
    go_wp2
    go_ret
    exact ⟨by first | rfl | simp, gF⟩
  · obtain ⟨rfl, hxz⟩ := h0
    have hxz := hxz.symm
    subst hxz
    go_wp2_with (first | refine wpW_load_at 25 _ rfl (gx) (0) (by rfl) (by rfl) _ 70 _ (RT.out.at_ 0 (by omega) (fun i hi => by rw [Nat.zero_add])) Try.underlying25 rfl infoM ?_ | refine wpW_eqZ (by rfl) (.tmp 107) (.tmp 108) rfl Z true (by rfl) (by rfl) HZZ.out ?_ | fail)
    go_ret
    exact ⟨by first | rfl | simp, GT.out⟩
set_option maxRecDepth 100000 in
set_option maxHeartbeats 40000000 in
theorem mback_yes (m : Msg) (at_ : Int) (more b : ByteArray) (hz1 : more.size ≤ 140737488351232) (hz2 : b.size ≤ 140737488351232) (w : World) (hv : validM m = true) : Calls Try.prog 3 #[.agg (tabv m.v 70), .int .i64 at_, .string more, .string b] w fun e w' => e = .returned (.bool true) ∧ Below w.heap.size w w' := by
  obtain ⟨w1, hW1⟩ : ∃ wX, w.alloc (.cells (tabv m.v 70) 25) = wX := ⟨_, rfl⟩
  have r1 : Has w1 w.heap.size 25 m.v 70 := by rw [← hW1]; exact Has.new w 25 m.v 70 _ rfl
  have b1 : Below w.heap.size w w1 := by rw [← hW1]; exact (Below.refl w.heap.size w).alloc (Nat.le_refl _) _
  obtain ⟨Z, hZ⟩ : ∃ Z, Msg.zero = Z := ⟨_, rfl⟩
  have HZZ : Hid (eqM Z Msg.zero = true) := by show _ = _; rw [hZ]; exact eqM_refl _
  have R1 := hide r1
  have G1 : Hid (Below w.heap.size w w1) := b1
  obtain ⟨⟨x, E⟩, hx⟩ : ∃ y, rdM b.data.toList = y := ⟨_, rfl⟩
  have RB := fun w => mread_any b w (by omega)
  rw [rdC_of, hx] at RB
  have RB := hide RB
  have HB : Hid ((E = 0 ∧ wrS x = b ∧ wrE x = 0) ∨ (E = 160 ∧ x = Z)) := by
    have h := rdM_bad b.data.toList
    rw [hx] at h
    rcases h with h | h
    · have h : E = 0 := h
      subst h
      obtain ⟨h1, h2⟩ := rdM_ok _ _ hx
      exact .inl ⟨rfl, by unfold wrS; rw [if_pos h1, h2, Cu.ofL_of], by unfold wrE; rw [if_pos h1]⟩
    · obtain ⟨rfl, rfl⟩ := Prod.mk.inj h
      exact .inr ⟨rfl, hZ⟩
  have WM := hide (mwrite_any m)
  clear hx r1 b1
  rw [show wrS m = ofL (bytesM m) by unfold wrS; rw [if_pos hv], show wrE m = 0 by unfold wrE; rw [if_pos hv]] at WM
  obtain ⟨v, hr1, hq1⟩ := rdM_back hv
  have hlen := bytesM_len hv
  have hcut := fun k hk => rdM_cut hv k hk
  have hmo := fun r hr => rdM_more hv r hr
  obtain ⟨s, hs⟩ : ∃ s, ofL (bytesM m) = s := ⟨_, rfl⟩
  have hsz : s.size = (bytesM m).length := by rw [← hs, Cu.ofL_size]
  have hsl : s.data.toList = bytesM m := by rw [← hs, Cu.ofL_data]
  rw [hs] at WM
  have RS := fun w => mread_any s w (by omega)
  rw [rdC_of, hsl, hr1] at RS
  have RS := hide RS
  have R3k := hide (fun (k : Nat) (hk : k < s.size) (w : World) => (show Calls Try.prog 9 #[.string (s.extract 0 k)] w fun e w' => e = .returned (.tuple #[.agg (tabv Z.v 70), .int .i64 160]) ∧ Below w.heap.size w w' from by
    have := mread_any (s.extract 0 k) w (by rw [ByteArray.size_extract]; omega)
    have he := Cu.ofL_extract (bytesM m) 0 k
    rw [hs, List.drop_zero] at he
    rw [he, rdC_of, Cu.ofL_data, hcut k (by rw [← hsz]; exact hk)] at this
    rw [he]
    unfold badM at this
    rw [hZ] at this
    exact this))
  have RMo := fun w => mread_any (s ++ ⟨#[120]⟩ ++ more) w (by rw [ByteArray.size_append, ByteArray.size_append, show (⟨#[120]⟩ : ByteArray).size = 1 from rfl]; omega)
  rw [rdC_of, ByteArray.data_append, ByteArray.data_append, Array.toList_append, Array.toList_append, hsl, List.append_assoc, hmo _ (by simp)] at RMo
  unfold badM at RMo
  rw [hZ] at RMo
  have RMo := hide RMo
  have a1 := hide (fun w : World => run_string_add_sum (P := Try.prog) w s ⟨#[120]⟩ (by show s.size + 1 ≤ _; omega))
  have a2 := hide (fun w : World => run_string_add_sum (P := Try.prog) w (s ++ ⟨#[120]⟩) more (by rw [ByteArray.size_append]; show s.size + 1 + _ ≤ _; omega))
  have hse : s.toList.isEmpty = false := empty_false (by rw [hsz]; exact hlen.1)
  have hM0 : 0 < s.size := by rw [hsz]; exact hlen.1
  have hM1 : s.size ≤ 73 := by rw [hsz]; exact hlen.2
  have hd73 : decide (73 < (s.size : Int)) = false := decide_eq_false (by omega)
  have hd74 : decide (73 < s.size) = false := decide_eq_false (by omega)
  obtain ⟨R, hR⟩ : ∃ R, at_.tmod (s.size : Int) = R := ⟨_, rfl⟩
  have hrr := tmod_range at_ s.size hM0
  rw [hR] at hrr
  have HEQ := hide hq1
  clear hv hr1 hq1 hlen hcut hmo hs hsl hZ
  go_enter Try.func3, Try.ntmps3
  go_wp2_with fail
  refine (mhead_any _).mono ?_
  rintro e w2 ⟨rfl, hb⟩
  have R2 := hide (R1.out.below hb R1.out.lt)
  have G2 : Hid (Below w.heap.size w w2) := G1.out.trans (hb.mono G1.out.size)
  clear hb R1 G1 hW1
  go_wp2_with (first | refine wpW_load_at 25 _ rfl (w.heap.size) (0) (by rfl) (by rfl) _ 70 _ (R2.out.at_ 0 (by omega) (fun i hi => by rw [Nat.zero_add])) Try.underlying25 rfl infoM ?_ | fail)
  refine (WM.out _).mono ?_
  rintro e w3 ⟨rfl, hb⟩
  have R3 := hide (R2.out.below hb R2.out.lt)
  have G3 : Hid (Below w.heap.size w w3) := G2.out.trans (hb.mono G2.out.size)
  clear hb R2 G2 WM
  go_wp2_with fail
  refine (RS.out _).mono ?_
  rintro e wp ⟨rfl, hb⟩
  obtain ⟨wn4, w4, hWn4, rn, hW4, r4, b4, _⟩ := newM wp v
  have RN4 := hide rn
  have R4 := hide r4
  have bb4 : Below w3.heap.size w3 w4 := hb.trans (b4.mono hb.size)
  have G4 : Hid (Below w.heap.size w w4) := G3.out.trans (bb4.mono G3.out.size)
  have Q4 := hide (R3.out.below bb4 R3.out.lt)
  clear rn r4 b4 hb G3 R3 RS
  go_upto_region 6 with (first | refine wpList_storeM rfl _ _ rfl rfl (wp.heap.size) (v) rfl rfl _ RN4.out ?_ | fail)
  try rw [hW4]
  generalize hgq : wp.heap.size = g4 at R4 ⊢
  clear hWn4 hW4 RN4 hgq bb4
  go_upto_region 8 with (first | refine wpW_load_at 25 _ rfl (g4) (0) (by rfl) (by rfl) _ 70 _ (R4.out.at_ 0 (by omega) (fun i hi => by rw [Nat.zero_add])) Try.underlying25 rfl infoM ?_ | refine wpW_load_at 25 _ rfl (w.heap.size) (0) (by rfl) (by rfl) _ 70 _ (Q4.out.at_ 0 (by omega) (fun i hi => by rw [Nat.zero_add])) Try.underlying25 rfl infoM ?_ | refine wpW_neM (by rfl) (.tmp 39) (.tmp 40) rfl v m true (by rfl) (by rfl) HEQ.out ?_ | fail)
  clear R4 Q4 HEQ hse hd73 hd74
  have KR0 := fun w => run_rem (P := Try.prog) 3 .i64 at_ s.size R (by omega) hR w
  by_cases hneg : R < 0
  · have KR := hide KR0
    have hdn : decide (R < 0) = true := decide_eq_true hneg
    obtain ⟨k, hk⟩ : ∃ k : Nat, -R = (k : Int) := Int.eq_ofNat_of_zero_le (by omega)
    have KN : Hid (∀ w : World, (Op.unary .neg (.int .i64 R)).run Try.prog w = .ok (.int .i64 (k : Int)) w) := fun w => run_neg .i64 R k (by rw [IntKind.wrap_i64]; omega) w
    have hkM : k < s.size := by omega
    have hkb : (k : Int) ≤ 73 := by omega
    have hk0 : (0 : Int) ≤ (k : Int) := by omega
    have hkS : (k : Int) ≤ (s.size : Int) := by omega
    have HKM := hide hkM
    clear hneg hk hrr hM0 hM1 hkM hsz hz1 hz2 hR KR0
    go_wp2_with (first | refine Cu.wpW_bin .rem _ _ _ _ rfl (.int .i64 at_) (.int .i64 (s.size : Int)) (.int .i64 R) (by rfl) (by rfl) (by rfl) rfl (KR.out _) ?_ | refine wpW_un .neg _ _ rfl (.int .i64 R) (.int .i64 (k : Int)) (by rfl) (by rfl) (KN.out _) ?_ | fail)
    refine (R3k.out k HKM.out _).mono ?_
    rintro e w5 ⟨rfl, hb⟩
    obtain ⟨wn6, w6, hWn6, rn, hW6, r6, b6, _⟩ := newM w5 Z
    have RN6 := hide rn
    have R6 := hide r6
    have bb6 : Below w4.heap.size w4 w6 := hb.trans (b6.mono hb.size)
    have G6 : Hid (Below w.heap.size w w6) := G4.out.trans (bb6.mono G4.out.size)
    clear rn r6 b6 hb G4
    go_upto_region 12 with (first | refine wpList_storeM rfl _ _ rfl rfl (w5.heap.size) (Z) rfl rfl _ RN6.out ?_ | fail)
    try rw [hW6]
    generalize hgq : w5.heap.size = g6 at R6 ⊢
    clear hWn6 hW6 RN6 hgq bb6
    generalize hXB : (⟨#[120]⟩ : ByteArray) = XB at RMo a1 a2 ⊢
    generalize s ++ XB = T1 at RMo a1 a2
    generalize T1 ++ more = T2 at RMo a2
    clear hXB
    have a1 := a1.out
    have a2 := a2.out
    go_wp2_with fail
    refine (RMo.out _).mono ?_
    rintro e w7 ⟨rfl, hb⟩
    have Q6 := R6.out.below hb R6.out.lt
    obtain ⟨wn8, w8, hWn8, rn, hW8, r8, b8, _⟩ := newM w7 Z
    have RN8 := hide rn
    have R8 := hide r8
    have bb8 : Below w6.heap.size w6 w8 := hb.trans (b8.mono hb.size)
    have G8 : Hid (Below w.heap.size w w8) := G6.out.trans (bb8.mono G6.out.size)
    have P6 := hide (Q6.below b8 Q6.lt)
    clear rn r8 b8 hb G6 Q6 R6 a1 a2
    go_upto_region 13 with (first | refine wpList_storeM rfl _ _ rfl rfl (w7.heap.size) (Z) rfl rfl _ RN8.out ?_ | fail)
    try rw [hW8]
    generalize hgq : w7.heap.size = g8 at R8 ⊢
    clear hWn8 hW8 RN8 hgq bb8
    go_upto_region 17 with (first | refine wpW_load_at 25 _ rfl (g6) (0) (by rfl) (by rfl) _ 70 _ (P6.out.at_ 0 (by omega) (fun i hi => by rw [Nat.zero_add])) Try.underlying25 rfl infoM ?_ | refine wpW_load_at 25 _ rfl (g8) (0) (by rfl) (by rfl) _ 70 _ (R8.out.at_ 0 (by omega) (fun i hi => by rw [Nat.zero_add])) Try.underlying25 rfl infoM ?_ | refine wpW_neZ (by rfl) (.tmp 82) (.tmp 83) rfl Z true (by rfl) (by rfl) HZZ.out ?_ | refine wpW_neZ (by rfl) (.tmp 87) (.tmp 88) rfl Z true (by rfl) (by rfl) HZZ.out ?_ | fail)
    clear P6 R8
    go_wp2_with fail
    refine (RB.out _).mono ?_
    rintro e wx ⟨rfl, hb⟩
    obtain ⟨wnT, wT, hWnT, rn, hWT, rT, bT, _⟩ := newM wx x
    have RNT := hide rn
    have RT := hide rT
    have bbT : Below w8.heap.size w8 wT := hb.trans (bT.mono hb.size)
    have GT : Hid (Below w.heap.size w wT) := G8.out.trans (bbT.mono G8.out.size)
    clear rn rT bT hb
    go_upto_region 18 with (first | refine wpList_storeM rfl _ _ rfl rfl (wx.heap.size) (x) rfl rfl _ RNT.out ?_ | fail)
    try rw [hWT]
    generalize hgq : wx.heap.size = gx at RT ⊢
    clear hWnT hWT RNT hgq
    rcases HB.out with h0 | h0
    · obtain ⟨rfl, hT1, hT2⟩ := h0
      have WX := hide (mwrite_any x)
      rw [hT1, hT2] at WX
      clear hT1 hT2
      go_wp2_with (first | refine wpW_load_at 25 _ rfl (gx) (0) (by rfl) (by rfl) _ 70 _ (RT.out.at_ 0 (by omega) (fun i hi => by rw [Nat.zero_add])) Try.underlying25 rfl infoM ?_ | fail)
      refine (WX.out _).mono ?_
      rintro e wy ⟨rfl, hb⟩
      have gF := GT.out.trans (hb.mono GT.out.size)
      have hbb : (b.toList == b.toList) = true := beq_self_eq_true _
      go_wp2
      go_ret
      exact ⟨by first | rfl | simp, gF⟩
    · obtain ⟨rfl, hxz⟩ := h0
      have hxz := hxz.symm
      subst hxz
      go_wp2_with (first | refine wpW_load_at 25 _ rfl (gx) (0) (by rfl) (by rfl) _ 70 _ (RT.out.at_ 0 (by omega) (fun i hi => by rw [Nat.zero_add])) Try.underlying25 rfl infoM ?_ | refine wpW_eqZ (by rfl) (.tmp 107) (.tmp 108) rfl Z true (by rfl) (by rfl) HZZ.out ?_ | fail)
      go_ret
      exact ⟨by first | rfl | simp, GT.out⟩
  · obtain ⟨k, rfl⟩ := Int.eq_ofNat_of_zero_le (show 0 ≤ R by omega)
    have KR := hide KR0
    have hdn : decide ((k : Int) < 0) = false := decide_eq_false (by omega)
    have hkM : k < s.size := by omega
    have hkb : (k : Int) ≤ 73 := by omega
    have hk0 : (0 : Int) ≤ (k : Int) := by omega
    have hkS : (k : Int) ≤ (s.size : Int) := by omega
    have HKM := hide hkM
    clear hneg hrr hM0 hM1 hkM hsz hz1 hz2 hR KR0
    go_wp2_with (first | refine Cu.wpW_bin .rem _ _ _ _ rfl (.int .i64 at_) (.int .i64 (s.size : Int)) (.int .i64 (k : Int)) (by rfl) (by rfl) (by rfl) rfl (KR.out _) ?_ | fail)
    refine (R3k.out k HKM.out _).mono ?_
    rintro e w5 ⟨rfl, hb⟩
    obtain ⟨wn6, w6, hWn6, rn, hW6, r6, b6, _⟩ := newM w5 Z
    have RN6 := hide rn
    have R6 := hide r6
    have bb6 : Below w4.heap.size w4 w6 := hb.trans (b6.mono hb.size)
    have G6 : Hid (Below w.heap.size w w6) := G4.out.trans (bb6.mono G4.out.size)
    clear rn r6 b6 hb G4
    go_upto_region 12 with (first | refine wpList_storeM rfl _ _ rfl rfl (w5.heap.size) (Z) rfl rfl _ RN6.out ?_ | fail)
    try rw [hW6]
    generalize hgq : w5.heap.size = g6 at R6 ⊢
    clear hWn6 hW6 RN6 hgq bb6
    generalize hXB : (⟨#[120]⟩ : ByteArray) = XB at RMo a1 a2 ⊢
    generalize s ++ XB = T1 at RMo a1 a2
    generalize T1 ++ more = T2 at RMo a2
    clear hXB
    have a1 := a1.out
    have a2 := a2.out
    go_wp2_with fail
    refine (RMo.out _).mono ?_
    rintro e w7 ⟨rfl, hb⟩
    have Q6 := R6.out.below hb R6.out.lt
    obtain ⟨wn8, w8, hWn8, rn, hW8, r8, b8, _⟩ := newM w7 Z
    have RN8 := hide rn
    have R8 := hide r8
    have bb8 : Below w6.heap.size w6 w8 := hb.trans (b8.mono hb.size)
    have G8 : Hid (Below w.heap.size w w8) := G6.out.trans (bb8.mono G6.out.size)
    have P6 := hide (Q6.below b8 Q6.lt)
    clear rn r8 b8 hb G6 Q6 R6 a1 a2
    go_upto_region 13 with (first | refine wpList_storeM rfl _ _ rfl rfl (w7.heap.size) (Z) rfl rfl _ RN8.out ?_ | fail)
    try rw [hW8]
    generalize hgq : w7.heap.size = g8 at R8 ⊢
    clear hWn8 hW8 RN8 hgq bb8
    go_upto_region 17 with (first | refine wpW_load_at 25 _ rfl (g6) (0) (by rfl) (by rfl) _ 70 _ (P6.out.at_ 0 (by omega) (fun i hi => by rw [Nat.zero_add])) Try.underlying25 rfl infoM ?_ | refine wpW_load_at 25 _ rfl (g8) (0) (by rfl) (by rfl) _ 70 _ (R8.out.at_ 0 (by omega) (fun i hi => by rw [Nat.zero_add])) Try.underlying25 rfl infoM ?_ | refine wpW_neZ (by rfl) (.tmp 82) (.tmp 83) rfl Z true (by rfl) (by rfl) HZZ.out ?_ | refine wpW_neZ (by rfl) (.tmp 87) (.tmp 88) rfl Z true (by rfl) (by rfl) HZZ.out ?_ | fail)
    clear P6 R8
    go_wp2_with fail
    refine (RB.out _).mono ?_
    rintro e wx ⟨rfl, hb⟩
    obtain ⟨wnT, wT, hWnT, rn, hWT, rT, bT, _⟩ := newM wx x
    have RNT := hide rn
    have RT := hide rT
    have bbT : Below w8.heap.size w8 wT := hb.trans (bT.mono hb.size)
    have GT : Hid (Below w.heap.size w wT) := G8.out.trans (bbT.mono G8.out.size)
    clear rn rT bT hb
    go_upto_region 18 with (first | refine wpList_storeM rfl _ _ rfl rfl (wx.heap.size) (x) rfl rfl _ RNT.out ?_ | fail)
    try rw [hWT]
    generalize hgq : wx.heap.size = gx at RT ⊢
    clear hWnT hWT RNT hgq
    rcases HB.out with h0 | h0
    · obtain ⟨rfl, hT1, hT2⟩ := h0
      have WX := hide (mwrite_any x)
      rw [hT1, hT2] at WX
      clear hT1 hT2
      go_wp2_with (first | refine wpW_load_at 25 _ rfl (gx) (0) (by rfl) (by rfl) _ 70 _ (RT.out.at_ 0 (by omega) (fun i hi => by rw [Nat.zero_add])) Try.underlying25 rfl infoM ?_ | fail)
      refine (WX.out _).mono ?_
      rintro e wy ⟨rfl, hb⟩
      have gF := GT.out.trans (hb.mono GT.out.size)
      have hbb : (b.toList == b.toList) = true := beq_self_eq_true _
      go_wp2
      go_ret
      exact ⟨by first | rfl | simp, gF⟩
    · obtain ⟨rfl, hxz⟩ := h0
      have hxz := hxz.symm
      subst hxz
      go_wp2_with (first | refine wpW_load_at 25 _ rfl (gx) (0) (by rfl) (by rfl) _ 70 _ (RT.out.at_ 0 (by omega) (fun i hi => by rw [Nat.zero_add])) Try.underlying25 rfl infoM ?_ | refine wpW_eqZ (by rfl) (.tmp 107) (.tmp 108) rfl Z true (by rfl) (by rfl) HZZ.out ?_ | fail)
      go_ret
      exact ⟨by first | rfl | simp, GT.out⟩
theorem mback_walk (m : Msg) (at_ : Int) (more b : ByteArray) (hz1 : more.size ≤ 140737488351232) (hz2 : b.size ≤ 140737488351232) (w : World) : Calls Try.prog 3 #[.agg (tabv m.v 70), .int .i64 at_, .string more, .string b] w fun e w' => e = .returned (.bool true) ∧ Below w.heap.size w w' := by
  cases h : validM m with
  | false => exact mback_no m at_ more b hz1 hz2 w h
  | true => exact mback_yes m at_ more b hz1 hz2 w h
end Go.Proofs.Ytfohdolhobooiaa
