import Derived.Test.YtlkimfmilccanaaGreatMkLaw
import Derived.Test.YtlkimfmilccanaaGreatMkSafeO
import Derived.Test.YtlkimfmilccanaaGreatRowsOwn
/-
  The statements' own whole (printed by gen_whole.py).
-/
namespace Go.Proofs.YtlkimfmilccanaaGreat
open Go.RowKit Go.Maps Go.WideMaps
set_option linter.unusedVariables false
set_option linter.unusedSimpArgs false
theorem skH {P : Program} {ops : Array Oper} {Q : Exit → Act → World → Prop} {md : Region.Mode} {S : World → Prop} (i : Nat) (d : Option Tmp) {oi : Oper} {fuel : Nat} {listed : Array Bool} {a : Act} {w : World} (hi : ops[i]? = some oi)
    (hS : S w) (h : wpAnyH P md ops Q S fuel (listed.setIfInBounds i true) (a.put d undef) w) (hd : oi.dst = d := by rfl)
    (hs : Region.noSelect ops = true := by kernel_rfl) (hf : Region.free md ops listed i = true := by kernel_rfl) (hr : (Region.ready md ops listed).contains i = true := by kernel_rfl)
    (hQ : ∀ c a w, Q (.panic c) (a.put oi.dst undef) w → Q (.panic c) a w := by exact fun _ _ _ h => h) (hw : Region.wanted oi (yielded ops a.tmps) = false := by rfl) : wpAnyH P md ops Q S (fuel + 1) listed a w :=
  wpAnyH_take hi hs hf hr hQ (.inr ⟨hw, rfl⟩) hS (by rw [hd]; exact h)
theorem ofInt_wrap (n : Nat) : (BitVec.ofInt 64 (IntKind.i64.wrap (n : Int))).toNat = n % 18446744073709551616 := by
  rw [BitVec.toNat_ofInt, IntKind.wrap_i64]
  omega
theorem acc_shl (b : Nat) : IntKind.i64.wrap (IntKind.i64.wrap (b : Int) * (2 : Int) ^ 8) = IntKind.i64.wrap ((256 * b : Nat) : Int) := by
  rw [IntKind.wrap_i64, IntKind.wrap_i64, IntKind.wrap_i64]
  omega
theorem acc_or (b c : Nat) (hc : c < 256) : bits .or .i64 (IntKind.i64.wrap ((256 * b : Nat) : Int)) (c : Int) = IntKind.i64.wrap ((b * 256 + c : Nat) : Int) := by
  show IntKind.i64.wrap ((BitVec.ofInt 64 (IntKind.i64.wrap ((256 * b : Nat) : Int)) ||| BitVec.ofInt 64 (c : Int)).toNat : Int) = _
  have h2 : (BitVec.ofInt 64 (c : Int)).toNat = c := by
    rw [BitVec.ofInt_natCast, BitVec.toNat_ofNat]; exact Nat.mod_eq_of_lt (by omega)
  rw [BitVec.toNat_or, ofInt_wrap, h2]
  have e : 256 * b % 18446744073709551616 = 2 ^ 8 * (b % 72057594037927936) := by omega
  rw [e, ← Nat.two_pow_add_eq_or_of_lt (i := 8) (by omega)]
  rw [IntKind.wrap_i64, IntKind.wrap_i64]
  omega
def wvB (f : ByteArray) (k : Nat) : Bool := decide (64 * k + 12 ≤ f.size) && (wholeL (f.data.toList.drop (64 * k))).isSome
def wvI (f : ByteArray) (k : Nat) : Int := if 64 * k + 12 ≤ f.size then valL (f.data.toList.drop (64 * k)) else 0
theorem numB_lt {v : Int} : numB v = (decide (-1 ≤ v) && decide (v < 281474976710656)) := by
  unfold numB
  congr 1
  by_cases h : v ≤ 281474976710655
  · rw [decide_eq_true h, decide_eq_true (by omega)]
  · rw [decide_eq_false h, decide_eq_false (by omega)]
set_option maxRecDepth 5000 in
set_option maxHeartbeats 4000000 in
theorem lwhole_any (f : ByteArray) (hf : f.size ≤ maxLen) (k : Nat) (hk : k ≤ 1) (w : World) : Calls Tryz.prog 16 #[.string f, .int .i64 (k : Int)] w fun e w' => e = .returned (.tuple #[.int .i64 (wvI f k), .bool (wvB f k)]) ∧ Below w.heap.size w w' := by
  unfold maxLen at hf
  obtain ⟨O, hO⟩ : ∃ O : Int, 64 * (k : Int) = O := ⟨_, rfl⟩
  obtain ⟨O2, hO2⟩ : ∃ O2 : Int, O + 12 = O2 := ⟨_, rfl⟩
  have hw1 : wrap64 (64 * (k : Int)) = O := by unfold wrap64; omega
  have hw2 : wrap64 (O + 12) = O2 := by unfold wrap64; omega
  by_cases hlen : f.size < 64 * k + 12
  · have hd : decide ((f.size : Int) < O2) = true := decide_eq_true (by omega)
    have HE : Hid (wvI f k = 0 ∧ wvB f k = false) := by
      refine ⟨?_, ?_⟩
      · unfold wvI; rw [if_neg (by omega)]
      · unfold wvB; rw [decide_eq_false (by omega)]; rfl
    clear hf hk hlen hO hO2
    go_enter Tryz.func16, Tryz.ntmps16
    go_wp2
    go_ret2
    exact ⟨by rw [HE.out.1, HE.out.2]; rfl, Below.refl _ _⟩
  have hd : decide ((f.size : Int) < O2) = false := decide_eq_false (by omega)
  obtain ⟨T, hT⟩ : ∃ T, f.extract (64 * k) (64 * k + 12) = T := ⟨_, rfl⟩
  have lT : T.data.toList = (f.data.toList.drop (64 * k)).take 12 := by
    rw [← hT, k_extract f _ _ (by omega)]; congr 1; omega
  have zT : T.size = 12 := by rw [← str_len, lT, List.length_take, List.length_drop, str_len]; omega
  have hs1 : ∀ w : World, (Instr.slice 9 (.string f) (some (.int .i64 O)) (some (.int .i64 O2)) none).run Tryz.prog w = .ok (.string T) w := fun w => by
    have := run_slice_str_mid w f (64 * k) (64 * k + 12) (by omega) (by omega)
    rw [hT, show (((64 * k : Nat)) : Int) = O by omega, show (((64 * k + 12 : Nat)) : Int) = O2 by omega] at this
    exact this
  have hv8 : Fr.be (T.data.toList.take 8) = Fr.be ((f.data.toList.drop (64 * k)).take 8) := by rw [lT, List.take_take]; rfl
  obtain ⟨V, hV⟩ : ∃ V, valL (f.data.toList.drop (64 * k)) = V := ⟨_, rfl⟩
  have hacc8 : accI T.data.toList 8 = V := by
    rw [← hV]
    unfold accI valL sgn64
    rw [hv8]
  have hVr : -9223372036854775808 ≤ V ∧ V < 9223372036854775808 := by rw [← hV]; exact sgn_wf _
  obtain ⟨S, hS⟩ : ∃ S : ByteArray, (⟨(slotL V).toArray⟩ : ByteArray) = S := ⟨_, rfl⟩
  have zS : S.size = 64 := by rw [← hS, ← str_len]; exact slotL_length V
  obtain ⟨H, hH⟩ : ∃ H, S.extract 0 12 = H := ⟨_, rfl⟩
  have lH : H.data.toList = slotH V := by
    rw [← hH, k_extract S 0 12 (by omega), ← hS]
    simp only [List.drop_zero]
    exact slotL_take V
  have hsl : ∀ w : World, (Instr.slice 9 (.string S) none (some (.int .i64 12)) none).run Tryz.prog w = .ok (.string H) w := fun w => by rw [← hH]; exact run_slice_str_to w S 12 (by omega)
  obtain ⟨bq, hbq⟩ : ∃ b, decide (H = T) = b := ⟨_, rfl⟩
  have heq : (H.toList == T.toList) = bq := by rw [k_beq]; exact hbq
  have hq : bq = true ↔ (f.data.toList.drop (64 * k)).take 12 = slotH V := by
    rw [← hbq, decide_eq_true_iff, ← lH, ← lT]
    exact ⟨fun e => by rw [e], fun e => k_ext e.symm⟩
  have hI : wvI f k = V := by unfold wvI; rw [if_pos (by omega), hV]
  have hB : wvB f k = (numB V && bq) := by
    unfold wvB wholeL
    rw [hV, decide_eq_true (by omega)]
    by_cases hc : numB V = true ∧ (f.data.toList.drop (64 * k)).take 12 = slotH V
    · rw [if_pos hc, hc.1, hq.2 hc.2]; rfl
    · rw [if_neg hc]
      cases hn : numB V with
      | false => rfl
      | true =>
        cases hb : bq with
        | false => rfl
        | true => exact absurd ⟨hn, hq.1 hb⟩ hc
  rw [hI, hB]
  have HSL : Hid (∀ w, Calls Tryz.prog 10 #[.int .i64 V] w fun e w' => e = .returned (.string S) ∧ Below w.heap.size w w') := fun w => by rw [← hS]; exact lslot_any V hVr w
  have HA8 := hide hacc8
  have HTI := hide (fun i hi w => Fr.index_text T i (by rw [zT]; exact hi) w)
  have HZT := hide zT
  obtain ⟨bn, hbn⟩ : ∃ b, numB V = b := ⟨_, rfl⟩
  rw [hbn]
  have HBN := hide hbn
  clear hf hk hlen hO hO2 hT lT zT hv8 hV hacc8 hVr hS zS hH lH hbq hq hI hB hbn
  go_enter Tryz.func16, Tryz.ntmps16
  go_wp2
  simp only [hw1, hw2]
  go_loopw [7, 8] (fun v i wr => ∃ n : Nat, n ≤ 8 ∧ i = .int .i64 (n : Int) ∧ v = .int .i64 (accI T.data.toList n) ∧ wr = w) (fun _ i _ => 8 - (intOf i).toNat)
  case atStart => exact ⟨0, by omega, rfl, rfl, rfl⟩
  case round =>
    obtain ⟨n, hn, rfl, rfl, rfl⟩ := hrel
    by_cases hlt : n < 8
    · have dn : decide ((n : Int) < 8) = true := decide_eq_true (by omega)
      obtain ⟨ac, hac⟩ : ∃ a, accI T.data.toList n = a := ⟨_, rfl⟩
      obtain ⟨Z, hZ⟩ : ∃ Z, IntKind.i64.wrap (ac * (2 : Int) ^ 8) = Z := ⟨_, rfl⟩
      obtain ⟨c, hc⟩ : ∃ c, (Fr.byteAt T.data.toList n).toNat = c := ⟨_, rfl⟩
      have hidx := HTI.out n (by omega)
      rw [hc] at hidx
      obtain ⟨Y, hY⟩ : ∃ Y, accI T.data.toList (n + 1) = Y := ⟨_, rfl⟩
      have hnl : n < T.data.toList.length := by rw [str_len, HZT.out]; omega
      have hcb : c = (T.data.toList[n]).toNat := by rw [← hc]; unfold Fr.byteAt; rw [List.getD_eq_getElem?_getD, List.getElem?_eq_getElem hnl]; rfl
      have hc256 : c < 256 := by rw [hcb]; exact UInt8.toNat_lt _
      have hor : bits .or .i64 Z (c : Int) = Y := by
        rw [← hZ, ← hac, ← hY]
        unfold accI
        rw [acc_shl, acc_or _ _ hc256, be_snoc8 _ _ hnl, ← hcb]
      have hconv : ∀ w : World, (convert 5 2 (.int .u8 (c : Int))).run Tryz.prog w = .ok (.int .i64 (c : Int)) w := fun w => by
        have h := run_convert_int (P := Tryz.prog) (w := w) 5 2 .u8 (c : Int) (by kernel_rfl) (by kernel_rfl)
        rw [show Tryz.prog.intKind 2 = .i64 by kernel_rfl, wrap_id (by omega) (by omega)] at h
        exact h
      rw [hac]
      have HZ := hide hZ
      have HOR := hide hor
      have HCV := hide hconv
      have HY := hide hY
      have hn0 : (0 : Int) ≤ (n : Int) := by omega
      have hn1 : (n : Int) < (T.size : Int) := by rw [HZT.out]; omega
      clear hZ hor hconv hac hY hc hcb hc256 hnl
      go_wp2_with (first | (refine Fr.wpList_shl rfl _ _ _ _ rfl .i64 .u64 ac _ Z (by rfl) (by rfl) 8 rfl (by decide) HZ.out ?_) | (refine Fr.wpList_conv rfl _ _ _ rfl .u8 .i64 (c : Int) _ (by rfl) (HCV.out _) ?_) | (refine Fr.wpList_or rfl _ _ _ _ rfl .i64 Z (c : Int) Y (by rfl) (by rfl) HOR.out ?_))
      go_roundw
      case rel =>
        exact ⟨n + 1, by omega, by go_num, by rw [HY.out], by first | rfl | trivial⟩
      case measure => simp [intOf]; omega
    · have hn8 : n = 8 := by omega
      subst hn8
      rw [HA8.out]
      clear HTI HZT HA8 hn hlt
      rw [numB_lt] at HBN
      by_cases g1 : -1 ≤ V
      · have e1 : decide (V ≥ -1) = true := decide_eq_true g1
        have e1' : decide (-1 ≤ V) = true := decide_eq_true g1
        by_cases g2 : V < 281474976710656
        · have e2 : decide (V < 281474976710656) = true := decide_eq_true g2
          have HE : Hid ((bn && bq) = bq) := by show _ = _; rw [← HBN.out, e1', e2]; rfl
          clear g1 g2 HBN
          skip
          try go_wp2
          refine wp_region_noPanic ?_
          refine wp_region_held_drew (S := fun wx => True) (by kernel_rfl) trivial (fun hHeld => ?_)
          refine tK 0 (some 33) (.int .i64 V) rfl hHeld ?_
          simp only [Act.put, pA, pB, pC]
          refine tK 1 (some 34) (.int .i64 V) rfl hHeld ?_
          simp only [Act.put, pA, pB, pC]
          refine tK 2 (some 35) (.bool true) rfl hHeld ?_
          simp only [Act.put, pA, pB, pC]
          refine tK 3 (some 36) (.bool true) rfl hHeld ?_
          simp only [Act.put, pA, pB, pC]
          refine tK 4 (some 37) (.int .i64 V) rfl hHeld ?_
          simp only [Act.put, pA, pB, pC]
          refine tK 5 (some 38) (.bool true) rfl hHeld ?_
          simp only [Act.put, pA, pB, pC]
          refine tK 6 (some 39) (.bool true) rfl hHeld ?_
          simp only [Act.put, pA, pB, pC]
          refine tK 7 (some 40) (.bool true) rfl hHeld ?_
          simp only [Act.put, pA, pB, pC]
          refine tK 8 (some 41) (.int .i64 V) rfl hHeld ?_
          simp only [Act.put, pA, pB, pC]
          refine tK 11 (some 44) (.string T) rfl hHeld ?_
          simp only [Act.put, pA, pB, pC]
          refine rdH 9 rfl (fun K hK => ?_)
          go_simp
          refine (HSL.out _).mono ?_
          rintro e w2 ⟨rfl, hb2⟩
          try go_wp2_with fail
          refine hK.out _ _ trivial (fun hH => ?_)
          clear hK K hHeld
          have hHeld := hH
          clear hH
          refine tH 10 (some 43) (.string H) rfl (fun w hw => by have := hsl w; first | rfl | (go_simp; done) | (go_simp; rfl)) hHeld ?_
          simp only [Act.put, pA, pB, pC]
          refine tK 12 (some 45) (.bool bq) rfl hHeld ?_
          simp only [Act.put, pA, pB, pC]
          refine tK 13 (some 46) (.bool bq) rfl hHeld ?_
          simp only [Act.put, pA, pB, pC]
          refine tK 14 (some 4) (.int .i64 V) rfl hHeld ?_
          simp only [Act.put, pA, pB, pC]
          refine tK 15 (some 5) (.bool bq) rfl hHeld ?_
          simp only [Act.put, pA, pB, pC]
          refine ⟨by kernel_rfl, ?_⟩
          refine NoPanic.normal ?_
          go_wp2
          go_ret2
          exact ⟨by rw [HE.out]; rfl, ⟨hb2.os, hb2.tape, hb2.output, hb2.size, hb2.block⟩⟩
        · have e2 : decide (V < 281474976710656) = false := decide_eq_false g2
          have HE : Hid ((bn && bq) = false) := by show _ = _; rw [← HBN.out, e2]; simp
          clear g1 g2 HBN HSL
          skip
          try go_wp2
          refine wp_region_noPanic ?_
          refine wp_region_held_drew (S := fun wx => True) (by kernel_rfl) trivial (fun hHeld => ?_)
          refine tK 0 (some 33) (.int .i64 V) rfl hHeld ?_
          simp only [Act.put, pA, pB, pC]
          refine tK 1 (some 34) (.int .i64 V) rfl hHeld ?_
          simp only [Act.put, pA, pB, pC]
          refine tK 2 (some 35) (.bool true) rfl hHeld ?_
          simp only [Act.put, pA, pB, pC]
          refine tK 3 (some 36) (.bool true) rfl hHeld ?_
          simp only [Act.put, pA, pB, pC]
          refine tK 4 (some 37) (.int .i64 V) rfl hHeld ?_
          simp only [Act.put, pA, pB, pC]
          refine tK 5 (some 38) (.bool false) rfl hHeld ?_
          simp only [Act.put, pA, pB, pC]
          refine tK 6 (some 39) (.bool false) rfl hHeld ?_
          simp only [Act.put, pA, pB, pC]
          refine tK 7 (some 40) (.bool false) rfl hHeld ?_
          simp only [Act.put, pA, pB, pC]
          refine skH 8 (some 41) rfl hHeld ?_
          simp only [Act.put, pA, pB, pC]
          refine skH 9 (some 42) rfl hHeld ?_
          simp only [Act.put, pA, pB, pC]
          refine skH 10 (some 43) rfl hHeld ?_
          simp only [Act.put, pA, pB, pC]
          refine skH 11 (some 44) rfl hHeld ?_
          simp only [Act.put, pA, pB, pC]
          refine skH 12 (some 45) rfl hHeld ?_
          simp only [Act.put, pA, pB, pC]
          refine tK 13 (some 46) (.bool false) rfl hHeld ?_
          simp only [Act.put, pA, pB, pC]
          refine tK 14 (some 4) (.int .i64 V) rfl hHeld ?_
          simp only [Act.put, pA, pB, pC]
          refine tK 15 (some 5) (.bool false) rfl hHeld ?_
          simp only [Act.put, pA, pB, pC]
          refine ⟨by kernel_rfl, ?_⟩
          refine NoPanic.normal ?_
          go_wp2
          go_ret2
          exact ⟨by rw [HE.out]; rfl, (Below.refl _ _).drew⟩
      · have e1 : decide (V ≥ -1) = false := decide_eq_false g1
        have e1' : decide (-1 ≤ V) = false := decide_eq_false g1
        have HE : Hid ((bn && bq) = false) := by show _ = _; rw [← HBN.out, e1']; simp
        clear g1 HBN HSL
        skip
        try go_wp2
        refine wp_region_noPanic ?_
        refine wp_region_held_drew (S := fun wx => True) (by kernel_rfl) trivial (fun hHeld => ?_)
        refine tK 0 (some 33) (.int .i64 V) rfl hHeld ?_
        simp only [Act.put, pA, pB, pC]
        refine tK 1 (some 34) (.int .i64 V) rfl hHeld ?_
        simp only [Act.put, pA, pB, pC]
        refine tK 2 (some 35) (.bool false) rfl hHeld ?_
        simp only [Act.put, pA, pB, pC]
        refine tK 3 (some 36) (.bool false) rfl hHeld ?_
        simp only [Act.put, pA, pB, pC]
        refine skH 4 (some 37) rfl hHeld ?_
        simp only [Act.put, pA, pB, pC]
        refine skH 5 (some 38) rfl hHeld ?_
        simp only [Act.put, pA, pB, pC]
        refine tK 6 (some 39) (.bool false) rfl hHeld ?_
        simp only [Act.put, pA, pB, pC]
        refine tK 7 (some 40) (.bool false) rfl hHeld ?_
        simp only [Act.put, pA, pB, pC]
        refine skH 8 (some 41) rfl hHeld ?_
        simp only [Act.put, pA, pB, pC]
        refine skH 9 (some 42) rfl hHeld ?_
        simp only [Act.put, pA, pB, pC]
        refine skH 10 (some 43) rfl hHeld ?_
        simp only [Act.put, pA, pB, pC]
        refine skH 11 (some 44) rfl hHeld ?_
        simp only [Act.put, pA, pB, pC]
        refine skH 12 (some 45) rfl hHeld ?_
        simp only [Act.put, pA, pB, pC]
        refine tK 13 (some 46) (.bool false) rfl hHeld ?_
        simp only [Act.put, pA, pB, pC]
        refine tK 14 (some 4) (.int .i64 V) rfl hHeld ?_
        simp only [Act.put, pA, pB, pC]
        refine tK 15 (some 5) (.bool false) rfl hHeld ?_
        simp only [Act.put, pA, pB, pC]
        refine ⟨by kernel_rfl, ?_⟩
        refine NoPanic.normal ?_
        go_wp2
        go_ret2
        exact ⟨by rw [HE.out]; rfl, (Below.refl _ _).drew⟩
end Go.Proofs.YtlkimfmilccanaaGreat
/-
  A tale in memory: most, tried.
-/
namespace Go.Proofs.YtlkimfmilccanaaGreat
open Go.RowKit Go.Maps Go.WideMaps
set_option linter.unusedVariables false
set_option linter.unusedSimpArgs false
/-- Nothing at all. -/
def Item.void : Item := ⟨fun _ S => ∀ b, ¬ S b, fun w S h b hb => absurd hb (h b), fun w w' S h _ => h⟩
section
variable {B : Nat} {w : World} {L : List Item} {j : Nat}
theorem Lies.voided (h : Lies B w L) (j : Nat) : Lies B w (L.set j .void) := by
  obtain ⟨hb, S, h1, h2, h3⟩ := h
  refine ⟨hb, fun i => if i = j then fun _ => False else S i, fun i it hi => ?_, fun i b hi hS => ?_, fun i k b hi hk hne hS hS2 => ?_⟩
  · by_cases e : i = j
    · subst e
      have hl : i < L.length := by have := (List.getElem?_eq_some_iff.1 hi).1; rw [List.length_set] at this; exact this
      rw [List.getElem?_set_self hl] at hi
      cases hi
      intro b hb
      simp only [if_true] at hb
    · rw [List.getElem?_set_ne (fun x => e x.symm)] at hi
      simp only [if_neg e]
      exact h1 i it hi
  · rw [List.length_set] at hi
    by_cases e : i = j
    · rw [if_pos e] at hS; exact hS.elim
    · rw [if_neg e] at hS; exact h2 i b hi hS
  · rw [List.length_set] at hi hk
    by_cases e : i = j
    · rw [if_pos e] at hS; exact hS.elim
    · rw [if_neg e] at hS
      by_cases e2 : k = j
      · rw [if_pos e2] at hS2; exact hS2.elim
      · rw [if_neg e2] at hS2; exact h3 i k b hi hk hne hS hS2
theorem Lies.swapLast {x : Item} (h : Lies B w (L ++ [x])) (hj : j < L.length) : Lies B w (L.set j x) := by
  refine h.pickL (fun i => if i = j then L.length else i) (fun i it hi => ?_) (fun i k hi hk e => ?_)
  · by_cases e : i = j
    · subst e
      rw [List.getElem?_set_self hj] at hi
      simp only [if_true]
      rw [List.getElem?_append_right (Nat.le_refl _), Nat.sub_self]
      exact hi
    · rw [List.getElem?_set_ne (fun x => e x.symm)] at hi
      simp only [if_neg e]
      rw [List.getElem?_append_left (List.getElem?_eq_some_iff.1 hi).1]
      exact hi
  · rw [List.length_set] at hi hk
    by_cases e1 : i = j <;> by_cases e2 : k = j
    · omega
    · simp only [if_pos e1, if_neg e2] at e; omega
    · simp only [if_neg e1, if_pos e2] at e; omega
    · simp only [if_neg e1, if_neg e2] at e; exact e
theorem Lies.setBlk {g o : Nat} {T : TypeId} {cs : Array Value} (u : Value) (cs' : Array Value) (hcs : cs.setIfInBounds o u = cs') (h : Lies B w L) (hj : L[j]? = some (.block g (.cells cs T (0, 0)))) : Lies B (w.setCell ⟨g, o, none⟩ u) (L.set j (.block g (.cells cs' T (0, 0)))) ∧ Below B w (w.setCell ⟨g, o, none⟩ u) := by
  obtain ⟨S, ⟨hc, hS⟩, hB, _, hk⟩ := h.upd hj
  have e2 : (w.setCell ⟨g, o, none⟩ u).heap[g]? = some (.cells cs' T (0, 0)) := by rw [heap_setCell_same w g o _ T _ hc, hcs]
  have t3 := Turn.setCell w ⟨g, o, none⟩ u
  exact hk _ _ S ⟨e2, hS⟩ ⟨⟨t3.os, t3.tape, t3.output, t3.size, fun b hb hn => t3.block b hb (fun e => hn ((hS b).2 e))⟩, fun b hb => .inl hb⟩
end
/-! ### tales -/
structure TS where
  ac : Int
  tr : List Int
  v : Value
  m : Option (Nat × Int × Nat)
def mkPtr : Option (Nat × Int × Nat) → Value
  | none => .pointer none
  | some x => .pointer (some ⟨x.1, 0, none⟩)
def mkO (p : Nat) (k : ByteArray) : Option (Nat × Int × Nat) → Item
  | none => .void
  | some x => .mkI 91 x.1 p k x.2.1 x.2.2
def TS.M (s : TS) : Option (Int × Nat) := s.m.map (·.2)
def TS.cells (s : TS) : Array Value := #[mkPtr s.m, .int .i64 s.ac, s.v]
def intV (x : Int) : Value := .int .i64 x
def TS.row (s : TS) : Item := .row 2 s.v (s.tr.map intV)
def TS.blk (s : TS) (t : Nat) : Item := .block t (.cells s.cells 55 (0, 0))
section
variable {B : Nat} {w : World} {L : List Item} {a r t : Nat} {s : TS}
theorem tale_row (h : Lies B w L) (hr : L[r]? = some s.row) : ∃ ad cap, s.v = .slice ad s.tr.length cap ∧ s.tr.length ≤ maxLen ∧ ∀ i (hi : i < s.tr.length), ∃ b o, ad = some ⟨b, o, none⟩ ∧ w.cell? ⟨b, o + i, none⟩ = some (.int .i64 s.tr[i]) := by
  obtain ⟨ad, cap, hv, hra, hl, hm⟩ := row_at (h.rowOf hr)
  rw [List.length_map] at hv hm
  refine ⟨ad, cap, hv, hm, fun i hi => ?_⟩
  rcases hra with he | ⟨b, o, ha, hlt, hc⟩
  · rw [List.map_eq_nil_iff.1 he] at hi; simp at hi
  · refine ⟨b, o, ha, ?_⟩
    rw [hc i (by rw [List.length_map]; exact hi), List.getElem?_map, List.getElem?_eq_getElem hi]
    rfl
theorem tale_cells (h : Lies B w L) (ha : L[a]? = some (s.blk t)) : w.cell? ⟨t, 0, none⟩ = some (mkPtr s.m) ∧ w.cell? ⟨t, 1, none⟩ = some (.int .i64 s.ac) ∧ w.cell? ⟨t, 2, none⟩ = some s.v ∧ ∀ i, w.frozen? ⟨t, i, none⟩ = false := by
  have hc := block_at h ha
  refine ⟨?_, ?_, ?_, fun i => frozen_of_row w t i _ _ hc⟩
  · rw [cell_of_row w t 0 _ _ (0, 0) hc]; rfl
  · rw [cell_of_row w t 1 _ _ (0, 0) hc]; rfl
  · rw [cell_of_row w t 2 _ _ (0, 0) hc]; rfl
theorem most_snoc (l : List Int) (i : Nat) (hi : i < l.length) : mostI (l.take (i + 1)) = if l[i] > mostI (l.take i) then l[i] else mostI (l.take i) := by
  unfold mostI
  rw [List.take_succ_eq_append_getElem hi, List.foldl_append]
  rfl
set_option maxRecDepth 5000 in
set_option maxHeartbeats 2000000 in
theorem most_any (h : Lies B w L) (ha : L[a]? = some (s.blk t)) (hr : L[r]? = some s.row) : Calls Tryz.prog 48 #[.pointer (some ⟨t, 0, none⟩)] w fun e w' => e = .returned (.int .i64 (mostI s.tr)) ∧ w' = w := by
  obtain ⟨ad, cap, hv, hm, hcell⟩ := tale_row h hr
  obtain ⟨_, _, c2, _⟩ := tale_cells h ha
  rw [hv] at c2
  obtain ⟨l, hl⟩ : ∃ l, s.tr = l := ⟨_, rfl⟩
  rw [hl] at c2 hm
  have HC : Hid (∀ i (hi : i < l.length), ∃ b o, ad = some ⟨b, o, none⟩ ∧ w.cell? ⟨b, o + i, none⟩ = some (.int .i64 l[i])) := by subst hl; exact hcell
  rw [hl]
  unfold maxLen at hm
  clear hcell h ha hr hv hl
  go_enter Tryz.func48, Tryz.ntmps48
  go_wp2
  go_loopw [3, 4] (fun n i wr => ∃ k : Nat, k ≤ l.length ∧ i = .int .i64 (k : Int) ∧ n = .int .i64 (mostI (l.take k)) ∧ wr = w) (fun _ i _ => l.length - (intOf i).toNat)
  case atStart => exact ⟨0, by omega, rfl, rfl, rfl⟩
  case round =>
    obtain ⟨k, hk, rfl, rfl, rfl⟩ := hrel
    by_cases hlt : k < l.length
    · have dk : decide ((k : Int) < (l.length : Int)) = true := decide_eq_true (by omega)
      have hk0 : (0 : Int) ≤ (k : Int) := by omega
      have hk1 : (k : Int) < (l.length : Int) := by omega
      obtain ⟨b, o, rfl, hc⟩ := HC.out k hlt
      obtain ⟨x, hx⟩ : ∃ x, l[k] = x := ⟨_, rfl⟩
      rw [hx] at hc
      obtain ⟨y, hy⟩ : ∃ y, mostI (l.take k) = y := ⟨_, rfl⟩
      rw [hy]
      have HS := hide (most_snoc l k hlt)
      rw [hx, hy] at HS
      clear hx hy
      by_cases hg : x > y
      · have dg : decide (x > y) = true := decide_eq_true hg
        have dg' : decide (y < x) = true := decide_eq_true hg
        have HE : Hid (mostI (l.take (k + 1)) = x) := by show _ = _; rw [HS.out, if_pos hg]
        clear hg HS
        go_wp2
        go_roundw
        case rel => exact ⟨k + 1, by omega, by go_num, by rw [HE.out], by first | rfl | trivial⟩
        case measure => simp [intOf]; omega
      · have dg : decide (x > y) = false := decide_eq_false hg
        have dg' : decide (y < x) = false := decide_eq_false hg
        have HE : Hid (mostI (l.take (k + 1)) = y) := by show _ = _; rw [HS.out, if_neg hg]
        clear hg HS
        go_wp2
        go_roundw
        case rel => exact ⟨k + 1, by omega, by go_num, by rw [HE.out], by first | rfl | trivial⟩
        case measure => simp [intOf]; omega
    · have hkl : k = l.length := by omega
      subst hkl
      have dk : decide ((l.length : Int) < (l.length : Int)) = false := decide_eq_false (by omega)
      rw [List.take_length]
      go_wp2
      go_ret
      exact ⟨rfl, rfl⟩
def trB (l : List Int) (v : Int) : Bool := decide (v = -1) || l.contains v
theorem trB_iff {l : List Int} {v : Int} : trB l v = true ↔ TR l v := by
  unfold trB TR
  rw [Bool.or_eq_true, decide_eq_true_iff, List.contains_iff_mem]
set_option maxRecDepth 5000 in
set_option maxHeartbeats 2000000 in
theorem tried_any (h : Lies B w L) (ha : L[a]? = some (s.blk t)) (hr : L[r]? = some s.row) (v : Int) : Calls Tryz.prog 51 #[.pointer (some ⟨t, 0, none⟩), .int .i64 v] w fun e w' => e = .returned (.bool (trB s.tr v)) ∧ w' = w := by
  obtain ⟨ad, cap, hv, hm, hcell⟩ := tale_row h hr
  obtain ⟨_, _, c2, _⟩ := tale_cells h ha
  rw [hv] at c2
  obtain ⟨l, hl⟩ : ∃ l, s.tr = l := ⟨_, rfl⟩
  rw [hl] at c2 hm
  have HC : Hid (∀ i (hi : i < l.length), ∃ b o, ad = some ⟨b, o, none⟩ ∧ w.cell? ⟨b, o + i, none⟩ = some (.int .i64 l[i])) := by subst hl; exact hcell
  rw [hl]
  unfold maxLen at hm
  obtain ⟨R, hR⟩ : ∃ R, trB l v = R := ⟨_, rfl⟩
  rw [hR]
  have HR := hide hR
  clear hcell h ha hr hv hl hR
  go_enter Tryz.func51, Tryz.ntmps51
  go_wp2
  go_loopw [5] (fun i wr => ∃ k : Nat, k ≤ l.length ∧ i = .int .i64 (k : Int) ∧ (l.take k).contains v = false ∧ wr = w) (fun i _ => l.length - (intOf i).toNat)
  case atStart => exact ⟨0, by omega, rfl, rfl, rfl⟩
  case round =>
    obtain ⟨k, hk, rfl, hno, rfl⟩ := hrel
    have HN := hide hno
    clear hno
    by_cases hlt : k < l.length
    · have dk : decide ((k : Int) < (l.length : Int)) = true := decide_eq_true (by omega)
      have hk0 : (0 : Int) ≤ (k : Int) := by omega
      have hk1 : (k : Int) < (l.length : Int) := by omega
      obtain ⟨b, o, rfl, hc⟩ := HC.out k hlt
      by_cases he : l[k] = v
      · have HT : Hid (R = true) := by
          show _ = _
          rw [← HR.out]
          unfold trB
          rw [Bool.or_eq_true, List.contains_iff_mem]
          exact .inr (he ▸ List.getElem_mem hlt)
        rw [he] at hc
        have dv : (v == v) = true := by simp
        clear he
        go_wp2
        go_ret
        exact ⟨by rw [HT.out]; rfl, rfl⟩
      · obtain ⟨x, hx⟩ : ∃ x, l[k] = x := ⟨_, rfl⟩
        rw [hx] at hc
        have dv : (x == v) = false := beq_eq_false_iff_ne.2 (by rw [← hx]; exact he)
        have HC2 : Hid ((l.take (k + 1)).contains v = false) := by
          show _ = _
          rw [List.take_succ_eq_append_getElem hlt, ← Bool.not_eq_true, List.contains_iff_mem, List.mem_append]
          rintro (h1 | h1)
          · have := HN.out
            rw [← Bool.not_eq_true, List.contains_iff_mem] at this
            exact this h1
          · simp at h1
            exact he h1.symm
        clear he hx
        go_wp2
        go_roundw
        case rel => exact ⟨k + 1, by omega, by go_num, HC2.out, by first | rfl | trivial⟩
        case measure => simp [intOf]; omega
    · have hkl : k = l.length := by omega
      subst hkl
      have dk : decide ((l.length : Int) < (l.length : Int)) = false := decide_eq_false (by omega)
      obtain ⟨bv, hbv⟩ : ∃ b, (v == -1) = b := ⟨_, rfl⟩
      have HB : Hid (R = bv) := by
        show _ = _
        have := HN.out
        rw [List.take_length] at this
        rw [← HR.out]
        unfold trB
        rw [this, Bool.or_false, ← hbv]
        by_cases e : v = -1
        · rw [e]; rfl
        · rw [decide_eq_false e, beq_eq_false_iff_ne.2 e]
      go_wp2
      go_ret
      exact ⟨by rw [HB.out]; rfl, rfl⟩
end
end Go.Proofs.YtlkimfmilccanaaGreat
