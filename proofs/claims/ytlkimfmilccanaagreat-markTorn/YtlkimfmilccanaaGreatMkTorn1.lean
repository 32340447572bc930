/-
  torn, anew.
-/
import Derived.Test.YtlkimfmilccanaaGreatMkTornM
import Derived.Test.YtlkimfmilccanaaGreatMkTurns
namespace Go.Proofs.YtlkimfmilccanaaGreat
open Go.RowKit Go.Maps Go.WideMaps
set_option linter.unusedVariables false
set_option linter.unusedSimpArgs false
theorem torn_any (T : ByteArray) (hT : T.size ≤ maxLen) (w : World) (b0 b1 : Bool) (h0 : wvB T 0 = b0) (h1 : wvB T 1 = b1) : Calls Tryz.prog 17 #[.string T] w fun e w' => e = .returned (.bool (b0 || b1)) ∧ Below w.heap.size w w' := by
  have hc0 := lwhole_any T hT 0 (by decide)
  have hc1 := lwhole_any T hT 1 (by decide)
  rw [h0] at hc0
  rw [h1] at hc1
  have HC0 : Hid (∀ w, Calls Tryz.prog 16 #[.string T, .int .i64 0] w fun e w' => e = .returned (.tuple #[.int .i64 (wvI T 0), .bool b0]) ∧ Below w.heap.size w w') := hc0
  have HC1 : Hid (∀ w, Calls Tryz.prog 16 #[.string T, .int .i64 1] w fun e w' => e = .returned (.tuple #[.int .i64 (wvI T 1), .bool b1]) ∧ Below w.heap.size w w') := hc1
  clear hc0 hc1 h0 h1 hT
  go_enter Tryz.func17, Tryz.ntmps17
  go_wp2_with fail
  refine (HC0.out _).mono ?_
  rintro e w1 ⟨rfl, hb1⟩
  go_wp2_with fail
  refine (HC1.out _).mono ?_
  rintro e w2 ⟨rfl, hb2⟩
  have HB := hide (hb1.trans (hb2.mono hb1.size))
  clear hb1 hb2
  cases b0 <;> cases b1 <;>
  · go_wp2
    go_ret
    exact ⟨rfl, HB.out⟩
set_option maxRecDepth 5000 in
set_option maxHeartbeats 4000000 in
theorem anew_any (T : ByteArray) (hT : T.size = 128) (hp : pickT T.data.toList = none) (n : Int) (w : World) : Calls Tryz.prog 19 #[.string T, .int .i64 n] w fun e w' => e = .returned (.bool true) ∧ Below w.heap.size w w' := by
  obtain ⟨B, hB⟩ : ∃ B, w.heap.size = B := ⟨_, rfl⟩
  have hl0 : Lies B w [] := Lies.nil (by rw [hB]; exact Nat.le_refl _)
  have hr := least_rng (n := n) (m := 140) (by decide)
  obtain ⟨K, hK⟩ : ∃ K : Nat, leastI n 140 = (K : Int) := ⟨(leastI n 140).toNat, by omega⟩
  have hK140 : K < 140 := by omega
  have HLE : Hid (∀ w : World, Calls Tryz.prog 15 #[.int .i64 n, .int .i64 140] w fun e w' => e = .returned (.int .i64 (K : Int)) ∧ w' = w) := fun w => by rw [← hK]; exact least_any n 140 (by decide) w
  obtain ⟨D, hD⟩ : ∃ D, T ++ T = D := ⟨_, rfl⟩
  have hadd : ∀ w : World, (Op.stringOp .add T T).run Tryz.prog w = .ok (.string D) w := fun w => k_add w T T D hD (by omega)
  have zD : D.size = 256 := by rw [← hD, ByteArray.size_append, hT]
  have lD : D.data.toList = T.data.toList ++ T.data.toList := by rw [← hD, k_app]
  obtain ⟨P, hP⟩ : ∃ P, D.extract 0 K = P := ⟨_, rfl⟩
  have lP : P.data.toList = (T.data.toList ++ T.data.toList).take K := by rw [← hP, k_extract D 0 K (by omega), lD]; simp
  have zP : P.size = K := by rw [← str_len, lP, List.length_take, List.length_append, str_len, hT]; omega
  have hsl : ∀ w : World, (Instr.slice 9 (.string D) none (some (.int .i64 (K : Int))) none).run Tryz.prog w = .ok (.string P) w := fun w => by rw [← hP]; exact run_slice_str_to w D K (by omega)
  have hop : (W1 400 tL P.data.toList).openM tL = (190, none, W1 400 tL P.data.toList) := by
    by_cases h : P.data.toList.length = 128
    · have e : P.data.toList = T.data.toList := by
        have hK1 : K = 128 := by rw [str_len] at h; omega
        rw [lP, hK1, List.take_left' (by rw [str_len]; exact hT)]
      rw [w1_open_none h (by rw [e]; exact hp)]
    · exact w1_open_len h
  have hnew := k_new hl0 400 (by decide) (by decide)
  have HW1 : Hid (∀ (W : World) (p : Nat) (L : List Item), Lies B W (.disk p (AD.fresh 400) :: L) → Calls Tryz.prog 18 #[.pointer (some ⟨p, 0, none⟩), .string ⟨#[109]⟩, .int .i64 0, .string P] W fun e w' => e = .returned (.int .i64 0) ∧ Lies B w' (.disk p (W1 400 tL P.data.toList) :: L) ∧ Below B W w') := fun W p L hl => by
    have := s_write (i := 0) hl rfl ⟨#[109]⟩ (by decide) 0 (by omega) P (by omega)
    rw [show (AD.fresh 400).write (ByteArray.mk #[109]).data.toList 0 P.data.toList = (0, W1 400 tL P.data.toList) from fr_write (by decide) (by decide) (by rw [str_len]; omega)] at this
    exact this
  have HW2 : Hid (∀ (W : World) (p q : Nat) (X : AD), Lies B W [.disk p X, .disk q (AD.fresh 400)] → Calls Tryz.prog 18 #[.pointer (some ⟨q, 0, none⟩), .string ⟨#[109, 46, 116, 109, 112]⟩, .int .i64 0, .string P] W fun e w' => e = .returned (.int .i64 0) ∧ Lies B w' [.disk p X, .disk q (W1 400 (tL ++ dot) P.data.toList)] ∧ Below B W w') := fun W p q X hl => by
    have := s_write (i := 1) hl rfl ⟨#[109, 46, 116, 109, 112]⟩ (by decide) 0 (by omega) P (by omega)
    rw [show (AD.fresh 400).write (ByteArray.mk #[109, 46, 116, 109, 112]).data.toList 0 P.data.toList = (0, W1 400 (tL ++ dot) P.data.toList) from fr_write (by decide) (by decide) (by rw [str_len]; omega)] at this
    exact this
  have HOP : Hid (∀ (W : World) (p : Nat) (L : List Item), Lies B W (.disk p (W1 400 tL P.data.toList) :: L) → Calls Tryz.prog 9 #[.pointer (some ⟨p, 0, none⟩), .string ⟨#[109]⟩] W fun e w' => e = .returned (.tuple #[.pointer none, .int .i64 190]) ∧ Lies B w' (.disk p (W1 400 tL P.data.toList) :: L) ∧ Below B W w') := fun W p L hl => by
    have := mopen_any (i := 0) hl rfl ⟨#[109]⟩ (by decide)
    rw [show (W1 400 tL P.data.toList).openM (ByteArray.mk #[109]).data.toList = _ from hop] at this
    exact this.mono (fun e w' hp => mkp_isNone hp rfl)
  have HOQ : Hid (∀ (W : World) (p q : Nat) (X : AD), Lies B W [.disk p X, .disk q (W1 400 (tL ++ dot) P.data.toList)] → Calls Tryz.prog 9 #[.pointer (some ⟨q, 0, none⟩), .string ⟨#[109]⟩] W fun e w' => ∃ g, e = .returned (.tuple #[.pointer (some ⟨g, 0, none⟩), .int .i64 0]) ∧ Lies B w' [.disk p X, .disk q (WD 400 two1), .mkI 91 g q ⟨#[109]⟩ (-1) 1] ∧ Below B W w') := fun W p q X hl => by
    have := mopen_any (i := 1) hl rfl ⟨#[109]⟩ (by decide)
    rw [show (W1 400 (tL ++ dot) P.data.toList).openM (ByteArray.mk #[109]).data.toList = _ from spare_open (by decide) (by decide)] at this
    exact this.mono (fun e w' hp => mkp_isSome hp rfl)
  have HL0 := hide hl0
  rw [hB]
  clear hB hl0 hr hK hK140 hD zD lD hP lP zP hop hT hp
  go_enter Tryz.func19, Tryz.ntmps19
  go_wp2_with fail
  refine (HLE.out _).mono ?_
  rintro e wx ⟨rfl, hw⟩
  obtain rfl := hw.symm
  clear hw HLE
  go_wp2_with fail
  refine hnew.mono ?_
  rintro e w1 ⟨p, rfl, h1, hb1⟩
  have HB1 := hide hb1
  have hnew2 := k_new h1 400 (by decide) (by decide)
  clear h1 hb1 hnew
  go_wp2_with fail
  refine hnew2.mono ?_
  rintro e w2 ⟨q, rfl, h2, hb2⟩
  have HB2 := hide (HB1.out.trans hb2)
  have hc3 := HW1.out w2 p _ h2
  clear h2 hb2 hnew2 HB1
  go_wp2_with fail
  refine hc3.mono ?_
  rintro e w3 ⟨rfl, h3, hb3⟩
  have HB3 := hide (HB2.out.trans hb3)
  have hc4 := HW2.out w3 p q _ h3
  clear h3 hb3 hc3 HB2
  go_wp2_with fail
  refine hc4.mono ?_
  rintro e w4 ⟨rfl, h4, hb4⟩
  have HB4 := hide (HB3.out.trans hb4)
  have hc5 := HOP.out w4 p _ h4
  clear h4 hb4 hc4 HB3
  go_wp2_with fail
  refine hc5.mono ?_
  rintro e w5 ⟨rfl, h5, hb5⟩
  have HB5 := hide (HB4.out.trans hb5)
  have hc6 := HOQ.out w5 p q _ h5
  clear h5 hb5 hc5 HB4
  go_wp2_with fail
  refine hc6.mono ?_
  rintro e w6 ⟨g, rfl, h6, hb6⟩
  have HB6 := hide (HB5.out.trans hb6)
  have hc7 := s_read (i := 1) h6 rfl ⟨#[109]⟩ (by decide) 0 200
  rw [show (WD 400 two1).read (ByteArray.mk #[109]).data.toList 0 200 = (two1, 0) from wd_read200 two1_length] at hc7
  have hc7' : Calls Tryz.prog 12 #[.pointer (some ⟨q, 0, none⟩), .string ⟨#[109]⟩, .int .i64 0, .int .i64 200] w6 fun e w' => e = .returned (.tuple #[.string (bothS (-1) (-1)), .int .i64 0]) ∧ Lies B w' _ ∧ Below B w6 w' := hc7
  clear h6 hb6 hc6 HB5 hc7
  go_wp2_with fail
  refine hc7'.mono ?_
  rintro e w7 ⟨rfl, h7, hb7⟩
  have HB7 := hide (HB6.out.trans hb7)
  have hval := mvalue_any (j := 2) h7 rfl
  have H7 := hide h7
  clear h7 hb7 hc7' HB6
  have HREST : Hid (∀ w : World, Calls Tryz.prog 10 #[.int .i64 (-1)] w fun e w' => e = .returned (.string (slotS (-1))) ∧ Below w.heap.size w w') := fun w => lslot_any (-1) (by decide) w
  obtain ⟨S, hS⟩ : ∃ s, slotS (-1) = s := ⟨_, rfl⟩
  obtain ⟨TT, hTT⟩ : ∃ s, bothS (-1) (-1) = s := ⟨_, rfl⟩
  have hadd2 : ∀ w : World, (Op.stringOp .add S S).run Tryz.prog w = .ok (.string TT) w := fun w => by rw [← hS, ← hTT]; exact both_add _ _ w
  have hee : (TT.toList == TT.toList) = true := by simp
  rw [hS] at HREST
  rw [hTT]
  clear hS hTT
  have HFIN : Hid (∀ (W : World), Lies B W [.disk p (W1 400 tL P.data.toList), .disk q (WD 400 two1), .mkI 91 g q ⟨#[109]⟩ (-1) 1] → (Calls Tryz.prog 14 #[.pointer (some ⟨q, 0, none⟩), .string ⟨#[109]⟩] W fun e w' => ∃ ad cap, e = .returned (.slice ad 0 cap) ∧ Lies B w' [.disk p (W1 400 tL P.data.toList), .disk q (WD 400 two1), .mkI 91 g q ⟨#[109]⟩ (-1) 1] ∧ Below B W w') ∧ (Calls Tryz.prog 33 #[.pointer (some ⟨q, 0, none⟩)] W fun e w' => ∃ ad cap, e = .returned (.slice ad 1 cap) ∧ Below B W w')) := fun W hl => by
    refine ⟨(s_dirty (i := 1) hl rfl ⟨#[109]⟩ (by decide)).mono (fun e w' ⟨v', he, hr, hl', hb⟩ => ?_), (s_list (i := 1) hl rfl).mono (fun e w' ⟨v', he, hr, _, hb⟩ => ?_)⟩
    · have hd : (WD 400 two1).dirtyI (ByteArray.mk #[109]).data.toList = [] := by unfold AD.dirtyI; rw [show (WD 400 two1).dirty (ByteArray.mk #[109]).data.toList = [] from wd_dirty]; rfl
      rw [hd] at hr
      obtain ⟨ad, cap, rfl, _⟩ := row_at hr
      exact ⟨ad, cap, he, Lies.drop (L := [.disk p (W1 400 tL P.data.toList), .disk q (WD 400 two1), .mkI 91 g q ⟨#[109]⟩ (-1) 1]) hl', hb⟩
    · rw [wd_list] at hr
      have hr' : w'.ownsRow 0 9 1 v' 1 ([tL].map encStr) := hr
      obtain ⟨ad, cap, rfl, _⟩ := row_at hr'
      exact ⟨ad, cap, he, hb⟩
  by_cases hK : K = 128
  · subst hK
    go_wp2_with fail
    refine hval.mono ?_
    rintro e wv ⟨rfl, hw⟩
    obtain rfl := hw.symm
    clear hw hval
    go_wp2_with fail
    refine (HREST.out _).mono ?_
    rintro e w8 ⟨rfl, hb8⟩
    have h8 := H7.out.below hb8
    have HB8 := hide (HB7.out.trans (hb8.mono H7.out.base))
    clear hb8
    go_wp2_with fail
    refine (HREST.out _).mono ?_
    rintro e w9 ⟨rfl, hb9⟩
    have h9 := h8.below hb9
    have HB9 := hide (HB8.out.trans (hb9.mono h8.base))
    have hcd := (HFIN.out w9 h9).1
    clear hb9 h8 h9
    go_wp2_with fail
    refine hcd.mono ?_
    rintro e w10 ⟨ad1, cp1, rfl, h10, hb10⟩
    have HB10 := hide (HB9.out.trans hb10)
    have hcl := (HFIN.out w10 h10).2
    clear h10 hb10 hcd
    go_wp2_with fail
    refine hcl.mono ?_
    rintro e w11 ⟨ad2, cp2, rfl, hb11⟩
    have HB11 := hide (HB10.out.trans hb11)
    clear hb11 hcl
    go_wp2
    go_ret
    exact ⟨rfl, HB11.out⟩
  · have dK : ((K : Int) == 128) = false := beq_eq_false_iff_ne.2 (by omega)
    have dK' : ((K : Int) != 128) = true := by unfold bne; rw [dK]; rfl
    clear hK
    go_wp2_with fail
    refine hval.mono ?_
    rintro e wv ⟨rfl, hw⟩
    obtain rfl := hw.symm
    clear hw hval
    go_wp2_with fail
    refine (HREST.out _).mono ?_
    rintro e w8 ⟨rfl, hb8⟩
    have h8 := H7.out.below hb8
    have HB8 := hide (HB7.out.trans (hb8.mono H7.out.base))
    clear hb8
    go_wp2_with fail
    refine (HREST.out _).mono ?_
    rintro e w9 ⟨rfl, hb9⟩
    have h9 := h8.below hb9
    have HB9 := hide (HB8.out.trans (hb9.mono h8.base))
    have hcd := (HFIN.out w9 h9).1
    clear hb9 h8 h9
    go_wp2_with fail
    refine hcd.mono ?_
    rintro e w10 ⟨ad1, cp1, rfl, h10, hb10⟩
    have HB10 := hide (HB9.out.trans hb10)
    have hcl := (HFIN.out w10 h10).2
    clear h10 hb10 hcd
    go_wp2_with fail
    refine hcl.mono ?_
    rintro e w11 ⟨ad2, cp2, rfl, hb11⟩
    have HB11 := hide (HB10.out.trans hb11)
    clear hb11 hcl
    go_wp2
    go_ret
    exact ⟨rfl, HB11.out⟩
end Go.Proofs.YtlkimfmilccanaaGreat
