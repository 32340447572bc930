/-
  RecordBack: the walk (printed by gen_r25.py).
-/
import Derived.Test.YtlohfoggcdaeiaaGreatRBackM
import Derived.Test.YtlohfoggcdaeiaaGreatROpenA
import Derived.Deep.DeepCutAuto
import Derived.Deep.Cut
import Derived.Deep.CutRange
namespace Go.Proofs.YtlohfoggcdaeiaaGreat
open Go.RowKit S
set_option linter.unusedVariables false
set_option linter.unusedSimpArgs false
open Cu (nb be hl ofL CW Mw CR Mr RS takeS takeA hOf nil8 doneS)
set_option maxRecDepth 100000 in
set_option maxHeartbeats 40000000 in
theorem back_walk [Inhabited S.Tbl] (x : Sl) (rs : List (Rc × List Upd)) (hnx : rs.length = x.n) (hzx : x.n ≤ 140737488351232) (bh : ByteArray) (at_ : Int) (b : ByteArray) (zb : bh.size ≤ 140737488351232) (zc : b.size ≤ 140737488351232) (w : World) (hRs : Recs w x.ad rs) (hG : Glob num w) : Calls Tryz.prog 4 #[.slice x.ad x.n x.c, .string bh, .int .i64 at_, .string b] w fun e w' => e = .returned (.bool true) ∧ Below w.heap.size w w' := by
  have h2 := hG.2.2
  have HD := hide (head_any w hG)
  have hx9 : (x.n : Int) ≤ 140737488351232 := by omega
  have HG := hide hG
  clear hG
  go_enter Tryz.func4, Tryz.ntmps4
  go_wp2_with fail
  refine HD.out.mono ?_
  rintro e w1 ⟨rfl, b1⟩
  clear HD
  go_upto_region 6 with fail
  go_wp2
  go_loopw [9, 10, 11, 12] (fun va vr vl i wr => ∃ (j : Nat) (ms : List (Rc × List Upd)) (y : Sl), j ≤ x.n ∧ j ≤ 12 ∧ i = .int .i64 (j : Int) ∧ va = .string (ofL (bytesL ms)) ∧ vr = .slice y.ad y.n y.c ∧ vl = .string (ofL (lastB ms)) ∧ OwnR w.heap.size wr y.v (ms.map (·.1)) ∧ (∀ m ∈ ms, MOk w m) ∧ ms.length ≤ j ∧ Below w.heap.size w wr) (fun _ _ _ i _ => 12 - (intOf i).toNat)
  case atStart => exact ⟨0, [], ⟨none, 0, 0⟩, Nat.zero_le _, Nat.zero_le _, rfl, rfl, rfl, rfl, OwnR.nil _ _, by simp, Nat.zero_le _, b1⟩
  case round =>
    obtain ⟨j, ms, y, hj, hj12, rfl, rfl, rfl, rfl, hO, hM, hml, hB⟩ := hrel
    clear b1
    have HO := hide hO
    have HM := hide hM
    have hji : (j : Int) ≤ 12 := by omega
    clear hO hM
    go_upto_region 7 with fail
    go_cut [38] from 31 to 67 (fun s38 wx => ∃ C : Bool, s38 = .bool C ∧ Hid (C = true ↔ (j < x.n ∧ j < 12)) ∧ wx = wr)
    case first =>
      by_cases h1 : j < x.n
      · have hd : decide ((j : Int) < (x.n : Int)) = true := decide_eq_true (by omega)
        have hd' : decide (j < x.n) = true := decide_eq_true h1
        by_cases h3 : j < 12
        · have hd2 : decide ((j : Int) < 12) = true := decide_eq_true (by omega)
          have hd3 : decide (j < 12) = true := decide_eq_true h3
          have H1 := hide h1
          have H3 := hide h3
          clear h1 h3
          go_wp2_with fail
          go_meet
          exact ⟨_, rfl, ⟨fun _ => ⟨H1.out, H3.out⟩, fun _ => rfl⟩, rfl⟩
        · have hd2 : decide ((j : Int) < 12) = false := decide_eq_false (by omega)
          have hd3 : decide (j < 12) = false := decide_eq_false h3
          have H3 := hide h3
          clear h1 h3
          go_wp2_with fail
          go_meet
          exact ⟨_, rfl, ⟨fun h => (by cases h), fun h => absurd h.2 H3.out⟩, rfl⟩
      · have hd : decide ((j : Int) < (x.n : Int)) = false := decide_eq_false (by omega)
        have hd' : decide (j < x.n) = false := decide_eq_false h1
        have H1 := hide h1
        clear h1
        go_wp2_with fail
        go_meet
        exact ⟨_, rfl, ⟨fun h => (by cases h), fun h => absurd h.1 H1.out⟩, rfl⟩
    case rest =>
    obtain ⟨C, rfl, hC, hwc⟩ := hcut
    obtain rfl := hwc.symm
    clear hwc
    cases C with
    | true =>
      obtain ⟨hjn, hj2⟩ := hC.out.1 rfl
      have hji2 : (j : Int) < (x.n : Int) := by omega
      obtain ⟨⟨r, lr⟩, hrj⟩ : ∃ q, rs[j]? = some q := ⟨_, List.getElem?_eq_getElem (by omega)⟩
      obtain ⟨bb, off, hxa, hbb, hAt, hnr, hUr, hcn, hcz⟩ := hRs.get hrj
      simp only at hAt hnr hUr
      obtain ⟨xad, xn, xc⟩ := x
      simp only at hxa hj hjn hji2 hx9 hzx hnx hRs ⊢
      subst hxa
      have WR := hide (rcwrite_any r lr hnr wr (hUr.below hB))
      have HA := hide (hAt.below hB hbb)
      have HX := hide hnx
      have HRS := hide hRs
      have MR : Hid (MOk w (r, lr) ∨ validR r lr = false) := by
        show _ ∨ _
        cases hv : validR r lr with
        | true => exact .inl ⟨hv, hnr, hUr⟩
        | false => exact .inr rfl
      clear hAt hUr hrj hnx hcn hcz hC hRs hbb
      go_wp2_with (first | refine wpW_load_at 38 _ rfl (bb) (off + j * 138) (by rfl) (by rfl) _ 138 _ (HA.out) Tryz.underlying38 rfl infoRc ?_ | fail)
      refine WR.out.mono ?_
      rintro e w2 ⟨rfl, hb2⟩
      have O2 := hide (HO.out.below hb2 (Nat.le_refl _))
      have B2 : Below w.heap.size w w2 := hB.trans (hb2.mono hB.size)
      have A2 := hide (HA.out.below hb2 (by have := HA.out 0 (by omega); exact World.block_lt_of_cell? _ _ this))
      clear hb2 HO HA WR hB
      cases hv : validR r lr with
      | false =>
        have e1 : wrS r lr = ⟨#[]⟩ := by unfold wrS; rw [hv]; rfl
        have e2 : wrE r lr = 170 := by unfold wrE; rw [hv]; rfl
        rw [e1, e2]
        clear e1 e2 hv MR A2
        go_wp2
        go_roundw
        case rel => exact ⟨j + 1, ms, y, by omega, by omega, by go_num, rfl, rfl, rfl, O2.out, HM.out, by omega, B2⟩
        case measure => simp [intOf]; omega
      | true =>
        have e1 : wrS r lr = ofL (bytesR r lr) := by unfold wrS; rw [hv]; rfl
        have e2 : wrE r lr = 0 := by unfold wrE; rw [hv]; rfl
        rw [e1, e2]
        have hMR : MOk w (r, lr) := by
          rcases MR.out with h | h
          · exact h
          · rw [hv] at h; cases h
        have hlen := bytesL_len HM.out
        have hlr := bytesR_len hv hnr
        have hsz : (ofL (bytesL ms)).size + (ofL (bytesR r lr)).size ≤ 9223372036854775807 := by rw [Cu.ofL_size, Cu.ofL_size]; omega
        obtain ⟨v9, w8, w9, RS, RA, O9, gr9, bl9⟩ := appR_step w2 w.heap.size y.v (ms.map (·.1)) r O2.out (by rw [List.length_map]; omega) B2.size
        obtain ⟨x9, rfl⟩ := slOfR O9
        have RSH := hide RS
        have RAH : Hid ((Builtin.append_ #[40, 40] 40 #[.slice y.ad y.n y.c, .slice (some ⟨w2.heap.size, 0, none⟩) 1 1]).run Tryz.prog w8 = .ok (.slice x9.ad x9.n x9.c) w9) := RA
        have O9 : Hid (OwnR w.heap.size w9 x9.v ((ms ++ [(r, lr)]).map (·.1))) := by show OwnR _ _ _ _; rw [List.map_append]; exact O9
        have B9 : Below w.heap.size w w9 := B2.trans bl9
        have M9 : Hid (∀ m ∈ ms ++ [(r, lr)], MOk w m) := fun m hm => by
          rcases List.mem_append.1 hm with h | h
          · exact HM.out m h
          · obtain rfl := List.mem_singleton.1 h
            exact hMR
        have LB : Hid (lastB (ms ++ [(r, lr)]) = bytesR r lr) := lastB_app _ _
        clear RS RA gr9 bl9 e1 e2 hMR hlen hlr MR hv
        go_wp2_with (first | refine wpW_load_at 38 _ rfl (bb) (off + j * 138) (by rfl) (by rfl) _ 138 _ (A2.out) Tryz.underlying38 rfl infoRc ?_ | refine wpList_slice1 rfl 40 _ rfl (.agg (tabv r.v 138)) rfl RSH.out ?_ | refine wpList_app rfl _ _ _ rfl RAH.out ?_ | fail)
        go_roundw
        case rel => exact ⟨j + 1, ms ++ [(r, lr)], x9, by omega, by omega, by go_num, by rw [bytesL_app, ofL_app], rfl, by rw [LB.out], O9.out, M9.out, by rw [List.length_append, List.length_singleton]; omega, B9⟩
        case measure => simp [intOf]; omega
    | false =>
      clear hC
      have hlen := bytesL_len HM.out
      have hsz : (ofL (bytesL ms)).size + bh.size ≤ 9223372036854775807 := by rw [Cu.ofL_size]; omega
      have hsl := HO.out.sl
      have hyn : y.n = ms.length := by rw [← hsl.1, List.length_map]
      have hm12 : ms.length ≤ 12 := by omega
      clear hsl hj hj12 hji hml
      obtain ⟨ya, yn, yc⟩ := y
      simp only at hyn
      subst hyn
      have hmi : (ms.length : Int) ≤ 12 := by omega
      go_upto_region 17 with fail
      clear hsz
      go_wp2
      go_loopw [15, 16] (fun vr i wr => ∃ q : Nat, q ≤ ms.length ∧ i = .int .i64 (q : Int) ∧ vr = .string (ofL (bytesL (ms.drop q) ++ bh.data.toList)) ∧ OwnR w.heap.size wr (Sl.v ⟨ya, ms.length, yc⟩) (ms.map (·.1)) ∧ Below w.heap.size w wr) (fun _ i _ => ms.length - (intOf i).toNat)
      case atStart => exact ⟨0, Nat.zero_le _, rfl, by rw [List.drop_zero, ← ofL_app, Cu.ofL_of], HO.out, hB⟩
      case round =>
        obtain ⟨q, hq, rfl, rfl, hO2, hB2⟩ := hrel
        have OO := hide hO2
        clear HO hB hO2
        by_cases hqm : q < ms.length
        rotate_left
        · obtain rfl : q = ms.length := by omega
          have ez : ofL (bytesL (ms.drop ms.length) ++ bh.data.toList) = bh := by
            rw [List.drop_length]
            exact Cu.ofL_of bh
          rw [ez]
          clear ez hqm hq
          by_cases hms : lastB ms = []
          · rw [hms]
            have elb : ofL ([] : List UInt8) = ⟨#[]⟩ := rfl
            rw [elb]
            clear elb hms
            obtain ⟨RR, hRR⟩ : ∃ R, rdOf (fldR b) = R := ⟨_, rfl⟩
            have RDb := rcread_any b wr (by omega)
            rw [hRR] at RDb
            have RDb := hide RDb
            have hRf : Hid (rdOf (fldR (ofL b.data.toList)) = RR) := by show _ = _; rw [Cu.ofL_of]; exact hRR
            clear hRR
            go_wp2_with fail
            refine RDb.out.mono ?_
            rintro e wA ⟨hP, hbA⟩
            have BA : Below w.heap.size w wA := hB2.trans (hbA.mono hB2.size)
            clear hbA RDb
            cases RR with
            | none =>
              obtain rfl := hP
              obtain ⟨wB, wC, hWB, qB, hWC, qC, bC⟩ := newRc wA Rc.zero
              have QB := hide qB
              have BC : Below w.heap.size w wC := BA.trans (bC.mono BA.size)
              go_upto_region 34 with (first | rw [hWC] | (go_big_may; first | refine wpList_storeRc rfl _ _ rfl rfl (wA.heap.size) (Rc.zero) rfl rfl _ QB.out ?_) | fail)
              try rw [hWC]
              generalize hgA : wA.heap.size = gA at qC ⊢
              have QC := hide qC
              clear hWB hWC QB qB qC hgA bC
              have SZ := hide (same_yes Rc.zero nilS nilS [] rfl rfl (by show 0 ≤ _; omega) wC (.inl rfl) (.inl rfl))
              go_wp2_with (first | refine wpW_load_at 38 _ rfl (gA) (0) (by rfl) (by rfl) _ 138 _ (QC.out.at_ 0 (by omega) (fun i hi => by rw [Nat.zero_add])) Tryz.underlying38 rfl infoRc ?_ | refine wpW_build (by rfl) 38 #[] rfl [] (by first | rfl | (simp [Act.eval, Act.put]; done)) _ builtRZ ?_ | fail)
              refine SZ.out.mono ?_
              rintro e wD ⟨rfl, hbD⟩
              go_wp2
              go_ret
              exact ⟨rfl, BC.trans (hbD.mono BC.size)⟩
            | some p =>
              obtain ⟨v, vs, n⟩ := p
              obtain ⟨z, rfl, hOz⟩ := hP
              obtain ⟨hval, hnl, t, ht⟩ := rd_form hRf.out
              have hzl := OwnU.sl hOz
              have hv2 : validR (setU v z) vs = true := by rw [validR_sl v z (lenS vs) vs hzl.1.symm]; exact hval
              have hby : bytesR (setU v z) vs = bytesR (setU v (lenS vs)) vs := bytesR_sl v z (lenS vs) vs hzl.1.symm
              obtain ⟨wB, wC, hWB, qB, hWC, qC, bC⟩ := newRc wA (setU v z)
              have QB := hide qB
              have BC : Below w.heap.size w wC := BA.trans (bC.mono BA.size)
              have hnb : n ≤ b.size := by
                have := congrArg List.length ht
                rw [str_len, List.length_append, ← hnl] at this
                omega
              have hex : b.extract 0 n = ofL (bytesR (setU v z) vs) := by
                apply ByteArray.ext
                apply Array.ext'
                rw [ext_list, Cu.ofL_data, List.drop_zero, Nat.sub_zero, ht, hnl, List.take_left, hby]
              have WR := rcwrite_any (setU v z) vs hzl.1 wC (hzl.2.1.below bC)
              rw [show wrS (setU v z) vs = ofL (bytesR (setU v z) vs) by unfold wrS; rw [if_pos hv2], show wrE (setU v z) vs = 0 by unfold wrE; rw [if_pos hv2]] at WR
              have WR := hide WR
              have HEX := hide hex
              have hni : (n : Int) ≤ (b.size : Int) := by omega
              have hdn : decide ((n : Int) ≤ (b.size : Int)) = true := decide_eq_true hni
              have hdn' : decide (n ≤ b.size) = true := decide_eq_true hnb
              clear hval hnl ht hzl hOz hv2 hby hex BA hRf
              go_upto_region 34 with (first | rw [hWC] | (go_big_may; first | refine wpList_storeRc rfl _ _ rfl rfl (wA.heap.size) (setU v z) rfl rfl _ QB.out ?_) | fail)
              try rw [hWC]
              generalize hgA : wA.heap.size = gA at qC ⊢
              have QC := hide qC
              clear hWB hWC QB qB qC hgA bC
              go_wp2_with (first | refine wpW_load_at 38 _ rfl (gA) (0) (by rfl) (by rfl) _ 138 _ (QC.out.at_ 0 (by omega) (fun i hi => by rw [Nat.zero_add])) Tryz.underlying38 rfl infoRc ?_ | fail)
              refine WR.out.mono ?_
              rintro e wD ⟨rfl, hbD⟩
              go_upto_region 37 with fail
              generalize hX : ofL (bytesR (setU v z) vs) = X at HEX ⊢
              have ES := HEX.out
              clear WR hX HEX
              go_wp2
              go_ret
              exact ⟨rfl, BC.trans (hbD.mono BC.size)⟩
          · obtain ⟨⟨m, lm⟩, hMm, hLm⟩ := last_of HM.out hms
            have hlm := bytesR_len hMm.val hMm.len
            simp only at hLm hlm
            obtain ⟨LS, hLS⟩ : ∃ X, ofL (lastB ms) = X := ⟨_, rfl⟩
            have hsz : LS.size = (bytesR m lm).length := by rw [← hLS, Cu.ofL_size, hLm]
            have hM0 : 0 < LS.size := by rw [hsz]; exact bytesR_pos _ _
            have hM1 : LS.size ≤ 40000 := by omega
            have hse : LS.toList.isEmpty = false := empty_false hM0
            have hcutK : Hid (∀ k, k < LS.size → rdOf (fldR (LS.extract 0 k)) = none) := fun k hk => by
              have e : LS.extract 0 k = ofL ((bytesR m lm).take k) := by
                apply ByteArray.ext
                apply Array.ext'
                rw [ext_list, Cu.ofL_data, List.drop_zero, Nat.sub_zero, ← hLS, Cu.ofL_data, hLm]
              rw [e]
              exact rd_cut hMm.val hMm.len (by rw [← hsz]; exact hk)
            rw [hLS]
            obtain ⟨R, hR⟩ : ∃ R, at_.tmod (LS.size : Int) = R := ⟨_, rfl⟩
            have hrr := tmod_range at_ LS.size hM0
            rw [hR] at hrr
            clear hLS hsz hMm hLm hlm hms
            go_upto_if 120 with fail
            go_cut [20] from 29 (fun s20 wx => (∃ k : Nat, k < LS.size ∧ s20 = .int .i64 (k : Int)) ∧ wx = wr)
            case first =>
              by_cases hneg : R < 0
              · have hdn : decide (R < 0) = true := decide_eq_true hneg
                obtain ⟨k, hk⟩ : ∃ k : Nat, -R = (k : Int) := Int.eq_ofNat_of_zero_le (by omega)
                have KN : Hid (∀ w : World, (Op.unary .neg (.int .i64 R)).run Tryz.prog w = .ok (.int .i64 (k : Int)) w) := fun w => run_neg .i64 R k (by rw [IntKind.wrap_i64]; omega) w
                have hkM : k < LS.size := by omega
                clear hneg hk hrr hR
                rw [hdn]
                go_wp2_with (first | refine wpW_un .neg _ _ rfl (.int .i64 R) (.int .i64 (k : Int)) (by rfl) (by rfl) (KN.out _) ?_ | fail)
                go_meet
                exact ⟨⟨k, hkM, rfl⟩, rfl⟩
              · obtain ⟨k, rfl⟩ := Int.eq_ofNat_of_zero_le (show 0 ≤ R by omega)
                have hdn : decide ((k : Int) < 0) = false := decide_eq_false (by omega)
                have hkM : k < LS.size := by omega
                clear hneg hrr hR
                rw [hdn]
                go_wp2_with fail
                go_meet
                exact ⟨⟨k, hkM, rfl⟩, rfl⟩
            case rest =>
            obtain ⟨⟨k, hkM, rfl⟩, hwc⟩ := hcut
            obtain rfl := hwc.symm
            clear hwc hrr hR
            have hkS : (k : Int) ≤ (LS.size : Int) := by omega
            have RD := rcread_any (LS.extract 0 k) wr (by rw [ByteArray.size_extract]; omega)
            rw [hcutK.out k hkM] at RD
            have RD := hide RD
            obtain ⟨CX, hCX⟩ : ∃ X, LS.extract 0 k = X := ⟨_, rfl⟩
            rw [hCX] at RD
            clear hcutK hse
            go_wp2_with (first | rw [hCX] | fail)
            try rw [hCX]
            refine RD.out.mono ?_
            rintro e wE ⟨hP, hbE⟩
            obtain rfl := hP
            obtain ⟨wF, wG, hWF, qF, hWG, qG, bG⟩ := newRc wE Rc.zero
            have QF := hide qF
            have BE : Below w.heap.size w wE := hB2.trans (hbE.mono hB2.size)
            have BG : Below w.heap.size w wG := BE.trans (bG.mono BE.size)
            clear RD hbE hB2 BE
            go_upto_region 31 with (first | rw [hWG] | (go_big_may; first | refine wpList_storeRc rfl _ _ rfl rfl (wE.heap.size) (Rc.zero) rfl rfl _ QF.out ?_) | fail)
            try rw [hWG]
            generalize hgE : wE.heap.size = gE at qG ⊢
            have QG := hide qG
            clear hWF hWG QF qF qG hgE bG
            have SZ1 := hide (same_yes Rc.zero nilS nilS [] rfl rfl (by show 0 ≤ _; omega) wG (.inl rfl) (.inl rfl))
            go_wp2_with (first | refine wpW_load_at 38 _ rfl (gE) (0) (by rfl) (by rfl) _ 138 _ (QG.out.at_ 0 (by omega) (fun i hi => by rw [Nat.zero_add])) Tryz.underlying38 rfl infoRc ?_ | refine wpW_build (by rfl) 38 #[] rfl [] (by first | rfl | (simp [Act.eval, Act.put]; done)) _ builtRZ ?_ | fail)
            refine SZ1.out.mono ?_
            rintro e wH ⟨rfl, hbH⟩
            have BH : Below w.heap.size w wH := BG.trans (hbH.mono BG.size)
            clear hbH SZ1 BG QG
            obtain ⟨RR, hRR⟩ : ∃ R, rdOf (fldR b) = R := ⟨_, rfl⟩
            have RDb := rcread_any b wH (by omega)
            rw [hRR] at RDb
            have RDb := hide RDb
            have hRf : Hid (rdOf (fldR (ofL b.data.toList)) = RR) := by show _ = _; rw [Cu.ofL_of]; exact hRR
            clear hRR
            go_wp2_with fail
            refine RDb.out.mono ?_
            rintro e wA ⟨hP, hbA⟩
            have BA : Below w.heap.size w wA := BH.trans (hbA.mono BH.size)
            clear hbA RDb
            cases RR with
            | none =>
              obtain rfl := hP
              obtain ⟨wB, wC, hWB, qB, hWC, qC, bC⟩ := newRc wA Rc.zero
              have QB := hide qB
              have BC : Below w.heap.size w wC := BA.trans (bC.mono BA.size)
              go_upto_region 34 with (first | rw [hWC] | (go_big_may; first | refine wpList_storeRc rfl _ _ rfl rfl (wA.heap.size) (Rc.zero) rfl rfl _ QB.out ?_) | fail)
              try rw [hWC]
              generalize hgA : wA.heap.size = gA at qC ⊢
              have QC := hide qC
              clear hWB hWC QB qB qC hgA bC
              have SZ := hide (same_yes Rc.zero nilS nilS [] rfl rfl (by show 0 ≤ _; omega) wC (.inl rfl) (.inl rfl))
              go_wp2_with (first | refine wpW_load_at 38 _ rfl (gA) (0) (by rfl) (by rfl) _ 138 _ (QC.out.at_ 0 (by omega) (fun i hi => by rw [Nat.zero_add])) Tryz.underlying38 rfl infoRc ?_ | refine wpW_build (by rfl) 38 #[] rfl [] (by first | rfl | (simp [Act.eval, Act.put]; done)) _ builtRZ ?_ | fail)
              refine SZ.out.mono ?_
              rintro e wD ⟨rfl, hbD⟩
              go_wp2
              go_ret
              exact ⟨rfl, BC.trans (hbD.mono BC.size)⟩
            | some p =>
              obtain ⟨v, vs, n⟩ := p
              obtain ⟨z, rfl, hOz⟩ := hP
              obtain ⟨hval, hnl, t, ht⟩ := rd_form hRf.out
              have hzl := OwnU.sl hOz
              have hv2 : validR (setU v z) vs = true := by rw [validR_sl v z (lenS vs) vs hzl.1.symm]; exact hval
              have hby : bytesR (setU v z) vs = bytesR (setU v (lenS vs)) vs := bytesR_sl v z (lenS vs) vs hzl.1.symm
              obtain ⟨wB, wC, hWB, qB, hWC, qC, bC⟩ := newRc wA (setU v z)
              have QB := hide qB
              have BC : Below w.heap.size w wC := BA.trans (bC.mono BA.size)
              have hnb : n ≤ b.size := by
                have := congrArg List.length ht
                rw [str_len, List.length_append, ← hnl] at this
                omega
              have hex : b.extract 0 n = ofL (bytesR (setU v z) vs) := by
                apply ByteArray.ext
                apply Array.ext'
                rw [ext_list, Cu.ofL_data, List.drop_zero, Nat.sub_zero, ht, hnl, List.take_left, hby]
              have WR := rcwrite_any (setU v z) vs hzl.1 wC (hzl.2.1.below bC)
              rw [show wrS (setU v z) vs = ofL (bytesR (setU v z) vs) by unfold wrS; rw [if_pos hv2], show wrE (setU v z) vs = 0 by unfold wrE; rw [if_pos hv2]] at WR
              have WR := hide WR
              have HEX := hide hex
              have hni : (n : Int) ≤ (b.size : Int) := by omega
              have hdn : decide ((n : Int) ≤ (b.size : Int)) = true := decide_eq_true hni
              have hdn' : decide (n ≤ b.size) = true := decide_eq_true hnb
              clear hval hnl ht hzl hOz hv2 hby hex BA hRf
              go_upto_region 34 with (first | rw [hWC] | (go_big_may; first | refine wpList_storeRc rfl _ _ rfl rfl (wA.heap.size) (setU v z) rfl rfl _ QB.out ?_) | fail)
              try rw [hWC]
              generalize hgA : wA.heap.size = gA at qC ⊢
              have QC := hide qC
              clear hWB hWC QB qB qC hgA bC
              go_wp2_with (first | refine wpW_load_at 38 _ rfl (gA) (0) (by rfl) (by rfl) _ 138 _ (QC.out.at_ 0 (by omega) (fun i hi => by rw [Nat.zero_add])) Tryz.underlying38 rfl infoRc ?_ | fail)
              refine WR.out.mono ?_
              rintro e wD ⟨rfl, hbD⟩
              go_upto_region 37 with fail
              generalize hX : ofL (bytesR (setU v z) vs) = X at HEX ⊢
              have ES := HEX.out
              clear WR hX HEX
              go_wp2
              go_ret
              exact ⟨rfl, BC.trans (hbD.mono BC.size)⟩
        have hd : decide ((q : Int) < (ms.length : Int)) = true := decide_eq_true (by omega)
        have hd' : decide (q < ms.length) = true := decide_eq_true hqm
        obtain ⟨⟨r, lr⟩, hmq⟩ : ∃ z, ms[q]? = some z := ⟨_, List.getElem?_eq_getElem hqm⟩
        have hMq := HM.out _ (List.mem_of_getElem? hmq)
        have hdr : ms.drop q = (r, lr) :: ms.drop (q + 1) := by
          rw [List.drop_eq_getElem_cons hqm]
          rw [List.getElem?_eq_getElem hqm] at hmq
          rw [Option.some.inj hmq]
        have hT : ofL (bytesL (ms.drop q) ++ bh.data.toList) = ofL (bytesR r lr ++ (bytesL (ms.drop (q + 1)) ++ bh.data.toList)) := by rw [hdr, bytesL_cons, List.append_assoc]
        obtain ⟨v, vs, hSame, hRd⟩ := rd_back hMq.val hMq.len (bytesL (ms.drop (q + 1)) ++ bh.data.toList)
        have hAll := sameR_all hSame hMq.val hMq.len
        have hlq : (bytesR r lr).length + (bytesL (ms.drop (q + 1))).length = (bytesL (ms.drop q)).length := by rw [hdr, bytesL_cons, List.length_append]
        have hlt := bytesL_len (ms := ms.drop q) (w := w) (fun m hm => HM.out m (List.mem_of_mem_drop hm))
        rw [List.length_drop] at hlt
        have hpos := bytesR_pos r lr
        obtain ⟨n, hn⟩ : ∃ n, (bytesR r lr).length = n := ⟨_, rfl⟩
        obtain ⟨k, hk⟩ : ∃ k, (bytesL (ms.drop q)).length = k := ⟨_, rfl⟩
        obtain ⟨TL, hTL⟩ : ∃ t, ofL (bytesL (ms.drop q) ++ bh.data.toList) = t := ⟨_, rfl⟩
        have hts : TL.size = k + bh.size := by rw [← hTL, Cu.ofL_size, List.length_append, hk, str_len]
        have hcut : TL.extract n TL.size = ofL (bytesL (ms.drop (q + 1)) ++ bh.data.toList) := by
          rw [← hTL, hT]
          apply ByteArray.ext
          apply Array.ext'
          rw [ext_list, Cu.ofL_data, Cu.ofL_data, ← hn, List.drop_left, List.take_of_length_le]
          simp only [Cu.ofL_size, List.length_append]
          omega
        rw [hTL] at hT ⊢
        have RD := hide (rcread_any TL wr (by omega))
        rw [hn] at hRd hlq hpos
        have hRD : rdOf (fldR TL) = some (v, vs, n) := by rw [hT]; exact hRd
        rw [hRD] at RD
        have HAL := hide hAll
        have HMQ := hide hMq
        have HMS := hide hmq
        have HCUT := hide hcut
        have hni : (n : Int) ≤ (TL.size : Int) := by omega
        have hn1 : (1 : Int) ≤ (n : Int) := by omega
        have hnk : (n : Int) ≤ (k : Int) := by omega
        have htsi : (TL.size : Int) = (k : Int) + (bh.size : Int) := by omega
        have htb : (TL.size : Int) ≤ 140737490000000 := by omega
        clear hT hTL hSame hRd hAll hMq hmq hdr hlq hlt hn hk hcut hRD hts
        go_wp2_with fail
        refine RD.out.mono ?_
        rintro e w3 ⟨hP, hb3⟩
        obtain ⟨z, rfl, hOz⟩ := hP
        rw [allR_tab HAL.out z]
        obtain ⟨w4, w5, hW4, q4, hW5, q5, b5⟩ := newRc w3 (setU r z)
        have Q4 := hide q4
        have hzl := OwnU.sl hOz
        have hz1 : lr.length = z.n := by rw [← hzl.1]; exact (eqUs_len HAL.out.2.2.2.2.2.2.2.2.2).symm
        have UZ : Upds w3 z.ad lr := hzl.2.1.congr HAL.out.2.2.2.2.2.2.2.2.2
        have B3 : Below w.heap.size w w3 := hB2.trans (hb3.mono hB2.size)
        have B5 : Below w.heap.size w w5 := B3.trans (b5.mono B3.size)
        have O5 := hide ((OO.out.below hb3 (Nat.le_refl _)).below b5 (Nat.le_refl _))
        have UZ5 := UZ.below b5
        have UR5 := HMQ.out.upd.below B5
        have hzn : z.n ≤ 140737488351232 := by
          rw [← hz1]
          have ho := (validR_own HMQ.out.val).2
          unfold ownV at ho
          by_cases h3 : r.kind = 3
          · rw [h3] at ho
            simp at ho
            have := HMQ.out.len
            simp only at this
            omega
          · have := (HMQ.out.val)
            have e0 : lr.length = 0 := lr_nil HMQ.out.val HMQ.out.len h3
            omega
        have SM := hide (fun (wx : World) (hb : Below w5.heap.size w5 wx) => same_yes r z r.upds lr hz1 HMQ.out.len hzn wx (UZ5.below hb) (UR5.below hb))
        clear hzl hOz UZ UZ5 UR5 B3 hb3 b5 hz1 hzn RD OO hB2
        go_upto_region 21 with (first | rw [hW5] | (go_big_may; first | refine wpList_storeRc rfl _ _ rfl rfl (w3.heap.size) (setU r z) rfl rfl _ Q4.out ?_) | fail)
        try rw [hW5]
        generalize hg17 : w3.heap.size = g17 at q5 ⊢
        have Q5 := hide q5
        clear hW4 hW5 Q4 q4 q5 hg17
        obtain ⟨hrow, hyc, hat⟩ := O5.out.sl
        obtain ⟨gy, hya, hgl, _, hAy⟩ := hat q r (by rw [List.getElem?_map, HMS.out]; rfl)
        simp only at hya
        subst hya
        have HAY := hide hAy
        have HGL := hide hgl
        have hnb : decide ((n : Int) < 1) = false := decide_eq_false (by omega)
        have hnc : decide ((k : Int) < (n : Int)) = false := decide_eq_false (by omega)
        have hnc' : decide (k < n) = false := decide_eq_false (by omega)
        have hsub : (TL.size : Int) - (bh.size : Int) = (k : Int) := by omega
        have hwk : IntKind.i64.wrap (k : Int) = (k : Int) := by rw [IntKind.wrap_i64]; omega
        clear hAy hgl hat hrow hyc
        go_wp2
        refine wp_region_noPanic ?_
        refine wp_region_held_drew (S := fun wx => Below w5.heap.size w5 wx) (by kernel_rfl) ((Below.refl _ _).drew) (fun hHeld => ?_)
        generalize hwd : World.drew w5 = wd at hHeld ⊢
        clear hwd
        refine Cu.takeH 0 (some 83) (.int .i64 0) rfl rfl (by kernel_rfl) (by kernel_rfl) (by kernel_rfl) (fun _ _ _ h => h) (by rfl) (fun w_ hw => bmov w_ _ _ rfl (by rfl)) hHeld ?_
        simp only [Act.put, List.setIfInBounds_toArray, List.set_cons_zero, List.set_cons_succ]
        refine Cu.takeH 1 (some 84) (.bool false) rfl rfl (by kernel_rfl) (by kernel_rfl) (by kernel_rfl) (fun _ _ _ h => h) (by rfl) (fun w_ hw => by first | rfl | (go_simp; done) | (go_simp; rfl) | (go_simp; omega)) hHeld ?_
        simp only [Act.put, List.setIfInBounds_toArray, List.set_cons_zero, List.set_cons_succ]
        refine Cu.takeH 2 (some 85) (.bool false) rfl rfl (by kernel_rfl) (by kernel_rfl) (by kernel_rfl) (fun _ _ _ h => h) (by rfl) (fun w_ hw => bmov w_ _ _ rfl (by rfl)) hHeld ?_
        simp only [Act.put, List.setIfInBounds_toArray, List.set_cons_zero, List.set_cons_succ]
        refine Cu.takeH 3 (some 86) (.agg (tabv (setU r z).v 138)) rfl rfl (by kernel_rfl) (by kernel_rfl) (by kernel_rfl) (fun _ _ _ h => h) (by rfl) (fun w_ hw => run_load_at w_ 38 _ rfl (g17) (0) (by rfl) _ 138 _ (((Q5.out.below hw Q5.out.lt).at_ 0 (by omega) (fun i hi => by rw [Nat.zero_add]))) Tryz.underlying38 rfl infoRc) hHeld ?_
        simp only [Act.put, List.setIfInBounds_toArray, List.set_cons_zero, List.set_cons_succ]
        refine Cu.takeH 4 (some 87) (.slice (some ⟨gy, 0, none⟩) ms.length yc) rfl rfl (by kernel_rfl) (by kernel_rfl) (by kernel_rfl) (fun _ _ _ h => h) (by rfl) (fun w_ hw => bmov w_ _ _ rfl (by rfl)) hHeld ?_
        simp only [Act.put, List.setIfInBounds_toArray, List.set_cons_zero, List.set_cons_succ]
        refine Cu.takeH 5 (some 88) (.int .i64 (q : Int)) rfl rfl (by kernel_rfl) (by kernel_rfl) (by kernel_rfl) (fun _ _ _ h => h) (by rfl) (fun w_ hw => bmov w_ _ _ rfl (by rfl)) hHeld ?_
        simp only [Act.put, List.setIfInBounds_toArray, List.set_cons_zero, List.set_cons_succ]
        refine Cu.takeH 6 (some 89) (.pointer (some ⟨gy, q * 138, none⟩)) rfl rfl (by kernel_rfl) (by kernel_rfl) (by kernel_rfl) (fun _ _ _ h => h) (by rfl) (fun w_ hw => by first | rfl | (go_simp; done) | (go_simp; rfl) | (go_simp; omega)) hHeld ?_
        simp only [Act.put, List.setIfInBounds_toArray, List.set_cons_zero, List.set_cons_succ]
        refine Cu.takeH 7 (some 90) (.agg (tabv r.v 138)) rfl rfl (by kernel_rfl) (by kernel_rfl) (by kernel_rfl) (fun _ _ _ h => h) (by rfl) (fun w_ hw => run_load_at w_ 38 _ rfl (gy) (q * 138) (by rfl) _ 138 _ (HAY.out.below hw HGL.out) Tryz.underlying38 rfl infoRc) hHeld ?_
        simp only [Act.put, List.setIfInBounds_toArray, List.set_cons_zero, List.set_cons_succ]
        refine wpAnyH_ready (rs := [8]) (by kernel_rfl) (by simp) (AllReadyH.cons rfl (fun K hK => ?_) AllReadyH.nil)
        rw [if_pos (by rfl)]
        go_simp
        refine (SM.out _ hHeld).mono ?_
        rintro e wf ⟨rfl, hbq⟩
        try go_wp2_with fail
        refine hK.out _ _ (hHeld.trans (hbq.mono hHeld.size)) (fun hH => ?_)
        clear hK K hHeld
        have hHeld := hH
        clear hH
        refine Cu.takeH 9 (some 92) (.bool false) rfl rfl (by kernel_rfl) (by kernel_rfl) (by kernel_rfl) (fun _ _ _ h => h) (by rfl) (fun w_ hw => by first | rfl | (go_simp; done) | (go_simp; rfl) | (go_simp; omega)) hHeld ?_
        simp only [Act.put, List.setIfInBounds_toArray, List.set_cons_zero, List.set_cons_succ]
        refine Cu.takeH 10 (some 93) (.bool false) rfl rfl (by kernel_rfl) (by kernel_rfl) (by kernel_rfl) (fun _ _ _ h => h) (by rfl) (fun w_ hw => by first | rfl | (go_simp; done) | (go_simp; rfl) | (go_simp; omega)) hHeld ?_
        simp only [Act.put, List.setIfInBounds_toArray, List.set_cons_zero, List.set_cons_succ]
        refine Cu.takeH 11 (some 94) (.bool false) rfl rfl (by kernel_rfl) (by kernel_rfl) (by kernel_rfl) (fun _ _ _ h => h) (by rfl) (fun w_ hw => bmov w_ _ _ rfl (by rfl)) hHeld ?_
        simp only [Act.put, List.setIfInBounds_toArray, List.set_cons_zero, List.set_cons_succ]
        refine Cu.takeH 12 (some 95) (.int .i64 (n : Int)) rfl rfl (by kernel_rfl) (by kernel_rfl) (by kernel_rfl) (fun _ _ _ h => h) (by rfl) (fun w_ hw => bmov w_ _ _ rfl (by rfl)) hHeld ?_
        simp only [Act.put, List.setIfInBounds_toArray, List.set_cons_zero, List.set_cons_succ]
        refine Cu.takeH 13 (some 96) (.bool false) rfl rfl (by kernel_rfl) (by kernel_rfl) (by kernel_rfl) (fun _ _ _ h => h) (by rfl) (fun w_ hw => by first | rfl | (go_simp; done) | (go_simp; rfl) | (go_simp; omega)) hHeld ?_
        simp only [Act.put, List.setIfInBounds_toArray, List.set_cons_zero, List.set_cons_succ]
        refine Cu.takeH 14 (some 97) (.bool false) rfl rfl (by kernel_rfl) (by kernel_rfl) (by kernel_rfl) (fun _ _ _ h => h) (by rfl) (fun w_ hw => by first | rfl | (go_simp; done) | (go_simp; rfl) | (go_simp; omega)) hHeld ?_
        simp only [Act.put, List.setIfInBounds_toArray, List.set_cons_zero, List.set_cons_succ]
        refine Cu.takeH 15 (some 98) (.bool false) rfl rfl (by kernel_rfl) (by kernel_rfl) (by kernel_rfl) (fun _ _ _ h => h) (by rfl) (fun w_ hw => bmov w_ _ _ rfl (by rfl)) hHeld ?_
        simp only [Act.put, List.setIfInBounds_toArray, List.set_cons_zero, List.set_cons_succ]
        refine Cu.takeH 16 (some 99) (.int .i64 (n : Int)) rfl rfl (by kernel_rfl) (by kernel_rfl) (by kernel_rfl) (fun _ _ _ h => h) (by rfl) (fun w_ hw => bmov w_ _ _ rfl (by rfl)) hHeld ?_
        simp only [Act.put, List.setIfInBounds_toArray, List.set_cons_zero, List.set_cons_succ]
        refine Cu.takeH 17 (some 100) (.string TL) rfl rfl (by kernel_rfl) (by kernel_rfl) (by kernel_rfl) (fun _ _ _ h => h) (by rfl) (fun w_ hw => bmov w_ _ _ rfl (by rfl)) hHeld ?_
        simp only [Act.put, List.setIfInBounds_toArray, List.set_cons_zero, List.set_cons_succ]
        refine Cu.takeH 18 (some 101) (.int .i64 (TL.size : Int)) rfl rfl (by kernel_rfl) (by kernel_rfl) (by kernel_rfl) (fun _ _ _ h => h) (by rfl) (fun w_ hw => by first | rfl | (go_simp; done) | (go_simp; rfl) | (go_simp; omega)) hHeld ?_
        simp only [Act.put, List.setIfInBounds_toArray, List.set_cons_zero, List.set_cons_succ]
        refine Cu.takeH 19 (some 102) (.string bh) rfl rfl (by kernel_rfl) (by kernel_rfl) (by kernel_rfl) (fun _ _ _ h => h) (by rfl) (fun w_ hw => bmov w_ _ _ rfl (by rfl)) hHeld ?_
        simp only [Act.put, List.setIfInBounds_toArray, List.set_cons_zero, List.set_cons_succ]
        refine Cu.takeH 20 (some 103) (.int .i64 (bh.size : Int)) rfl rfl (by kernel_rfl) (by kernel_rfl) (by kernel_rfl) (fun _ _ _ h => h) (by rfl) (fun w_ hw => by first | rfl | (go_simp; done) | (go_simp; rfl) | (go_simp; omega)) hHeld ?_
        simp only [Act.put, List.setIfInBounds_toArray, List.set_cons_zero, List.set_cons_succ]
        refine Cu.takeH 21 (some 104) (.int .i64 (k : Int)) rfl rfl (by kernel_rfl) (by kernel_rfl) (by kernel_rfl) (fun _ _ _ h => h) (by rfl) (fun w_ hw => by first | rfl | (go_simp; done) | (go_simp; rfl) | (go_simp; omega)) hHeld ?_
        simp only [Act.put, List.setIfInBounds_toArray, List.set_cons_zero, List.set_cons_succ]
        refine Cu.takeH 22 (some 105) (.bool false) rfl rfl (by kernel_rfl) (by kernel_rfl) (by kernel_rfl) (fun _ _ _ h => h) (by rfl) (fun w_ hw => by first | rfl | (go_simp; done) | (go_simp; rfl) | (go_simp; omega)) hHeld ?_
        simp only [Act.put, List.setIfInBounds_toArray, List.set_cons_zero, List.set_cons_succ]
        refine Cu.takeH 23 (some 106) (.bool false) rfl rfl (by kernel_rfl) (by kernel_rfl) (by kernel_rfl) (fun _ _ _ h => h) (by rfl) (fun w_ hw => by first | rfl | (go_simp; done) | (go_simp; rfl) | (go_simp; omega)) hHeld ?_
        simp only [Act.put, List.setIfInBounds_toArray, List.set_cons_zero, List.set_cons_succ]
        refine wpAnyH_done (by kernel_rfl) ?_ _
        refine NoPanic.normal ?_
        have hB9 : Below w.heap.size w wf := B5.trans (hHeld.mono B5.size)
        have O9 := hide (O5.out.below hHeld (Nat.le_refl _))
        clear hHeld O5 SM
        go_wp2
        rw [HCUT.out]
        go_roundw
        case rel => exact ⟨q + 1, by omega, by go_num, rfl, O9.out, hB9⟩
        case measure => simp [intOf]; omega
end Go.Proofs.YtlohfoggcdaeiaaGreat
