/-
  FrameBack.
-/
import Derived.Test.YtcpbcnbgcacgnaaFJoined
namespace Go.Proofs.Ytcpbcnbgcacgnaa
open Go.RowKit C
set_option linter.unusedVariables false
theorem cut_at : ∀ (ow : List Key) (c : Nat), ∃ K, K ≤ ow.length ∧ (c ≤ joinLen ow → joinLen (ow.take K) ≤ c) ∧ (K < ow.length → c < joinLen (ow.take (K + 1))) ∧ (joinLen (ow.take K) ≤ c)
  | [], c => ⟨0, Nat.le_refl _, fun _ => Nat.zero_le _, fun h => absurd h (by simp), Nat.zero_le _⟩
  | p :: ps, c => by
    by_cases h : c < room p.length
    · exact ⟨0, Nat.zero_le _, fun _ => Nat.zero_le _, fun _ => by simpa [joinLen] using h, Nat.zero_le _⟩
    · obtain ⟨K, h1, _, h3, h4⟩ := cut_at ps (c - room p.length)
      have e : ∀ j, joinLen ((p :: ps).take (j + 1)) = room p.length + joinLen (ps.take j) := fun j => by simp [joinLen]
      refine ⟨K + 1, by simpa using h1, fun _ => ?_, fun hk => ?_, ?_⟩
      · rw [e]; omega
      · rw [e]
        have := h3 (by simpa using hk)
        omega
      · rw [e]; omega
theorem joinLen_mono (ow : List Key) {i j : Nat} (h : i ≤ j) : joinLen (ow.take i) ≤ joinLen (ow.take j) := by
  have e : ow.take j = ow.take i ++ (ow.take j).drop i := by
    have := (List.take_append_drop i (ow.take j)).symm
    rwa [List.take_take, Nat.min_eq_left h] at this
  rw [e, joinLen_append]
  omega
theorem cut_text (m : Nat) (ow : List Key) (c K : Nat) (hs : ∀ p ∈ ow, p.length ≤ 65536) (hm : m + ow.length < 9223372036854775808) (hc : c ≤ joinLen ow) (hK : K ≤ ow.length) (h1 : joinLen (ow.take K) ≤ c) (h2 : K < ow.length → c < joinLen (ow.take (K + 1))) :
    ∃ r, (joinF m ow).take c = joinF m (ow.take K) ++ r ∧ wholeT r ((m : Int) + (ow.take K).length) = none ∧ r.length = c - joinLen (ow.take K) := by
  have hlK : (ow.take K).length = K := by rw [List.length_take]; omega
  by_cases hk : K < ow.length
  · have e0 : ow = ow.take K ++ (ow[K] :: ow.drop (K + 1)) := by rw [← List.drop_eq_getElem_cons hk, List.take_append_drop]
    have e1 : joinF m ow = joinF m (ow.take K) ++ (frameL (m + K) ow[K] ++ joinF (m + K + 1) (ow.drop (K + 1))) := by
      conv => lhs; rw [e0]
      rw [joinF_append, hlK]
      rfl
    have e2 : joinLen (ow.take (K + 1)) = joinLen (ow.take K) + room ow[K].length := by rw [List.take_succ_eq_append_getElem hk, joinLen_snoc]
    have h3 := h2 hk
    refine ⟨(frameL (m + K) ow[K]).take (c - joinLen (ow.take K)), ?_, ?_, ?_⟩
    · rw [e1, List.take_append, joinF_length, List.take_of_length_le (by rw [joinF_length]; exact h1)]
      congr 1
      rw [List.take_append_of_le_length (by rw [frameL_length]; omega)]
    · rw [hlK]
      have := cut_none (m + K) ow[K] (hs _ (List.getElem_mem _)) (by omega) (c - joinLen (ow.take K)) (by omega)
      simpa using this
    · rw [List.length_take, frameL_length]; omega
  · have hk' : K = ow.length := by omega
    subst hk'
    rw [List.take_length] at h1 ⊢
    refine ⟨[], ?_, none_empty _, by simp; omega⟩
    rw [List.append_nil, List.take_of_length_le (by rw [joinF_length]; exact h1)]
theorem row_len {w : World} {base e n : Nat} {v : Value} {xs : List Value} (h : w.ownsRow base e 1 v n xs) : n ≤ maxLen := by
  obtain ⟨_, _, _, _, h1, h2, _⟩ := own_at h
  exact Nat.le_trans h1 h2
set_option maxRecDepth 8000 in
set_option maxHeartbeats 4000000 in
theorem frameBack_walk (ks : List Key) (ad : Option Addr) (cp : Nat) (n cut : Int) (w : World) (hl : ks.length * 16 ≤ 140737488355328) (hr : RowAt w ad (ks.map encStr)) :
    Calls Try.prog 4 #[.slice ad ks.length cp, .int .i64 n, .int .i64 cut] w fun e w' => e = .returned (.bool true) ∧ Below w.heap.size w w' := by
  obtain ⟨m, hm, hnum⟩ := number_any n
  have HNum := hide hnum
  have HL := hide hl
  have HR := hide hr
  have HM := hide hm
  clear hnum hl hr hm
  go_enter Try.func4, Try.ntmps4
  go_wp2_with fail
  refine (first_any _).mono ?_
  rintro e w1 ⟨rfl, hb1⟩
  go_wp2_with fail
  refine (HNum.out _).mono ?_
  rintro e w2 ⟨rfl, hw2⟩
  obtain rfl := hw2
  go_wp2_with fail
  refine (joined_any m ks ad cp _ HM.out HL.out (HR.out.below hb1)).mono ?_
  rintro e w3 ⟨B, v1, v2, rfl, hB, ho1, ho2, hb3⟩
  obtain ⟨ow, how⟩ : ∃ ow, ks.filter small = ow := ⟨_, rfl⟩
  rw [how] at hB ho1 ho2
  have hos : ∀ q ∈ ow, q.length ≤ 65536 := fun q hq => small_mem (by rw [how]; exact hq)
  have hol : ow.length ≤ ks.length := by rw [← how]; exact List.length_filter_le _ _
  have hLL := HL.out
  have hMM := HM.out
  have hjl := joinLen_le ow hos
  have hBl : B.size = joinLen ow := by rw [← str_len, hB, joinF_length]
  obtain ⟨U, L, c, hc, hmod⟩ := modded cut (B.size + 1) (by omega) (by omega)
  obtain ⟨K, hK, -, hK2, hK1⟩ := cut_at ow c
  obtain ⟨r, hr1, hr2, hr3⟩ := cut_text m ow c K hos (by omega) (by omega) hK hK1 hK2
  obtain ⟨ad1, cp1, rfl, hrow1, hcp1, hcm1, -⟩ := own_at ho1
  obtain ⟨ad2, cp2, rfl, hrow2, hcp2, -, -⟩ := own_at ho2
  have hcK : K ≤ cp1 := by omega
  have wL : wrap64 ((B.size : Int) + 1) = L := by rw [hmod.hL]; unfold wrap64; omega
  have WL := hide wL
  have HMod := hide hmod
  clear wL hmod
  have hcB : c ≤ B.size := by omega
  have g0 : (0 : Int) ≤ (c : Int) := by omega
  have g1 : (c : Int) ≤ (B.size : Int) := by omega
  have HRow1 := hide hrow1
  have HRow2 := hide hrow2
  obtain ⟨T, hT⟩ : ∃ T : ByteArray, B.extract 0 c = T := ⟨_, rfl⟩
  have hTl : T.data.toList = joinF m (ow.take K) ++ r := by rw [← hT, ext_list0, hB, hr1]
  have hTs : T.size ≤ 4611686018427387904 := by
    rw [← hT, ByteArray.size_extract]; omega
  have hlK : (ow.take K).length = K := by rw [List.length_take]; omega
  have hBs : B.size ≤ 4611686018427387904 := by omega
  obtain ⟨E, hE⟩ : ∃ E : Nat, joinLen (ow.take K) = E := ⟨_, rfl⟩
  have hEc : E ≤ c := by omega
  have hrl : (!r.isEmpty) = decide (E < c) := by
    cases r with
    | nil => rw [decide_eq_false (by simp at hr3; omega)]; rfl
    | cons x xs => rw [decide_eq_true (by simp at hr3; omega)]; rfl
  have sc := fun w => scan_of T m (ow.take K) r w hTl (fun p hp => hos p (List.mem_of_mem_take hp)) (by rw [hlK]; omega) hr2 hTs (by rw [hlK]; omega) (m : Int) rfl (E : Int) (by rw [joinF_length, hE]) (decide (E < c)) hrl.symm
  have sall := fun w => scan_of B m ow [] w (by rw [hB, List.append_nil]) hos (by omega) (none_empty _) hBs (by omega) (m : Int) rfl (B.size : Int) (by rw [joinF_length, hBl]) false rfl
  rw [hlK] at sc
  have SC := hide sc
  have SA := hide sall
  have HOS := hide ho1
  have hends : ∀ i, i < ow.length → (endsL ow)[i]? = some (joinLen (ow.take (i + 1))) := fun i hi => by
    unfold endsL
    rw [List.getElem?_map, List.getElem?_range hi]; rfl
  have HEnds := hide hends
  have HK := hide hK
  have HK1 := hide hK1
  have HK2 := hide hK2
  have HlK := hide hlK
  have HE := hide hE
  have HOL : Hid (ow.length ≤ 8796093022208) := by show _ ≤ _; omega
  have HB3 := hide (hb1.trans (hb3.mono hb1.size))
  clear hB ho1 ho2 hb3 how hos hol hLL hMM hjl hBl hK hK2 hK1 hr1 hr2 hr3 hrow1 hrow2 sc sall hends hTl hTs hBs hrl hE hlK hc
  obtain ⟨M, hMe⟩ : ∃ M : Int, (m : Int) = M := ⟨_, rfl⟩
  rw [hMe] at SC SA ⊢
  have hEcd : decide ((E : Int) < (c : Int)) = decide (E < c) := by rw [Bool.eq_iff_iff, decide_eq_true_iff, decide_eq_true_iff]; omega
  obtain ⟨Tn, hTn⟩ : ∃ b : Bool, decide (E < c) = b := ⟨_, rfl⟩
  rw [hTn] at SC hEcd

  have wL := WL.out
  have e1 := HMod.out.e1
  have e3 := HMod.out.e3
  have e4 := HMod.out.e4
  have e5 := HMod.out.e5
  have ne := HMod.out.ne
  go_wp2_with fail
  rw [e5, wL]
  clear wL e1 e3 e4 e5 ne
  refine (SC.out _).mono ?_
  rintro e w4 ⟨ad4, cp4, rfl, ho4, hb4⟩
  have HO4 := hide ho4
  clear ho4
  have hr2 := HRow2.out.below hb4
  have HR2 := hide hr2
  clear hr2
  have hc0 := HOL.out
  go_wp2
  go_loop [14, 15] (fun vk va => ∃ k : Nat, k ≤ K ∧ vk = .int .i64 (k : Int) ∧ va = .int .i64 (joinLen (ow.take k) : Int)) (fun vk _ => K - (intOf vk).toNat)
  case atStart => exact ⟨0, Nat.zero_le _, rfl, rfl⟩
  case round =>
    obtain ⟨k, hk, rfl, rfl⟩ := hrel
    have hKo := HK.out
    by_cases hlt : k < K
    · have dk : decide ((k : Int) < (ow.length : Int)) = true := decide_eq_true (by omega)
      have hk0 : (0 : Int) ≤ (k : Int) := by omega
      have hk1 : (k : Int) < (ow.length : Int) := by omega
      have hkn : k < ow.length := by omega
      obtain ⟨A, hA⟩ : ∃ A : Nat, joinLen (ow.take (k + 1)) = A := ⟨_, rfl⟩
      have hAc : A ≤ c := by rw [← hA]; exact Nat.le_trans (joinLen_mono ow (show k + 1 ≤ K by omega)) HK1.out
      have dA : decide ((A : Int) ≤ (c : Int)) = true := decide_eq_true (by omega)
      have dA2 : decide (A ≤ c) = true := decide_eq_true hAc
      rcases HR2.out with h | ⟨b, o, rfl, hbl, hcs⟩
      · have := congrArg List.length h
        rw [List.length_map, endsL_length, List.length_nil] at this
        omega
      have f0 : w4.cell? ⟨b, o + k, none⟩ = some (.int .i64 (A : Int)) := by
        rw [hcs k (by rw [List.length_map, endsL_length]; exact hkn), List.getElem?_map, HEnds.out k hkn, hA]; rfl
      have HA := hide hA
      obtain ⟨A0, hA0⟩ : ∃ A0 : Nat, joinLen (ow.take k) = A0 := ⟨_, rfl⟩
      rw [hA0]
      clear hcs hA hA0
      go_wp2
      go_round
      case rel => exact ⟨k + 1, by omega, by go_num, by rw [HA.out]⟩
      case measure => simp [intOf]; omega
    · have hkK : k = K := by omega
      subst hkK
      have hr1 := (HRow1.out.below hb4).take k
      rw [← List.map_take] at hr1
      have sm := fun (wx : World) (hx : RowAt wx ad4 ((ow.take k).map encStr)) (hy : RowAt wx ad1 ((ow.take k).map encStr)) (hz : k ≤ maxLen) => same_any wx ad4 ad1 cp4 cp1 (ow.take k) (ow.take k) hx hy (by rw [HlK.out]; exact hz) (by rw [HlK.out]; exact hz)
      rw [HlK.out, beq_self_eq_true] at sm
      have sm2 := fun (wx : World) (ad5 : Option Addr) (cp5 : Nat) (hx : RowAt wx ad5 (ow.map encStr)) (hy : RowAt wx ad1 (ow.map encStr)) (hz : ow.length ≤ maxLen) => same_any wx ad5 ad1 cp5 cp1 ow ow hx hy hz hz
      rw [beq_self_eq_true] at sm2
      have SM := hide sm
      have SM2 := hide sm2
      have HR1 := hide hr1
      obtain ⟨ad4', cp4', he4, hrow4, hc4, hm4, -⟩ := own_at HO4.out
      cases he4
      have HR4 := hide hrow4
      have HkM : Hid (k ≤ maxLen) := by show _ ≤ _; omega
      have HoM : Hid (ow.length ≤ maxLen) := by show _ ≤ _; omega
      rw [HE.out]
      have hTT : (Tn != Tn) = false := by cases Tn <;> rfl
      have hTT2 : (Tn == Tn) = true := by cases Tn <;> rfl
      have g2 : (0 : Int) ≤ (k : Int) := by omega
      have g3 : (k : Int) ≤ (cp1 : Int) := by omega
      have hE2 := hide hEc
      clear sm sm2 hr1 hrow4 hEc hk hlt
      by_cases hKl : k < ow.length
      · have dk : decide ((k : Int) < (ow.length : Int)) = true := decide_eq_true (by omega)
        have hk1 : (k : Int) < (ow.length : Int) := by omega
        obtain ⟨A, hA⟩ : ∃ A : Nat, joinLen (ow.take (k + 1)) = A := ⟨_, rfl⟩
        have hAc : c < A := by rw [← hA]; exact HK2.out hKl
        have dA : decide ((A : Int) ≤ (c : Int)) = false := decide_eq_false (by omega)
        have dA2 : decide (A ≤ c) = false := decide_eq_false (by omega)
        rcases HR2.out with h | ⟨b, o, rfl, hbl, hcs⟩
        · have := congrArg List.length h
          rw [List.length_map, endsL_length, List.length_nil] at this
          omega
        have f0 : w4.cell? ⟨b, o + k, none⟩ = some (.int .i64 (A : Int)) := by
          rw [hcs k (by rw [List.length_map, endsL_length]; exact hKl), List.getElem?_map, HEnds.out k hKl, hA]; rfl
        clear hcs hA hAc hKl
        go_wp2_with fail
        refine (SM.out _ HR4.out HR1.out HkM.out).mono ?_
        rintro e w5 ⟨rfl, hb5⟩
        go_wp2_with fail
        refine (SA.out _).mono ?_
        rintro e w6 ⟨ad6, cp6, rfl, ho6, hb6⟩
        obtain ⟨ad6', cp6', he6, hrow6, -, -, -⟩ := own_at ho6
        cases he6
        have hrr := ((HRow1.out.below hb4).below hb5).below hb6
        go_wp2_with fail
        refine (SM2.out _ ad6 cp6 hrow6 hrr HoM.out).mono ?_
        rintro e w7 ⟨rfl, hb7⟩
        have q4 := Nat.le_trans HB3.out.size hb4.size
        have q5 := Nat.le_trans q4 hb5.size
        have q6 := Nat.le_trans q5 hb6.size
        go_wp2
        go_ret
        exact ⟨rfl, (((HB3.out.trans (hb4.mono HB3.out.size)).trans (hb5.mono q4)).trans (hb6.mono q5)).trans (hb7.mono q6)⟩
      · have dk : decide ((k : Int) < (ow.length : Int)) = false := decide_eq_false (by omega)
        have dk2 : decide (k < ow.length) = false := decide_eq_false hKl
        clear hKl
        go_wp2_with fail
        refine (SM.out _ HR4.out HR1.out HkM.out).mono ?_
        rintro e w5 ⟨rfl, hb5⟩
        go_wp2_with fail
        refine (SA.out _).mono ?_
        rintro e w6 ⟨ad6, cp6, rfl, ho6, hb6⟩
        obtain ⟨ad6', cp6', he6, hrow6, -, -, -⟩ := own_at ho6
        cases he6
        have hrr := ((HRow1.out.below hb4).below hb5).below hb6
        go_wp2_with fail
        refine (SM2.out _ ad6 cp6 hrow6 hrr HoM.out).mono ?_
        rintro e w7 ⟨rfl, hb7⟩
        have q4 := Nat.le_trans HB3.out.size hb4.size
        have q5 := Nat.le_trans q4 hb5.size
        have q6 := Nat.le_trans q5 hb6.size
        go_wp2
        go_ret
        exact ⟨rfl, (((HB3.out.trans (hb4.mono HB3.out.size)).trans (hb5.mono q4)).trans (hb6.mono q5)).trans (hb7.mono q6)⟩
end Go.Proofs.Ytcpbcnbgcacgnaa
