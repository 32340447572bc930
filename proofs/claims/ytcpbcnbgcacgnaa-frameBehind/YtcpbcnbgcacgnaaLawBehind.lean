/-
  FrameBehind.
-/
import Derived.Test.YtcpbcnbgcacgnaaLawBack
import Derived.Test.YtcpbcnbgcacgnaaRFrame
namespace Go.Proofs.Ytcpbcnbgcacgnaa
open Go.RowKit C
set_option linter.unusedVariables false
set_option maxRecDepth 8000 in
set_option maxHeartbeats 4000000 in
theorem frameBehind_walk (ks : List Key) (ad : Option Addr) (cp : Nat) (n zeros other : Int) (pl : ByteArray) (w : World) (hl : ks.length * 16 ≤ 140737488355328) (hr : RowAt w ad (ks.map encStr)) (hoth : other < 9223372036854775808) :
    Calls Try.prog 5 #[.slice ad ks.length cp, .int .i64 n, .int .i64 zeros, .int .i64 other, .string pl] w fun e w' => e = .returned (.bool true) ∧ Below w.heap.size w w' := by
  obtain ⟨m, hm, hnum⟩ := number_any n
  have HNum := hide hnum
  have HL := hide hl
  have HR := hide hr
  have HM := hide hm
  have HOth := hide hoth
  clear hnum hl hr hm hoth
  go_enter Try.func5, Try.ntmps5
  go_wp2_with fail
  refine (first_any _).mono ?_
  rintro e w1 ⟨rfl, hb1⟩
  go_wp2_with fail
  refine (HNum.out _).mono ?_
  rintro e w2 ⟨rfl, hw2⟩
  obtain rfl := hw2
  go_wp2_with fail
  refine (joined_any m ks ad cp _ HM.out HL.out (HR.out.below hb1)).mono ?_
  rintro e w3 ⟨B, v1, v2, rfl, hB, ho1, ho2, hb3⟩
  obtain ⟨ow, how⟩ : ∃ ow, ks.filter small = ow := ⟨_, rfl⟩
  rw [how] at hB ho1 ho2
  have hos : ∀ q ∈ ow, q.length ≤ 65536 := fun q hq => small_mem (by rw [how]; exact hq)
  have hol : ow.length ≤ ks.length := by rw [← how]; exact List.length_filter_le _ _
  have hLL := HL.out
  have hMM := HM.out
  have hjl := joinLen_le ow hos
  have hBl : B.size = joinLen ow := by rw [← str_len, hB, joinF_length]
  obtain ⟨U, L, z, hz, hmod⟩ := modded zeros 300 (by omega) (by omega)
  obtain ⟨ad1, cp1, rfl, hrow1, hcp1, hcm1, -⟩ := own_at ho1
  obtain ⟨ad2, cp2, rfl, -, -, -, -⟩ := own_at ho2
  have e1 := hmod.e1
  have e4 := hmod.e4
  have e5 := hmod.e5
  rw [hmod.hL] at e4
  have HE1 := hide e1
  have HE4 : Hid (U.tmod 300 = (z : Int)) := hide e4
  have HE5 := hide e5
  have HRow1 := hide hrow1
  have HB3 := hide (hb1.trans (hb3.mono hb1.size))
  have hBs : B.size ≤ 4611686018427387904 := by omega
  have HBs := hide hBs
  have HB := hide hB
  have HBl := hide hBl
  have HOs := hide hos
  have HOl : Hid (ow.length ≤ 8796093022208) := by show _ ≤ _; omega
  clear hB ho1 ho2 hb3 how hos hol hLL hMM hjl hBl hrow1 hmod e1 e4 e5 hBs
  obtain ⟨M, hMe⟩ : ∃ M : Int, (m : Int) = M := ⟨_, rfl⟩
  have HMe := hide hMe
  rw [hMe]
  clear hMe
  go_wp2
  go_loopw [15, 16] (fun vz vi wr => ∃ j : Nat, j ≤ z + 1 ∧ vi = .int .i64 (j : Int) ∧ Bytes wr w3.heap.size vz (List.replicate j 0) ∧ Below w3.heap.size w3 wr) (fun _ vi _ => z + 1 - (intOf vi).toNat)
  case atStart => exact ⟨0, Nat.zero_le _, rfl, Bytes.nil _ _, Below.refl _ _⟩
  case round =>
    obtain ⟨j, hj, rfl, hby, hbw⟩ := hrel
    obtain ⟨adz, nz, cz, rfl⟩ := hby.shape
    have HBy := hide hby
    have HBw := hide hbw
    have e1 := HE1.out
    have e4 := HE4.out
    have e5 := HE5.out
    have hsz := hide hbw.size
    clear hby hbw
    by_cases hlt : j < z + 1
    · have dj : decide ((j : Int) < 1 + (z : Int)) = true := decide_eq_true (by omega)
      have hj3 : Hid ((List.replicate j (0 : UInt8)).length + 1 ≤ 140737488355328) := by show _ ≤ _; rw [List.length_replicate]; omega
      have hby := HBy.out
      go_wp2_with (at_builtin; refine wpList_append_byte rfl _ _ rfl w3.heap.size _ (List.replicate j 0) 0 0 rfl (by rfl) hby (by rfl) rfl hj3.out hsz.out ?_; intro g cap w5 hB5 hM5)
      go_roundw
      case rel =>
        refine ⟨j + 1, by omega, by go_num, ?_, ?_⟩
        · rw [List.replicate_succ']
          rw [List.length_replicate] at hB5
          exact hB5
        · exact HBw.out.trans (hM5.below hby.block hsz.out)
      case measure => simp [intOf]; omega
    · have hjz : j = z + 1 := by omega
      subst hjz
      have dj : decide (((z + 1 : Nat) : Int) < 1 + (z : Int)) = false := decide_eq_false (by omega)
      have dj2 : decide ((z : Int) + 1 < 1 + (z : Int)) = false := decide_eq_false (by omega)
      have hcv := HBy.out.conv
      obtain ⟨S, hS⟩ : ∃ S : ByteArray, S = ⟨(List.replicate (z + 1) 0).toArray⟩ := ⟨_, rfl⟩
      rw [← hS] at hcv
      have hSl : S.data.toList = List.replicate (z + 1) 0 := by rw [hS]
      have hSs : S.size = z + 1 := by rw [← str_len, hSl, List.length_replicate]
      obtain ⟨G, hadd, hG⟩ := add_texts B S (by have := HBs.out; omega)
      have hGl : G.data.toList = joinF m ow ++ List.replicate (z + 1) 0 := by rw [hG, HB.out, hSl]
      have hGs : G.size ≤ 4611686018427387904 := by
        have := HOl.out
        have := joinLen_le ow HOs.out
        rw [← str_len, hGl, List.length_append, joinF_length, List.length_replicate]; omega
      have hmo : m + ow.length < 9223372036854775808 := by have := HM.out; have := HOl.out; omega
      have ho16 : ow.length * 16 ≤ 140737488355328 := by have := HOl.out; omega
      have sc := fun w => scan_of G m ow (List.replicate (z + 1) 0) w hGl HOs.out hmo (zeros_none _ _) hGs ho16 M HMe.out.symm (B.size : Int) (by rw [joinF_length, HBl.out]) true rfl
      have sm := fun (wx : World) (ad5 : Option Addr) (cp5 : Nat) (hx : RowAt wx ad5 (ow.map encStr)) (hy : RowAt wx ad1 (ow.map encStr)) (hz : ow.length ≤ maxLen) => same_any wx ad5 ad1 cp5 cp1 ow ow hx hy hz hz
      rw [beq_self_eq_true] at sm
      have HoM : Hid (ow.length ≤ maxLen) := by show _ ≤ _; omega
      have SM := hide sm
      have SC := hide sc
      have HMo := hide hmo
      have H16 := hide ho16
      clear sc sm hG hGl hGs hSl hSs hS hlt hj hmo ho16
      go_wp2_with fail
      refine (SC.out _).mono ?_
      rintro e w6 ⟨ad6, cp6, rfl, ho6, hb6⟩
      obtain ⟨ad6', cp6', he6, hrow6, -, -, -⟩ := own_at ho6
      cases he6
      clear ho6 hadd hcv dj dj2
      have hrr := (HRow1.out.below HBw.out).below hb6
      have q6 := Nat.le_trans HBw.out.size hb6.size
      have HB6 := hide (HBw.out.trans (hb6.mono HBw.out.size))
      go_wp2_with fail
      refine (SM.out _ ad6 cp6 hrow6 hrr HoM.out).mono ?_
      rintro e w7 ⟨rfl, hb7⟩
      have HB7 := hide (HB6.out.trans (hb7.mono HB6.out.size))
      have fa := fun w => frame_any other pl w HOth.out
      obtain ⟨F, hF⟩ : ∃ F : ByteArray, frameS other pl = F := ⟨_, rfl⟩
      obtain ⟨E, hE⟩ : ∃ E : Int, frameE other pl = E := ⟨_, rfl⟩
      rw [hF, hE] at fa
      have FA := hide fa
      have HF := hide hF
      have HE := hide hE
      clear fa hF hE
      go_wp2_with fail
      refine (FA.out _).mono ?_
      rintro e w8 ⟨rfl, hb8⟩
      have HB8 := hide (HB7.out.trans (hb8.mono HB7.out.size))
      by_cases hE0 : E = 0
      · subst hE0
        have hgood : 0 ≤ other ∧ pl.size ≤ 65536 := by
          have := HE.out
          unfold frameE at this
          split at this
          · cases this
          · split at this
            · cases this
            · omega
        obtain ⟨q, hq⟩ := Int.eq_ofNat_of_zero_le hgood.1
        have hFl : F.data.toList = frameL q pl.data.toList := by
          rw [← HF.out]
          unfold frameS
          rw [if_neg (by omega), if_neg (by omega), hq]
          rfl
        obtain ⟨N, hN⟩ : ∃ N : Int, M + (ow.length : Int) = N := ⟨_, rfl⟩
        have hwN : wrap64 (M + (ow.length : Int)) = N := by
          have := HMe.out; have := HMo.out
          rw [hN]; unfold wrap64; omega
        have HN := hide hN
        have HwN := hide hwN
        by_cases heq : other = N
        · have d1 : (other == N) = true := beq_iff_eq.2 heq
          clear hN hFl hq hgood heq
          go_wp2
          go_ret
          exact ⟨rfl, HB3.out.trans (HB8.out.mono HB3.out.size)⟩
        · have d1 : (other == N) = false := beq_eq_false_iff_ne.2 heq
          have hFs : F.size ≤ 65616 := by
            have := room_ge pl.size
            rw [← str_len, hFl, frameL_length, str_len]
            have := hgood.2
            omega
          have hF0 : 0 < F.data.toList.length := by
            have := room_ge pl.data.toList.length
            rw [hFl, frameL_length]; omega
          obtain ⟨G2, hadd2, hG2⟩ := add_texts B F (by have := HBs.out; omega)
          have hG2l : G2.data.toList = joinF m ow ++ F.data.toList := by rw [hG2, HB.out]
          have hG2s : G2.size ≤ 4611686018427387904 := by
            have := HOl.out
            have := joinLen_le ow HOs.out
            rw [← str_len, hG2l, List.length_append, joinF_length, str_len]; omega
          have hno : wholeT F.data.toList ((m : Int) + ow.length) = none := by
            rw [hFl]
            refine other_none q pl.data.toList (by rw [str_len]; exact hgood.2) (by have := HOth.out; omega) _ ?_
            have h1 := HMe.out
            intro h2
            apply heq
            omega
          have sc := fun w => scan_of G2 m ow F.data.toList w hG2l HOs.out HMo.out hno hG2s H16.out M HMe.out.symm (B.size : Int) (by rw [joinF_length, HBl.out]) true (by
            cases hfl : F.data.toList with
            | nil => rw [hfl] at hF0; simp at hF0
            | cons => rfl)
          have SC2 := hide sc
          clear sc hno hG2s hG2l hG2 hF0 hFs heq hN hFl hq hgood
          go_wp2_with fail
          refine (SC2.out _).mono ?_
          rintro e w9 ⟨ad9, cp9, rfl, ho9, hb9⟩
          obtain ⟨ad9', cp9', he9, hrow9, -, -, -⟩ := own_at ho9
          cases he9
          have hr9 := (HRow1.out.below HB8.out).below hb9
          have HB9 := hide (HB8.out.trans (hb9.mono HB8.out.size))
          clear ho9 hadd2
          go_wp2_with fail
          refine (SM.out _ ad9 cp9 hrow9 hr9 HoM.out).mono ?_
          rintro e w10 ⟨rfl, hb10⟩
          have HB10 := hide (HB9.out.trans (hb10.mono HB9.out.size))
          go_wp2
          go_ret
          exact ⟨rfl, HB3.out.trans (HB10.out.mono HB3.out.size)⟩
      · have d0 : (E == 0) = false := beq_eq_false_iff_ne.2 hE0
        go_wp2
        go_ret
        exact ⟨rfl, HB3.out.trans (HB8.out.mono HB3.out.size)⟩
end Go.Proofs.Ytcpbcnbgcacgnaa
