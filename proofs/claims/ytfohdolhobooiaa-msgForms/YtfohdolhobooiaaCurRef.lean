/-
  The document's bytes and numbers (escrowref03.Bytes, Number).
-/
import Derived.Test.YtfohdolhobooiaaCurWant
import Derived.Test.YtfohdolhobooiaaCurReadMath
namespace Go.Proofs.Ytfohdolhobooiaa.Cu
open Go.RowKit
set_option linter.unusedVariables false
theorem wrap_un (k : IntKind) (b : Nat) (hs : k.signed = false) (hb : k.bits = b) (n : Nat) : k.wrap (n : Int) = ((n % 2 ^ b : Nat) : Int) := by
  simp only [IntKind.wrap, hs, hb]; simp
set_option maxRecDepth 5000 in
set_option maxHeartbeats 4000000 in
theorem refBytes (X : Int) (x n : Nat) (hX : X = (x : Int)) (N : Int) (hN : N = (n : Int)) (hn : n ≤ 8) (w : World) : Calls Try.prog 35 #[.int .u64 X, .int .i64 N] w fun e w' => e = .returned (.string (ofL (nb x n))) ∧ Below w.heap.size w w' := by
  have HX := hide hX
  subst hN
  obtain ⟨R, hR⟩ : ∃ R, ofL (nb x n) = R := ⟨_, rfl⟩
  rw [hR]
  have HR := hide hR
  clear hX hR
  go_enter Try.func35, Try.ntmps35
  go_wp2
  go_loopw [5, 6] (fun b i wr => ∃ k : Nat, k ≤ n ∧ i = .int .i64 ((k : Int) - 1) ∧ Bytes wr w.heap.size b ((List.range (n - k)).map (digit x n)) ∧ Below w.heap.size w wr) (fun _ i _ => (intOf i + 1).toNat)
  case atStart => exact ⟨n, Nat.le_refl _, rfl, by rw [Nat.sub_self]; exact Bytes.nil _ _, Below.refl _ _⟩
  case round =>
    obtain ⟨k, hk, rfl, hB, kb⟩ := hrel
    by_cases hm0 : 0 < k
    · obtain ⟨I, hI⟩ : ∃ I : Int, (k : Int) - 1 = I := ⟨_, rfl⟩
      obtain ⟨J, hJ⟩ : ∃ J : Int, 8 * I = J := ⟨_, rfl⟩
      obtain ⟨Z, hZ⟩ : ∃ Z : Int, X / (2 : Int) ^ (8 * (k - 1)) = Z := ⟨_, rfl⟩
      have K1 : Hid (∀ w : World, (convert 3 69 (.int .i64 I)).run Try.prog w = .ok (.int .u64 I) w) := fun w => run_conv 3 69 .i64 .u64 I I (by kernel_rfl) (by kernel_rfl) (by kernel_rfl) (by
        obtain ⟨i, rfl⟩ := Int.eq_ofNat_of_zero_le (show 0 ≤ I by omega)
        rw [wrap_un .u64 64 rfl rfl, Nat.mod_eq_of_lt (by omega)]) w
      have K2 : Hid (∀ w : World, (binOp .mul 69 (.int .u64 8) (.int .u64 I)).run Try.prog w = .ok (.int .u64 J) w) := fun w => run_mul 69 .u64 8 I J (by
        obtain ⟨j, rfl⟩ := Int.eq_ofNat_of_zero_le (show 0 ≤ J by omega)
        rw [hJ, wrap_un .u64 64 rfl rfl, Nat.mod_eq_of_lt (by omega)]) w
      have K3 : Hid (∀ w : World, (binOp .shr 72 (.int .u64 X) (.int .u64 J)).run Try.prog w = .ok (.int .u64 Z) w) := fun w => run_shr 72 .u64 .u64 X J Z (8 * (k - 1)) (by omega) (by show _ ≤ 64; omega) hZ w
      have K4 : Hid (∀ w : World, (convert 72 5 (.int .u64 Z)).run Try.prog w = .ok (.int .u8 ((digit x n (n - k)).toNat : Int)) w) := fun w => by
        rw [← wrap8_digit x n (n - k) (8 * (k - 1)) (by omega), ← HX.out, hZ]
        exact conv_u8 72 .u64 Z (by kernel_rfl) w
      have hd : decide (I ≥ 0) = true := decide_eq_true (by omega)
      have hd2 : (0 : Int) ≤ I := by omega
      have hd3 : I ≤ 8 := by omega
      have HI := hide hI
      rw [hI]
      have HLL : Hid (((List.range (n - k)).map (digit x n)).length + 1 ≤ 140737488355328) := by
        show _ ≤ _
        rw [List.length_map, List.length_range]; omega
      obtain ⟨L, hL⟩ : ∃ L, (List.range (n - k)).map (digit x n) = L := ⟨_, rfl⟩
      rw [hL] at hB HLL
      have HE := hide hL
      have HSZ := hide kb.size
      clear hI hJ hZ hL
      go_wp2_with (first | (refine wpW_conv _ _ _ rfl (.int .i64 I) (.int .u64 I) (by rfl) (by rfl) (K1.out _) ?_) | (refine wpW_bin .mul _ _ _ _ rfl (.int .u64 8) (.int .u64 I) (.int .u64 J) (by rfl) (by rfl) (by rfl) rfl (K2.out _) ?_) | (refine wpW_bin .shr _ _ _ _ rfl (.int .u64 X) (.int .u64 J) (.int .u64 Z) (by rfl) (by rfl) (by rfl) rfl (K3.out _) ?_) | (refine wpW_conv _ _ _ rfl (.int .u64 Z) (.int .u8 ((digit x n (n - k)).toNat : Int)) (by rfl) (by rfl) (K4.out _) ?_) | (at_builtin; refine wpList_append_byte rfl _ _ rfl w.heap.size _ L (digit x n (n - k)) _ rfl (by rfl) hB (by rfl) rfl HLL.out HSZ.out ?_; intro g cap w5 hB5 hM5))
      go_roundw
      case rel =>
        have hI := HI.out
        refine ⟨k - 1, by omega, by rw [show I - 1 = ((k - 1 : Nat) : Int) - 1 by omega], ?_, kb.trans (grown_below (B := w.heap.size) hM5.gr hB.block kb.size)⟩
        rw [← HE.out, range_snoc, show n - k + 1 = n - (k - 1) by omega] at hB5
        rw [HE.out] at hB5
        exact hB5
      case measure => have := HI.out; simp [intOf]; omega
    · have hk0 : k = 0 := by omega
      subst hk0
      have hcv := hB.conv
      obtain ⟨ad, n1, c1, rfl⟩ := hB.shape
      have HN : Hid ((⟨((List.range (n - 0)).map (digit x n)).toArray⟩ : ByteArray) = ofL (nb x n)) := rfl
      rw [HN.out, HR.out] at hcv
      clear hB
      go_wp2
      go_ret
      exact ⟨rfl, kb⟩
theorem be_take_lt (s : ByteArray) (i : Nat) (hi : i ≤ s.size) (hs : s.size ≤ 8) : be (s.data.toList.take i) < 18446744073709551616 := by
  have h := be_lt (s.data.toList.take i)
  rw [List.length_take, str_len, Nat.min_eq_left hi] at h
  have : 256 ^ i ≤ 256 ^ 8 := Nat.pow_le_pow_right (by decide) (by omega)
  omega
set_option maxRecDepth 5000 in
set_option maxHeartbeats 1000000 in
theorem xNumber (s : ByteArray) (w : World) (hs : s.size ≤ 8) : Calls Try.prog 55 #[.string s] w fun e w' => e = .returned (.int .u64 (be s.data.toList : Int)) ∧ w = w' := by
  obtain ⟨F, hF⟩ : ∃ F : Nat → Int, ∀ i, F i = (be (s.data.toList.take i) : Int) := ⟨_, fun _ => rfl⟩
  have h0 : F 0 = 0 := by rw [hF]; rfl
  have h1 : (be s.data.toList : Int) = F s.size := by rw [hF, ← str_len, List.take_length]
  rw [h1]
  have HV := hide hF
  have H0 := hide h0.symm
  have HS := hide hs
  clear hF h0 h1 hs
  go_enter Try.func55, Try.ntmps55
  go_wp2
  go_loop [3, 4] (fun v i => ∃ k : Nat, k ≤ s.size ∧ i = .int .i64 (k : Int) ∧ v = .int .u64 (F k)) (fun _ i => s.size - (intOf i).toNat)
  case atStart => exact ⟨0, Nat.zero_le _, rfl, by rw [← H0.out]⟩
  case round =>
    obtain ⟨k, hk, rfl, rfl⟩ := hrel
    by_cases hlt : k < s.size
    · have hd : decide ((k : Int) < (s.size : Int)) = true := decide_eq_true (by omega)
      have hs8 := HS.out
      have hkb : (k : Int) < 8 := by omega
      obtain ⟨c, hc⟩ : ∃ c : Int, ((byteAt s.data.toList k).toNat : Int) = c := ⟨_, rfl⟩
      obtain ⟨M, hM⟩ : ∃ M : Int, F k * 256 = M := ⟨_, rfl⟩
      have e1 : s.data.toList.take (k + 1) = s.data.toList.take k ++ [byteAt s.data.toList k] := by
        rw [List.take_succ_eq_append_getElem (by rw [str_len]; exact hlt)]; unfold byteAt; rw [List.getD_eq_getElem?_getD, List.getElem?_eq_getElem (by rw [str_len]; exact hlt)]; rfl
      have e2 : F (k + 1) = M + c := by rw [HV.out, e1, be_snoc, ← hM, HV.out, ← hc]; omega
      have hb := be_take_lt s (k + 1) (by omega) HS.out
      have hb2 : F (k + 1) < 18446744073709551616 := by rw [HV.out]; omega
      have hF0 : 0 ≤ F k := by rw [HV.out]; omega
      have hc0 : 0 ≤ c := by omega
      have HI : Hid (∀ w : World, (Instr.index 9 (.string s) (.int .i64 (k : Int))).run Try.prog w = .ok (.int .u8 c) w) := fun w => by rw [← hc]; exact index_text s k hlt w
      have KM : Hid (∀ w : World, (binOp .mul 72 (.int .u64 (F k)) (.int .u64 256)).run Try.prog w = .ok (.int .u64 M) w) := fun w => run_mul 72 .u64 (F k) 256 M (by
        obtain ⟨m, rfl⟩ := Int.eq_ofNat_of_zero_le (show 0 ≤ M by omega)
        rw [hM, wrap_un .u64 64 rfl rfl, Nat.mod_eq_of_lt (by omega)]) w
      have KC : Hid (∀ w : World, (convert 5 72 (.int .u8 c)).run Try.prog w = .ok (.int .u64 c) w) := fun w => run_conv 5 72 .u8 .u64 c c (by kernel_rfl) (by kernel_rfl) (by kernel_rfl) (by rw [← hc, wrap_un .u64 64 rfl rfl, Nat.mod_eq_of_lt (by have := (byteAt s.data.toList k).toNat_lt; omega)]) w
      have KA : Hid (∀ w : World, (binOp .add 72 (.int .u64 M) (.int .u64 c)).run Try.prog w = .ok (.int .u64 (F (k + 1))) w) := fun w => by
        have : IntKind.u64.wrap (M + c) = F (k + 1) := by
          obtain ⟨m, hm⟩ := Int.eq_ofNat_of_zero_le (show 0 ≤ M + c by omega)
          rw [e2, hm, wrap_un .u64 64 rfl rfl, Nat.mod_eq_of_lt (by omega)]
        show (Op.intArith .add .u64 M c).run Try.prog w = _
        rw [← this]; rfl
      clear hc hM e1 e2 hb hb2 hF0 hc0 hs8
      go_wp2_with (first | (refine wpList_index_lit rfl _ _ _ rfl (.int .u8 c) ?_ ?_; · exact HI.out _) | (refine wpW_bin .mul _ _ _ _ rfl (.int .u64 (F k)) (.int .u64 256) (.int .u64 M) (by rfl) (by rfl) (by rfl) rfl (KM.out _) ?_) | (refine wpW_conv _ _ _ rfl (.int .u8 c) (.int .u64 c) (by rfl) (by rfl) (KC.out _) ?_) | (refine wpW_bin .add _ _ _ _ rfl (.int .u64 M) (.int .u64 c) (.int .u64 (F (k + 1))) (by rfl) (by rfl) (by rfl) rfl (KA.out _) ?_))
      go_round
      case rel => exact ⟨k + 1, by omega, by go_num, rfl⟩
      case measure => simp [intOf]; omega
    · have e : k = s.size := by omega
      subst e
      have hd : decide ((s.size : Int) < (s.size : Int)) = false := by simp
      go_wp2
      go_ret
      exact ⟨rfl, rfl⟩
end Go.Proofs.Ytfohdolhobooiaa.Cu
