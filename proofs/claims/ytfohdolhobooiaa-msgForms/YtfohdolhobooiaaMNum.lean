/-
  MsgForms' own index and number (printed by gen_m15.py).
-/
import Derived.Test.YtfohdolhobooiaaMHelp
namespace Go.Proofs.Ytfohdolhobooiaa
open Go.RowKit S
set_option linter.unusedVariables false
set_option linter.unusedSimpArgs false
open Cu (nb be hl ofL CW Mw CR Mr RS takeS takeA hOf nil8 num doneS)
def idxOf (n : Int) : Int := bits .and .i64 n 281474976710655
theorem idxOf_eq (n : Int) : idxOf n = n % 281474976710656 := by
  unfold idxOf
  have e : bits .and .i64 n ((281474976710655 : Nat) : Int) = IntKind.i64.wrap ((BitVec.ofInt 64 n &&& BitVec.ofInt 64 ((281474976710655 : Nat) : Int)).toNat : Int) := rfl
  have e2 : (BitVec.ofInt 64 n &&& BitVec.ofInt 64 ((281474976710655 : Nat) : Int)).toNat = (n % 18446744073709551616).toNat % 281474976710656 := by
    rw [BitVec.toNat_and, BitVec.ofInt_natCast, BitVec.toNat_ofInt, BitVec.toNat_ofNat]
    exact Nat.and_two_pow_sub_one_eq_mod _ 48
  have h3 : ((281474976710655 : Nat) : Int) = 281474976710655 := rfl
  rw [← h3, e, e2, IntKind.wrap_i64]
  omega
theorem idxOf_ok (n : Int) : idxB (idxOf n) = true := by rw [idxB_iff, idxOf_eq]; omega
theorem idxOf_out (n : Int) (h : n ≠ idxOf n) : idxB n = false := by
  rw [Bool.eq_false_iff]
  intro hi
  rw [idxB_iff] at hi
  rw [idxOf_eq] at h
  omega
theorem neg_out (n : Int) (h : idxB n = true) : idxB (-1 - n) = false := by
  rw [Bool.eq_false_iff]
  intro hi
  rw [idxB_iff] at hi h
  omega
theorem wrap8_num (n : Int) (k : Nat) (hk : 1 ≤ k ∧ k ≤ 8) : IntKind.u8.wrap (n / (2 : Int) ^ (8 * (k - 1))) = ((Cu.digit (U64n n) 8 (8 - k)).toNat : Int) := by
  rw [← Cu.wrap8_digit (U64n n) 8 (8 - k) (8 * (k - 1)) (by omega), IntKind.wrap_u8, IntKind.wrap_u8]
  have e : (U64n n : Int) = n % 18446744073709551616 := by unfold U64n; rw [IntKind.wrap_u64]; omega
  rw [e]
  rcases (show k = 1 ∨ k = 2 ∨ k = 3 ∨ k = 4 ∨ k = 5 ∨ k = 6 ∨ k = 7 ∨ k = 8 by omega) with rfl | rfl | rfl | rfl | rfl | rfl | rfl | rfl
  all_goals simp only [Nat.reduceSub, Nat.reduceMul, Int.reducePow, Nat.mul_zero, Int.pow_zero]
  all_goals omega
set_option maxRecDepth 100000 in
set_option maxHeartbeats 40000000 in
theorem lindex_any (n : Int) (w : World) : Calls Try.prog 14 #[.int .i64 n] w fun e w' => e = .returned (.int .i64 (idxOf n)) ∧ w = w' := by
  go_enter Try.func14, Try.ntmps14
  go_wp2
  go_ret
  exact ⟨rfl, by first | rfl | trivial⟩
set_option maxRecDepth 100000 in
set_option maxHeartbeats 40000000 in
theorem lnumber_any (n : Int) (w : World) : Calls Try.prog 15 #[.int .i64 n] w fun e w' => e = .returned (.string (ofL (nb (U64n n) 8))) ∧ Below w.heap.size w w' := by
  obtain ⟨x, hx⟩ : ∃ x, U64n n = x := ⟨_, rfl⟩
  rw [hx]
  have HX : Hid (U64n n = x) := hx
  clear hx
  go_enter Try.func15, Try.ntmps15
  go_wp2
  go_loopw [3, 4] (fun b i wr => ∃ k : Nat, k ≤ 8 ∧ i = .int .i64 ((k : Int) - 1) ∧ Cu.Bytes wr w.heap.size b ((List.range (8 - k)).map (Cu.digit x 8)) ∧ Cu.Mv w (.slice none 0 0) wr b) (fun _ i _ => (intOf i + 1).toNat)
  case atStart => exact ⟨8, by omega, rfl, Cu.Bytes.nil _ _, Cu.Mv.refl _ _⟩
  case round =>
    obtain ⟨k, hk, rfl, hB, hM⟩ := hrel
    have hs' : w.heap.size ≤ wr.heap.size := hM.gr.size
    by_cases hlt : 0 < k
    · have h1 : (0 : Int) ≤ (k : Int) - 1 := by omega
      have hd : decide ((k : Int) - 1 ≥ 0) = true := decide_eq_true (by omega)
      have hd' : decide ((0 : Int) ≤ (k : Int) - 1) = true := decide_eq_true (by omega)
      obtain ⟨Z, hZ⟩ : ∃ Z : Int, n / (2 : Int) ^ (8 * (k - 1)) = Z := ⟨_, rfl⟩
      have hc : ∀ w : World, (convert 2 5 (.int .i64 Z)).run Try.prog w = .ok (.int .u8 ((Cu.digit x 8 (8 - k)).toNat : Int)) w := fun w => by
        rw [← HX.out, ← wrap8_num n k (by omega), hZ]
        exact Cu.conv_u8 2 .i64 Z (by kernel_rfl) w
      have KU : Hid (∀ w : World, (convert 3 69 (.int .i64 ((k : Int) - 1))).run Try.prog w = .ok (.int .u64 ((k : Int) - 1)) w) := fun w => by
        have h := run_convert_int (P := Try.prog) (w := w) 3 69 .i64 ((k : Int) - 1) (by kernel_rfl) (by kernel_rfl)
        rw [show Try.prog.intKind 69 = .u64 by kernel_rfl, show IntKind.u64.wrap ((k : Int) - 1) = (k : Int) - 1 by rw [IntKind.wrap_u64]; omega] at h
        exact h
      have KM : Hid (∀ w : World, (binOp .mul 69 (.int .u64 8) (.int .u64 ((k : Int) - 1))).run Try.prog w = .ok (.int .u64 ((8 * (k - 1) : Nat) : Int)) w) := fun w => by
        have e : (binOp .mul 69 (.int .u64 8) (.int .u64 ((k : Int) - 1))).run Try.prog w = .ok (.int .u64 (IntKind.u64.wrap (8 * ((k : Int) - 1)))) w := by rfl
        rw [e, show IntKind.u64.wrap (8 * ((k : Int) - 1)) = ((8 * (k - 1) : Nat) : Int) by rw [IntKind.wrap_u64]; omega]
      have HZ := hide hZ
      have HC := hide hc
      obtain ⟨L, hL⟩ : ∃ L, (List.range (8 - k)).map (Cu.digit x 8) = L := ⟨_, rfl⟩
      have HLL : Hid (L.length + 1 ≤ 140737488355328) := by
        show _ ≤ _
        rw [← hL, List.length_map, List.length_range]; omega
      rw [hL] at hB
      have HE := hide hL
      have HK : Hid (0 < k ∧ k ≤ 8) := ⟨hlt, hk⟩
      clear hZ hc hL
      go_wp2_with (first | (refine Cu.wpList_conv rfl _ _ _ rfl .i64 .u64 ((k : Int) - 1) _ (by rfl) (KU.out _) ?_) | (refine Cu.wpW_bin .mul _ _ _ _ rfl (.int .u64 8) (.int .u64 ((k : Int) - 1)) (.int .u64 ((8 * (k - 1) : Nat) : Int)) (by rfl) (by rfl) (by rfl) rfl (KM.out _) ?_) | (refine Cu.wpList_shr rfl _ _ _ _ rfl .i64 .u64 n _ Z (by rfl) (by rfl) (8 * (k - 1)) rfl (by have := HK.out; show _ ≤ 64; omega) HZ.out ?_) | (refine Cu.wpList_conv rfl _ _ _ rfl .i64 .u8 Z _ (by rfl) (HC.out _) ?_) | (at_builtin; refine Cu.wpList_append_byte rfl _ _ rfl w.heap.size _ L (Cu.digit x 8 (8 - k)) _ rfl (by rfl) hB (by rfl) rfl HLL.out hs' ?_; intro g cap w5 hB5 hM5))
      go_roundw
      case rel =>
        refine ⟨k - 1, by omega, by congr 1; omega, ?_, hM.trans hM5⟩
        · rw [← HE.out, Cu.range_snoc, show 8 - k + 1 = 8 - (k - 1) by omega] at hB5
          rw [HE.out] at hB5
          exact hB5
      case measure => have := HK.out; simp [intOf]; omega
    · have hk0 : k = 0 := by omega
      subst hk0
      have hcv := hB.conv
      have hE : Hid ((⟨((List.range (8 - 0)).map (Cu.digit x 8)).toArray⟩ : ByteArray) = ofL (nb x 8)) := rfl
      rw [hE.out] at hcv
      obtain ⟨S, hS⟩ : ∃ S, ofL (nb x 8) = S := ⟨_, rfl⟩
      rw [hS] at hcv
      have HS := hide hS
      clear hE HX hS
      go_wp2
      go_ret
      exact ⟨by rw [HS.out]; rfl, ⟨hM.gr.os, hM.gr.tape, hM.gr.output, hM.gr.size, fun i hi => hM.gr.block i hi (by simp [Value.ownBlock])⟩⟩
end Go.Proofs.Ytfohdolhobooiaa
