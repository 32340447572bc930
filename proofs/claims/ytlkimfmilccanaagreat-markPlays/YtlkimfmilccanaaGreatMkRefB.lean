import Derived.Test.YtlkimfmilccanaaGreatMkTurns
import Derived.Test.YtlkimfmilccanaaGreatKRef2
/-
  The document's bytes and numbers (escrowref03.Bytes, Number), its Slot.
-/
namespace Go.Proofs.YtlkimfmilccanaaGreat
open Go.RowKit Go.Maps Go.WideMaps
set_option linter.unusedVariables false
set_option linter.unusedSimpArgs false
section
variable {P : Program} {ops : Array Oper} {rest : List Oper} {o : Oper} {a : Act} {w : World} {Q : Exit → Act → World → Prop}
theorem dW_bin (op : BinOp) (t : TypeId) (x y : Operand) (u : TypeId) (ho : o.op = .binOp op t x y u) (X Y r : Value) (hx : a.eval x = X) (hy : a.eval y = Y) (hw : Region.wanted o (yielded ops a.tmps) = true) (hq : eqGuard op t x y X Y = pure ()) (hr : (binOp op t X Y).run P w = .ok r w)
    (h : wpList P ops Q rest (a.put o.dst r) w) : wpList P ops Q (o :: rest) a w := by
  refine wpList_step fun K hK => ?_
  rw [if_pos hw]
  unfold Oper.wp execOp
  simp only [ho, hx, hy, hq, hr, Sem.run_bind, Sem.run_pure, Result.andThen_ok]
  exact hK _ _ h
theorem dW_conv (s d : TypeId) (x : Operand) (ho : o.op = .convert s d x) (X r : Value) (hx : a.eval x = X) (hw : Region.wanted o (yielded ops a.tmps) = true) (hr : (convert s d X).run P w = .ok r w)
    (h : wpList P ops Q rest (a.put o.dst r) w) : wpList P ops Q (o :: rest) a w := by
  refine wpList_step fun K hK => ?_
  rw [if_pos hw]
  unfold Oper.wp execOp
  simp only [ho, hx, hr, Sem.run_bind, Sem.run_pure, Result.andThen_ok]
  exact hK _ _ h
theorem d_shr (t : TypeId) (k yk : IntKind) (X Y Z : Int) (m : Nat) (hY : Y = (m : Int)) (hm : m ≤ k.bits) (hZ : X / (2 : Int) ^ m = Z) (w : World) : (binOp .shr t (.int k X) (.int yk Y)).run P w = .ok (.int k Z) w := by
  rw [binOp_shr, shift_shr_any k yk X Y (by omega), hY, Int.toNat_natCast, Nat.min_eq_left hm, hZ]; rfl
theorem d_mul (t : TypeId) (k : IntKind) (X Y Z : Int) (hZ : k.wrap (X * Y) = Z) (w : World) : (binOp .mul t (.int k X) (.int k Y)).run P w = .ok (.int k Z) w := by
  rw [binOp_mul, ← hZ]; rfl
end
theorem d_conv (s d : TypeId) (k kd : IntKind) (X Z : Int) (hs : (Tryz.prog.underlying s).isSome = true) (hk : Tryz.prog.intKind d = kd) (hd : Tryz.prog.underlying d = some (.int (Tryz.prog.intKind d))) (hZ : kd.wrap X = Z) (w : World) : (convert s d (.int k X)).run Tryz.prog w = .ok (.int kd Z) w := by
  have h := run_convert_int (P := Tryz.prog) (w := w) s d k X hs hd
  rw [hk, hZ] at h
  exact h
theorem d_un (k : IntKind) (b : Nat) (hs : k.signed = false) (hb : k.bits = b) (n : Nat) : k.wrap (n : Int) = ((n % 2 ^ b : Nat) : Int) := by
  simp only [IntKind.wrap, hs, hb]; simp
set_option maxRecDepth 5000 in
set_option maxHeartbeats 4000000 in
theorem dbytes_any (X : Int) (x n : Nat) (hX : X = (x : Int)) (N : Int) (hN : N = (n : Int)) (hn : n ≤ 8) (R : ByteArray) (hR : R.data.toList = Fr.nb x n) (w : World) : Calls Tryz.prog 116 #[.int .u64 X, .int .i64 N] w fun e w' => e = .returned (.string R) ∧ Below w.heap.size w w' := by
  have HX := hide hX
  subst hN
  have HR : Hid ((⟨(Fr.nb x n).toArray⟩ : ByteArray) = R) := by refine k_ext ?_; rw [hR]
  clear hX hR
  go_enter Tryz.func116, Tryz.ntmps116
  go_wp2
  go_loopw [5, 6] (fun b i wr => ∃ k : Nat, k ≤ n ∧ i = .int .i64 ((k : Int) - 1) ∧ Fr.Bytes wr w.heap.size b ((List.range (n - k)).map (Fr.digit x n)) ∧ Below w.heap.size w wr) (fun _ i _ => (intOf i + 1).toNat)
  case atStart => exact ⟨n, Nat.le_refl _, rfl, by rw [Nat.sub_self]; exact Fr.Bytes.nil _ _, Below.refl _ _⟩
  case round =>
    obtain ⟨k, hk, rfl, hB, kb⟩ := hrel
    by_cases hm0 : 0 < k
    · obtain ⟨I, hI⟩ : ∃ I : Int, (k : Int) - 1 = I := ⟨_, rfl⟩
      obtain ⟨J, hJ⟩ : ∃ J : Int, 8 * I = J := ⟨_, rfl⟩
      obtain ⟨Z, hZ⟩ : ∃ Z : Int, X / (2 : Int) ^ (8 * (k - 1)) = Z := ⟨_, rfl⟩
      have K1 : Hid (∀ w : World, (convert 3 87 (.int .i64 I)).run Tryz.prog w = .ok (.int .u64 I) w) := fun w => d_conv 3 87 .i64 .u64 I I (by kernel_rfl) (by kernel_rfl) (by kernel_rfl) (by
        obtain ⟨i, rfl⟩ := Int.eq_ofNat_of_zero_le (show 0 ≤ I by omega)
        rw [d_un .u64 64 rfl rfl, Nat.mod_eq_of_lt (by omega)]) w
      have K2 : Hid (∀ w : World, (binOp .mul 87 (.int .u64 8) (.int .u64 I)).run Tryz.prog w = .ok (.int .u64 J) w) := fun w => d_mul 87 .u64 8 I J (by
        obtain ⟨j, rfl⟩ := Int.eq_ofNat_of_zero_le (show 0 ≤ J by omega)
        rw [hJ, d_un .u64 64 rfl rfl, Nat.mod_eq_of_lt (by omega)]) w
      have K3 : Hid (∀ w : World, (binOp .shr 158 (.int .u64 X) (.int .u64 J)).run Tryz.prog w = .ok (.int .u64 Z) w) := fun w => d_shr 158 .u64 .u64 X J Z (8 * (k - 1)) (by omega) (by show _ ≤ 64; omega) hZ w
      have K4 : Hid (∀ w : World, (convert 158 5 (.int .u64 Z)).run Tryz.prog w = .ok (.int .u8 ((Fr.digit x n (n - k)).toNat : Int)) w) := fun w => by
        rw [← Fr.wrap8_digit x n (n - k) (8 * (k - 1)) (by omega), ← HX.out, hZ]
        exact Fr.conv_u8 158 .u64 Z (by kernel_rfl) w
      have hd : decide (I ≥ 0) = true := decide_eq_true (by omega)
      have hd2 : (0 : Int) ≤ I := by omega
      have hd3 : I ≤ 8 := by omega
      have HI := hide hI
      rw [hI]
      have HLL : Hid (((List.range (n - k)).map (Fr.digit x n)).length + 1 ≤ 140737488355328) := by
        show _ ≤ _
        rw [List.length_map, List.length_range]; omega
      obtain ⟨L, hL⟩ : ∃ L, (List.range (n - k)).map (Fr.digit x n) = L := ⟨_, rfl⟩
      rw [hL] at hB HLL
      have HE := hide hL
      have HSZ := hide kb.size
      clear hI hJ hZ hL
      go_wp2_with (first | (refine dW_conv _ _ _ rfl (.int .i64 I) (.int .u64 I) (by rfl) (by rfl) (K1.out _) ?_) | (refine dW_bin .mul _ _ _ _ rfl (.int .u64 8) (.int .u64 I) (.int .u64 J) (by rfl) (by rfl) (by rfl) rfl (K2.out _) ?_) | (refine dW_bin .shr _ _ _ _ rfl (.int .u64 X) (.int .u64 J) (.int .u64 Z) (by rfl) (by rfl) (by rfl) rfl (K3.out _) ?_) | (refine dW_conv _ _ _ rfl (.int .u64 Z) (.int .u8 ((Fr.digit x n (n - k)).toNat : Int)) (by rfl) (by rfl) (K4.out _) ?_) | (at_builtin; refine Fr.wpList_append_byte rfl _ _ rfl w.heap.size _ L (Fr.digit x n (n - k)) _ rfl (by rfl) hB (by rfl) rfl HLL.out HSZ.out ?_; intro g cap w5 hB5 hM5))
      go_roundw
      case rel =>
        have hI := HI.out
        refine ⟨k - 1, by omega, by rw [show I - 1 = ((k - 1 : Nat) : Int) - 1 by omega], ?_, kb.trans (Fr.grown_below (B := w.heap.size) hM5.gr hB.block kb.size)⟩
        rw [← HE.out, Fr.range_snoc, show n - k + 1 = n - (k - 1) by omega] at hB5
        rw [HE.out] at hB5
        exact hB5
      case measure => have := HI.out; simp [intOf]; omega
    · have hk0 : k = 0 := by omega
      subst hk0
      have hcv := hB.conv
      obtain ⟨ad, n1, c1, rfl⟩ := hB.shape
      have HN : Hid ((⟨((List.range (n - 0)).map (Fr.digit x n)).toArray⟩ : ByteArray) = ⟨(Fr.nb x n).toArray⟩) := rfl
      rw [HN.out, HR.out] at hcv
      clear hB
      go_wp2
      go_ret
      exact ⟨rfl, kb⟩
theorem dbe_lt (s : ByteArray) (i : Nat) (hi : i ≤ s.size) (hs : s.size ≤ 8) : Fr.be (s.data.toList.take i) < 18446744073709551616 := by
  have h := Fr.be_lt (s.data.toList.take i)
  rw [List.length_take, str_len, Nat.min_eq_left hi] at h
  have : 256 ^ i ≤ 256 ^ 8 := Nat.pow_le_pow_right (by decide) (by omega)
  omega
set_option maxRecDepth 5000 in
set_option maxHeartbeats 1000000 in
theorem dnumber_any (s : ByteArray) (w : World) (hs : s.size ≤ 8) : Calls Tryz.prog 115 #[.string s] w fun e w' => e = .returned (.int .u64 (Fr.be s.data.toList : Int)) ∧ w' = w := by
  obtain ⟨F, hF⟩ : ∃ F : Nat → Int, ∀ i, F i = (Fr.be (s.data.toList.take i) : Int) := ⟨_, fun _ => rfl⟩
  have h0 : F 0 = 0 := by rw [hF]; rfl
  have h1 : (Fr.be s.data.toList : Int) = F s.size := by rw [hF, ← str_len, List.take_length]
  rw [h1]
  have HV := hide hF
  have H0 := hide h0.symm
  have HS := hide hs
  clear hF h0 h1 hs
  go_enter Tryz.func115, Tryz.ntmps115
  go_wp2
  go_loopw [3, 4] (fun v i wr => ∃ k : Nat, k ≤ s.size ∧ i = .int .i64 (k : Int) ∧ v = .int .u64 (F k) ∧ wr = w) (fun _ i _ => s.size - (intOf i).toNat)
  case atStart => exact ⟨0, Nat.zero_le _, rfl, by rw [← H0.out], rfl⟩
  case round =>
    obtain ⟨k, hk, rfl, rfl, rfl⟩ := hrel
    by_cases hlt : k < s.size
    · have hd : decide ((k : Int) < (s.size : Int)) = true := decide_eq_true (by omega)
      have hs8 := HS.out
      have hkb : (k : Int) < 8 := by omega
      obtain ⟨c, hc⟩ : ∃ c : Int, ((Fr.byteAt s.data.toList k).toNat : Int) = c := ⟨_, rfl⟩
      obtain ⟨M, hM⟩ : ∃ M : Int, F k * 256 = M := ⟨_, rfl⟩
      have e1 : s.data.toList.take (k + 1) = s.data.toList.take k ++ [Fr.byteAt s.data.toList k] := by
        rw [List.take_succ_eq_append_getElem (by rw [str_len]; exact hlt)]; unfold Fr.byteAt; rw [List.getD_eq_getElem?_getD, List.getElem?_eq_getElem (by rw [str_len]; exact hlt)]; rfl
      have e2 : F (k + 1) = M + c := by rw [HV.out, e1, Fr.be_snoc, ← hM, HV.out, ← hc]; omega
      have hb := dbe_lt s (k + 1) (by omega) HS.out
      have hb2 : F (k + 1) < 18446744073709551616 := by rw [HV.out]; omega
      have hF0 : 0 ≤ F k := by rw [HV.out]; omega
      have hc0 : 0 ≤ c := by omega
      have HI : Hid (∀ w : World, (Instr.index 9 (.string s) (.int .i64 (k : Int))).run Tryz.prog w = .ok (.int .u8 c) w) := fun w => by rw [← hc]; exact Fr.index_text s k hlt w
      have KM : Hid (∀ w : World, (binOp .mul 158 (.int .u64 (F k)) (.int .u64 256)).run Tryz.prog w = .ok (.int .u64 M) w) := fun w => d_mul 158 .u64 (F k) 256 M (by
        obtain ⟨m, rfl⟩ := Int.eq_ofNat_of_zero_le (show 0 ≤ M by omega)
        rw [hM, d_un .u64 64 rfl rfl, Nat.mod_eq_of_lt (by omega)]) w
      have KC : Hid (∀ w : World, (convert 5 158 (.int .u8 c)).run Tryz.prog w = .ok (.int .u64 c) w) := fun w => d_conv 5 158 .u8 .u64 c c (by kernel_rfl) (by kernel_rfl) (by kernel_rfl) (by rw [← hc, d_un .u64 64 rfl rfl, Nat.mod_eq_of_lt (by have := (Fr.byteAt s.data.toList k).toNat_lt; omega)]) w
      have KA : Hid (∀ w : World, (binOp .add 158 (.int .u64 M) (.int .u64 c)).run Tryz.prog w = .ok (.int .u64 (F (k + 1))) w) := fun w => by
        have : IntKind.u64.wrap (M + c) = F (k + 1) := by
          obtain ⟨m, hm⟩ := Int.eq_ofNat_of_zero_le (show 0 ≤ M + c by omega)
          rw [e2, hm, d_un .u64 64 rfl rfl, Nat.mod_eq_of_lt (by omega)]
        show (Op.intArith .add .u64 M c).run Tryz.prog w = _
        rw [← this]; rfl
      clear hc hM e1 e2 hb hb2 hF0 hc0 hs8
      go_wp2_with (first | (refine Fr.wpList_index_lit rfl _ _ _ rfl (.int .u8 c) ?_ ?_; · exact HI.out _) | (refine dW_bin .mul _ _ _ _ rfl (.int .u64 (F k)) (.int .u64 256) (.int .u64 M) (by rfl) (by rfl) (by rfl) rfl (KM.out _) ?_) | (refine dW_conv _ _ _ rfl (.int .u8 c) (.int .u64 c) (by rfl) (by rfl) (KC.out _) ?_) | (refine dW_bin .add _ _ _ _ rfl (.int .u64 M) (.int .u64 c) (.int .u64 (F (k + 1))) (by rfl) (by rfl) (by rfl) rfl (KA.out _) ?_))
      go_roundw
      case rel => exact ⟨k + 1, by omega, by go_num, rfl, trivial⟩
      case measure => simp [intOf]; omega
    · have e : k = s.size := by omega
      subst e
      have hd : decide ((s.size : Int) < (s.size : Int)) = false := by simp
      go_wp2
      go_ret
      exact ⟨rfl, rfl⟩
def strLen : Value → Nat
  | .string s => s.size
  | _ => 0
set_option maxRecDepth 5000 in
set_option maxHeartbeats 4000000 in
theorem dslot_any (X : Int) (w : World) : Calls Tryz.prog 89 #[.int .i64 X] w fun e w' => e = .returned (.string (slotS X)) ∧ Below w.heap.size w w' := by
  obtain ⟨n⟩ := k_num
  obtain ⟨x, hx⟩ : ∃ x, bits64 X = x := ⟨_, rfl⟩
  obtain ⟨U, hU⟩ : ∃ U : Int, ((x : Nat) : Int) = U := ⟨_, rfl⟩
  have HCU : Hid (∀ w : World, (convert 2 158 (.int .i64 X)).run Tryz.prog w = .ok (.int .u64 U) w) := fun w => d_conv 2 158 .i64 .u64 X U (by kernel_rfl) (by kernel_rfl) (by kernel_rfl) (by rw [← hU, ← hx]; exact wrap_bits X) w
  obtain ⟨S8, h8⟩ : ∃ S : ByteArray, (⟨(Fr.nb x 8).toArray⟩ : ByteArray) = S := ⟨_, rfl⟩
  have l8 : S8.data.toList = Fr.nb x 8 := by rw [← h8]
  have z8 : S8.size = 8 := by rw [← str_len, l8, Fr.nb_length]
  obtain ⟨cs, hcs⟩ : ∃ c, crcN (Fr.nb x 8) = c := ⟨_, rfl⟩
  obtain ⟨Z, hZ⟩ : ∃ Z, n.u (Fr.C.on 0#32 S8.data.toList) = Z := ⟨_, rfl⟩
  have hZc : Z = (cs : Int) := by rw [← hZ, n.eq, l8, ← hcs]; rfl
  have hcl : cs < 4294967296 := by rw [← hcs]; unfold crcN; exact (Fr.C.on 0#32 (Fr.nb x 8)).isLt
  obtain ⟨S4, h4⟩ : ∃ S : ByteArray, (⟨(Fr.nb cs 4).toArray⟩ : ByteArray) = S := ⟨_, rfl⟩
  have l4 : S4.data.toList = Fr.nb cs 4 := by rw [← h4]
  have z4 : S4.size = 4 := by rw [← str_len, l4, Fr.nb_length]
  have K1 : Hid (∀ w : World, Calls Tryz.prog 116 #[.int .u64 U, .int .i64 8] w fun e w' => e = .returned (.string S8) ∧ Below w.heap.size w w') := fun w => dbytes_any U x 8 hU.symm 8 rfl (by decide) S8 l8 w
  have K2 : Hid (∀ w : World, Calls Tryz.prog 117 #[.string S8] w fun e w' => e = .returned (.int .u32 Z) ∧ w' = w) := fun w => by rw [← hZ]; exact Fr.refSum_any n S8 w (by unfold maxLen; omega)
  have HCZ : Hid (∀ w : World, (convert 88 158 (.int .u32 Z)).run Tryz.prog w = .ok (.int .u64 Z) w) := fun w => d_conv 88 158 .u32 .u64 Z Z (by kernel_rfl) (by kernel_rfl) (by kernel_rfl) (by rw [hZc, d_un .u64 64 rfl rfl, Nat.mod_eq_of_lt (by omega)]) w
  have K3 : Hid (∀ w : World, Calls Tryz.prog 116 #[.int .u64 Z, .int .i64 4] w fun e w' => e = .returned (.string S4) ∧ Below w.heap.size w w') := fun w => dbytes_any Z cs 4 hZc 4 rfl (by decide) S4 l4 w
  obtain ⟨F, hF⟩ : ∃ F : Nat → ByteArray, ∀ k, F k = ⟨(slotH X ++ List.replicate k 0).toArray⟩ := ⟨_, fun _ => rfl⟩
  have zF : ∀ k, (F k).size = 12 + k := fun k => by rw [hF, ← str_len, List.length_append, List.length_replicate]; unfold slotH; rw [List.length_append, Fr.nb_length, Fr.nb_length]
  have hF0 : S8 ++ S4 = F 0 := by
    refine k_ext ?_
    rw [k_app, l8, l4, hF, ← hcs, ← hx]
    show _ = slotH X ++ List.replicate 0 0
    rw [List.replicate_zero, List.append_nil]; rfl
  have hF52 : slotS X = F 52 := by rw [hF]; rfl
  have A0 : Hid (∀ w : World, (Op.stringOp .add S8 S4).run Tryz.prog w = .ok (.string (F 0)) w) := fun w => k_add w S8 S4 (F 0) hF0 (by omega)
  have AK : Hid (∀ (k : Nat) (w : World), k < 52 → (Op.stringOp .add (F k) ⟨#[0]⟩).run Tryz.prog w = .ok (.string (F (k + 1))) w) := fun k w hk => k_add w (F k) ⟨#[0]⟩ (F (k + 1)) (by
    refine k_ext ?_
    rw [k_app, hF, hF]
    show (slotH X ++ List.replicate k 0) ++ [0] = slotH X ++ List.replicate (k + 1) 0
    rw [List.append_assoc, ← List.replicate_succ']) (by rw [zF]; show 12 + k + 1 ≤ _; omega)
  rw [hF52]
  have HZ := hide zF
  clear hF hF52 hF0 zF hx hU h8 l8 z8 hcs hZ hZc hcl h4 l4 z4
  obtain ⟨F0, hf0⟩ : ∃ f, F 0 = f := ⟨_, rfl⟩
  have HF0 := hide hf0
  rw [hf0] at A0
  have A0' := A0.out
  clear hf0 A0
  go_enter Tryz.func89, Tryz.ntmps89
  go_wp2_with (first | (refine dW_conv _ _ _ rfl (.int .i64 X) (.int .u64 U) (by rfl) (by rfl) (HCU.out _) ?_) | fail)
  refine (K1.out _).mono ?_
  rintro e w1 ⟨rfl, hb1⟩
  go_wp2_with fail
  refine (K2.out _).mono ?_
  rintro e w2 ⟨rfl, hw⟩
  obtain rfl := hw.symm
  clear hw
  go_wp2_with (first | (refine dW_conv _ _ _ rfl (.int .u32 Z) (.int .u64 Z) (by rfl) (by rfl) (HCZ.out _) ?_) | fail)
  refine (K3.out _).mono ?_
  rintro e w3 ⟨rfl, hb3⟩
  have HB3 := hide (hb1.trans (hb3.mono hb1.size))
  clear hb1 hb3 K1 K2 K3 HCU HCZ
  go_wp2
  clear A0'
  go_loopw [3] (fun b wr => ∃ k : Nat, k ≤ 52 ∧ b = .string (F k) ∧ wr = w3) (fun b _ => 64 - strLen b)
  case atStart => exact ⟨0, by omega, by rw [HF0.out], rfl⟩
  case round =>
    obtain ⟨k, hk, rfl, rfl⟩ := hrel
    clear HF0
    obtain ⟨Fk, hfk⟩ : ∃ f, F k = f := ⟨_, rfl⟩
    obtain ⟨Fn, hfn⟩ : ∃ f, F (k + 1) = f := ⟨_, rfl⟩
    have zk : Fk.size = 12 + k := by rw [← hfk]; exact HZ.out k
    have zn : Fn.size = 12 + (k + 1) := by rw [← hfn]; exact HZ.out (k + 1)
    have HZK := hide zk
    have HZN := hide zn
    have HFK := hide hfk
    have HFN := hide hfn
    by_cases hlt : k < 52
    · have hd : decide ((Fk.size : Int) < 64) = true := decide_eq_true (by omega)
      have ha : ∀ w : World, (Op.stringOp .add Fk ⟨#[0]⟩).run Tryz.prog w = .ok (.string Fn) w := fun w => by rw [← hfk, ← hfn]; exact AK.out k w hlt
      rw [hfk]
      clear zk zn hfk hfn
      go_wp2
      go_roundw
      case rel => exact ⟨k + 1, by omega, by rw [HFN.out], trivial⟩
      case measure =>
        have h1 := HZK.out
        have h2 := HZN.out
        simp only [strLen]
        omega
    · have e : k = 52 := by omega
      have hd : decide ((Fk.size : Int) < 64) = false := decide_eq_false (by omega)
      rw [hfk]
      subst e
      clear zk zn hfk hfn
      go_wp2
      go_ret
      exact ⟨by rw [HFK.out]; rfl, HB3.out⟩
end Go.Proofs.YtlkimfmilccanaaGreat
/-
  A disk stays sound; the document's Whole (printed by gen_ref.py).
-/
namespace Go.Proofs.YtlkimfmilccanaaGreat
open Go.RowKit Go.Maps Go.WideMaps
set_option linter.unusedVariables false
set_option linter.unusedSimpArgs false
theorem okw_fset {A : AD} {d : Key} {F F' : AF} {P : AP} (h : A.Ok) (hq : fget A.fs d = some F) (hF : F'.Ok) (hsp : (fused A.fs : Int) - F.seen.length + F'.seen.length ≤ A.cap) (hp : P.Ok) : AD.Ok ⟨A.cap, fset A.fs d F', P⟩ := by
  have hu := fused_fset (F' := F') (apart_of h.sorted) hq
  refine ⟨h.c0, h.c1, fset_sorted h.sorted, fun q hq' => ?_, by show (fset A.fs d F').length ≤ 16; rw [fset_length]; exact h.few, fun q hq' => ?_, by show (fused (fset A.fs d F') : Int) ≤ A.cap; omega, hp⟩
  · rcases fset_mem hq' with rfl | hq'
    · have := h.names (d, F) (fget_mem hq)
      exact this
    · exact h.names q hq'
  · rcases fset_mem hq' with rfl | hq'
    · exact hF
    · exact h.files q hq'
theorem okw_write {A : AD} {d t : Key} {a : Int} (h : A.Ok) : (A.write d a t).2.Ok := by
  unfold AD.write
  split
  · exact h
  by_cases hf : A.fits d a t.length ≠ 0
  · rw [if_pos hf]; exact h
  rw [if_neg hf]
  split
  · exact ok_pow h (h.pow.count 1)
  have hz := fits_zero (A := A) (k := d) (a := a) (n := (t.length : Int)) (by omega)
  obtain ⟨hn, ha0, ha1, hm, hl, hc⟩ := hz
  cases hq : fget A.fs d with
  | some F =>
    have hfl : A.flen d = F.seen.length := by unfold AD.flen; rw [hq]
    rw [hfl] at ha1 hm hc
    have hle : a.toNat ≤ F.seen.length := by
      have : a ≤ (F.seen.length : Int) := ha1
      omega
    have hm2 : a.toNat + t.length ≤ 1048576 := by omega
    have hws := AF.write_seen (F := F) (a := a.toNat) (t := t) hle
    have hF : F.Ok := h.files _ (fget_mem hq)
    refine okw_fset h hq (AF.Ok.write hF hle hm2) ?_ (h.pow.count 1)
    rw [hws]
    have : (fused A.fs : Int) - (F.seen.length : Int) + max (F.seen.length : Int) (a + t.length) ≤ A.cap := hc
    omega
  | none =>
    have hfl : A.flen d = 0 := by unfold AD.flen; rw [hq]
    rw [hfl] at ha1 hm hc
    have hl' := hl hq
    have hdk := fdel_of_none hq
    have ha : a.toNat = 0 := by omega
    have hws := AF.write_seen (F := AF.new) (a := a.toNat) (t := t) (by omega)
    have hmem : ∀ q ∈ fput A.fs d (AF.new.write a.toNat t), q = (d, AF.new.write a.toNat t) ∨ q ∈ A.fs := fun q hq => by
      unfold fput at hq
      rw [hdk] at hq
      exact mem_fins.1 hq
    have hok : (AF.new.write a.toNat t).Ok := AF.Ok.new.write (by omega) (by omega)
    refine ⟨h.c0, h.c1, fput_sorted h.sorted, fun q hq => ?_, ?_, fun q hq => ?_, ?_, h.pow.count 1⟩
    · rcases hmem q hq with rfl | hq
      · exact hn
      · exact h.names q hq
    · have := fput_length (fs := A.fs) (k := d) (F := AF.new.write a.toNat t)
      show (fput A.fs d (AF.new.write a.toNat t)).length ≤ 16
      omega
    · rcases hmem q hq with rfl | hq
      · exact hok
      · exact h.files q hq
    · show (fused (fput A.fs d (AF.new.write a.toNat t)) : Int) ≤ A.cap
      unfold fput
      rw [fused_fins, hdk]
      have : (AF.new : AF).seen.length = 0 := rfl
      simp only [hws]
      omega
set_option maxRecDepth 5000 in
set_option maxHeartbeats 4000000 in
theorem dwhole_any (f : ByteArray) (hf : f.size ≤ maxLen) (k : Nat) (hk : k ≤ 1) (w : World) : Calls Tryz.prog 87 #[.string f, .int .i64 (k : Int)] w fun e w' => e = .returned (.tuple #[.int .i64 (wvI f k), .bool (wvB f k)]) ∧ Below w.heap.size w w' := by
  unfold maxLen at hf
  obtain ⟨O, hO⟩ : ∃ O : Int, 64 * (k : Int) = O := ⟨_, rfl⟩
  obtain ⟨O2, hO2⟩ : ∃ O2 : Int, O + 12 = O2 := ⟨_, rfl⟩
  have hw1 : wrap64 (64 * (k : Int)) = O := by unfold wrap64; omega
  have hw2 : wrap64 (O + 12) = O2 := by unfold wrap64; omega
  by_cases hlen : f.size < 64 * k + 12
  · have hd : decide ((f.size : Int) < O2) = true := decide_eq_true (by omega)
    have HE : Hid (wvI f k = 0 ∧ wvB f k = false) := by
      refine ⟨?_, ?_⟩
      · unfold wvI; rw [if_neg (by omega)]
      · unfold wvB; rw [decide_eq_false (by omega)]; rfl
    clear hf hk hlen hO hO2
    go_enter Tryz.func87, Tryz.ntmps87
    go_wp2
    go_ret2
    exact ⟨by rw [HE.out.1, HE.out.2]; rfl, Below.refl _ _⟩
  have hd : decide ((f.size : Int) < O2) = false := decide_eq_false (by omega)
  obtain ⟨T, hT⟩ : ∃ T, f.extract (64 * k) (64 * k + 12) = T := ⟨_, rfl⟩
  have lT : T.data.toList = (f.data.toList.drop (64 * k)).take 12 := by
    rw [← hT, k_extract f _ _ (by omega)]; congr 1; omega
  have zT : T.size = 12 := by rw [← str_len, lT, List.length_take, List.length_drop, str_len]; omega
  have hs1 : ∀ w : World, (Instr.slice 9 (.string f) (some (.int .i64 O)) (some (.int .i64 O2)) none).run Tryz.prog w = .ok (.string T) w := fun w => by
    have := run_slice_str_mid w f (64 * k) (64 * k + 12) (by omega) (by omega)
    rw [hT, show (((64 * k : Nat)) : Int) = O by omega, show (((64 * k + 12 : Nat)) : Int) = O2 by omega] at this
    exact this
  have hv8 : Fr.be (T.data.toList.take 8) = Fr.be ((f.data.toList.drop (64 * k)).take 8) := by rw [lT, List.take_take]; rfl
  obtain ⟨V, hV⟩ : ∃ V, valL (f.data.toList.drop (64 * k)) = V := ⟨_, rfl⟩
  have hacc8 : accI T.data.toList 8 = V := by
    rw [← hV]
    unfold accI valL sgn64
    rw [hv8]
  have hVr : -9223372036854775808 ≤ V ∧ V < 9223372036854775808 := by rw [← hV]; exact sgn_wf _
  obtain ⟨S, hS⟩ : ∃ S : ByteArray, (⟨(slotL V).toArray⟩ : ByteArray) = S := ⟨_, rfl⟩
  have zS : S.size = 64 := by rw [← hS, ← str_len]; exact slotL_length V
  obtain ⟨H, hH⟩ : ∃ H, S.extract 0 12 = H := ⟨_, rfl⟩
  have lH : H.data.toList = slotH V := by
    rw [← hH, k_extract S 0 12 (by omega), ← hS]
    simp only [List.drop_zero]
    exact slotL_take V
  have hsl : ∀ w : World, (Instr.slice 9 (.string S) none (some (.int .i64 12)) none).run Tryz.prog w = .ok (.string H) w := fun w => by rw [← hH]; exact run_slice_str_to w S 12 (by omega)
  obtain ⟨bq, hbq⟩ : ∃ b, decide (H = T) = b := ⟨_, rfl⟩
  have heq : (H.toList == T.toList) = bq := by rw [k_beq]; exact hbq
  have hq : bq = true ↔ (f.data.toList.drop (64 * k)).take 12 = slotH V := by
    rw [← hbq, decide_eq_true_iff, ← lH, ← lT]
    exact ⟨fun e => by rw [e], fun e => k_ext e.symm⟩
  have hI : wvI f k = V := by unfold wvI; rw [if_pos (by omega), hV]
  have hB : wvB f k = (numB V && bq) := by
    unfold wvB wholeL
    rw [hV, decide_eq_true (by omega)]
    by_cases hc : numB V = true ∧ (f.data.toList.drop (64 * k)).take 12 = slotH V
    · rw [if_pos hc, hc.1, hq.2 hc.2]; rfl
    · rw [if_neg hc]
      cases hn : numB V with
      | false => rfl
      | true =>
        cases hb : bq with
        | false => rfl
        | true => exact absurd ⟨hn, hq.1 hb⟩ hc
  rw [hI, hB]
  have HSL : Hid (∀ w, Calls Tryz.prog 89 #[.int .i64 V] w fun e w' => e = .returned (.string S) ∧ Below w.heap.size w w') := fun w => by rw [← hS]; exact dslot_any V w
  obtain ⟨T8, h8⟩ : ∃ X, T.extract 0 8 = X := ⟨_, rfl⟩
  have l8 : T8.data.toList = T.data.toList.take 8 := by rw [← h8, k_extract T 0 8 (by omega)]; simp only [List.drop_zero]
  have z8 : T8.size = 8 := by rw [← str_len, l8, List.length_take, str_len, zT]; rfl
  have hs8 : ∀ w : World, (Instr.slice 9 (.string T) none (some (.int .i64 8)) none).run Tryz.prog w = .ok (.string T8) w := fun w => by rw [← h8]; exact run_slice_str_to w T 8 (by omega)
  obtain ⟨N8, hN8⟩ : ∃ N : Int, (Fr.be T8.data.toList : Int) = N := ⟨_, rfl⟩
  have HNU : Hid (∀ w : World, Calls Tryz.prog 115 #[.string T8] w fun e w' => e = .returned (.int .u64 N8) ∧ w' = w) := fun w => by rw [← hN8]; exact dnumber_any T8 w (by omega)
  have HCV : Hid (∀ w : World, (convert 158 2 (.int .u64 N8)).run Tryz.prog w = .ok (.int .i64 V) w) := fun w => d_conv 158 2 .u64 .i64 N8 V (by kernel_rfl) (by kernel_rfl) (by kernel_rfl) (by rw [← hN8, l8, ← hacc8]; rfl) w
  obtain ⟨bn, hbn⟩ : ∃ b, numB V = b := ⟨_, rfl⟩
  rw [hbn]
  have HBN := hide hbn
  clear hf hk hlen hO hO2 hT lT zT hv8 hV hacc8 hVr hS zS hH lH hbq hq hI hB hbn h8 l8 z8 hN8
  go_enter Tryz.func87, Tryz.ntmps87
  go_wp2_with fail
  refine (HNU.out _).mono ?_
  rintro e w1 ⟨rfl, hw⟩
  obtain rfl := hw.symm
  clear hw
  go_wp2_with (first | (refine dW_conv _ _ _ rfl (.int .u64 N8) (.int .i64 V) (by rfl) (by rfl) (HCV.out _) ?_))
  unfold numB at HBN
  by_cases g1 : -1 ≤ V
  · have e1 : decide (V ≥ -1) = true := decide_eq_true g1
    have e1' : decide (-1 ≤ V) = true := decide_eq_true g1
    by_cases g2 : V ≤ 281474976710655
    · have e2 : decide (V ≤ 281474976710655) = true := decide_eq_true g2
      have HE : Hid ((bn && bq) = bq) := by show _ = _; rw [← HBN.out, e1', e2]; rfl
      clear g1 g2 HBN
      skip
      try go_wp2
      refine wp_region_noPanic ?_
      refine wp_region_held_drew (S := fun wx => True) (by kernel_rfl) trivial (fun hHeld => ?_)
      refine tK 0 (some 25) (.int .i64 V) rfl hHeld ?_
      simp only [Act.put, pA, pB, pC]
      refine tK 1 (some 26) (.int .i64 V) rfl hHeld ?_
      simp only [Act.put, pA, pB, pC]
      refine tK 2 (some 27) (.bool true) rfl hHeld ?_
      simp only [Act.put, pA, pB, pC]
      refine tK 3 (some 28) (.bool true) rfl hHeld ?_
      simp only [Act.put, pA, pB, pC]
      refine tK 4 (some 29) (.int .i64 V) rfl hHeld ?_
      simp only [Act.put, pA, pB, pC]
      refine tK 5 (some 30) (.bool true) rfl hHeld ?_
      simp only [Act.put, pA, pB, pC]
      refine tK 6 (some 31) (.bool true) rfl hHeld ?_
      simp only [Act.put, pA, pB, pC]
      refine tK 7 (some 32) (.bool true) rfl hHeld ?_
      simp only [Act.put, pA, pB, pC]
      refine tK 8 (some 33) (.int .i64 V) rfl hHeld ?_
      simp only [Act.put, pA, pB, pC]
      refine tK 11 (some 36) (.string T) rfl hHeld ?_
      simp only [Act.put, pA, pB, pC]
      refine rdH 9 rfl (fun K hK => ?_)
      go_simp
      refine (HSL.out _).mono ?_
      rintro e w2 ⟨rfl, hb2⟩
      try go_wp2_with fail
      refine hK.out _ _ trivial (fun hH => ?_)
      clear hK K hHeld
      have hHeld := hH
      clear hH
      refine tH 10 (some 35) (.string H) rfl (fun w hw => by have := hsl w; first | rfl | (go_simp; done) | (go_simp; rfl)) hHeld ?_
      simp only [Act.put, pA, pB, pC]
      refine tK 12 (some 37) (.bool bq) rfl hHeld ?_
      simp only [Act.put, pA, pB, pC]
      refine tK 13 (some 38) (.bool bq) rfl hHeld ?_
      simp only [Act.put, pA, pB, pC]
      refine tK 14 (some 4) (.int .i64 V) rfl hHeld ?_
      simp only [Act.put, pA, pB, pC]
      refine tK 15 (some 5) (.bool bq) rfl hHeld ?_
      simp only [Act.put, pA, pB, pC]
      refine ⟨by kernel_rfl, ?_⟩
      refine NoPanic.normal ?_
      go_wp2
      go_ret2
      exact ⟨by rw [HE.out]; rfl, ⟨hb2.os, hb2.tape, hb2.output, hb2.size, hb2.block⟩⟩
    · have e2 : decide (V ≤ 281474976710655) = false := decide_eq_false g2
      have HE : Hid ((bn && bq) = false) := by show _ = _; rw [← HBN.out, e2]; simp
      clear g1 g2 HBN HSL
      skip
      try go_wp2
      refine wp_region_noPanic ?_
      refine wp_region_held_drew (S := fun wx => True) (by kernel_rfl) trivial (fun hHeld => ?_)
      refine tK 0 (some 25) (.int .i64 V) rfl hHeld ?_
      simp only [Act.put, pA, pB, pC]
      refine tK 1 (some 26) (.int .i64 V) rfl hHeld ?_
      simp only [Act.put, pA, pB, pC]
      refine tK 2 (some 27) (.bool true) rfl hHeld ?_
      simp only [Act.put, pA, pB, pC]
      refine tK 3 (some 28) (.bool true) rfl hHeld ?_
      simp only [Act.put, pA, pB, pC]
      refine tK 4 (some 29) (.int .i64 V) rfl hHeld ?_
      simp only [Act.put, pA, pB, pC]
      refine tK 5 (some 30) (.bool false) rfl hHeld ?_
      simp only [Act.put, pA, pB, pC]
      refine tK 6 (some 31) (.bool false) rfl hHeld ?_
      simp only [Act.put, pA, pB, pC]
      refine tK 7 (some 32) (.bool false) rfl hHeld ?_
      simp only [Act.put, pA, pB, pC]
      refine skH 8 (some 33) rfl hHeld ?_
      simp only [Act.put, pA, pB, pC]
      refine skH 9 (some 34) rfl hHeld ?_
      simp only [Act.put, pA, pB, pC]
      refine skH 10 (some 35) rfl hHeld ?_
      simp only [Act.put, pA, pB, pC]
      refine skH 11 (some 36) rfl hHeld ?_
      simp only [Act.put, pA, pB, pC]
      refine skH 12 (some 37) rfl hHeld ?_
      simp only [Act.put, pA, pB, pC]
      refine tK 13 (some 38) (.bool false) rfl hHeld ?_
      simp only [Act.put, pA, pB, pC]
      refine tK 14 (some 4) (.int .i64 V) rfl hHeld ?_
      simp only [Act.put, pA, pB, pC]
      refine tK 15 (some 5) (.bool false) rfl hHeld ?_
      simp only [Act.put, pA, pB, pC]
      refine ⟨by kernel_rfl, ?_⟩
      refine NoPanic.normal ?_
      go_wp2
      go_ret2
      exact ⟨by rw [HE.out]; rfl, (Below.refl _ _).drew⟩
  · have e1 : decide (V ≥ -1) = false := decide_eq_false g1
    have e1' : decide (-1 ≤ V) = false := decide_eq_false g1
    have HE : Hid ((bn && bq) = false) := by show _ = _; rw [← HBN.out, e1']; simp
    clear g1 HBN HSL
    skip
    try go_wp2
    refine wp_region_noPanic ?_
    refine wp_region_held_drew (S := fun wx => True) (by kernel_rfl) trivial (fun hHeld => ?_)
    refine tK 0 (some 25) (.int .i64 V) rfl hHeld ?_
    simp only [Act.put, pA, pB, pC]
    refine tK 1 (some 26) (.int .i64 V) rfl hHeld ?_
    simp only [Act.put, pA, pB, pC]
    refine tK 2 (some 27) (.bool false) rfl hHeld ?_
    simp only [Act.put, pA, pB, pC]
    refine tK 3 (some 28) (.bool false) rfl hHeld ?_
    simp only [Act.put, pA, pB, pC]
    refine skH 4 (some 29) rfl hHeld ?_
    simp only [Act.put, pA, pB, pC]
    refine skH 5 (some 30) rfl hHeld ?_
    simp only [Act.put, pA, pB, pC]
    refine tK 6 (some 31) (.bool false) rfl hHeld ?_
    simp only [Act.put, pA, pB, pC]
    refine tK 7 (some 32) (.bool false) rfl hHeld ?_
    simp only [Act.put, pA, pB, pC]
    refine skH 8 (some 33) rfl hHeld ?_
    simp only [Act.put, pA, pB, pC]
    refine skH 9 (some 34) rfl hHeld ?_
    simp only [Act.put, pA, pB, pC]
    refine skH 10 (some 35) rfl hHeld ?_
    simp only [Act.put, pA, pB, pC]
    refine skH 11 (some 36) rfl hHeld ?_
    simp only [Act.put, pA, pB, pC]
    refine skH 12 (some 37) rfl hHeld ?_
    simp only [Act.put, pA, pB, pC]
    refine tK 13 (some 38) (.bool false) rfl hHeld ?_
    simp only [Act.put, pA, pB, pC]
    refine tK 14 (some 4) (.int .i64 V) rfl hHeld ?_
    simp only [Act.put, pA, pB, pC]
    refine tK 15 (some 5) (.bool false) rfl hHeld ?_
    simp only [Act.put, pA, pB, pC]
    refine ⟨by kernel_rfl, ?_⟩
    refine NoPanic.normal ?_
    go_wp2
    go_ret2
    exact ⟨by rw [HE.out]; rfl, (Below.refl _ _).drew⟩
end Go.Proofs.YtlkimfmilccanaaGreat
