import Derived.Test.YtjfbdnogkbhciaaGreatDoorCurReader
/-
  read and get of each kind; U8, U16, U32, U64, I64 of the reader.
-/
namespace Go.Proofs.YtjfbdnogkbhciaaGreatDoor.Fr
open Go.RowKit
def vAt (l : List UInt8) (i : Nat) : Nat := be (l.take i) * 256 ^ (l.length - i)
def zAt (l : List UInt8) (i : Nat) : Nat := (byteAt l i).toNat * 256 ^ (l.length - 1 - i)
theorem vAt_zero (l : List UInt8) : vAt l 0 = 0 := by simp [vAt, be]
theorem vAt_all (l : List UInt8) : vAt l l.length = be l := by simp [vAt]
theorem vAt_succ (l : List UInt8) (i : Nat) (hi : i < l.length) : vAt l (i + 1) = vAt l i + zAt l i := by
  unfold vAt zAt
  have e : l.take (i + 1) = l.take i ++ [byteAt l i] := by
    rw [List.take_succ_eq_append_getElem hi]; unfold byteAt; rw [List.getD_eq_getElem?_getD, List.getElem?_eq_getElem hi]; rfl
  rw [e, be_snoc, show l.length - (i + 1) = l.length - 1 - i by omega, show l.length - i = (l.length - 1 - i) + 1 by omega, Nat.pow_succ, Nat.add_mul, Nat.mul_assoc, Nat.mul_comm 256]
theorem vAt_lt (l : List UInt8) (i : Nat) (hi : i ≤ l.length) : vAt l i < 256 ^ l.length := by
  unfold vAt
  have h := be_lt (l.take i)
  rw [List.length_take, Nat.min_eq_left hi] at h
  have h2 : be (l.take i) * 256 ^ (l.length - i) < 256 ^ i * 256 ^ (l.length - i) := Nat.mul_lt_mul_of_pos_right h (Nat.pow_pos (by decide))
  rwa [← Nat.pow_add, show i + (l.length - i) = l.length by omega] at h2
theorem zAt_lt (l : List UInt8) (i : Nat) (hi : i < l.length) : zAt l i < 256 ^ (l.length - i) := by
  unfold zAt
  have h := (byteAt l i).toNat_lt
  rw [show l.length - i = (l.length - 1 - i) + 1 by omega, Nat.pow_succ, Nat.mul_comm (256 ^ _) 256]
  exact Nat.mul_lt_mul_of_pos_right h (Nat.pow_pos (by decide))
theorem cast_pow (m : Nat) : ((256 ^ m : Nat) : Int) = (2 : Int) ^ (8 * m) := by rw [← pow8]; simp
theorem read_step (k : IntKind) (N : Nat) (hN : 8 * N ≤ k.bits) (hk : ∀ n : Int, 0 ≤ n → n < (2 : Int) ^ (8 * N) → k.wrap n = n) (l : List UInt8) (hl : l.length ≤ N) (i : Nat) (hi : i < l.length) :
    k.wrap (((byteAt l i).toNat : Int) * (2 : Int) ^ (8 * (l.length - 1 - i))) = (zAt l i : Int) ∧ bits .or k (vAt l i : Int) (zAt l i : Int) = (vAt l (i + 1) : Int) := by
  have hz := zAt_lt l i hi
  have hv := vAt_lt l i (by omega)
  have hv2 : (vAt l i : Int) < (2 : Int) ^ (8 * N) := by
    rw [← cast_pow]
    have : 256 ^ l.length ≤ 256 ^ N := Nat.pow_le_pow_right (by decide) hl
    omega
  have hz2 : (zAt l i : Int) < (2 : Int) ^ (8 * (l.length - i)) := by rw [← cast_pow]; omega
  have hz3 : (zAt l i : Int) < (2 : Int) ^ (8 * N) := by
    rw [← cast_pow]
    have : 256 ^ (l.length - i) ≤ 256 ^ N := Nat.pow_le_pow_right (by decide) (by omega)
    omega
  constructor
  · have e : ((byteAt l i).toNat : Int) * (2 : Int) ^ (8 * (l.length - 1 - i)) = (zAt l i : Int) := by
      rw [← cast_pow]; unfold zAt; rw [Int.natCast_mul]
    rw [e]
    exact hk _ (by omega) hz3
  · rw [bits_join k (8 * N) hN hk (8 * (l.length - i)) _ _ (by omega) ?_ hv2 (by omega) hz2 hz3, vAt_succ l i hi, Int.natCast_add]
    rw [← cast_pow]
    unfold vAt
    rw [Int.natCast_mul]
    exact Int.mul_emod_left _ _
theorem wrap_in (k : IntKind) (N : Nat) (hs : k.signed = false) (hb : k.bits = 8 * N) : ∀ n : Int, 0 ≤ n → n < (2 : Int) ^ (8 * N) → k.wrap n = n := fun n h0 h1 => by
  simp only [IntKind.wrap, hs, hb]
  simp
  exact Int.emod_eq_of_lt h0 h1
theorem index_text (s : ByteArray) (k : Nat) (hk : k < s.size) (w : World) : (Instr.index 9 (.string s) (.int .i64 (k : Int))).run Tryz.prog w = .ok (.int .u8 ((byteAt s.data.toList k).toNat : Int)) w := by
  have h := run_index_string (P := Tryz.prog) w 9 s .i64 (k : Int) Tryz.underlying9
  have e : byteAt s.data.toList k = s[k] := by
    unfold byteAt
    rw [List.getD_eq_getElem?_getD, Array.getElem?_toList, Array.getElem?_eq_getElem (by exact hk)]
    rfl
  rw [h, e]
  simp [hk]

theorem takeA_le (n : Nat) (st : RS) : (takeA n st).size ≤ n := by
  unfold takeA
  split
  · split
    · exact Nat.zero_le _
    · rw [ByteArray.size_extract]; simp; omega
  · exact Nat.zero_le _
set_option maxHeartbeats 1000000 in
theorem read_32 (s : ByteArray) (w : World) (hs : s.size ≤ 4) : Calls Tryz.prog 238 #[.string s] w fun e w' => e = .returned (.int .u32 (be s.data.toList : Int)) ∧ w = w' := by
  obtain ⟨V, hV⟩ : ∃ V : Nat → Int, ∀ i, V i = (vAt s.data.toList i : Int) := ⟨_, fun _ => rfl⟩
  have hstep := fun (i : Nat) (hi : i < s.data.toList.length) => read_step .u32 4 (by decide) (wrap_in .u32 4 rfl rfl) s.data.toList (by rw [str_len]; exact hs) i hi
  have HST := hide hstep
  have h0 : V 0 = 0 := by rw [hV, vAt_zero]; rfl
  have h1 : (be s.data.toList : Int) = V s.size := by rw [hV, ← str_len, vAt_all]
  rw [h1]
  have HV := hide hV
  have H0 := hide h0.symm
  clear hV hstep h0 h1
  go_enter Tryz.func238, Tryz.ntmps238
  go_wp2
  go_loop [3, 7] (fun v i => ∃ k : Nat, k ≤ s.size ∧ i = .int .i64 (k : Int) ∧ v = .int .u32 (V k)) (fun _ i => s.size - (intOf i).toNat)
  case atStart => exact ⟨0, Nat.zero_le _, rfl, by rw [← H0.out]⟩
  case round =>
    obtain ⟨k, hk, rfl, rfl⟩ := hrel
    by_cases hlt : k < s.size
    · have hd : decide ((k : Int) < (s.size : Int)) = true := decide_eq_true (by omega)
      obtain ⟨c, hc⟩ : ∃ c : Int, ((byteAt s.data.toList k).toNat : Int) = c := ⟨_, rfl⟩
      obtain ⟨Z, hZ⟩ : ∃ Z : Int, (zAt s.data.toList k : Int) = Z := ⟨_, rfl⟩
      have HI : Hid (∀ w : World, (Instr.index 9 (.string s) (.int .i64 (k : Int))).run Tryz.prog w = .ok (.int .u8 c) w) := fun w => by rw [← hc]; exact index_text s k hlt w
      have hst := HST.out k (by rw [str_len]; exact hlt)
      rw [hc, hZ, ← HV.out, ← HV.out, str_len] at hst
      have HS1 := hide hst.1
      have HS2 := hide hst.2
      clear hst
      have hc2 : ∀ w : World, (convert 5 142 (.int .u8 c)).run Tryz.prog w = .ok (.int .u32 c) w := fun w => by
        have h := run_convert_int (P := Tryz.prog) (w := w) 5 142 .u8 c (by kernel_rfl) (by kernel_rfl)
        have e2 : IntKind.u32.wrap c = c := by
          have := (byteAt s.data.toList k).toNat_lt
          rw [← hc]; simp [IntKind.wrap, IntKind.bits, IntKind.signed]; omega
        rw [show Tryz.prog.intKind 142 = .u32 by kernel_rfl, e2] at h
        exact h
      have HC := hide hc2
      clear hc2
      have HCC := hide hc
      have HZZ := hide hZ
      clear hc hZ
      go_wp2_with (first | (refine wpList_index_lit rfl _ _ _ rfl (.int .u8 c) ?_ ?_; · exact HI.out _) | (refine wpList_conv rfl _ _ _ rfl .u8 .u32 c c (by rfl) (HC.out _) ?_) | (refine wpList_shl rfl _ _ _ _ rfl .u32 .i64 c _ Z (by rfl) (by rfl) (8 * (s.size - 1 - k)) (by omega) (by show _ ≤ 32; omega) HS1.out ?_) | (refine wpList_or rfl _ _ _ _ rfl .u32 (V k) Z _ (by rfl) (by rfl) HS2.out ?_))
      go_round
      case rel => exact ⟨k + 1, by omega, by go_num, rfl⟩
      case measure => simp [intOf]; omega
    · have e : k = s.size := by omega
      subst e
      have hd : decide ((s.size : Int) < (s.size : Int)) = false := by simp
      go_wp2
      go_ret
      exact ⟨rfl, rfl⟩
theorem get_32 (p : Nat) (st : RS) (w : World) (h : CR w p st) : Calls Tryz.prog 227 #[.pointer (some ⟨p, 0, none⟩)] w fun e w' => e = .returned (.int .u32 (be (takeA 4 st).data.toList : Int)) ∧ CR w' p (takeS 4 st) ∧ Mr p w w' := by
  go_enter Tryz.func227, Tryz.ntmps227
  go_wp2_with fail
  refine (width_32 _).mono ?_
  rintro e w1 ⟨rfl, rfl⟩
  go_wp2_with fail
  refine (rTake 4 p st _ h (.inr (by decide))).mono ?_
  rintro e w1 ⟨rfl, h1, hM⟩
  go_wp2_with fail
  refine (read_32 (takeA 4 st) _ (takeA_le 4 st)).mono ?_
  rintro e w2 ⟨rfl, rfl⟩
  go_wp2
  go_ret
  exact ⟨rfl, h1, hM⟩
theorem rU32 (p : Nat) (st : RS) (w : World) (h : CR w p st) : Calls Tryz.prog 205 #[.pointer (some ⟨p, 0, none⟩)] w fun e w' => e = .returned (.int .u32 (be (takeA 4 st).data.toList : Int)) ∧ CR w' p (takeS 4 st) ∧ Mr p w w' := by
  go_enter Tryz.func205, Tryz.ntmps205
  go_wp2_with fail
  refine (get_32 p st _ h).mono ?_
  rintro e w1 ⟨rfl, h1, hM⟩
  go_wp2
  go_ret
  exact ⟨rfl, h1, hM⟩
set_option maxHeartbeats 1000000 in
theorem read_64 (s : ByteArray) (w : World) (hs : s.size ≤ 8) : Calls Tryz.prog 239 #[.string s] w fun e w' => e = .returned (.int .u64 (be s.data.toList : Int)) ∧ w = w' := by
  obtain ⟨V, hV⟩ : ∃ V : Nat → Int, ∀ i, V i = (vAt s.data.toList i : Int) := ⟨_, fun _ => rfl⟩
  have hstep := fun (i : Nat) (hi : i < s.data.toList.length) => read_step .u64 8 (by decide) (wrap_in .u64 8 rfl rfl) s.data.toList (by rw [str_len]; exact hs) i hi
  have HST := hide hstep
  have h0 : V 0 = 0 := by rw [hV, vAt_zero]; rfl
  have h1 : (be s.data.toList : Int) = V s.size := by rw [hV, ← str_len, vAt_all]
  rw [h1]
  have HV := hide hV
  have H0 := hide h0.symm
  clear hV hstep h0 h1
  go_enter Tryz.func239, Tryz.ntmps239
  go_wp2
  go_loop [3, 7] (fun v i => ∃ k : Nat, k ≤ s.size ∧ i = .int .i64 (k : Int) ∧ v = .int .u64 (V k)) (fun _ i => s.size - (intOf i).toNat)
  case atStart => exact ⟨0, Nat.zero_le _, rfl, by rw [← H0.out]⟩
  case round =>
    obtain ⟨k, hk, rfl, rfl⟩ := hrel
    by_cases hlt : k < s.size
    · have hd : decide ((k : Int) < (s.size : Int)) = true := decide_eq_true (by omega)
      obtain ⟨c, hc⟩ : ∃ c : Int, ((byteAt s.data.toList k).toNat : Int) = c := ⟨_, rfl⟩
      obtain ⟨Z, hZ⟩ : ∃ Z : Int, (zAt s.data.toList k : Int) = Z := ⟨_, rfl⟩
      have HI : Hid (∀ w : World, (Instr.index 9 (.string s) (.int .i64 (k : Int))).run Tryz.prog w = .ok (.int .u8 c) w) := fun w => by rw [← hc]; exact index_text s k hlt w
      have hst := HST.out k (by rw [str_len]; exact hlt)
      rw [hc, hZ, ← HV.out, ← HV.out, str_len] at hst
      have HS1 := hide hst.1
      have HS2 := hide hst.2
      clear hst
      have hc2 : ∀ w : World, (convert 5 178 (.int .u8 c)).run Tryz.prog w = .ok (.int .u64 c) w := fun w => by
        have h := run_convert_int (P := Tryz.prog) (w := w) 5 178 .u8 c (by kernel_rfl) (by kernel_rfl)
        have e2 : IntKind.u64.wrap c = c := by
          have := (byteAt s.data.toList k).toNat_lt
          rw [← hc]; simp [IntKind.wrap, IntKind.bits, IntKind.signed]; omega
        rw [show Tryz.prog.intKind 178 = .u64 by kernel_rfl, e2] at h
        exact h
      have HC := hide hc2
      clear hc2
      have HCC := hide hc
      have HZZ := hide hZ
      clear hc hZ
      go_wp2_with (first | (refine wpList_index_lit rfl _ _ _ rfl (.int .u8 c) ?_ ?_; · exact HI.out _) | (refine wpList_conv rfl _ _ _ rfl .u8 .u64 c c (by rfl) (HC.out _) ?_) | (refine wpList_shl rfl _ _ _ _ rfl .u64 .i64 c _ Z (by rfl) (by rfl) (8 * (s.size - 1 - k)) (by omega) (by show _ ≤ 64; omega) HS1.out ?_) | (refine wpList_or rfl _ _ _ _ rfl .u64 (V k) Z _ (by rfl) (by rfl) HS2.out ?_))
      go_round
      case rel => exact ⟨k + 1, by omega, by go_num, rfl⟩
      case measure => simp [intOf]; omega
    · have e : k = s.size := by omega
      subst e
      have hd : decide ((s.size : Int) < (s.size : Int)) = false := by simp
      go_wp2
      go_ret
      exact ⟨rfl, rfl⟩
theorem get_64 (p : Nat) (st : RS) (w : World) (h : CR w p st) : Calls Tryz.prog 228 #[.pointer (some ⟨p, 0, none⟩)] w fun e w' => e = .returned (.int .u64 (be (takeA 8 st).data.toList : Int)) ∧ CR w' p (takeS 8 st) ∧ Mr p w w' := by
  go_enter Tryz.func228, Tryz.ntmps228
  go_wp2_with fail
  refine (width_64 _).mono ?_
  rintro e w1 ⟨rfl, rfl⟩
  go_wp2_with fail
  refine (rTake 8 p st _ h (.inr (by decide))).mono ?_
  rintro e w1 ⟨rfl, h1, hM⟩
  go_wp2_with fail
  refine (read_64 (takeA 8 st) _ (takeA_le 8 st)).mono ?_
  rintro e w2 ⟨rfl, rfl⟩
  go_wp2
  go_ret
  exact ⟨rfl, h1, hM⟩
end Go.Proofs.YtjfbdnogkbhciaaGreatDoor.Fr
/-
  The reader: I64, Text, Raw.
-/
namespace Go.Proofs.YtjfbdnogkbhciaaGreatDoor.Fr
open Go.RowKit
def num (n : Int) (st : RS) : Nat := be (takeA n st).data.toList
theorem rI64 (p : Nat) (st : RS) (w : World) (h : CR w p st) (z : Int) (hz : IntKind.i64.wrap (num 8 st : Int) = z) : Calls Tryz.prog 206 #[.pointer (some ⟨p, 0, none⟩)] w fun e w' => e = .returned (.int .i64 z) ∧ CR w' p (takeS 8 st) ∧ Mr p w w' := by
  obtain ⟨Z, hZ⟩ : ∃ Z : Int, (num 8 st : Int) = Z := ⟨_, rfl⟩
  have hc : ∀ w : World, (convert 178 2 (.int .u64 Z)).run Tryz.prog w = .ok (.int .i64 z) w := fun w => by
    have h := run_convert_int (P := Tryz.prog) (w := w) 178 2 .u64 Z (by kernel_rfl) (by kernel_rfl)
    rw [show Tryz.prog.intKind 2 = .i64 by kernel_rfl, ← hZ, hz] at h
    rw [← hZ]
    exact h
  have hg := fun (w : World) (h : CR w p st) => get_64 p st w h
  unfold num at hZ
  simp only [hZ] at hg
  have HG := hide hg
  have HC := hide hc
  clear hz hZ hc hg
  go_enter Tryz.func206, Tryz.ntmps206
  go_wp2_with fail
  refine (HG.out _ h).mono ?_
  rintro e w1 ⟨rfl, h1, hM⟩
  go_wp2_with (refine wpList_conv rfl _ _ _ rfl .u64 .i64 Z z (by rfl) (HC.out _) ?_)
  go_ret
  exact ⟨rfl, h1, hM⟩
theorem takeA_size (n : Int) (st : RS) : (takeA n st).size ≤ st.1.size := by
  unfold takeA
  split
  · split
    · exact Nat.zero_le _
    · rw [ByteArray.size_extract]; omega
  · exact Nat.zero_le _
theorem takeS_size (n : Int) (st : RS) : (takeS n st).1.size ≤ st.1.size := by
  unfold takeS
  split
  · split
    · exact Nat.zero_le _
    · simp only; rw [ByteArray.size_extract]; omega
  · exact Nat.le_refl _
theorem stopS_size (c : Int) (st : RS) : (stopS c st).1.size ≤ st.1.size := by
  unfold stopS
  split
  · exact Nat.zero_le _
  · exact Nat.le_refl _
def rawMid (n : Int) (st : RS) : RS := if n < 0 then stopS 1 st else st
def rawS (n : Int) (st : RS) : RS := takeS n (rawMid n st)
def rawA (n : Int) (st : RS) : ByteArray := takeA n (rawMid n st)
set_option maxHeartbeats 1000000 in
theorem rRaw (n : Int) (p : Nat) (st : RS) (w : World) (h : CR w p st) (hs : (rawA n st).size ≤ 281474976710656) : Calls Tryz.prog 207 #[.pointer (some ⟨p, 0, none⟩), .int .i64 n] w fun e w' => e = .returned (.string (rawA n st)) ∧ CR w' p (rawS n st) ∧ Mr p w w' := by
  have HS := hide hs
  unfold rawA rawS rawMid at *
  clear hs
  by_cases hlt : n < 0
  · have hd : decide (n < 0) = true := decide_eq_true hlt
    rw [if_pos hlt] at HS ⊢
    have hne : (stopS 1 st).2 ≠ 0 := by
      unfold stopS
      split
      · decide
      · assumption
    go_enter Tryz.func207, Tryz.ntmps207
    go_wp2_with fail
    refine (rStop 1 p _ _ h).mono ?_
    rintro e w2 ⟨rfl, h2, hM2⟩
    go_wp2_with fail
    refine (rTake n p _ _ h2 (.inl hne)).mono ?_
    rintro e w3 ⟨rfl, h3, hM3⟩
    go_wp2_with fail
    refine (clone_any _ _ HS.out).mono ?_
    rintro e w4 ⟨rfl, h4⟩
    go_wp2
    go_ret
    exact ⟨rfl, h3.below h4, (hM2.trans hM3).trans (Mr.of h4)⟩
  · have hd : decide (n < 0) = false := decide_eq_false hlt
    rw [if_neg hlt] at HS ⊢
    go_enter Tryz.func207, Tryz.ntmps207
    go_wp2_with fail
    refine (rTake n p _ _ h (.inr (by omega))).mono ?_
    rintro e w3 ⟨rfl, h3, hM3⟩
    go_wp2_with fail
    refine (clone_any _ _ HS.out).mono ?_
    rintro e w4 ⟨rfl, h4⟩
    go_wp2
    go_ret
    exact ⟨rfl, h3.below h4, hM3.trans (Mr.of h4)⟩
end Go.Proofs.YtjfbdnogkbhciaaGreatDoor.Fr
