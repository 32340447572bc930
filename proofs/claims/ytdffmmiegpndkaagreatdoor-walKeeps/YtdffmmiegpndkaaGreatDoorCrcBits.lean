import Derived.Test.YtdffmmiegpndkaaGreatDoorCurReader
import Derived.Test.YtdffmmiegpndkaaGreatDoorCurBase
import Derived.WalkSpells
import Derived.WalkLawsBesides
/-
  read and get of each kind; U8, U16, U32, U64, I64 of the reader.
-/
namespace Go.Proofs.YtdffmmiegpndkaaGreatDoor.Fr
open Go.RowKit
def vAt (l : List UInt8) (i : Nat) : Nat := be (l.take i) * 256 ^ (l.length - i)
def zAt (l : List UInt8) (i : Nat) : Nat := (byteAt l i).toNat * 256 ^ (l.length - 1 - i)
theorem vAt_zero (l : List UInt8) : vAt l 0 = 0 := by simp [vAt, be]
theorem vAt_all (l : List UInt8) : vAt l l.length = be l := by simp [vAt]
theorem vAt_succ (l : List UInt8) (i : Nat) (hi : i < l.length) : vAt l (i + 1) = vAt l i + zAt l i := by
  unfold vAt zAt
  have e : l.take (i + 1) = l.take i ++ [byteAt l i] := by
    rw [List.take_succ_eq_append_getElem hi]; unfold byteAt; rw [List.getD_eq_getElem?_getD, List.getElem?_eq_getElem hi]; rfl
  rw [e, be_snoc, show l.length - (i + 1) = l.length - 1 - i by omega, show l.length - i = (l.length - 1 - i) + 1 by omega, Nat.pow_succ, Nat.add_mul, Nat.mul_assoc, Nat.mul_comm 256]
theorem vAt_lt (l : List UInt8) (i : Nat) (hi : i ≤ l.length) : vAt l i < 256 ^ l.length := by
  unfold vAt
  have h := be_lt (l.take i)
  rw [List.length_take, Nat.min_eq_left hi] at h
  have h2 : be (l.take i) * 256 ^ (l.length - i) < 256 ^ i * 256 ^ (l.length - i) := Nat.mul_lt_mul_of_pos_right h (Nat.pow_pos (by decide))
  rwa [← Nat.pow_add, show i + (l.length - i) = l.length by omega] at h2
theorem zAt_lt (l : List UInt8) (i : Nat) (hi : i < l.length) : zAt l i < 256 ^ (l.length - i) := by
  unfold zAt
  have h := (byteAt l i).toNat_lt
  rw [show l.length - i = (l.length - 1 - i) + 1 by omega, Nat.pow_succ, Nat.mul_comm (256 ^ _) 256]
  exact Nat.mul_lt_mul_of_pos_right h (Nat.pow_pos (by decide))
theorem cast_pow (m : Nat) : ((256 ^ m : Nat) : Int) = (2 : Int) ^ (8 * m) := by rw [← pow8]; simp
theorem read_step (k : IntKind) (N : Nat) (hN : 8 * N ≤ k.bits) (hk : ∀ n : Int, 0 ≤ n → n < (2 : Int) ^ (8 * N) → k.wrap n = n) (l : List UInt8) (hl : l.length ≤ N) (i : Nat) (hi : i < l.length) :
    k.wrap (((byteAt l i).toNat : Int) * (2 : Int) ^ (8 * (l.length - 1 - i))) = (zAt l i : Int) ∧ bits .or k (vAt l i : Int) (zAt l i : Int) = (vAt l (i + 1) : Int) := by
  have hz := zAt_lt l i hi
  have hv := vAt_lt l i (by omega)
  have hv2 : (vAt l i : Int) < (2 : Int) ^ (8 * N) := by
    rw [← cast_pow]
    have : 256 ^ l.length ≤ 256 ^ N := Nat.pow_le_pow_right (by decide) hl
    omega
  have hz2 : (zAt l i : Int) < (2 : Int) ^ (8 * (l.length - i)) := by rw [← cast_pow]; omega
  have hz3 : (zAt l i : Int) < (2 : Int) ^ (8 * N) := by
    rw [← cast_pow]
    have : 256 ^ (l.length - i) ≤ 256 ^ N := Nat.pow_le_pow_right (by decide) (by omega)
    omega
  constructor
  · have e : ((byteAt l i).toNat : Int) * (2 : Int) ^ (8 * (l.length - 1 - i)) = (zAt l i : Int) := by
      rw [← cast_pow]; unfold zAt; rw [Int.natCast_mul]
    rw [e]
    exact hk _ (by omega) hz3
  · rw [bits_join k (8 * N) hN hk (8 * (l.length - i)) _ _ (by omega) ?_ hv2 (by omega) hz2 hz3, vAt_succ l i hi, Int.natCast_add]
    rw [← cast_pow]
    unfold vAt
    rw [Int.natCast_mul]
    exact Int.mul_emod_left _ _
theorem wrap_in (k : IntKind) (N : Nat) (hs : k.signed = false) (hb : k.bits = 8 * N) : ∀ n : Int, 0 ≤ n → n < (2 : Int) ^ (8 * N) → k.wrap n = n := fun n h0 h1 => by
  simp only [IntKind.wrap, hs, hb]
  simp
  exact Int.emod_eq_of_lt h0 h1
theorem index_text (s : ByteArray) (k : Nat) (hk : k < s.size) (w : World) : (Instr.index 9 (.string s) (.int .i64 (k : Int))).run Tryz.prog w = .ok (.int .u8 ((byteAt s.data.toList k).toNat : Int)) w := by
  have h := run_index_string (P := Tryz.prog) w 9 s .i64 (k : Int) Tryz.underlying9
  have e : byteAt s.data.toList k = s[k] := by
    unfold byteAt
    rw [List.getD_eq_getElem?_getD, Array.getElem?_toList, Array.getElem?_eq_getElem (by exact hk)]
    rfl
  rw [h, e]
  simp [hk]

theorem takeA_le (n : Nat) (st : RS) : (takeA n st).size ≤ n := by
  unfold takeA
  split
  · split
    · exact Nat.zero_le _
    · rw [ByteArray.size_extract]; simp; omega
  · exact Nat.zero_le _
set_option maxHeartbeats 1000000 in
theorem read_32 (s : ByteArray) (w : World) (hs : s.size ≤ 4) : Calls Tryz.prog 166 #[.string s] w fun e w' => e = .returned (.int .u32 (be s.data.toList : Int)) ∧ w = w' := by
  obtain ⟨V, hV⟩ : ∃ V : Nat → Int, ∀ i, V i = (vAt s.data.toList i : Int) := ⟨_, fun _ => rfl⟩
  have hstep := fun (i : Nat) (hi : i < s.data.toList.length) => read_step .u32 4 (by decide) (wrap_in .u32 4 rfl rfl) s.data.toList (by rw [str_len]; exact hs) i hi
  have HST := hide hstep
  have h0 : V 0 = 0 := by rw [hV, vAt_zero]; rfl
  have h1 : (be s.data.toList : Int) = V s.size := by rw [hV, ← str_len, vAt_all]
  rw [h1]
  have HV := hide hV
  have H0 := hide h0.symm
  clear hV hstep h0 h1
  go_enter Tryz.func166, Tryz.ntmps166
  go_wp2
  go_loop [3, 7] (fun v i => ∃ k : Nat, k ≤ s.size ∧ i = .int .i64 (k : Int) ∧ v = .int .u32 (V k)) (fun _ i => s.size - (intOf i).toNat)
  case atStart => exact ⟨0, Nat.zero_le _, rfl, by rw [← H0.out]⟩
  case round =>
    obtain ⟨k, hk, rfl, rfl⟩ := hrel
    by_cases hlt : k < s.size
    · have hd : decide ((k : Int) < (s.size : Int)) = true := decide_eq_true (by omega)
      obtain ⟨c, hc⟩ : ∃ c : Int, ((byteAt s.data.toList k).toNat : Int) = c := ⟨_, rfl⟩
      obtain ⟨Z, hZ⟩ : ∃ Z : Int, (zAt s.data.toList k : Int) = Z := ⟨_, rfl⟩
      have HI : Hid (∀ w : World, (Instr.index 9 (.string s) (.int .i64 (k : Int))).run Tryz.prog w = .ok (.int .u8 c) w) := fun w => by rw [← hc]; exact index_text s k hlt w
      have hst := HST.out k (by rw [str_len]; exact hlt)
      rw [hc, hZ, ← HV.out, ← HV.out, str_len] at hst
      have HS1 := hide hst.1
      have HS2 := hide hst.2
      clear hst
      have hc2 : ∀ w : World, (convert 5 90 (.int .u8 c)).run Tryz.prog w = .ok (.int .u32 c) w := fun w => by
        have h := run_convert_int (P := Tryz.prog) (w := w) 5 90 .u8 c (by kernel_rfl) (by kernel_rfl)
        have e2 : IntKind.u32.wrap c = c := by
          have := (byteAt s.data.toList k).toNat_lt
          rw [← hc]; simp [IntKind.wrap, IntKind.bits, IntKind.signed]; omega
        rw [show Tryz.prog.intKind 90 = .u32 by kernel_rfl, e2] at h
        exact h
      have HC := hide hc2
      clear hc2
      have HCC := hide hc
      have HZZ := hide hZ
      clear hc hZ
      go_wp2_with (first | (refine wpList_index_lit rfl _ _ _ rfl (.int .u8 c) ?_ ?_; · exact HI.out _) | (refine wpList_conv rfl _ _ _ rfl .u8 .u32 c c (by rfl) (HC.out _) ?_) | (refine wpList_shl rfl _ _ _ _ rfl .u32 .i64 c _ Z (by rfl) (by rfl) (8 * (s.size - 1 - k)) (by omega) (by show _ ≤ 32; omega) HS1.out ?_) | (refine wpList_or rfl _ _ _ _ rfl .u32 (V k) Z _ (by rfl) (by rfl) HS2.out ?_))
      go_round
      case rel => exact ⟨k + 1, by omega, by go_num, rfl⟩
      case measure => simp [intOf]; omega
    · have e : k = s.size := by omega
      subst e
      have hd : decide ((s.size : Int) < (s.size : Int)) = false := by simp
      go_wp2
      go_ret
      exact ⟨rfl, rfl⟩
theorem get_32 (p : Nat) (st : RS) (w : World) (h : CR w p st) : Calls Tryz.prog 155 #[.pointer (some ⟨p, 0, none⟩)] w fun e w' => e = .returned (.int .u32 (be (takeA 4 st).data.toList : Int)) ∧ CR w' p (takeS 4 st) ∧ Mr p w w' := by
  go_enter Tryz.func155, Tryz.ntmps155
  go_wp2_with fail
  refine (width_32 _).mono ?_
  rintro e w1 ⟨rfl, rfl⟩
  go_wp2_with fail
  refine (rTake 4 p st _ h (.inr (by decide))).mono ?_
  rintro e w1 ⟨rfl, h1, hM⟩
  go_wp2_with fail
  refine (read_32 (takeA 4 st) _ (takeA_le 4 st)).mono ?_
  rintro e w2 ⟨rfl, rfl⟩
  go_wp2
  go_ret
  exact ⟨rfl, h1, hM⟩
theorem rU32 (p : Nat) (st : RS) (w : World) (h : CR w p st) : Calls Tryz.prog 139 #[.pointer (some ⟨p, 0, none⟩)] w fun e w' => e = .returned (.int .u32 (be (takeA 4 st).data.toList : Int)) ∧ CR w' p (takeS 4 st) ∧ Mr p w w' := by
  go_enter Tryz.func139, Tryz.ntmps139
  go_wp2_with fail
  refine (get_32 p st _ h).mono ?_
  rintro e w1 ⟨rfl, h1, hM⟩
  go_wp2
  go_ret
  exact ⟨rfl, h1, hM⟩
set_option maxHeartbeats 1000000 in
theorem read_64 (s : ByteArray) (w : World) (hs : s.size ≤ 8) : Calls Tryz.prog 167 #[.string s] w fun e w' => e = .returned (.int .u64 (be s.data.toList : Int)) ∧ w = w' := by
  obtain ⟨V, hV⟩ : ∃ V : Nat → Int, ∀ i, V i = (vAt s.data.toList i : Int) := ⟨_, fun _ => rfl⟩
  have hstep := fun (i : Nat) (hi : i < s.data.toList.length) => read_step .u64 8 (by decide) (wrap_in .u64 8 rfl rfl) s.data.toList (by rw [str_len]; exact hs) i hi
  have HST := hide hstep
  have h0 : V 0 = 0 := by rw [hV, vAt_zero]; rfl
  have h1 : (be s.data.toList : Int) = V s.size := by rw [hV, ← str_len, vAt_all]
  rw [h1]
  have HV := hide hV
  have H0 := hide h0.symm
  clear hV hstep h0 h1
  go_enter Tryz.func167, Tryz.ntmps167
  go_wp2
  go_loop [3, 7] (fun v i => ∃ k : Nat, k ≤ s.size ∧ i = .int .i64 (k : Int) ∧ v = .int .u64 (V k)) (fun _ i => s.size - (intOf i).toNat)
  case atStart => exact ⟨0, Nat.zero_le _, rfl, by rw [← H0.out]⟩
  case round =>
    obtain ⟨k, hk, rfl, rfl⟩ := hrel
    by_cases hlt : k < s.size
    · have hd : decide ((k : Int) < (s.size : Int)) = true := decide_eq_true (by omega)
      obtain ⟨c, hc⟩ : ∃ c : Int, ((byteAt s.data.toList k).toNat : Int) = c := ⟨_, rfl⟩
      obtain ⟨Z, hZ⟩ : ∃ Z : Int, (zAt s.data.toList k : Int) = Z := ⟨_, rfl⟩
      have HI : Hid (∀ w : World, (Instr.index 9 (.string s) (.int .i64 (k : Int))).run Tryz.prog w = .ok (.int .u8 c) w) := fun w => by rw [← hc]; exact index_text s k hlt w
      have hst := HST.out k (by rw [str_len]; exact hlt)
      rw [hc, hZ, ← HV.out, ← HV.out, str_len] at hst
      have HS1 := hide hst.1
      have HS2 := hide hst.2
      clear hst
      have hc2 : ∀ w : World, (convert 5 123 (.int .u8 c)).run Tryz.prog w = .ok (.int .u64 c) w := fun w => by
        have h := run_convert_int (P := Tryz.prog) (w := w) 5 123 .u8 c (by kernel_rfl) (by kernel_rfl)
        have e2 : IntKind.u64.wrap c = c := by
          have := (byteAt s.data.toList k).toNat_lt
          rw [← hc]; simp [IntKind.wrap, IntKind.bits, IntKind.signed]; omega
        rw [show Tryz.prog.intKind 123 = .u64 by kernel_rfl, e2] at h
        exact h
      have HC := hide hc2
      clear hc2
      have HCC := hide hc
      have HZZ := hide hZ
      clear hc hZ
      go_wp2_with (first | (refine wpList_index_lit rfl _ _ _ rfl (.int .u8 c) ?_ ?_; · exact HI.out _) | (refine wpList_conv rfl _ _ _ rfl .u8 .u64 c c (by rfl) (HC.out _) ?_) | (refine wpList_shl rfl _ _ _ _ rfl .u64 .i64 c _ Z (by rfl) (by rfl) (8 * (s.size - 1 - k)) (by omega) (by show _ ≤ 64; omega) HS1.out ?_) | (refine wpList_or rfl _ _ _ _ rfl .u64 (V k) Z _ (by rfl) (by rfl) HS2.out ?_))
      go_round
      case rel => exact ⟨k + 1, by omega, by go_num, rfl⟩
      case measure => simp [intOf]; omega
    · have e : k = s.size := by omega
      subst e
      have hd : decide ((s.size : Int) < (s.size : Int)) = false := by simp
      go_wp2
      go_ret
      exact ⟨rfl, rfl⟩
theorem get_64 (p : Nat) (st : RS) (w : World) (h : CR w p st) : Calls Tryz.prog 156 #[.pointer (some ⟨p, 0, none⟩)] w fun e w' => e = .returned (.int .u64 (be (takeA 8 st).data.toList : Int)) ∧ CR w' p (takeS 8 st) ∧ Mr p w w' := by
  go_enter Tryz.func156, Tryz.ntmps156
  go_wp2_with fail
  refine (width_64 _).mono ?_
  rintro e w1 ⟨rfl, rfl⟩
  go_wp2_with fail
  refine (rTake 8 p st _ h (.inr (by decide))).mono ?_
  rintro e w1 ⟨rfl, h1, hM⟩
  go_wp2_with fail
  refine (read_64 (takeA 8 st) _ (takeA_le 8 st)).mono ?_
  rintro e w2 ⟨rfl, rfl⟩
  go_wp2
  go_ret
  exact ⟨rfl, h1, hM⟩
end Go.Proofs.YtdffmmiegpndkaaGreatDoor.Fr
/-
  The reader: I64, Text, Raw.
-/
namespace Go.Proofs.YtdffmmiegpndkaaGreatDoor.Fr
open Go.RowKit
def num (n : Int) (st : RS) : Nat := be (takeA n st).data.toList
theorem rI64 (p : Nat) (st : RS) (w : World) (h : CR w p st) (z : Int) (hz : IntKind.i64.wrap (num 8 st : Int) = z) : Calls Tryz.prog 140 #[.pointer (some ⟨p, 0, none⟩)] w fun e w' => e = .returned (.int .i64 z) ∧ CR w' p (takeS 8 st) ∧ Mr p w w' := by
  obtain ⟨Z, hZ⟩ : ∃ Z : Int, (num 8 st : Int) = Z := ⟨_, rfl⟩
  have hc : ∀ w : World, (convert 123 2 (.int .u64 Z)).run Tryz.prog w = .ok (.int .i64 z) w := fun w => by
    have h := run_convert_int (P := Tryz.prog) (w := w) 123 2 .u64 Z (by kernel_rfl) (by kernel_rfl)
    rw [show Tryz.prog.intKind 2 = .i64 by kernel_rfl, ← hZ, hz] at h
    rw [← hZ]
    exact h
  have hg := fun (w : World) (h : CR w p st) => get_64 p st w h
  unfold num at hZ
  simp only [hZ] at hg
  have HG := hide hg
  have HC := hide hc
  clear hz hZ hc hg
  go_enter Tryz.func140, Tryz.ntmps140
  go_wp2_with fail
  refine (HG.out _ h).mono ?_
  rintro e w1 ⟨rfl, h1, hM⟩
  go_wp2_with (refine wpList_conv rfl _ _ _ rfl .u64 .i64 Z z (by rfl) (HC.out _) ?_)
  go_ret
  exact ⟨rfl, h1, hM⟩
theorem takeA_size (n : Int) (st : RS) : (takeA n st).size ≤ st.1.size := by
  unfold takeA
  split
  · split
    · exact Nat.zero_le _
    · rw [ByteArray.size_extract]; omega
  · exact Nat.zero_le _
theorem takeS_size (n : Int) (st : RS) : (takeS n st).1.size ≤ st.1.size := by
  unfold takeS
  split
  · split
    · exact Nat.zero_le _
    · simp only; rw [ByteArray.size_extract]; omega
  · exact Nat.le_refl _
theorem stopS_size (c : Int) (st : RS) : (stopS c st).1.size ≤ st.1.size := by
  unfold stopS
  split
  · exact Nat.zero_le _
  · exact Nat.le_refl _
def rawMid (n : Int) (st : RS) : RS := if n < 0 then stopS 1 st else st
def rawS (n : Int) (st : RS) : RS := takeS n (rawMid n st)
def rawA (n : Int) (st : RS) : ByteArray := takeA n (rawMid n st)
set_option maxHeartbeats 1000000 in
theorem rRaw (n : Int) (p : Nat) (st : RS) (w : World) (h : CR w p st) (hs : (rawA n st).size ≤ 281474976710656) : Calls Tryz.prog 141 #[.pointer (some ⟨p, 0, none⟩), .int .i64 n] w fun e w' => e = .returned (.string (rawA n st)) ∧ CR w' p (rawS n st) ∧ Mr p w w' := by
  have HS := hide hs
  unfold rawA rawS rawMid at *
  clear hs
  by_cases hlt : n < 0
  · have hd : decide (n < 0) = true := decide_eq_true hlt
    rw [if_pos hlt] at HS ⊢
    have hne : (stopS 1 st).2 ≠ 0 := by
      unfold stopS
      split
      · decide
      · assumption
    go_enter Tryz.func141, Tryz.ntmps141
    go_wp2_with fail
    refine (rStop 1 p _ _ h).mono ?_
    rintro e w2 ⟨rfl, h2, hM2⟩
    go_wp2_with fail
    refine (rTake n p _ _ h2 (.inl hne)).mono ?_
    rintro e w3 ⟨rfl, h3, hM3⟩
    go_wp2_with fail
    refine (clone_any _ _ HS.out).mono ?_
    rintro e w4 ⟨rfl, h4⟩
    go_wp2
    go_ret
    exact ⟨rfl, h3.below h4, (hM2.trans hM3).trans (Mr.of h4)⟩
  · have hd : decide (n < 0) = false := decide_eq_false hlt
    rw [if_neg hlt] at HS ⊢
    go_enter Tryz.func141, Tryz.ntmps141
    go_wp2_with fail
    refine (rTake n p _ _ h (.inr (by omega))).mono ?_
    rintro e w3 ⟨rfl, h3, hM3⟩
    go_wp2_with fail
    refine (clone_any _ _ HS.out).mono ?_
    rintro e w4 ⟨rfl, h4⟩
    go_wp2
    go_ret
    exact ⟨rfl, h3.below h4, hM3.trans (Mr.of h4)⟩
end Go.Proofs.YtdffmmiegpndkaaGreatDoor.Fr
/-
  The model's uint32 against 32 bits: U b is the number of b; what the walk's operations make of such numbers. Tables of such numbers in a block.
-/
namespace Go.Proofs.YtdffmmiegpndkaaGreatDoor.Fr
open Go.RowKit
namespace C
/-- A number for each 32 bits: kept as a letter, so that the walk never looks into it. -/
structure Num where
  u : BitVec 32 → Int
  eq : ∀ b, u b = (b.toNat : Int)
variable (n : Num)
theorem Num.nonneg (b : BitVec 32) : 0 ≤ n.u b := by rw [n.eq]; omega
theorem Num.lt (b : BitVec 32) : n.u b < 4294967296 := by have := b.isLt; rw [n.eq]; omega
theorem Num.of (b : BitVec 32) : BitVec.ofInt 32 (n.u b) = b := by
  rw [n.eq, BitVec.ofInt_natCast]; simp
theorem Num.mk_of (a : Int) (h0 : 0 ≤ a) (h1 : a < 4294967296) : a = n.u (BitVec.ofNat 32 a.toNat) := by
  rw [n.eq, BitVec.toNat_ofNat, Nat.mod_eq_of_lt (by omega)]; omega
theorem Num.inj (a b : BitVec 32) (h : n.u a = n.u b) : a = b := by
  rw [n.eq, n.eq] at h; exact BitVec.eq_of_toNat_eq (by omega)
theorem Num.beq (a b : BitVec 32) : (n.u a == n.u b) = (a == b) := by
  rw [Bool.eq_iff_iff, beq_iff_eq, beq_iff_eq]; exact ⟨n.inj a b, fun h => by rw [h]⟩
theorem Num.wrap (b : BitVec 32) : IntKind.u32.wrap (b.toNat : Int) = n.u b := by
  rw [IntKind.wrap_u32', n.eq]; have := b.isLt; omega
theorem Num.xor (a b : BitVec 32) : bits .xor .u32 (n.u a) (n.u b) = n.u (a ^^^ b) := by
  show IntKind.u32.wrap ((BitVec.ofInt 32 (n.u a) ^^^ BitVec.ofInt 32 (n.u b)).toNat : Int) = _
  rw [n.of, n.of, n.wrap]
theorem Num.and (a b : BitVec 32) : bits .and .u32 (n.u a) (n.u b) = n.u (a &&& b) := by
  show IntKind.u32.wrap ((BitVec.ofInt 32 (n.u a) &&& BitVec.ofInt 32 (n.u b)).toNat : Int) = _
  rw [n.of, n.of, n.wrap]
theorem Num.poly (a : BitVec 32) : bits .xor .u32 (n.u a) 2197175160 = n.u (a ^^^ C.poly) := by
  have h := n.xor a C.poly
  rwa [n.eq C.poly] at h
theorem Num.and15 (a : BitVec 32) : bits .and .u32 (n.u a) 15 = n.u (a &&& 15#32) := by
  have h := n.and a 15#32
  rwa [n.eq 15#32] at h
theorem and_one (a : BitVec 32) : a &&& 1#32 = if a.getLsbD 0 = true then 1#32 else 0#32 := by
  apply BitVec.eq_of_getLsbD_eq
  intro i hi
  rw [BitVec.getLsbD_and, BitVec.getLsbD_one]
  cases h0 : a.getLsbD 0
  · rw [if_neg (by simp)]
    by_cases h : i = 0
    · subst h; rw [h0]; simp
    · simp [h]
  · rw [if_pos rfl, BitVec.getLsbD_one]
    by_cases h : i = 0
    · subst h; rw [h0]; simp
    · simp [h]
theorem Num.odd (a : BitVec 32) : (bits .and .u32 (n.u a) 1 == 1) = a.getLsbD 0 := by
  have h := n.and a 1#32
  rw [n.eq 1#32] at h
  have h : bits .and .u32 (n.u a) 1 = _ := h
  rw [h, and_one, n.eq]
  cases a.getLsbD 0 <;> rfl
theorem Num.half (a : BitVec 32) : n.u a / (2 : Int) = n.u (a >>> 1) := by
  rw [n.eq, n.eq, BitVec.toNat_ushiftRight, Nat.shiftRight_eq_div_pow]; omega
theorem Num.half4 (a : BitVec 32) : n.u a / (16 : Int) = n.u (a >>> 4) := by
  rw [n.eq, n.eq, BitVec.toNat_ushiftRight, Nat.shiftRight_eq_div_pow]; omega
theorem Num.shr (a : BitVec 32) (k : Nat) : n.u a / (2 : Int) ^ k = n.u (a >>> k) := by
  rw [n.eq, n.eq, BitVec.toNat_ushiftRight, Nat.shiftRight_eq_div_pow]; simp
theorem Num.byte (c : UInt8) : (c.toNat : Int) = n.u (B c) := by
  have := c.toNat_lt; unfold B; rw [n.eq, BitVec.toNat_ofNat, Nat.mod_eq_of_lt (by omega)]
theorem st_true (x : BitVec 32) (h : x.getLsbD 0 = true) : x >>> 1 ^^^ poly = st x := by unfold st; rw [h]; rfl
theorem st_false (x : BitVec 32) (h : x.getLsbD 0 = false) : x >>> 1 = st x := by unfold st; rw [h]; rfl
theorem st_true' (x : BitVec 32) (h : x[0] = true) : bits .xor .u32 (n.u x / (2 : Int)) 2197175160 = n.u (st x) := by
  rw [n.half, n.poly, st_true x (by simpa using h)]
theorem st_false' (x : BitVec 32) (h : x[0] = false) : n.u x / (2 : Int) = n.u (st x) := by
  rw [n.half, st_false x (by simpa using h)]
theorem and1_i64 (q : Nat) (h : q ≤ 9223372036854775807) : bits .and .i64 (q : Int) 1 = ((q % 2 : Nat) : Int) := by
  show IntKind.i64.wrap ((BitVec.ofInt 64 (q : Int) &&& BitVec.ofInt 64 1).toNat : Int) = _
  have h2 : (BitVec.ofInt 64 1).toNat = 1 := rfl
  rw [BitVec.toNat_and, h2, BitVec.ofInt_natCast, BitVec.toNat_ofNat, Nat.mod_eq_of_lt (by omega), Nat.and_one_is_mod]
  have h3 : q % 2 < 2 := Nat.mod_lt _ (by omega)
  rcases Nat.lt_or_ge (q % 2) 1 with h4 | h4
  · rw [show q % 2 = 0 by omega]; rfl
  · rw [show q % 2 = 1 by omega]; rfl
theorem odd_i64 (q : Nat) (h : q ≤ 9223372036854775807) (h1 : q % 2 = 1) : (bits .and .i64 (q : Int) 1 == 1) = true := by rw [and1_i64 q h, h1]; rfl
theorem even_i64 (q : Nat) (h : q ≤ 9223372036854775807) (h1 : ¬ q % 2 = 1) : (bits .and .i64 (q : Int) 1 == 1) = false := by rw [and1_i64 q h, show q % 2 = 0 by omega]; rfl
theorem Num.xor_byte (a : BitVec 32) (c : UInt8) : bits .xor .u32 (n.u a) ((c.toNat : Int) % 4294967296) = n.u (a ^^^ B c) := by
  have := c.toNat_lt
  rw [show (c.toNat : Int) % 4294967296 = (c.toNat : Int) by omega, n.byte, n.xor]
theorem Num.low15 (a : BitVec 32) : n.u (a &&& 15#32) < 16 := by
  rw [n.eq, BitVec.toNat_and]
  have : a.toNat &&& 15 < 2 ^ 4 := Nat.and_lt_two_pow _ (by decide)
  show ((a.toNat &&& 15 : Nat) : Int) < 16
  omega
theorem Num.idx (a : BitVec 32) : BitVec.ofNat 32 (n.u a).toNat = a := by
  rw [n.eq, Int.toNat_natCast]; simp
theorem half_byte (x : BitVec 32) : x >>> 4 ^^^ stN 4 (x &&& 15#32) = stN 4 x := (stN_cut x 4).symm
theorem two_halves (x : BitVec 32) : stN 4 (stN 4 x) = stN 8 x := (stN_add 4 4 x).symm
theorem Num.not (a : BitVec 32) : bits .xor .u32 IntKind.u32.max (n.u a) = n.u (~~~a) := by
  have h := n.xor (BitVec.allOnes 32) a
  rw [n.eq (BitVec.allOnes 32), BitVec.allOnes_xor] at h
  exact h
theorem int_eq {k : IntKind} {a b : Int} (h : a = b) : Value.int k a = .int k b := by rw [h]

def tab (f : Nat → BitVec 32) (m : Nat) : Array Value := ((List.range m).map fun i => Value.int .u32 (n.u (f i))).toArray
theorem tab_size (f : Nat → BitVec 32) (m : Nat) : (tab n f m).size = m := by simp [tab]
theorem tab_get (f : Nat → BitVec 32) (m i : Nat) (h : i < m) : (tab n f m)[i]? = some (.int .u32 (n.u (f i))) := by simp [tab, h]
def upd (f : Nat → BitVec 32) (k : Nat) (v : BitVec 32) : Nat → BitVec 32 := fun i => if i = k then v else f i
theorem tab_set (f : Nat → BitVec 32) (m k : Nat) (v : BitVec 32) : (tab n f m).setIfInBounds k (.int .u32 (n.u v)) = tab n (upd f k v) m := by
  apply Array.ext_getElem?
  intro i
  rw [Array.getElem?_setIfInBounds]
  by_cases h : i < m
  · rw [tab_get _ _ _ _ h, tab_get _ _ _ _ h]
    by_cases e : k = i
    · subst e; simp [tab_size, h, upd]
    · rw [if_neg e]; unfold upd; rw [if_neg (fun x => e x.symm)]
  · rw [Array.getElem?_eq_none (xs := tab n f m) (i := i) (by rw [tab_size]; omega)]
    rw [Array.getElem?_eq_none (xs := tab n (upd f k v) m) (by rw [tab_size]; omega), tab_size]
    by_cases e : k = i
    · rw [if_pos e, if_neg (by omega)]
    · rw [if_neg e]
theorem tab_congr (f g : Nat → BitVec 32) (m : Nat) (h : ∀ i, i < m → f i = g i) : tab n f m = tab n g m := by
  unfold tab; congr 1; apply List.map_congr_left; intro i hi; rw [h i (List.mem_range.1 hi)]
/-- The first k entries as g says, the rest as before. -/
def upto (g : Nat → BitVec 32) (k : Nat) : Nat → BitVec 32 := fun i => if i < k then g i else 0#32
theorem upd_upto (g : Nat → BitVec 32) (k : Nat) : upd (upto g k) k (g k) = upto g (k + 1) := by
  funext i; unfold upd upto
  by_cases e : i = k
  · subst e; rw [if_pos rfl, if_pos (by omega)]
  · rw [if_neg e]; by_cases h : i < k
    · rw [if_pos h, if_pos (by omega)]
    · rw [if_neg h, if_neg (by omega)]
theorem tab_full (g : Nat → BitVec 32) (m : Nat) : tab n (upto g m) m = tab n g m := tab_congr n _ _ m fun i h => by unfold upto; rw [if_pos h]

/-- Block g of w holds the table f of n numbers. -/
def Has (w : World) (g : Nat) (t : TypeId) (f : Nat → BitVec 32) (m : Nat) : Prop := w.heap[g]? = some (.cells (tab n f m) t (0, 0))
theorem Has.cell {n : Num} {w : World} {g : Nat} {t : TypeId} {f : Nat → BitVec 32} {m : Nat} (h : Has n w g t f m) (i : Nat) (hi : i < m) : w.cell? ⟨g, i, none⟩ = some (.int .u32 (n.u (f i))) := by
  rw [cell_of_row w g i _ t (0, 0) h, tab_get n f m i hi]
theorem Has.frozen {n : Num} {w : World} {g : Nat} {t : TypeId} {f : Nat → BitVec 32} {m : Nat} (h : Has n w g t f m) (i : Nat) : w.frozen? ⟨g, i, none⟩ = false := frozen_of_row w g i _ t h
theorem Has.set {n : Num} {w : World} {g : Nat} {t : TypeId} {f : Nat → BitVec 32} {m : Nat} (h : Has n w g t f m) (i : Nat) (v : BitVec 32) : Has n (w.setCell ⟨g, i, none⟩ (.int .u32 (n.u v))) g t (upd f i v) m := by
  unfold Has; rw [heap_setCell_same w g i _ t _ h, tab_set]
theorem Has.other {n : Num} {w : World} {g : Nat} {t : TypeId} {f : Nat → BitVec 32} {m : Nat} (h : Has n w g t f m) (p : Addr) (v : Value) (hp : g ≠ p.block) : Has n (w.setCell p v) g t f m := by
  unfold Has; rw [heap_setCell_other w p g v hp]; exact h
theorem Has.below {n : Num} {w w' : World} {b g : Nat} {t : TypeId} {f : Nat → BitVec 32} {m : Nat} (h : Has n w g t f m) (hb : Below b w w') (hg : g < b) : Has n w' g t f m := by
  unfold Has; rw [hb.block g hg]; exact h
theorem tab_one (f : Nat → BitVec 32) (m : Nat) : (tab n f m).all (·.oneCell') = true := by
  rw [Array.all_eq_true_iff_forall_mem]
  intro v hv
  simp only [tab, List.mem_toArray, List.mem_map] at hv
  obtain ⟨i, _, rfl⟩ := hv
  rfl
theorem Has.row {n : Num} {w : World} {g : Nat} {t : TypeId} {f : Nat → BitVec 32} {m : Nat} (h : Has n w g t f m) (f' : Nat → BitVec 32) : Has n (w.setRow g (tab n f' m)) g t f' m := setRow_heap w g _ _ t _ h
theorem Has.row_other {n : Num} {w : World} {g : Nat} {t : TypeId} {f : Nat → BitVec 32} {m : Nat} (h : Has n w g t f m) (g' : Nat) (cs : Array Value) (hg : g ≠ g') : Has n (w.setRow g' cs) g t f m := by
  unfold Has; rw [setRow_other w g' g cs hg]; exact h
theorem below_setRow {B : Nat} {a w : World} (h : Below B a w) {g : Nat} (hg : B ≤ g) (cs : Array Value) : Below B a (w.setRow g cs) :=
  h.trans ⟨rfl, rfl, rfl, by simp, fun k hk => setRow_other w g k cs (by omega)⟩
theorem Num.ofNat (k : Nat) (h : k < 4294967296) : (k : Int) = n.u (BitVec.ofNat 32 k) := by
  rw [n.eq, BitVec.toNat_ofNat, Nat.mod_eq_of_lt (by omega)]
theorem Num.one (k : Nat) (h : k < 32) : (2 : Int) ^ k % 4294967296 = n.u (one k) := by
  have h2 : (2 : Nat) ^ k < 4294967296 := by
    have := Nat.pow_lt_pow_right (a := 2) (by omega) h
    simpa using this
  unfold C.one
  rw [n.eq, BitVec.toNat_shiftLeft, Nat.shiftLeft_eq]
  simp
theorem Num.bit (x : BitVec 32) (k : Nat) : (bits .and .u32 (n.u x / (2 : Int) ^ k) 1 == 1) = x.getLsbD k := by
  rw [n.shr, n.odd, BitVec.getLsbD_ushiftRight, Nat.add_zero]
theorem Num.zero : n.u 0#32 = 0 := by rw [n.eq]; rfl
theorem zeros16 (g : Nat → BitVec 32) : #[.int .u32 0, .int .u32 0, .int .u32 0, .int .u32 0, .int .u32 0, .int .u32 0, .int .u32 0, .int .u32 0, .int .u32 0, .int .u32 0, .int .u32 0, .int .u32 0, .int .u32 0, .int .u32 0, .int .u32 0, .int .u32 0] = tab n (upto g 0) 16 := by
  simp [tab, upto, n.zero, List.range_succ]
theorem zeros32 (g : Nat → BitVec 32) : #[.int .u32 0, .int .u32 0, .int .u32 0, .int .u32 0, .int .u32 0, .int .u32 0, .int .u32 0, .int .u32 0, .int .u32 0, .int .u32 0, .int .u32 0, .int .u32 0, .int .u32 0, .int .u32 0, .int .u32 0, .int .u32 0, .int .u32 0, .int .u32 0, .int .u32 0, .int .u32 0, .int .u32 0, .int .u32 0, .int .u32 0, .int .u32 0, .int .u32 0, .int .u32 0, .int .u32 0, .int .u32 0, .int .u32 0, .int .u32 0, .int .u32 0, .int .u32 0] = tab n (upto g 0) 32 := by
  simp [tab, upto, n.zero, List.range_succ]
theorem Has.new (w : World) (t : TypeId) (f : Nat → BitVec 32) (m : Nat) (cs : Array Value) (h : cs = tab n f m) : Has n (w.alloc (.cells cs t)) w.heap.size t f m := by
  unfold Has; rw [h]; exact heap_alloc_new w _
theorem Has.old {n : Num} {w : World} {g : Nat} {t : TypeId} {f : Nat → BitVec 32} {m : Nat} (h : Has n w g t f m) (o : Obj) (hg : g < w.heap.size) : Has n (w.alloc o) g t f m := by
  unfold Has; rw [Below.heap_alloc w o g hg]; exact h
theorem Has.lt {n : Num} {w : World} {g : Nat} {t : TypeId} {f : Nat → BitVec 32} {m : Nat} (h : Has n w g t f m) : g < w.heap.size := by
  by_cases hlt : g < w.heap.size
  · exact hlt
  · have hn : w.heap[g]? = none := by simp; omega
    unfold Has at h; rw [hn] at h; cases h
end C
end Go.Proofs.YtdffmmiegpndkaaGreatDoor.Fr
