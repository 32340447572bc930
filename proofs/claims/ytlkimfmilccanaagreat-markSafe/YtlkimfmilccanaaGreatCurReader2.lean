import Derived.Test.YtlkimfmilccanaaGreatCurReader
/-
  read and get of each kind; U8, U16, U32, U64, I64 of the reader.
-/
namespace Go.Proofs.YtlkimfmilccanaaGreat.Fr
open Go.RowKit
def vAt (l : List UInt8) (i : Nat) : Nat := be (l.take i) * 256 ^ (l.length - i)
def zAt (l : List UInt8) (i : Nat) : Nat := (byteAt l i).toNat * 256 ^ (l.length - 1 - i)
theorem vAt_zero (l : List UInt8) : vAt l 0 = 0 := by simp [vAt, be]
theorem vAt_all (l : List UInt8) : vAt l l.length = be l := by simp [vAt]
theorem vAt_succ (l : List UInt8) (i : Nat) (hi : i < l.length) : vAt l (i + 1) = vAt l i + zAt l i := by
  unfold vAt zAt
  have e : l.take (i + 1) = l.take i ++ [byteAt l i] := by
    rw [List.take_succ_eq_append_getElem hi]; unfold byteAt; rw [List.getD_eq_getElem?_getD, List.getElem?_eq_getElem hi]; rfl
  rw [e, be_snoc, show l.length - (i + 1) = l.length - 1 - i by omega, show l.length - i = (l.length - 1 - i) + 1 by omega, Nat.pow_succ, Nat.add_mul, Nat.mul_assoc, Nat.mul_comm 256]
theorem vAt_lt (l : List UInt8) (i : Nat) (hi : i ≤ l.length) : vAt l i < 256 ^ l.length := by
  unfold vAt
  have h := be_lt (l.take i)
  rw [List.length_take, Nat.min_eq_left hi] at h
  have h2 : be (l.take i) * 256 ^ (l.length - i) < 256 ^ i * 256 ^ (l.length - i) := Nat.mul_lt_mul_of_pos_right h (Nat.pow_pos (by decide))
  rwa [← Nat.pow_add, show i + (l.length - i) = l.length by omega] at h2
theorem zAt_lt (l : List UInt8) (i : Nat) (hi : i < l.length) : zAt l i < 256 ^ (l.length - i) := by
  unfold zAt
  have h := (byteAt l i).toNat_lt
  rw [show l.length - i = (l.length - 1 - i) + 1 by omega, Nat.pow_succ, Nat.mul_comm (256 ^ _) 256]
  exact Nat.mul_lt_mul_of_pos_right h (Nat.pow_pos (by decide))
theorem cast_pow (m : Nat) : ((256 ^ m : Nat) : Int) = (2 : Int) ^ (8 * m) := by rw [← pow8]; simp
theorem read_step (k : IntKind) (N : Nat) (hN : 8 * N ≤ k.bits) (hk : ∀ n : Int, 0 ≤ n → n < (2 : Int) ^ (8 * N) → k.wrap n = n) (l : List UInt8) (hl : l.length ≤ N) (i : Nat) (hi : i < l.length) :
    k.wrap (((byteAt l i).toNat : Int) * (2 : Int) ^ (8 * (l.length - 1 - i))) = (zAt l i : Int) ∧ bits .or k (vAt l i : Int) (zAt l i : Int) = (vAt l (i + 1) : Int) := by
  have hz := zAt_lt l i hi
  have hv := vAt_lt l i (by omega)
  have hv2 : (vAt l i : Int) < (2 : Int) ^ (8 * N) := by
    rw [← cast_pow]
    have : 256 ^ l.length ≤ 256 ^ N := Nat.pow_le_pow_right (by decide) hl
    omega
  have hz2 : (zAt l i : Int) < (2 : Int) ^ (8 * (l.length - i)) := by rw [← cast_pow]; omega
  have hz3 : (zAt l i : Int) < (2 : Int) ^ (8 * N) := by
    rw [← cast_pow]
    have : 256 ^ (l.length - i) ≤ 256 ^ N := Nat.pow_le_pow_right (by decide) (by omega)
    omega
  constructor
  · have e : ((byteAt l i).toNat : Int) * (2 : Int) ^ (8 * (l.length - 1 - i)) = (zAt l i : Int) := by
      rw [← cast_pow]; unfold zAt; rw [Int.natCast_mul]
    rw [e]
    exact hk _ (by omega) hz3
  · rw [bits_join k (8 * N) hN hk (8 * (l.length - i)) _ _ (by omega) ?_ hv2 (by omega) hz2 hz3, vAt_succ l i hi, Int.natCast_add]
    rw [← cast_pow]
    unfold vAt
    rw [Int.natCast_mul]
    exact Int.mul_emod_left _ _
theorem wrap_in (k : IntKind) (N : Nat) (hs : k.signed = false) (hb : k.bits = 8 * N) : ∀ n : Int, 0 ≤ n → n < (2 : Int) ^ (8 * N) → k.wrap n = n := fun n h0 h1 => by
  simp only [IntKind.wrap, hs, hb]
  simp
  exact Int.emod_eq_of_lt h0 h1
theorem index_text (s : ByteArray) (k : Nat) (hk : k < s.size) (w : World) : (Instr.index 9 (.string s) (.int .i64 (k : Int))).run Tryz.prog w = .ok (.int .u8 ((byteAt s.data.toList k).toNat : Int)) w := by
  have h := run_index_string (P := Tryz.prog) w 9 s .i64 (k : Int) Tryz.underlying9
  have e : byteAt s.data.toList k = s[k] := by
    unfold byteAt
    rw [List.getD_eq_getElem?_getD, Array.getElem?_toList, Array.getElem?_eq_getElem (by exact hk)]
    rfl
  rw [h, e]
  simp [hk]

theorem takeA_le (n : Nat) (st : RS) : (takeA n st).size ≤ n := by
  unfold takeA
  split
  · split
    · exact Nat.zero_le _
    · rw [ByteArray.size_extract]; simp; omega
  · exact Nat.zero_le _
-- left out in this seat: read_32
-- left out in this seat: get_32
-- left out in this seat: rU32
set_option maxHeartbeats 1000000 in
theorem read_64 (s : ByteArray) (w : World) (hs : s.size ≤ 8) : Calls Tryz.prog 167 #[.string s] w fun e w' => e = .returned (.int .u64 (be s.data.toList : Int)) ∧ w = w' := by
  obtain ⟨V, hV⟩ : ∃ V : Nat → Int, ∀ i, V i = (vAt s.data.toList i : Int) := ⟨_, fun _ => rfl⟩
  have hstep := fun (i : Nat) (hi : i < s.data.toList.length) => read_step .u64 8 (by decide) (wrap_in .u64 8 rfl rfl) s.data.toList (by rw [str_len]; exact hs) i hi
  have HST := hide hstep
  have h0 : V 0 = 0 := by rw [hV, vAt_zero]; rfl
  have h1 : (be s.data.toList : Int) = V s.size := by rw [hV, ← str_len, vAt_all]
  rw [h1]
  have HV := hide hV
  have H0 := hide h0.symm
  clear hV hstep h0 h1
  go_enter Tryz.func167, Tryz.ntmps167
  go_wp2
  go_loop [3, 7] (fun v i => ∃ k : Nat, k ≤ s.size ∧ i = .int .i64 (k : Int) ∧ v = .int .u64 (V k)) (fun _ i => s.size - (intOf i).toNat)
  case atStart => exact ⟨0, Nat.zero_le _, rfl, by rw [← H0.out]⟩
  case round =>
    obtain ⟨k, hk, rfl, rfl⟩ := hrel
    by_cases hlt : k < s.size
    · have hd : decide ((k : Int) < (s.size : Int)) = true := decide_eq_true (by omega)
      obtain ⟨c, hc⟩ : ∃ c : Int, ((byteAt s.data.toList k).toNat : Int) = c := ⟨_, rfl⟩
      obtain ⟨Z, hZ⟩ : ∃ Z : Int, (zAt s.data.toList k : Int) = Z := ⟨_, rfl⟩
      have HI : Hid (∀ w : World, (Instr.index 9 (.string s) (.int .i64 (k : Int))).run Tryz.prog w = .ok (.int .u8 c) w) := fun w => by rw [← hc]; exact index_text s k hlt w
      have hst := HST.out k (by rw [str_len]; exact hlt)
      rw [hc, hZ, ← HV.out, ← HV.out, str_len] at hst
      have HS1 := hide hst.1
      have HS2 := hide hst.2
      clear hst
      have hc2 : ∀ w : World, (convert 5 158 (.int .u8 c)).run Tryz.prog w = .ok (.int .u64 c) w := fun w => by
        have h := run_convert_int (P := Tryz.prog) (w := w) 5 158 .u8 c (by kernel_rfl) (by kernel_rfl)
        have e2 : IntKind.u64.wrap c = c := by
          have := (byteAt s.data.toList k).toNat_lt
          rw [← hc]; simp [IntKind.wrap, IntKind.bits, IntKind.signed]; omega
        rw [show Tryz.prog.intKind 158 = .u64 by kernel_rfl, e2] at h
        exact h
      have HC := hide hc2
      clear hc2
      have HCC := hide hc
      have HZZ := hide hZ
      clear hc hZ
      go_wp2_with (first | (refine wpList_index_lit rfl _ _ _ rfl (.int .u8 c) ?_ ?_; · exact HI.out _) | (refine wpList_conv rfl _ _ _ rfl .u8 .u64 c c (by rfl) (HC.out _) ?_) | (refine wpList_shl rfl _ _ _ _ rfl .u64 .i64 c _ Z (by rfl) (by rfl) (8 * (s.size - 1 - k)) (by omega) (by show _ ≤ 64; omega) HS1.out ?_) | (refine wpList_or rfl _ _ _ _ rfl .u64 (V k) Z _ (by rfl) (by rfl) HS2.out ?_))
      go_round
      case rel => exact ⟨k + 1, by omega, by go_num, rfl⟩
      case measure => simp [intOf]; omega
    · have e : k = s.size := by omega
      subst e
      have hd : decide ((s.size : Int) < (s.size : Int)) = false := by simp
      go_wp2
      go_ret
      exact ⟨rfl, rfl⟩
theorem get_64 (p : Nat) (st : RS) (w : World) (h : CR w p st) : Calls Tryz.prog 150 #[.pointer (some ⟨p, 0, none⟩)] w fun e w' => e = .returned (.int .u64 (be (takeA 8 st).data.toList : Int)) ∧ CR w' p (takeS 8 st) ∧ Mr p w w' := by
  go_enter Tryz.func150, Tryz.ntmps150
  go_wp2_with fail
  refine (width_64 _).mono ?_
  rintro e w1 ⟨rfl, rfl⟩
  go_wp2_with fail
  refine (rTake 8 p st _ h (.inr (by decide))).mono ?_
  rintro e w1 ⟨rfl, h1, hM⟩
  go_wp2_with fail
  refine (read_64 (takeA 8 st) _ (takeA_le 8 st)).mono ?_
  rintro e w2 ⟨rfl, rfl⟩
  go_wp2
  go_ret
  exact ⟨rfl, h1, hM⟩
end Go.Proofs.YtlkimfmilccanaaGreat.Fr
/-
  The reader: I64, Text, Raw.
-/
namespace Go.Proofs.YtlkimfmilccanaaGreat.Fr
open Go.RowKit
def num (n : Int) (st : RS) : Nat := be (takeA n st).data.toList
theorem rI64 (p : Nat) (st : RS) (w : World) (h : CR w p st) (z : Int) (hz : IntKind.i64.wrap (num 8 st : Int) = z) : Calls Tryz.prog 131 #[.pointer (some ⟨p, 0, none⟩)] w fun e w' => e = .returned (.int .i64 z) ∧ CR w' p (takeS 8 st) ∧ Mr p w w' := by
  obtain ⟨Z, hZ⟩ : ∃ Z : Int, (num 8 st : Int) = Z := ⟨_, rfl⟩
  have hc : ∀ w : World, (convert 158 2 (.int .u64 Z)).run Tryz.prog w = .ok (.int .i64 z) w := fun w => by
    have h := run_convert_int (P := Tryz.prog) (w := w) 158 2 .u64 Z (by kernel_rfl) (by kernel_rfl)
    rw [show Tryz.prog.intKind 2 = .i64 by kernel_rfl, ← hZ, hz] at h
    rw [← hZ]
    exact h
  have hg := fun (w : World) (h : CR w p st) => get_64 p st w h
  unfold num at hZ
  simp only [hZ] at hg
  have HG := hide hg
  have HC := hide hc
  clear hz hZ hc hg
  go_enter Tryz.func131, Tryz.ntmps131
  go_wp2_with fail
  refine (HG.out _ h).mono ?_
  rintro e w1 ⟨rfl, h1, hM⟩
  go_wp2_with (refine wpList_conv rfl _ _ _ rfl .u64 .i64 Z z (by rfl) (HC.out _) ?_)
  go_ret
  exact ⟨rfl, h1, hM⟩
theorem takeA_size (n : Int) (st : RS) : (takeA n st).size ≤ st.1.size := by
  unfold takeA
  split
  · split
    · exact Nat.zero_le _
    · rw [ByteArray.size_extract]; omega
  · exact Nat.zero_le _
theorem takeS_size (n : Int) (st : RS) : (takeS n st).1.size ≤ st.1.size := by
  unfold takeS
  split
  · split
    · exact Nat.zero_le _
    · simp only; rw [ByteArray.size_extract]; omega
  · exact Nat.le_refl _
theorem stopS_size (c : Int) (st : RS) : (stopS c st).1.size ≤ st.1.size := by
  unfold stopS
  split
  · exact Nat.zero_le _
  · exact Nat.le_refl _
def rawMid (n : Int) (st : RS) : RS := if n < 0 then stopS 1 st else st
def rawS (n : Int) (st : RS) : RS := takeS n (rawMid n st)
def rawA (n : Int) (st : RS) : ByteArray := takeA n (rawMid n st)
-- left out in this seat: rRaw
end Go.Proofs.YtlkimfmilccanaaGreat.Fr
