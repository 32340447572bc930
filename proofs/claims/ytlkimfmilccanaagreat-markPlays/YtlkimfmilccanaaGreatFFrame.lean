import Derived.Test.YtlkimfmilccanaaGreatCurReader
import Derived.Shelf.Strings.Repeat
import Derived.Shelf.SlGeneric
import Derived.Test.YtlkimfmilccanaaGreatProg
import Derived.Test.YtlkimfmilccanaaGreatFMath
import Derived.Test.YtlkimfmilccanaaGreatCurLay
/-
  read and get of each kind; U8, U16, U32, U64, I64 of the reader.
-/
namespace Go.Proofs.YtlkimfmilccanaaGreat.Fr
open Go.RowKit
def vAt (l : List UInt8) (i : Nat) : Nat := be (l.take i) * 256 ^ (l.length - i)
def zAt (l : List UInt8) (i : Nat) : Nat := (byteAt l i).toNat * 256 ^ (l.length - 1 - i)
theorem vAt_zero (l : List UInt8) : vAt l 0 = 0 := by simp [vAt, be]
theorem vAt_all (l : List UInt8) : vAt l l.length = be l := by simp [vAt]
theorem vAt_succ (l : List UInt8) (i : Nat) (hi : i < l.length) : vAt l (i + 1) = vAt l i + zAt l i := by
  unfold vAt zAt
  have e : l.take (i + 1) = l.take i ++ [byteAt l i] := by
    rw [List.take_succ_eq_append_getElem hi]; unfold byteAt; rw [List.getD_eq_getElem?_getD, List.getElem?_eq_getElem hi]; rfl
  rw [e, be_snoc, show l.length - (i + 1) = l.length - 1 - i by omega, show l.length - i = (l.length - 1 - i) + 1 by omega, Nat.pow_succ, Nat.add_mul, Nat.mul_assoc, Nat.mul_comm 256]
theorem vAt_lt (l : List UInt8) (i : Nat) (hi : i ≤ l.length) : vAt l i < 256 ^ l.length := by
  unfold vAt
  have h := be_lt (l.take i)
  rw [List.length_take, Nat.min_eq_left hi] at h
  have h2 : be (l.take i) * 256 ^ (l.length - i) < 256 ^ i * 256 ^ (l.length - i) := Nat.mul_lt_mul_of_pos_right h (Nat.pow_pos (by decide))
  rwa [← Nat.pow_add, show i + (l.length - i) = l.length by omega] at h2
theorem zAt_lt (l : List UInt8) (i : Nat) (hi : i < l.length) : zAt l i < 256 ^ (l.length - i) := by
  unfold zAt
  have h := (byteAt l i).toNat_lt
  rw [show l.length - i = (l.length - 1 - i) + 1 by omega, Nat.pow_succ, Nat.mul_comm (256 ^ _) 256]
  exact Nat.mul_lt_mul_of_pos_right h (Nat.pow_pos (by decide))
theorem cast_pow (m : Nat) : ((256 ^ m : Nat) : Int) = (2 : Int) ^ (8 * m) := by rw [← pow8]; simp
theorem read_step (k : IntKind) (N : Nat) (hN : 8 * N ≤ k.bits) (hk : ∀ n : Int, 0 ≤ n → n < (2 : Int) ^ (8 * N) → k.wrap n = n) (l : List UInt8) (hl : l.length ≤ N) (i : Nat) (hi : i < l.length) :
    k.wrap (((byteAt l i).toNat : Int) * (2 : Int) ^ (8 * (l.length - 1 - i))) = (zAt l i : Int) ∧ bits .or k (vAt l i : Int) (zAt l i : Int) = (vAt l (i + 1) : Int) := by
  have hz := zAt_lt l i hi
  have hv := vAt_lt l i (by omega)
  have hv2 : (vAt l i : Int) < (2 : Int) ^ (8 * N) := by
    rw [← cast_pow]
    have : 256 ^ l.length ≤ 256 ^ N := Nat.pow_le_pow_right (by decide) hl
    omega
  have hz2 : (zAt l i : Int) < (2 : Int) ^ (8 * (l.length - i)) := by rw [← cast_pow]; omega
  have hz3 : (zAt l i : Int) < (2 : Int) ^ (8 * N) := by
    rw [← cast_pow]
    have : 256 ^ (l.length - i) ≤ 256 ^ N := Nat.pow_le_pow_right (by decide) (by omega)
    omega
  constructor
  · have e : ((byteAt l i).toNat : Int) * (2 : Int) ^ (8 * (l.length - 1 - i)) = (zAt l i : Int) := by
      rw [← cast_pow]; unfold zAt; rw [Int.natCast_mul]
    rw [e]
    exact hk _ (by omega) hz3
  · rw [bits_join k (8 * N) hN hk (8 * (l.length - i)) _ _ (by omega) ?_ hv2 (by omega) hz2 hz3, vAt_succ l i hi, Int.natCast_add]
    rw [← cast_pow]
    unfold vAt
    rw [Int.natCast_mul]
    exact Int.mul_emod_left _ _
theorem wrap_in (k : IntKind) (N : Nat) (hs : k.signed = false) (hb : k.bits = 8 * N) : ∀ n : Int, 0 ≤ n → n < (2 : Int) ^ (8 * N) → k.wrap n = n := fun n h0 h1 => by
  simp only [IntKind.wrap, hs, hb]
  simp
  exact Int.emod_eq_of_lt h0 h1
theorem index_text (s : ByteArray) (k : Nat) (hk : k < s.size) (w : World) : (Instr.index 9 (.string s) (.int .i64 (k : Int))).run Tryz.prog w = .ok (.int .u8 ((byteAt s.data.toList k).toNat : Int)) w := by
  have h := run_index_string (P := Tryz.prog) w 9 s .i64 (k : Int) Tryz.underlying9
  have e : byteAt s.data.toList k = s[k] := by
    unfold byteAt
    rw [List.getD_eq_getElem?_getD, Array.getElem?_toList, Array.getElem?_eq_getElem (by exact hk)]
    rfl
  rw [h, e]
  simp [hk]

theorem takeA_le (n : Nat) (st : RS) : (takeA n st).size ≤ n := by
  unfold takeA
  split
  · split
    · exact Nat.zero_le _
    · rw [ByteArray.size_extract]; simp; omega
  · exact Nat.zero_le _
-- left out in this seat: read_32
-- left out in this seat: get_32
-- left out in this seat: rU32
set_option maxHeartbeats 1000000 in
theorem read_64 (s : ByteArray) (w : World) (hs : s.size ≤ 8) : Calls Tryz.prog 167 #[.string s] w fun e w' => e = .returned (.int .u64 (be s.data.toList : Int)) ∧ w = w' := by
  obtain ⟨V, hV⟩ : ∃ V : Nat → Int, ∀ i, V i = (vAt s.data.toList i : Int) := ⟨_, fun _ => rfl⟩
  have hstep := fun (i : Nat) (hi : i < s.data.toList.length) => read_step .u64 8 (by decide) (wrap_in .u64 8 rfl rfl) s.data.toList (by rw [str_len]; exact hs) i hi
  have HST := hide hstep
  have h0 : V 0 = 0 := by rw [hV, vAt_zero]; rfl
  have h1 : (be s.data.toList : Int) = V s.size := by rw [hV, ← str_len, vAt_all]
  rw [h1]
  have HV := hide hV
  have H0 := hide h0.symm
  clear hV hstep h0 h1
  go_enter Tryz.func167, Tryz.ntmps167
  go_wp2
  go_loop [3, 7] (fun v i => ∃ k : Nat, k ≤ s.size ∧ i = .int .i64 (k : Int) ∧ v = .int .u64 (V k)) (fun _ i => s.size - (intOf i).toNat)
  case atStart => exact ⟨0, Nat.zero_le _, rfl, by rw [← H0.out]⟩
  case round =>
    obtain ⟨k, hk, rfl, rfl⟩ := hrel
    by_cases hlt : k < s.size
    · have hd : decide ((k : Int) < (s.size : Int)) = true := decide_eq_true (by omega)
      obtain ⟨c, hc⟩ : ∃ c : Int, ((byteAt s.data.toList k).toNat : Int) = c := ⟨_, rfl⟩
      obtain ⟨Z, hZ⟩ : ∃ Z : Int, (zAt s.data.toList k : Int) = Z := ⟨_, rfl⟩
      have HI : Hid (∀ w : World, (Instr.index 9 (.string s) (.int .i64 (k : Int))).run Tryz.prog w = .ok (.int .u8 c) w) := fun w => by rw [← hc]; exact index_text s k hlt w
      have hst := HST.out k (by rw [str_len]; exact hlt)
      rw [hc, hZ, ← HV.out, ← HV.out, str_len] at hst
      have HS1 := hide hst.1
      have HS2 := hide hst.2
      clear hst
      have hc2 : ∀ w : World, (convert 5 158 (.int .u8 c)).run Tryz.prog w = .ok (.int .u64 c) w := fun w => by
        have h := run_convert_int (P := Tryz.prog) (w := w) 5 158 .u8 c (by kernel_rfl) (by kernel_rfl)
        have e2 : IntKind.u64.wrap c = c := by
          have := (byteAt s.data.toList k).toNat_lt
          rw [← hc]; simp [IntKind.wrap, IntKind.bits, IntKind.signed]; omega
        rw [show Tryz.prog.intKind 158 = .u64 by kernel_rfl, e2] at h
        exact h
      have HC := hide hc2
      clear hc2
      have HCC := hide hc
      have HZZ := hide hZ
      clear hc hZ
      go_wp2_with (first | (refine wpList_index_lit rfl _ _ _ rfl (.int .u8 c) ?_ ?_; · exact HI.out _) | (refine wpList_conv rfl _ _ _ rfl .u8 .u64 c c (by rfl) (HC.out _) ?_) | (refine wpList_shl rfl _ _ _ _ rfl .u64 .i64 c _ Z (by rfl) (by rfl) (8 * (s.size - 1 - k)) (by omega) (by show _ ≤ 64; omega) HS1.out ?_) | (refine wpList_or rfl _ _ _ _ rfl .u64 (V k) Z _ (by rfl) (by rfl) HS2.out ?_))
      go_round
      case rel => exact ⟨k + 1, by omega, by go_num, rfl⟩
      case measure => simp [intOf]; omega
    · have e : k = s.size := by omega
      subst e
      have hd : decide ((s.size : Int) < (s.size : Int)) = false := by simp
      go_wp2
      go_ret
      exact ⟨rfl, rfl⟩
theorem get_64 (p : Nat) (st : RS) (w : World) (h : CR w p st) : Calls Tryz.prog 150 #[.pointer (some ⟨p, 0, none⟩)] w fun e w' => e = .returned (.int .u64 (be (takeA 8 st).data.toList : Int)) ∧ CR w' p (takeS 8 st) ∧ Mr p w w' := by
  go_enter Tryz.func150, Tryz.ntmps150
  go_wp2_with fail
  refine (width_64 _).mono ?_
  rintro e w1 ⟨rfl, rfl⟩
  go_wp2_with fail
  refine (rTake 8 p st _ h (.inr (by decide))).mono ?_
  rintro e w1 ⟨rfl, h1, hM⟩
  go_wp2_with fail
  refine (read_64 (takeA 8 st) _ (takeA_le 8 st)).mono ?_
  rintro e w2 ⟨rfl, rfl⟩
  go_wp2
  go_ret
  exact ⟨rfl, h1, hM⟩
end Go.Proofs.YtlkimfmilccanaaGreat.Fr
/-
  The reader: I64, Text, Raw.
-/
namespace Go.Proofs.YtlkimfmilccanaaGreat.Fr
open Go.RowKit
def num (n : Int) (st : RS) : Nat := be (takeA n st).data.toList
theorem rI64 (p : Nat) (st : RS) (w : World) (h : CR w p st) (z : Int) (hz : IntKind.i64.wrap (num 8 st : Int) = z) : Calls Tryz.prog 131 #[.pointer (some ⟨p, 0, none⟩)] w fun e w' => e = .returned (.int .i64 z) ∧ CR w' p (takeS 8 st) ∧ Mr p w w' := by
  obtain ⟨Z, hZ⟩ : ∃ Z : Int, (num 8 st : Int) = Z := ⟨_, rfl⟩
  have hc : ∀ w : World, (convert 158 2 (.int .u64 Z)).run Tryz.prog w = .ok (.int .i64 z) w := fun w => by
    have h := run_convert_int (P := Tryz.prog) (w := w) 158 2 .u64 Z (by kernel_rfl) (by kernel_rfl)
    rw [show Tryz.prog.intKind 2 = .i64 by kernel_rfl, ← hZ, hz] at h
    rw [← hZ]
    exact h
  have hg := fun (w : World) (h : CR w p st) => get_64 p st w h
  unfold num at hZ
  simp only [hZ] at hg
  have HG := hide hg
  have HC := hide hc
  clear hz hZ hc hg
  go_enter Tryz.func131, Tryz.ntmps131
  go_wp2_with fail
  refine (HG.out _ h).mono ?_
  rintro e w1 ⟨rfl, h1, hM⟩
  go_wp2_with (refine wpList_conv rfl _ _ _ rfl .u64 .i64 Z z (by rfl) (HC.out _) ?_)
  go_ret
  exact ⟨rfl, h1, hM⟩
theorem takeA_size (n : Int) (st : RS) : (takeA n st).size ≤ st.1.size := by
  unfold takeA
  split
  · split
    · exact Nat.zero_le _
    · rw [ByteArray.size_extract]; omega
  · exact Nat.zero_le _
theorem takeS_size (n : Int) (st : RS) : (takeS n st).1.size ≤ st.1.size := by
  unfold takeS
  split
  · split
    · exact Nat.zero_le _
    · simp only; rw [ByteArray.size_extract]; omega
  · exact Nat.le_refl _
theorem stopS_size (c : Int) (st : RS) : (stopS c st).1.size ≤ st.1.size := by
  unfold stopS
  split
  · exact Nat.zero_le _
  · exact Nat.le_refl _
def rawMid (n : Int) (st : RS) : RS := if n < 0 then stopS 1 st else st
def rawS (n : Int) (st : RS) : RS := takeS n (rawMid n st)
def rawA (n : Int) (st : RS) : ByteArray := takeA n (rawMid n st)
-- left out in this seat: rRaw
end Go.Proofs.YtlkimfmilccanaaGreat.Fr
/-
  DERIVED: THE SHELF's CONTRACTS AT THIS DUMP, IN PLAIN WORDS (tools/lay-plain.mjs out of 'YtlkimfmilccanaaGreatShelfF0.lean', which tools/lay-shelf.mjs wrote): THE SAME DECLARATIONS UNDER THE SAME NAMES: 'import', 'namespace', 'open', 'def', 'theorem' AND NOTHING ELSE: no command of the shelf's: FOR A HAND-IN. Each laying: the table of numbers ('.._ren') and one theorem, a field a fact of the dump's own or the kernel's comparison; each contract: ONE APPLICATION.
-/
namespace Go.Proofs
open Go.Shelf
def Tryz.laysRepeat_ren : Go.Shelf.Ren := ⟨fun | 105 => 75 | 212 => 104 | 99 => 105 | 165 => 106 | 166 => 107 | 170 => 108 | 169 => 109 | 263 => 135 | 264 => 136 | 206 => 137 | 240 => 138 | 241 => 139 | 276 => 154 | 277 => 155 | n => n, fun | 9 => 9 | 3 => 3 | 4 => 4 | 20 => 20 | 0 => 0 | 46 => 87 | 109 => 160 | 5 => 5 | 72 => 165 | 76 => 168 | 51 => 88 | 146 => 193 | 53 => 158 | 148 => 195 | 70 => 163 | 37 => 42 | 75 => 167 | 127 => 173 | 164 => 210 | 80 => 170 | n => n, fun | n => n⟩
theorem Tryz.laysRepeat : Go.Proofs.Lays.n105 Tryz.prog Tryz.laysRepeat_ren := {
  mixed := by kernel_rfl
  f99 := Tryz.func105.trans (congrArg some (by kernel_rfl))
  f105 := Tryz.func75.trans (congrArg some (by kernel_rfl))
  f165 := Tryz.func106.trans (congrArg some (by kernel_rfl))
  f166 := Tryz.func107.trans (congrArg some (by kernel_rfl))
  f169 := Tryz.func109.trans (congrArg some (by kernel_rfl))
  f170 := Tryz.func108.trans (congrArg some (by kernel_rfl))
  f206 := Tryz.func137.trans (congrArg some (by kernel_rfl))
  f212 := Tryz.func104.trans (congrArg some (by kernel_rfl))
  f240 := Tryz.func138.trans (congrArg some (by kernel_rfl))
  f241 := Tryz.func139.trans (congrArg some (by kernel_rfl))
  f263 := Tryz.func135.trans (congrArg some (by kernel_rfl))
  f264 := Tryz.func136.trans (congrArg some (by kernel_rfl))
  f276 := Tryz.func154.trans (congrArg some (by kernel_rfl))
  f277 := Tryz.func155.trans (congrArg some (by kernel_rfl))
  t0 := Tryz.underlying0
  a0 := Tryz.isAgg0
  z0 := Tryz.sizeOf0
  v0 := Tryz.zeroValue0
  t3 := Tryz.underlying3
  a3 := Tryz.isAgg3
  z3 := Tryz.sizeOf3
  v3 := Tryz.zeroValue3
  t4 := Tryz.underlying4
  a4 := Tryz.isAgg4
  z4 := Tryz.sizeOf4
  v4 := Tryz.zeroValue4
  t5 := Tryz.underlying5
  a5 := Tryz.isAgg5
  z5 := Tryz.sizeOf5
  v5 := Tryz.zeroValue5
  t9 := Tryz.underlying9
  a9 := Tryz.isAgg9
  z9 := Tryz.sizeOf9
  v9 := Tryz.zeroValue9
  t20 := Tryz.underlying20
  a20 := Tryz.isAgg20
  z20 := Tryz.sizeOf20
  v20 := Tryz.zeroValue20
  t37 := Tryz.underlying42
  a37 := Tryz.isAgg42
  z37 := Tryz.sizeOf42
  v37 := Tryz.zeroValue42
  t46 := Tryz.underlying87
  a46 := Tryz.isAgg87
  z46 := Tryz.sizeOf87
  v46 := Tryz.zeroValue87
  t51 := Tryz.underlying88
  a51 := Tryz.isAgg88
  z51 := Tryz.sizeOf88
  v51 := Tryz.zeroValue88
  t53 := Tryz.underlying158
  a53 := Tryz.isAgg158
  z53 := Tryz.sizeOf158
  v53 := Tryz.zeroValue158
  t70 := Tryz.underlying163
  a70 := Tryz.isAgg163
  z70 := Tryz.sizeOf163
  v70 := Tryz.zeroValue163
  t72 := Tryz.underlying165
  a72 := Tryz.isAgg165
  z72 := Tryz.sizeOf165
  v72 := Tryz.zeroValue165
  t75 := Tryz.underlying167
  a75 := Tryz.isAgg167
  z75 := Tryz.sizeOf167
  v75 := Tryz.zeroValue167
  t76 := Tryz.underlying168
  a76 := Tryz.isAgg168
  z76 := Tryz.sizeOf168
  v76 := Tryz.zeroValue168
  t109 := Tryz.underlying160
  a109 := Tryz.isAgg160
  z109 := Tryz.sizeOf160
  v109 := Tryz.zeroValue160
  t127 := Tryz.underlying173
  a127 := Tryz.isAgg173
  z127 := Tryz.sizeOf173
  v127 := Tryz.zeroValue173
  t146 := Tryz.underlying193
  a146 := Tryz.isAgg193
  z146 := Tryz.sizeOf193
  v146 := Tryz.zeroValue193
  t148 := Tryz.underlying195
  a148 := Tryz.isAgg195
  z148 := Tryz.sizeOf195
  v148 := Tryz.zeroValue195
  t164 := Tryz.underlying210
  a164 := Tryz.isAgg210
  z164 := Tryz.sizeOf210
  v164 := Tryz.zeroValue210 }
theorem Tryz.Builder_Extra_105 : Builder.Extra Tryz.prog Tryz.laysRepeat_ren := {
  sizeBuilder := by kernel_rfl
  liesBuilder := by kernel_rfl
  t5 := Tryz.underlying5
  a5 := Tryz.isAgg5
  z5 := Tryz.sizeOf5
  v5 := Tryz.zeroValue5
  infoByte := by kernel_rfl
  cellsByte := by kernel_rfl
  sizeByte := by kernel_rfl
  neB5 := by decide }
end Go.Proofs
/-
  The program's fill.
-/
namespace Go.Proofs.YtlkimfmilccanaaGreat.Fr
open Go.RowKit C
theorem repeat_any (k : Nat) (w : World) (hk : k ≤ 64) (K : Int) (hK : K = (k : Int)) : Calls Tryz.prog 75 #[.string { data := #[0] }, .int .i64 K] w fun e w' => e = .returned (.string ⟨(List.replicate k 0).toArray⟩) ∧ Below w.heap.size w w' := by
  have h := Any.strings_Repeat Tryz.laysRepeat Tryz.Builder_Extra_105 { data := #[0] } k w (by omega) (by show 1 * k ≤ _; omega)
  have e : Lib.repeatL (ByteArray.mk #[0]).data.toList k = List.replicate k 0 := by
    have := Lib.repeatL_replicate 0 1 k
    rw [Nat.mul_one] at this
    exact this
  rw [e] at h
  rw [hK]
  exact h
-- left out in this seat: fill_any
end Go.Proofs.YtlkimfmilccanaaGreat.Fr
/-
  The program's Frame.
-/
namespace Go.Proofs.YtlkimfmilccanaaGreat.Fr
open Go.RowKit C
def num32 : Num := ⟨fun b => (b.toNat : Int), fun _ => rfl⟩
theorem crcSum_any (s : ByteArray) (w : World) (hs : s.size ≤ maxLen) (Z : Int) (hZ : Z = ((on 0#32 s.data.toList).toNat : Int)) : Calls Tryz.prog 36 #[.string s] w fun e w' => e = .returned (.int .u32 Z) ∧ Below w.heap.size w w' := by
  rw [hZ]; exact sum_any num32 s w hs
theorem crcOn_any (x : BitVec 32) (s : ByteArray) (w : World) (hs : s.size ≤ maxLen) (X Z : Int) (hX : X = (x.toNat : Int)) (hZ : Z = ((on x s.data.toList).toNat : Int)) : Calls Tryz.prog 69 #[.int .u32 X, .string s] w fun e w' => e = .returned (.int .u32 Z) ∧ Below w.heap.size w w' := by
  rw [hZ, hX]; exact on_any num32 x s w hs
def frameE (X : Int) (p : ByteArray) : Int := if X < 0 then 1 else if 65536 < p.size then 3 else 0
def frameS (X : Int) (p : ByteArray) : ByteArray := if X < 0 then nil8 else if 65536 < p.size then nil8 else ⟨(frameL X.toNat p.data.toList).toArray⟩
-- left out in this seat: wLen_k
theorem wOut_l (p : Nat) (v : Value) (l : List UInt8) (w : World) (h : CW w p v (some l)) (S : ByteArray) (hS : S = ⟨l.toArray⟩) :
    Calls Tryz.prog 72 #[.pointer (some ⟨p, 0, none⟩)] w fun e w' => e = .returned (.tuple #[.string S, .int .i64 0]) ∧ Below w.heap.size w w' := by
  rw [hS]; exact wOut p v (some l) w h
-- left out in this seat: fill_k
theorem Mw.sz {p : Nat} {w w' : World} {v v' : Value} (h : Mw p w v w' v') : w.heap.size ≤ w'.heap.size := h.size
-- left out in this seat: frame_ok
-- left out in this seat: frame_any
end Go.Proofs.YtlkimfmilccanaaGreat.Fr
