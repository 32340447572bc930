/-
  The document's put, Room, Frame.
-/
import Derived.Test.YtcpbcnbgcacgnabFFirst
namespace Go.Proofs.Ytcpbcnbgcacgnab
open Go.RowKit C
set_option linter.unusedVariables false
set_option maxHeartbeats 1000000 in
theorem put_any (n : Nat) (hn : n ≤ 8) (X : Int) (x : Nat) (hX : X = (x : Int)) (v : Value) (l : List UInt8) (B : Nat) (w : World) (hB : Bytes w B v l) (hs : B ≤ w.heap.size) (hl : l.length + 8 ≤ 140737488355328) (N : Int) (hN : N = (n : Int)) :
    Calls Try.prog 33 #[v, .int .i64 X, .int .i64 N] w fun e w' => ∃ v', e = .returned v' ∧ Bytes w' B v' (l ++ nb x n) ∧ Mv w v w' v' := by
  have HL := hide hl
  have HX := hide hX
  have HN := hide hn
  have h1 : wrap64 (N - 1) = (n : Int) - 1 := by rw [hN]; unfold wrap64; omega
  have H1 := hide h1
  clear hl hX hN hn h1
  go_enter Try.func33, Try.ntmps33
  go_wp2
  go_loopw [0, 7] (fun b i wr => ∃ k : Nat, k ≤ n ∧ i = .int .i64 ((k : Int) - 1) ∧ Bytes wr B b (l ++ (List.range (n - k)).map (digit x n)) ∧ Mv w v wr b) (fun _ i _ => (intOf i + 1).toNat)
  case atStart => exact ⟨n, Nat.le_refl _, by rw [H1.out], by rw [Nat.sub_self, List.range_zero, List.map_nil, List.append_nil]; exact hB, Mv.refl _ _⟩
  case round =>
    clear hB
    obtain ⟨k, hk, rfl, hB, hM⟩ := hrel
    have hs' : B ≤ wr.heap.size := Nat.le_trans hs hM.gr.size
    have hn8 := HN.out
    by_cases hlt : 0 < k
    · have h1 : (0 : Int) ≤ (k : Int) - 1 := by omega
      have hd : decide ((k : Int) - 1 ≥ 0) = true := by simp; omega
      have hm8 : wrap64 (8 * ((k : Int) - 1)) = ((8 * (k - 1) : Nat) : Int) := by unfold wrap64; omega
      obtain ⟨Z, hZ⟩ : ∃ Z : Int, X / (2 : Int) ^ (8 * (k - 1)) = Z := ⟨_, rfl⟩
      have hc : ∀ w : World, (convert 2 5 (.int .i64 Z)).run Try.prog w = .ok (.int .u8 ((digit x n (n - k)).toNat : Int)) w := fun w => by
        rw [← wrap8_digit x n (n - k) (8 * (k - 1)) (by omega), ← HX.out, hZ]
        exact conv_u8 2 .i64 Z (by kernel_rfl) w
      have HZ := hide hZ
      have HC := hide hc
      have hks : 8 * (k - 1) ≤ 64 := by omega
      have HKS := hide hks
      clear hZ hc
      have hll := HL.out
      obtain ⟨L, hL⟩ : ∃ L, l ++ (List.range (n - k)).map (digit x n) = L := ⟨_, rfl⟩
      have HLL : Hid (L.length + 1 ≤ 140737488355328) := by
        show _ ≤ _
        rw [← hL, List.length_append, List.length_map, List.length_range]; omega
      rw [hL] at hB
      have HE := hide hL
      clear hll hL hks
      go_wp2_with (first | (refine wpList_shr rfl _ _ _ _ rfl .i64 .i64 X _ Z (by rfl) (by rfl) (8 * (k - 1)) (by omega) (by show _ ≤ 64; omega) HZ.out ?_) | (refine wpList_conv rfl _ _ _ rfl .i64 .u8 Z _ (by rfl) (HC.out _) ?_) | (at_builtin; refine wpList_append_byte rfl _ _ rfl B _ L (digit x n (n - k)) _ rfl (by rfl) hB (by rfl) rfl HLL.out hs' ?_; intro g cap w5 hB5 hM5))
      go_roundw
      case rel =>
        refine ⟨k - 1, by omega, by congr 1; omega, ?_, hM.trans hM5⟩
        rw [← HE.out, List.append_assoc, range_snoc, show n - k + 1 = n - (k - 1) by omega] at hB5
        rw [HE.out] at hB5
        exact hB5
      case measure => simp [intOf]; omega
    · have hk0 : k = 0 := by omega
      subst hk0
      go_wp2
      go_ret
      exact ⟨_, rfl, hB, hM⟩
theorem room_any (k : Nat) (w : World) (hk : k ≤ 281474976710656) (K : Int) (hK : K = (k : Int)) (R : Int) (hR : R = (room k : Int)) : Calls Try.prog 22 #[.int .i64 K] w fun e w' => e = .returned (.int .i64 R) ∧ w = w' := by
  have hd : room k = (k + 79) / 64 * 64 := rfl
  have h0 : 0 ≤ K := by omega
  have h1 : wrap64 (16 + K) = 16 + K := by unfold wrap64; omega
  have h2 : wrap64 (16 + K + 64) = 16 + K + 64 := by unfold wrap64; omega
  have h3 : wrap64 (16 + K + 64 - 1) = 16 + K + 64 - 1 := by unfold wrap64; omega
  have h4 : Int.tdiv (16 + K + 64 - 1) 64 = (16 + K + 64 - 1) / 64 := Int.tdiv_eq_ediv_of_nonneg (by omega)
  have h5 : wrap64 ((16 + K + 64 - 1) / 64 * 64) = R := by unfold wrap64; omega
  have HR : Hid (wrap64 (wrap64 ((16 + K + 64 - 1) / 64) * 64) = R) := by
    show _ = _
    unfold wrap64; omega
  clear hd hK hR
  go_enter Try.func22, Try.ntmps22
  go_wp2
  go_ret
  exact ⟨ret_int HR.out, rfl⟩
def lenV : Value → Nat
  | .slice _ n _ => n
  | _ => 0
theorem Bytes.len {w : World} {B n c : Nat} {ad : Option Addr} {l : List UInt8} (h : Bytes w B (.slice ad n c) l) : n = l.length := by
  rcases h.2 with hn | ⟨g, cap, cur, he, _⟩
  · have h1 := hn.1
    have h2 := hn.2
    cases h1
    exact h2.symm
  · cases he
    rfl
theorem Bytes.below {w w' : World} {B : Nat} {v : Value} {l : List UInt8} (h : Bytes w B v l) (hb : Below w.heap.size w w') : Bytes w' B v l := h.same (fun k hk => hb.block k (h.lt k hk))
theorem refSum32 (s : ByteArray) (w : World) (hs : s.size ≤ maxLen) (Z : Int) (hZ : Z = ((on 0#32 s.data.toList).toNat : Int)) : Calls Try.prog 35 #[.string s] w fun e w' => e = .returned (.int .u32 Z) ∧ w' = w := by
  rw [hZ]; exact refSum_any num32 s w hs
theorem refOn32 (x : BitVec 32) (s : ByteArray) (w : World) (hs : s.size ≤ maxLen) (X Z : Int) (hX : X = (x.toNat : Int)) (hZ : Z = ((on x s.data.toList).toNat : Int)) : Calls Try.prog 34 #[.int .u32 X, .string s] w fun e w' => e = .returned (.int .u32 Z) ∧ w' = w := by
  rw [hZ, hX]; exact refOn_any num32 x s w hs
set_option maxHeartbeats 2000000 in
theorem rframe_ok (m : Nat) (p : ByteArray) (w : World) (hm : m < 9223372036854775808) (hp : p.size ≤ 65536) :
    Calls Try.prog 23 #[.int .i64 (m : Int), .string p] w fun e w' => e = .returned (.tuple #[.string ⟨(frameL m p.data.toList).toArray⟩, .int .i64 0]) ∧ Below w.heap.size w w' := by
  have hd : decide ((m : Int) < 0) = false := decide_eq_false (by omega)
  have hd2 : decide ((p.size : Int) > 65536) = false := decide_eq_false (by omega)
  have hd3 : decide ((65536 : Int) < (p.size : Int)) = false := decide_eq_false (by omega)
  have hd4 : decide (65536 < p.size) = false := decide_eq_false (by omega)
  have HP := hide hp
  have HM := hide hm
  obtain ⟨M, hM⟩ : ∃ M : Int, M = (m : Int) := ⟨_, rfl⟩
  have HMM := hide hM
  rw [← hM] at hd ⊢
  obtain ⟨k, hk⟩ : ∃ k : Nat, p.size = k := ⟨_, rfl⟩
  have HK := hide hk
  rw [hk] at hd2 hd3 hd4
  clear hp hm hM
  have HPs : Hid (p.size ≤ maxLen) := by
    show _ ≤ _
    have := HP.out
    unfold maxLen; omega
  go_enter Try.func23, Try.ntmps23
  go_wp2_with fail
  refine (put_any 4 (by decide) (k : Int) k rfl _ [] w.heap.size _ (Bytes.nil _ _) (Nat.le_refl _) (by decide) 4 rfl).mono ?_
  rintro e w1 ⟨v1, rfl, h1, hM1⟩
  obtain ⟨ad1, n1, c1, rfl⟩ := h1.shape
  go_wp2_with fail
  refine (put_any 8 (by decide) M m HMM.out _ _ w.heap.size _ h1 hM1.gr.size (by simp [nb_length]) 8 rfl).mono ?_
  rintro e w2 ⟨v2, rfl, h2, hM2⟩
  obtain ⟨ad2, n2, c2, rfl⟩ := h2.shape
  have hcv := h2.conv
  obtain ⟨Hd, hHd⟩ : ∃ Hd : ByteArray, Hd = ⟨([] ++ nb k 4 ++ nb m 8).toArray⟩ := ⟨_, rfl⟩
  rw [← hHd] at hcv
  have HH : Hid (Hd.data.toList = nb k 4 ++ nb m 8) := by
    show _ = _
    rw [hHd]; simp
  obtain ⟨S1, hS1⟩ : ∃ S1 : Int, S1 = ((on 0#32 Hd.data.toList).toNat : Int) := ⟨_, rfl⟩
  obtain ⟨S2, hS2⟩ : ∃ S2 : Int, S2 = ((on (on 0#32 Hd.data.toList) p.data.toList).toNat : Int) := ⟨_, rfl⟩
  have HS1 := hide hS1
  have HS2 := hide hS2
  have HHs : Hid (Hd.size ≤ maxLen) := by
    show _ ≤ _
    rw [← str_len, HH.out, List.length_append, nb_length, nb_length]; unfold maxLen; omega
  obtain ⟨s2, hs2⟩ : ∃ s2 : Nat, s2 = (on (on 0#32 Hd.data.toList) p.data.toList).toNat := ⟨_, rfl⟩
  have hs2l : s2 < 4294967296 := by rw [hs2]; exact (on (on 0#32 Hd.data.toList) p.data.toList).isLt
  have hc : ∀ w : World, (convert 36 2 (.int .u32 S2)).run Try.prog w = .ok (.int .i64 S2) w := fun w => by
    have h := run_convert_int (P := Try.prog) (w := w) 36 2 .u32 S2 (by kernel_rfl) (by kernel_rfl)
    have e2 : IntKind.i64.wrap S2 = S2 := by rw [IntKind.wrap_i64, hS2, ← hs2]; omega
    rw [show Try.prog.intKind 2 = .i64 by kernel_rfl, e2] at h
    exact h
  have HC := hide hc
  have HS3 : Hid (S2 = (s2 : Int)) := by show _ = _; rw [hS2, hs2]
  have Hs2 := hide hs2
  clear hS1 hS2 hHd hc hs2 hs2l
  go_wp2_with fail
  refine (refSum32 Hd _ HHs.out S1 HS1.out).mono ?_
  rintro e w3 ⟨rfl, hw3⟩
  obtain rfl := hw3
  go_wp2_with fail
  refine (refOn32 _ p _ HPs.out S1 S2 HS1.out HS2.out).mono ?_
  rintro e w4 ⟨rfl, hw4⟩
  obtain rfl := hw4
  clear hcv
  go_wp2_with (first | (refine wpList_conv rfl _ _ _ rfl .u32 .i64 S2 S2 (by rfl) (HC.out _) ?_) | fail)
  refine (put_any 4 (by decide) S2 s2 HS3.out _ _ w.heap.size _ h2 (Nat.le_trans hM1.gr.size hM2.gr.size) (by simp [nb_length]) 4 rfl).mono ?_
  rintro e w5 ⟨v5, rfl, h5, hM5⟩
  obtain ⟨ad5, n5, c5, rfl⟩ := h5.shape
  have q5 : w.heap.size ≤ w5.heap.size := Nat.le_trans (Nat.le_trans hM1.gr.size hM2.gr.size) hM5.gr.size
  obtain ⟨L5, hL5⟩ : ∃ L5 : List UInt8, [] ++ nb k 4 ++ nb m 8 ++ nb s2 4 = L5 := ⟨_, rfl⟩
  rw [hL5] at h5
  have HL5 : Hid (L5 = nb k 4 ++ (nb m 8 ++ nb s2 4)) := by
    show _ = _
    rw [← hL5]; simp
  have HL5l : Hid (L5.length = 16) := by
    show _ = _
    rw [HL5.out]; simp [nb_length]
  have HLL : Hid (L5.length + p.data.toList.length ≤ 140737488355328) := by
    show _ ≤ _
    rw [str_len, HL5l.out]
    have := HP.out
    omega
  clear hL5
  have HB5 : Hid (Below w.heap.size w w5) := by
    show Below _ _ _
    have a1 := hM1.below (B := w.heap.size) (by simp [Value.ownBlock]) (Nat.le_refl _)
    have a2 := hM2.below (B := w.heap.size) h1.block hM1.gr.size
    have a5 := hM5.below (B := w.heap.size) h2.block (Nat.le_trans hM1.gr.size hM2.gr.size)
    exact (a1.trans a2).trans a5
  go_wp2_with (at_builtin; refine wpList_append_src rfl _ _ 9 rfl w.heap.size _ L5 (by rfl) h5 (.string p) p.data.toList (by rfl) (src_text p _) HLL.out q5 ?_; intro ad6 n6 c6 w6 h6 hM6)
  obtain ⟨L6, hL6⟩ : ∃ L6 : List UInt8, L5 ++ p.data.toList = L6 := ⟨_, rfl⟩
  rw [hL6] at h6
  have HL6 := hide hL6
  have HL6l : Hid (L6.length = 16 + k) := by
    show _ = _
    rw [← hL6, List.length_append, HL5l.out, str_len, HK.out]
  have HB6 : Hid (Below w.heap.size w w6) := HB5.out.trans (hM6.below h5.block q5)
  have HO := hide h6
  clear hL6 h1 h2 h5 hM1 hM2 hM5 hM6
  go_loopw [6] (fun v wr => ∃ j : Nat, j ≤ room k - (16 + k) ∧ Bytes wr w.heap.size v (L6 ++ List.replicate j 0) ∧ Below w.heap.size w wr) (fun v _ => room k - lenV v)
  case atStart => exact ⟨0, Nat.zero_le _, by rw [List.replicate_zero, List.append_nil]; exact HO.out, HB6.out⟩
  case round =>
    obtain ⟨j, hj, hBy, hbw⟩ := hrel
    obtain ⟨ad7, n7, c7, rfl⟩ := hBy.shape
    have hn7 := hBy.len
    rw [List.length_append, HL6l.out, List.length_replicate] at hn7
    have HBy := hide hBy
    have HJ := hide hj
    have HBw := hide hbw
    have HN7 := hide hn7
    obtain ⟨R, hR⟩ : ∃ R : Nat, R = room k := ⟨_, rfl⟩
    have HR := hide hR
    have hrg := room_ge k
    by_cases hlt : j < room k - (16 + k)
    · have dd : decide ((n7 : Int) < (R : Int)) = true := decide_eq_true (by omega)
      have dd2 : decide (n7 < R) = true := decide_eq_true (by omega)
      have HLj : Hid ((L6 ++ List.replicate j 0).length + 1 ≤ 140737488355328) := by
        show _ ≤ _
        rw [List.length_append, HL6l.out, List.length_replicate]
        have := HP.out
        have := HK.out
        omega
      have HLt := hide hlt
      clear hBy hj hbw hn7 hR hrg hlt
      go_wp2_with fail
      refine (room_any k _ (by have := HP.out; have := HK.out; omega) (k : Int) rfl (R : Int) (by rw [HR.out])).mono ?_
      rintro e w8 ⟨rfl, hw8⟩
      obtain rfl := hw8
      obtain ⟨Lj, hLj⟩ : ∃ Lj : List UInt8, L6 ++ List.replicate j 0 = Lj := ⟨_, rfl⟩
      rw [hLj] at HBy HLj
      have HBy' : Hid (Bytes wr w.heap.size (.slice ad7 n7 c7) Lj) := HBy
      go_wp2_with (at_builtin; refine wpList_append_byte rfl _ _ rfl w.heap.size _ Lj 0 0 rfl (by rfl) HBy'.out (by rfl) rfl HLj.out HBw.out.size ?_; intro g cap w9 hB9 hM9)
      go_roundw
      case rel =>
        refine ⟨j + 1, by have := HLt.out; omega, ?_, HBw.out.trans (hM9.below HBy'.out.block HBw.out.size)⟩
        rw [← hLj, List.append_assoc] at hB9
        rw [List.replicate_succ', hLj] at *
        exact hB9
      case measure =>
        have h1 := HN7.out
        have h2 := HLt.out
        have h3 := HL6l.out
        show room k - (Lj.length + 1) < room k - n7
        rw [← hLj, List.length_append, List.length_replicate]
        omega
    · have hje : j = room k - (16 + k) := by omega
      have dd : decide ((n7 : Int) < (R : Int)) = false := decide_eq_false (by omega)
      have dd2 : decide (n7 < R) = false := decide_eq_false (by omega)
      have hcv := hBy.conv
      obtain ⟨S, hS⟩ : ∃ S : ByteArray, S = ⟨(L6 ++ List.replicate j 0).toArray⟩ := ⟨_, rfl⟩
      rw [← hS] at hcv
      have HE : Hid (S = ⟨(frameL m p.data.toList).toArray⟩) := by
        show _ = _
        have e1 : s2 = sumL m p.data.toList := by
          rw [Hs2.out]
          unfold sumL
          rw [on_append, HH.out, str_len, HK.out]
        rw [hS, hje, ← HL6.out, HL5.out, e1]
        unfold frameL fillL
        rw [str_len, HK.out]
        simp only [List.append_assoc]
      clear hBy hj hbw hn7 hR hrg hlt hje hS
      go_wp2_with fail
      refine (room_any k _ (by have := HP.out; have := HK.out; omega) (k : Int) rfl (R : Int) (by rw [HR.out])).mono ?_
      rintro e w8 ⟨rfl, hw8⟩
      obtain rfl := hw8
      go_wp2
      go_ret2
      refine ⟨?_, HBw.out⟩
      rw [← HE.out]
      rfl
set_option maxHeartbeats 1000000 in
theorem rframe_any (X : Int) (p : ByteArray) (w : World) (hX : X < 9223372036854775808) :
    Calls Try.prog 23 #[.int .i64 X, .string p] w fun e w' => e = .returned (.tuple #[.string (frameS X p), .int .i64 (frameE X p)]) ∧ Below w.heap.size w w' := by
  by_cases h0 : X < 0
  · have e1 : frameS X p = nil8 := by unfold frameS; rw [if_pos h0]
    have e2 : frameE X p = 1 := by unfold frameE; rw [if_pos h0]
    rw [e1, e2]
    have hd : decide (X < 0) = true := decide_eq_true h0
    clear e1 e2 h0 hX
    go_enter Try.func23, Try.ntmps23
    go_wp2
    go_ret2
    exact ⟨rfl, Below.refl _ _⟩
  · by_cases hp : 65536 < p.size
    · have e1 : frameS X p = nil8 := by unfold frameS; rw [if_neg h0, if_pos hp]
      have e2 : frameE X p = 3 := by unfold frameE; rw [if_neg h0, if_pos hp]
      rw [e1, e2]
      have hd : decide (X < 0) = false := decide_eq_false h0
      have hd2 : decide ((p.size : Int) > 65536) = true := decide_eq_true (by omega)
      have hd3 : decide ((65536 : Int) < (p.size : Int)) = true := decide_eq_true (by omega)
      have hd4 : decide (65536 < p.size) = true := decide_eq_true hp
      clear e1 e2 h0 hX hp
      go_enter Try.func23, Try.ntmps23
      go_wp2
      go_ret2
      exact ⟨rfl, Below.refl _ _⟩
    · obtain ⟨m, rfl⟩ := Int.eq_ofNat_of_zero_le (show 0 ≤ X by omega)
      have e1 : frameS (m : Int) p = ⟨(frameL m p.data.toList).toArray⟩ := by unfold frameS; rw [if_neg h0, if_neg hp]; rfl
      have e2 : frameE (m : Int) p = 0 := by unfold frameE; rw [if_neg h0, if_neg hp]
      rw [e1, e2]
      exact rframe_ok m p w (by omega) (by omega)
end Go.Proofs.Ytcpbcnbgcacgnab
