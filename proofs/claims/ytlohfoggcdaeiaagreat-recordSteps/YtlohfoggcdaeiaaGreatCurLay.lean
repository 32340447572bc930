/-
  lay: a number's bytes behind others, of each kind.
-/
import Derived.Test.YtlohfoggcdaeiaaGreatCurNum
import Derived.Test.YtlohfoggcdaeiaaGreatCurNum
namespace Go.Proofs.YtlohfoggcdaeiaaGreat.Cu
set_option maxRecDepth 20000
open Go.RowKit
theorem wrap8_digit (x n j m : Nat) (hm : 8 * (n - 1 - j) = m) : IntKind.u8.wrap ((x : Int) / (2 : Int) ^ m) = ((digit x n j).toNat : Int) := by
  unfold digit
  rw [hm, toNat_ofNat8]
  have e : (x : Int) / (2 : Int) ^ m = ((x / 2 ^ m : Nat) : Int) := by simp
  rw [e]
  simp [IntKind.wrap, IntKind.bits, IntKind.signed]
theorem conv_u8 (t : TypeId) (k : IntKind) (Z : Int) (ht : (Tryz.prog.underlying t).isSome = true) (w : World) : (convert t 5 (.int k Z)).run Tryz.prog w = .ok (.int .u8 (IntKind.u8.wrap Z)) w := by
  have h := run_convert_int (P := Tryz.prog) (w := w) t 5 k Z ht (by kernel_rfl)
  rw [show Tryz.prog.intKind 5 = .u8 by kernel_rfl] at h
  exact h
set_option maxHeartbeats 1000000 in
theorem lay_8 (X : Int) (x : Nat) (hx : x < 256) (hX : X = (x : Int)) (v : Value) (l : List UInt8) (B : Nat) (w : World) (hB : Bytes w B v l) (hs : B ≤ w.heap.size) (hl : l.length + 1 ≤ 140737488355328) :
    Calls Tryz.prog 79 #[v, .int .u8 X] w fun e w' => ∃ v', e = .returned v' ∧ Bytes w' B v' (l ++ nb x 1) ∧ Mv w v w' v' := by
  have HL := hide hl
  have HX := hide hX
  clear hl hX
  go_enter Tryz.func79, Tryz.ntmps79
  go_wp2_with fail
  refine (width_8 _).mono ?_
  rintro e w1 ⟨rfl, rfl⟩
  go_wp2
  go_loopw [0, 5] (fun b i wr => ∃ k : Nat, k ≤ 1 ∧ i = .int .i64 ((k : Int) - 1) ∧ Bytes wr B b (l ++ (List.range (1 - k)).map (digit x 1)) ∧ Mv w v wr b) (fun _ i _ => (intOf i + 1).toNat)
  case atStart => exact ⟨1, by omega, rfl, by rw [Nat.sub_self, List.range_zero, List.map_nil, List.append_nil]; exact hB, Mv.refl _ _⟩
  case round =>
    clear hB
    obtain ⟨k, hk, rfl, hB, hM⟩ := hrel
    have hs' : B ≤ wr.heap.size := Nat.le_trans hs hM.gr.size
    by_cases hlt : 0 < k
    · have h1 : (0 : Int) ≤ (k : Int) - 1 := by omega
      have hd : decide ((k : Int) - 1 ≥ 0) = true := by simp; omega
      obtain ⟨Z, hZ⟩ : ∃ Z : Int, ((digit x 1 (1 - k)).toNat : Int) = Z := ⟨_, rfl⟩
      have HZ : Hid (X / (2 : Int) ^ (8 * (k - 1)) = Z) := by
        show _ = _
        rw [← hZ, HX.out]
        unfold digit
        rw [toNat_ofNat8, show 1 - 1 - (1 - k) = 0 by omega, show k - 1 = 0 by omega]
        simp
        omega
      have HD := hide hZ.symm
      clear hZ
      have hll := HL.out
      obtain ⟨L, hL⟩ : ∃ L, l ++ (List.range (1 - k)).map (digit x 1) = L := ⟨_, rfl⟩
      have HLL : Hid (L.length + 1 ≤ 140737488355328) := by
        show _ ≤ _
        rw [← hL, List.length_append, List.length_map, List.length_range]; omega
      rw [hL] at hB
      have HE := hide hL
      clear hll hL
      go_wp2_with (first | (refine wpList_shr rfl _ _ _ _ rfl .u8 .i64 X _ Z (by rfl) (by rfl) (8 * (k - 1)) (by omega) (by show _ ≤ 8; omega) HZ.out ?_) | (at_builtin; refine wpList_append_byte rfl _ _ rfl B _ L (digit x 1 (1 - k)) Z HD.out (by rfl) hB (by rfl) rfl HLL.out hs' ?_; intro g cap w5 hB5 hM5))
      go_roundw
      case rel =>
        refine ⟨k - 1, by omega, by congr 1; omega, ?_, hM.trans hM5⟩
        rw [← HE.out, List.append_assoc, range_snoc, show 1 - k + 1 = 1 - (k - 1) by omega] at hB5
        rw [HE.out] at hB5
        exact hB5
      case measure => simp [intOf]; omega
    · have hk0 : k = 0 := by omega
      subst hk0
      go_wp2
      go_ret
      exact ⟨_, rfl, hB, hM⟩
set_option maxHeartbeats 1000000 in
theorem lay_16 (X : Int) (x : Nat) (hX : X = (x : Int)) (v : Value) (l : List UInt8) (B : Nat) (w : World) (hB : Bytes w B v l) (hs : B ≤ w.heap.size) (hl : l.length + 2 ≤ 140737488355328) :
    Calls Tryz.prog 151 #[v, .int .u16 X] w fun e w' => ∃ v', e = .returned v' ∧ Bytes w' B v' (l ++ nb x 2) ∧ Mv w v w' v' := by
  have HL := hide hl
  have HX := hide hX
  clear hl hX
  go_enter Tryz.func151, Tryz.ntmps151
  go_wp2_with fail
  refine (width_16 _).mono ?_
  rintro e w1 ⟨rfl, rfl⟩
  go_wp2
  go_loopw [0, 5] (fun b i wr => ∃ k : Nat, k ≤ 2 ∧ i = .int .i64 ((k : Int) - 1) ∧ Bytes wr B b (l ++ (List.range (2 - k)).map (digit x 2)) ∧ Mv w v wr b) (fun _ i _ => (intOf i + 1).toNat)
  case atStart => exact ⟨2, by omega, rfl, by rw [Nat.sub_self, List.range_zero, List.map_nil, List.append_nil]; exact hB, Mv.refl _ _⟩
  case round =>
    clear hB
    obtain ⟨k, hk, rfl, hB, hM⟩ := hrel
    have hs' : B ≤ wr.heap.size := Nat.le_trans hs hM.gr.size
    by_cases hlt : 0 < k
    · have h1 : (0 : Int) ≤ (k : Int) - 1 := by omega
      have hd : decide ((k : Int) - 1 ≥ 0) = true := by simp; omega
      obtain ⟨Z, hZ⟩ : ∃ Z : Int, X / (2 : Int) ^ (8 * (k - 1)) = Z := ⟨_, rfl⟩
      have hc : ∀ w : World, (convert 115 5 (.int .u16 Z)).run Tryz.prog w = .ok (.int .u8 ((digit x 2 (2 - k)).toNat : Int)) w := fun w => by
        rw [← wrap8_digit x 2 (2 - k) (8 * (k - 1)) (by omega), ← HX.out, hZ]
        exact conv_u8 115 .u16 Z (by kernel_rfl) w
      have HZ := hide hZ
      have HC := hide hc
      clear hZ hc
      have hll := HL.out
      obtain ⟨L, hL⟩ : ∃ L, l ++ (List.range (2 - k)).map (digit x 2) = L := ⟨_, rfl⟩
      have HLL : Hid (L.length + 1 ≤ 140737488355328) := by
        show _ ≤ _
        rw [← hL, List.length_append, List.length_map, List.length_range]; omega
      rw [hL] at hB
      have HE := hide hL
      clear hll hL
      go_wp2_with (first | (refine wpList_shr rfl _ _ _ _ rfl .u16 .i64 X _ Z (by rfl) (by rfl) (8 * (k - 1)) (by omega) (by show _ ≤ 16; omega) HZ.out ?_) | (refine wpList_conv rfl _ _ _ rfl .u16 .u8 Z _ (by rfl) (HC.out _) ?_) | (at_builtin; refine wpList_append_byte rfl _ _ rfl B _ L (digit x 2 (2 - k)) _ rfl (by rfl) hB (by rfl) rfl HLL.out hs' ?_; intro g cap w5 hB5 hM5))
      go_roundw
      case rel =>
        refine ⟨k - 1, by omega, by congr 1; omega, ?_, hM.trans hM5⟩
        rw [← HE.out, List.append_assoc, range_snoc, show 2 - k + 1 = 2 - (k - 1) by omega] at hB5
        rw [HE.out] at hB5
        exact hB5
      case measure => simp [intOf]; omega
    · have hk0 : k = 0 := by omega
      subst hk0
      go_wp2
      go_ret
      exact ⟨_, rfl, hB, hM⟩
-- left out in this seat: lay_32
set_option maxHeartbeats 1000000 in
theorem lay_64 (X : Int) (x : Nat) (hX : X = (x : Int)) (v : Value) (l : List UInt8) (B : Nat) (w : World) (hB : Bytes w B v l) (hs : B ≤ w.heap.size) (hl : l.length + 8 ≤ 140737488355328) :
    Calls Tryz.prog 149 #[v, .int .u64 X] w fun e w' => ∃ v', e = .returned v' ∧ Bytes w' B v' (l ++ nb x 8) ∧ Mv w v w' v' := by
  have HL := hide hl
  have HX := hide hX
  clear hl hX
  go_enter Tryz.func149, Tryz.ntmps149
  go_wp2_with fail
  refine (width_64 _).mono ?_
  rintro e w1 ⟨rfl, rfl⟩
  go_wp2
  go_loopw [0, 5] (fun b i wr => ∃ k : Nat, k ≤ 8 ∧ i = .int .i64 ((k : Int) - 1) ∧ Bytes wr B b (l ++ (List.range (8 - k)).map (digit x 8)) ∧ Mv w v wr b) (fun _ i _ => (intOf i + 1).toNat)
  case atStart => exact ⟨8, by omega, rfl, by rw [Nat.sub_self, List.range_zero, List.map_nil, List.append_nil]; exact hB, Mv.refl _ _⟩
  case round =>
    clear hB
    obtain ⟨k, hk, rfl, hB, hM⟩ := hrel
    have hs' : B ≤ wr.heap.size := Nat.le_trans hs hM.gr.size
    by_cases hlt : 0 < k
    · have h1 : (0 : Int) ≤ (k : Int) - 1 := by omega
      have hd : decide ((k : Int) - 1 ≥ 0) = true := by simp; omega
      obtain ⟨Z, hZ⟩ : ∃ Z : Int, X / (2 : Int) ^ (8 * (k - 1)) = Z := ⟨_, rfl⟩
      have hc : ∀ w : World, (convert 79 5 (.int .u64 Z)).run Tryz.prog w = .ok (.int .u8 ((digit x 8 (8 - k)).toNat : Int)) w := fun w => by
        rw [← wrap8_digit x 8 (8 - k) (8 * (k - 1)) (by omega), ← HX.out, hZ]
        exact conv_u8 79 .u64 Z (by kernel_rfl) w
      have HZ := hide hZ
      have HC := hide hc
      clear hZ hc
      have hll := HL.out
      obtain ⟨L, hL⟩ : ∃ L, l ++ (List.range (8 - k)).map (digit x 8) = L := ⟨_, rfl⟩
      have HLL : Hid (L.length + 1 ≤ 140737488355328) := by
        show _ ≤ _
        rw [← hL, List.length_append, List.length_map, List.length_range]; omega
      rw [hL] at hB
      have HE := hide hL
      clear hll hL
      go_wp2_with (first | (refine wpList_shr rfl _ _ _ _ rfl .u64 .i64 X _ Z (by rfl) (by rfl) (8 * (k - 1)) (by omega) (by show _ ≤ 64; omega) HZ.out ?_) | (refine wpList_conv rfl _ _ _ rfl .u64 .u8 Z _ (by rfl) (HC.out _) ?_) | (at_builtin; refine wpList_append_byte rfl _ _ rfl B _ L (digit x 8 (8 - k)) _ rfl (by rfl) hB (by rfl) rfl HLL.out hs' ?_; intro g cap w5 hB5 hM5))
      go_roundw
      case rel =>
        refine ⟨k - 1, by omega, by congr 1; omega, ?_, hM.trans hM5⟩
        rw [← HE.out, List.append_assoc, range_snoc, show 8 - k + 1 = 8 - (k - 1) by omega] at hB5
        rw [HE.out] at hB5
        exact hB5
      case measure => simp [intOf]; omega
    · have hk0 : k = 0 := by omega
      subst hk0
      go_wp2
      go_ret
      exact ⟨_, rfl, hB, hM⟩
end Go.Proofs.YtlohfoggcdaeiaaGreat.Cu
