/-
  A payload's bytes: four, sumOf, bytesOf, payloadOf.
-/
import Derived.Test.YtobfijpfdibccaaKName
import Derived.Test.YtobfijpfdibccaaCrcOn
import Derived.Laws.Concat
namespace Go.Proofs.Ytobfijpfdibccaa
open Go.RowKit Go.Maps
set_option linter.unusedVariables false
theorem k8_digit (x j m : Nat) (hm : 8 * (4 - 1 - j) = m) : IntKind.u8.wrap ((x : Int) / (2 : Int) ^ m) = ((Fr.digit x 4 j).toNat : Int) := by
  unfold Fr.digit
  rw [hm, Fr.toNat_ofNat8]
  have e : (x : Int) / (2 : Int) ^ m = ((x / 2 ^ m : Nat) : Int) := by simp
  rw [e]
  simp [IntKind.wrap, IntKind.bits, IntKind.signed]
theorem kconv_u8 (Z : Int) (w : World) : (convert 79 5 (.int .u32 Z)).run Try.prog w = .ok (.int .u8 (IntKind.u8.wrap Z)) w := by
  have h := run_convert_int (P := Try.prog) (w := w) 79 5 .u32 Z (by kernel_rfl) (by kernel_rfl)
  rw [show Try.prog.intKind 5 = .u8 by kernel_rfl] at h
  exact h
theorem kconv_u32 (n : Nat) (hn : n < 4294967296) (w : World) : (convert 3 79 (.int .i64 (n : Int))).run Try.prog w = .ok (.int .u32 (n : Int)) w := by
  have h := run_convert_int (P := Try.prog) (w := w) 3 79 .i64 (n : Int) (by kernel_rfl) (by kernel_rfl)
  rw [show Try.prog.intKind 79 = .u32 by kernel_rfl] at h
  rw [h, show IntKind.u32.wrap (n : Int) = (n : Int) by simp [IntKind.wrap, IntKind.bits, IntKind.signed]; omega]
def B4 (x : Nat) : ByteArray := ⟨(Fr.nb x 4).toArray⟩
theorem B4_list (x : Nat) : (B4 x).data.toList = Fr.nb x 4 := rfl
theorem B4_size (x : Nat) : (B4 x).size = 4 := by rw [← str_len, B4_list, Fr.nb_length]
theorem Bytes.made (w : World) (l : List UInt8) (hl : l.length ≤ maxLen) : Bytes (w.alloc (.cells (l.map byteV).toArray 5)) 0 (.slice (some ⟨w.heap.size, 0, none⟩) l.length l.length) l := by
  unfold Bytes
  refine ⟨by simp, .inr ⟨w.heap.size, _, _, rfl, Nat.zero_le _, heap_alloc_new w _, Nat.le_refl _, hl, by simp, by simp only [Nat.mul_one]; exact List.take_of_length_le (by simp)⟩⟩
theorem conv_made (w : World) (l : List UInt8) (hl : l.length ≤ maxLen) : (convert 49 9 (.slice (some ⟨w.heap.size, 0, none⟩) l.length l.length)).run Try.prog (w.alloc (.cells (l.map byteV).toArray 5)) = .ok (.string ⟨l.toArray⟩) (w.alloc (.cells (l.map byteV).toArray 5)) := by
  have h := Bytes.made w l hl
  rw [run_conv_piece _ h (Piece.whole h) (by omega)]
  simp
theorem nb4 (x : Nat) : Fr.nb x 4 = [Fr.digit x 4 0, Fr.digit x 4 1, Fr.digit x 4 2, Fr.digit x 4 3] := rfl
set_option maxRecDepth 5000 in
set_option maxHeartbeats 1000000 in
theorem four_any (x : Nat) (X : Int) (hX : X = (x : Int)) (w : World) : Calls Try.prog 38 #[.int .u32 X] w fun e w' => e = .returned (.string (B4 x)) ∧ Below w.heap.size w w' := by
  obtain ⟨Z0, h0⟩ : ∃ Z : Int, X / (2 : Int) ^ 24 = Z := ⟨_, rfl⟩
  obtain ⟨Z1, h1⟩ : ∃ Z : Int, X / (2 : Int) ^ 16 = Z := ⟨_, rfl⟩
  obtain ⟨Z2, h2⟩ : ∃ Z : Int, X / (2 : Int) ^ 8 = Z := ⟨_, rfl⟩
  obtain ⟨D0, d0⟩ : ∃ d, Fr.digit x 4 0 = d := ⟨_, rfl⟩
  obtain ⟨D1, d1⟩ : ∃ d, Fr.digit x 4 1 = d := ⟨_, rfl⟩
  obtain ⟨D2, d2⟩ : ∃ d, Fr.digit x 4 2 = d := ⟨_, rfl⟩
  obtain ⟨D3, d3⟩ : ∃ d, Fr.digit x 4 3 = d := ⟨_, rfl⟩
  have c0 : ∀ w : World, (convert 79 5 (.int .u32 Z0)).run Try.prog w = .ok (.int .u8 (D0.toNat : Int)) w := fun w => by rw [kconv_u8, ← h0, hX, k8_digit x 0 24 rfl, d0]
  have c1 : ∀ w : World, (convert 79 5 (.int .u32 Z1)).run Try.prog w = .ok (.int .u8 (D1.toNat : Int)) w := fun w => by rw [kconv_u8, ← h1, hX, k8_digit x 1 16 rfl, d1]
  have c2 : ∀ w : World, (convert 79 5 (.int .u32 Z2)).run Try.prog w = .ok (.int .u8 (D2.toNat : Int)) w := fun w => by rw [kconv_u8, ← h2, hX, k8_digit x 2 8 rfl, d2]
  have c3 : ∀ w : World, (convert 79 5 (.int .u32 X)).run Try.prog w = .ok (.int .u8 (D3.toNat : Int)) w := fun w => by
    have := k8_digit x 3 0 rfl
    rw [Int.pow_zero, Int.ediv_one] at this
    rw [kconv_u8, hX, this, d3]
  have hcv := conv_made w [D0, D1, D2, D3] (by show 4 ≤ maxLen; unfold maxLen; omega)
  have hcv' : (convert 49 9 (.slice (some ⟨w.heap.size, 0, none⟩) 4 4)).run Try.prog (w.alloc (.cells #[.int .u8 (D0.toNat : Int), .int .u8 (D1.toNat : Int), .int .u8 (D2.toNat : Int), .int .u8 (D3.toNat : Int)] 5)) = .ok (.string ⟨#[D0, D1, D2, D3]⟩) (w.alloc (.cells #[.int .u8 (D0.toNat : Int), .int .u8 (D1.toNat : Int), .int .u8 (D2.toNat : Int), .int .u8 (D3.toNat : Int)] 5)) := hcv
  have HB : Hid (B4 x = ⟨#[D0, D1, D2, D3]⟩) := by
    show _ = _
    unfold B4
    rw [nb4, d0, d1, d2, d3]
  have H0 := hide h0
  have H1 := hide h1
  have H2 := hide h2
  have C0 := hide c0
  have C1 := hide c1
  have C2 := hide c2
  have C3 := hide c3
  clear h0 h1 h2 c0 c1 c2 c3 d0 d1 d2 d3 hX hcv
  go_enter Try.func38, Try.ntmps38
  go_wp2_with (first | (refine Fr.wpList_shr rfl _ _ _ _ rfl .u32 .u64 X _ Z0 (by rfl) (by rfl) 24 rfl (by decide) H0.out ?_) | (refine Fr.wpList_shr rfl _ _ _ _ rfl .u32 .u64 X _ Z1 (by rfl) (by rfl) 16 rfl (by decide) H1.out ?_) | (refine Fr.wpList_shr rfl _ _ _ _ rfl .u32 .u64 X _ Z2 (by rfl) (by rfl) 8 rfl (by decide) H2.out ?_) | (refine Fr.wpList_conv rfl _ _ _ rfl .u32 .u8 Z0 _ (by rfl) (C0.out _) ?_) | (refine Fr.wpList_conv rfl _ _ _ rfl .u32 .u8 Z1 _ (by rfl) (C1.out _) ?_) | (refine Fr.wpList_conv rfl _ _ _ rfl .u32 .u8 Z2 _ (by rfl) (C2.out _) ?_) | (refine Fr.wpList_conv rfl _ _ _ rfl .u32 .u8 X _ (by rfl) (C3.out _) ?_))
  go_ret
  exact ⟨by rw [HB.out]; rfl, (Below.refl _ _).alloc (Nat.le_refl _) _⟩
theorem sumOf_any (n : Fr.C.Num) (l p : ByteArray) (hl : l.size ≤ maxLen) (hp : p.size ≤ maxLen) (w : World) : Calls Try.prog 39 #[.string l, .string p] w fun e w' => e = .returned (.int .u32 (n.u (Fr.C.on 0#32 (l.data.toList ++ p.data.toList)))) ∧ Below w.heap.size w w' := by
  have HX := hide (Fr.C.on_append 0#32 l.data.toList p.data.toList)
  have HL := hide hl
  have HP := hide hp
  clear hl hp
  go_enter Try.func39, Try.ntmps39
  go_wp2_with fail
  refine (Fr.sum_any n l _ HL.out).mono ?_
  rintro e w1 ⟨rfl, hb1⟩
  go_wp2_with fail
  refine (Fr.on_any n _ p _ HP.out).mono ?_
  rintro e w2 ⟨rfl, hb2⟩
  go_wp2
  go_ret
  exact ⟨by rw [HX.out]; rfl, hb1.trans (hb2.mono hb1.size)⟩
theorem run_slice_str_to (w : World) (s : ByteArray) (i : Nat) (hi : i ≤ s.size) : (Instr.slice 9 (.string s) none (some (.int .i64 (i : Int))) none).run Try.prog w = .ok (.string (s.extract 0 i)) w := by
  simp [Instr.slice, run_underlying Try.underlying9, go_sem, hi]
theorem run_slice_str_mid (w : World) (s : ByteArray) (i j : Nat) (hj : j ≤ s.size) (hij : i ≤ j) : (Instr.slice 9 (.string s) (some (.int .i64 (i : Int))) (some (.int .i64 (j : Int))) none).run Try.prog w = .ok (.string (s.extract i j)) w := by
  simp [Instr.slice, run_underlying Try.underlying9, go_sem, hj, hij]
end Go.Proofs.Ytobfijpfdibccaa
