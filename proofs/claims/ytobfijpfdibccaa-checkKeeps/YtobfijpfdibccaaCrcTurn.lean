import Derived.Test.YtobfijpfdibccaaCrcSteps
namespace Go.Proofs.Ytobfijpfdibccaa.Fr
open Go.RowKit C
theorem take_snoc (s : ByteArray) (k : Nat) (h : k < s.size) : s.data.toList.take (k + 1) = s.data.toList.take k ++ [s[k]] := by
  rw [List.take_succ_eq_append_getElem (by simpa using h)]; rfl
attribute [local go_sem] Num.xor Num.xor_byte Num.and15 Num.half4
set_option maxHeartbeats 400000 in
theorem turn_any (n : Num) (x : BitVec 32) (s : ByteArray) (w : World) (hs : s.size ≤ maxLen) :
    Calls Try.prog 67 #[.int .u32 (n.u x), .string s] w fun e w' => e = .returned (.int .u32 (n.u (tn x s.data.toList))) ∧ Below w.heap.size w w' := by
  unfold maxLen at hs
  go_enter Try.func67, Try.ntmps67
  go_wp2_with fail
  refine (half_any n _).mono ?_
  rintro e w1 ⟨rfl, hb1⟩
  have hm0 := Has.new n w1 122 _ 16 _ (zeros16 n (fun _ => 0#32))
  have hm1 := hm0.row (fun i => stN 4 (BitVec.ofNat 32 i))
  have hs1 : w.heap.size ≤ w1.heap.size := hb1.size
  go_wp2_with (refine wpList_store_row rfl 122 _ _ rfl w1.heap.size (tab n (fun i => stN 4 (BitVec.ofNat 32 i)) 16) rfl rfl 122 (tab n (upto (fun _ => 0#32) 0) 16) hm0 (infoHalf n _) ((tab_size n _ _).trans (tab_size n _ _).symm) (tab_one n _ _) ?_)
  have hb2 := below_setRow (hb1.alloc hs1 (.cells #[.int .u32 0, .int .u32 0, .int .u32 0, .int .u32 0, .int .u32 0, .int .u32 0, .int .u32 0, .int .u32 0, .int .u32 0, .int .u32 0, .int .u32 0, .int .u32 0, .int .u32 0, .int .u32 0, .int .u32 0, .int .u32 0] 122)) hs1 (tab n (fun i => stN 4 (BitVec.ofNat 32 i)) 16)
  generalize (w1.alloc (.cells #[.int .u32 0, .int .u32 0, .int .u32 0, .int .u32 0, .int .u32 0, .int .u32 0, .int .u32 0, .int .u32 0, .int .u32 0, .int .u32 0, .int .u32 0, .int .u32 0, .int .u32 0, .int .u32 0, .int .u32 0, .int .u32 0] 122)).setRow w1.heap.size (tab n (fun i => stN 4 (BitVec.ofNat 32 i)) 16) = w2 at hm1 hb2 ⊢
  clear hm0
  have hc : ∀ y : BitVec 32, w2.cell? ⟨w1.heap.size, (n.u (y &&& 15#32)).toNat, none⟩ = some (.int .u32 (n.u (stN 4 (y &&& 15#32)))) := by
    intro y
    have h1 := n.low15 y
    have h0 := n.nonneg (y &&& 15#32)
    have := hm1.cell (n.u (y &&& 15#32)).toNat (by omega)
    rw [n.idx] at this
    exact this
  have hl := n.low15
  have hn := n.nonneg
  go_loop [0, 10] (fun y i => ∃ k : Nat, k ≤ s.size ∧ i = .int .i64 k ∧ y = .int .u32 (n.u (tn x (s.data.toList.take k)))) (fun _ i => s.size - (intOf i).toNat)
  case atStart => exact ⟨0, Nat.zero_le _, rfl, rfl⟩
  case round =>
    obtain ⟨k, hk, rfl, rfl⟩ := hrel
    by_cases hlt : k < s.size
    · have HT := hide (take_snoc s k hlt)
      go_wp2
      go_round
      case rel =>
        refine ⟨k + 1, by omega, by go_num, int_eq ?_⟩
        rw [HT.out, tn_append, half_byte, half_byte, two_halves]; rfl
      case measure => simp [intOf]; omega
    · go_wp2
      go_ret
      exact ⟨ret_int (by rw [List.take_of_length_le (by simp; omega)]), hb2⟩
end Go.Proofs.Ytobfijpfdibccaa.Fr
