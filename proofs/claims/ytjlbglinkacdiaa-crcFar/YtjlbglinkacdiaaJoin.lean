import Derived.Test.YtjlbglinkacdiaaTwice
namespace Go.Proofs.Ytjlbglinkacdiaa
open Go.RowKit C
attribute [local go_sem] Num.xor
set_option maxHeartbeats 400000 in
theorem join_any (n : Num) (a b : BitVec 32) (z : Int) (w : World) (hz0 : -9223372036854775808 ≤ z) (hz1 : z ≤ 9223372036854775807) :
    Calls Try.prog 11 #[.int .u32 (n.u a), .int .u32 (n.u b), .int .i64 z] w fun e w' => e = .returned (.int .u32 (n.u (stN (8 * z.toNat) a ^^^ b))) ∧ Below w.heap.size w w' := by
  go_enter Try.func11, Try.ntmps11
  go_wp2_with fail
  refine (byteSteps_any n _).mono ?_
  rintro e w1 ⟨rfl, hb1⟩
  have hm0 := Has.new n w1 35 _ 32 _ (zeros32 n (fun _ => 0#32))
  have hm1 := hm0.row (fun i => stN 8 (one i))
  go_wp2_with (refine wpList_store_row rfl 35 _ _ rfl w1.heap.size (tab n (fun i => stN 8 (one i)) 32) rfl rfl 35 (tab n (upto (fun _ => 0#32) 0) 32) hm0 (info35 n _) ((tab_size n _ _).trans (tab_size n _ _).symm) (tab_one n _ _) ?_)
  simp only [Act.put]
  have hs : w.heap.size ≤ w1.heap.size := hb1.size
  go_loopw [0, 2] (fun x y wr => ∃ (a' : BitVec 32) (z' : Int) (e : Nat), -9223372036854775808 ≤ z' ∧ z' ≤ 9223372036854775807 ∧ y = .int .i64 z' ∧ x = .int .u32 (n.u a') ∧ stN (8 * e * z'.toNat) a' = stN (8 * z.toNat) a ∧ Has n wr w1.heap.size 35 (fun i => stN (8 * e) (one i)) 32 ∧ Below w.heap.size w wr) (fun _ y _ => (intOf y).toNat)
  case atStart => exact ⟨a, z, 1, hz0, hz1, rfl, rfl, rfl, hm1, below_setRow (hb1.alloc hs _) hs _⟩
  case round =>
    clear hm0 hm1
    obtain ⟨a', z', e, h0, h1, rfl, rfl, hst, hm, hb⟩ := hrel
    by_cases hp : 0 < z'
    · obtain ⟨q, rfl⟩ := Int.eq_ofNat_of_zero_le (by omega : 0 ≤ z')
      have hd : decide ((q : Int) > 0) = true := by simp; omega
      rw [Int.toNat_natCast, halves] at hst
      by_cases ho : q % 2 = 1
      · have hbit := odd_i64 q (by omega) ho
        rw [if_pos ho] at hst
        have HS := hide hst
        have HO := hide ho
        clear hst ho
        go_wp2_with fail
        refine (of_stN n _ _ 35 _ _ hm).mono ?_
        rintro en w2 ⟨rfl, hb2⟩
        have hm2 := hm.below hb2 hm.lt
        go_wp2_with fail
        refine (twice_stN n _ 35 _ _ hm2).mono ?_
        rintro en w3 ⟨rfl, hb3⟩
        have hm3 := hm2.below hb3 hm2.lt
        go_wp2_with (refine wpList_store_row rfl 35 _ _ rfl w1.heap.size (tab n (fun i => stN (8 * e + 8 * e) (one i)) 32) rfl rfl 35 (tab n (fun i => stN (8 * e) (one i)) 32) hm3 (info35 n _) ((tab_size n _ _).trans (tab_size n _ _).symm) (tab_one n _ _) ?_)
        go_roundw
        case rel =>
          refine ⟨stN (8 * e) a', ↑(q / 2), e + e, by omega, by omega, by go_num, rfl, ?_, ?_, below_setRow ((hb.trans (hb2.mono hb.size)).trans (hb3.mono (Nat.le_trans hb.size hb2.size))) hs _⟩
          · rw [Int.toNat_natCast]; exact HS.out
          · rw [show 8 * (e + e) = 8 * e + 8 * e by omega]; exact hm3.row _
        case measure => simp [intOf]; omega
      · have hbit := even_i64 q (by omega) ho
        rw [if_neg ho] at hst
        have HS := hide hst
        have HO := hide ho
        clear hst ho
        go_wp2_with fail
        refine (twice_stN n _ 35 _ _ hm).mono ?_
        rintro en w3 ⟨rfl, hb3⟩
        have hm3 := hm.below hb3 hm.lt
        go_wp2_with (refine wpList_store_row rfl 35 _ _ rfl w1.heap.size (tab n (fun i => stN (8 * e + 8 * e) (one i)) 32) rfl rfl 35 (tab n (fun i => stN (8 * e) (one i)) 32) hm3 (info35 n _) ((tab_size n _ _).trans (tab_size n _ _).symm) (tab_one n _ _) ?_)
        go_roundw
        case rel =>
          refine ⟨a', ↑(q / 2), e + e, by omega, by omega, by go_num, rfl, ?_, ?_, below_setRow (hb.trans (hb3.mono hb.size)) hs _⟩
          · rw [Int.toNat_natCast]; exact HS.out
          · rw [show 8 * (e + e) = 8 * e + 8 * e by omega]; exact hm3.row _
        case measure => simp [intOf]; omega
    · have hd : decide (z' > 0) = false := by simp; omega
      have hz : z'.toNat = 0 := by omega
      rw [hz, Nat.mul_zero] at hst
      have HS := hide hst
      clear hst hz
      go_wp2
      go_ret
      refine ⟨ret_int ?_, hb⟩
      rw [← HS.out]; rfl
end Go.Proofs.Ytjlbglinkacdiaa
