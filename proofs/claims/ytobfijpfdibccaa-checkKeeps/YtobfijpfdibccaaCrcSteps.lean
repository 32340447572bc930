/-
  The walks of the leaves: step, Step; halfBytes, byteSteps.
-/
import Derived.Test.YtobfijpfdibccaaProg
import Derived.Test.YtobfijpfdibccaaCrcBits
namespace Go.Proofs.Ytobfijpfdibccaa.Fr
open Go.RowKit C
attribute [local go_sem] Num.odd
set_option maxHeartbeats 400000 in
theorem step_any (n : Num) (x : BitVec 32) (w : World) :
    Calls Try.prog 87 #[.int .u32 (n.u x)] w fun e w' => e = .returned (.int .u32 (n.u (st x))) ∧ w' = w := by
  have h0 := n.nonneg x
  have h1 := n.lt x
  go_enter Try.func87, Try.ntmps87
  go_wp2
  all_goals go_ret
  · exact ⟨ret_int (st_true' n x ‹_›), rfl⟩
  · exact ⟨ret_int (st_false' n x ‹_›), rfl⟩
-- left out in this seat: refStep_any
theorem infoHalf (n : Num) (f : Nat → BitVec 32) : (Try.prog.info? 122).map (·.size) = some (tab n f 16).size := by rw [tab_size]; kernel_rfl
set_option maxHeartbeats 400000 in
theorem half_any (n : Num) (w : World) :
    Calls Try.prog 76 #[] w fun e w' => e = .returned (.agg (tab n (fun i => stN 4 (BitVec.ofNat 32 i)) 16)) ∧ Below w.heap.size w w' := by
  go_enter Try.func76, Try.ntmps76
  go_wp2
  go_loopw [4] (fun i wr => ∃ k : Nat, k ≤ 16 ∧ i = .int .i64 k ∧ Has n wr (w.heap.size + 1) 122 (upto (fun i => stN 4 (BitVec.ofNat 32 i)) k) 16 ∧ Has n wr w.heap.size 122 (upto (fun _ => 0#32) 0) 16 ∧ Below w.heap.size w wr) (fun i _ => 16 - (intOf i).toNat)
  case atStart =>
    refine ⟨0, by omega, rfl, ?_, ?_, ((Below.refl _ _).alloc (Nat.le_refl _) _).alloc (by simp) _⟩
    · have := Has.new n (w.alloc (.cells #[.int .u32 0, .int .u32 0, .int .u32 0, .int .u32 0, .int .u32 0, .int .u32 0, .int .u32 0, .int .u32 0, .int .u32 0, .int .u32 0, .int .u32 0, .int .u32 0, .int .u32 0, .int .u32 0, .int .u32 0, .int .u32 0] 122)) 122 _ 16 _ (zeros16 n (fun i => stN 4 (BitVec.ofNat 32 i)))
      simpa using this
    · exact (Has.new n w 122 _ 16 _ (zeros16 n _)).old _ (by simp)
  case round =>
    obtain ⟨k, hk, rfl, ht, hz, hb⟩ := hrel
    by_cases hlt : k < 16
    · have hc := ht.cell k hlt
      have hf := ht.frozen k
      have hd : decide ((k : Int) < 16) = true := by simp; omega
      go_wp2
      go_loop [3, 9] (fun x j => ∃ q : Nat, q ≤ 4 ∧ j = .int .i64 q ∧ x = .int .u32 (n.u (stN q (BitVec.ofNat 32 k)))) (fun _ j => 4 - (intOf j).toNat)
      case atStart => exact ⟨0, by omega, rfl, int_eq (n.ofNat k (by omega))⟩
      case round =>
        obtain ⟨q, hq, rfl, rfl⟩ := hrel
        by_cases hl : q < 4
        · go_wp2_with (go_at_call 87; refine (step_any n _ _).mono ?_; rintro e w' ⟨rfl, rfl⟩)
          go_round
          case rel => exact ⟨q + 1, by omega, by go_num, int_eq (by rw [stN_succ])⟩
          case measure => simp [intOf]; omega
        · have hq4 : q = 4 := by omega
          subst hq4
          go_wp2
          go_roundw
          case rel =>
            refine ⟨k + 1, by omega, by go_num, ?_, hz.other _ _ (by simp), hb.setCell (by simp) _⟩
            have := ht.set k (stN 4 (BitVec.ofNat 32 k))
            rw [upd_upto (fun i => stN 4 (BitVec.ofNat 32 i)) k] at this
            exact this
          case measure => simp [intOf]; omega
    · have hk16 : k = 16 := by omega
      subst hk16
      go_wp2_with (first | refine wpList_load_row rfl 122 _ rfl (w.heap.size + 1) rfl 122 _ (0, 0) _ ht Try.underlying122 rfl (infoHalf n _) ?_ | refine wpList_store_row rfl 122 _ _ rfl w.heap.size _ rfl rfl 122 _ hz (infoHalf n _) (by rw [tab_size, tab_size]) (tab_one n _ _) ?_)
      exact bodyPost_ret (results_cell_row rfl _ _ w.heap.size 122 _ (0, 0) _ rfl (hz.row _) Try.underlying122 rfl (infoHalf n _)) rfl ⟨by rw [tab_full], below_setRow hb (Nat.le_refl _) _⟩
end Go.Proofs.Ytobfijpfdibccaa.Fr
