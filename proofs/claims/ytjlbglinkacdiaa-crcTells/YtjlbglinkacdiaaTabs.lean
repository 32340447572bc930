/-
  byteSteps, of.
-/
import Derived.Test.YtjlbglinkacdiaaSteps
import Derived.Deep.QuietTactic
import Derived.BigQuiet
namespace Go.Proofs.Ytjlbglinkacdiaa
open Go.RowKit C
theorem info35 (n : Num) (f : Nat → BitVec 32) : (Try.prog.info? 35).map (·.size) = some (tab n f 32).size := by rw [tab_size]; kernel_rfl
set_option maxHeartbeats 400000 in
theorem byteSteps_any (n : Num) (w : World) :
    Calls Try.prog 16 #[] w fun e w' => e = .returned (.agg (tab n (fun i => stN 8 (one i)) 32)) ∧ Below w.heap.size w w' := by
  go_enter Try.func16, Try.ntmps16
  go_wp2
  go_loopw [4] (fun i wr => ∃ k : Nat, k ≤ 32 ∧ i = .int .i64 k ∧ Has n wr (w.heap.size + 1) 35 (upto (fun i => stN 8 (one i)) k) 32 ∧ Has n wr w.heap.size 35 (upto (fun _ => 0#32) 0) 32 ∧ Below w.heap.size w wr) (fun i _ => 32 - (intOf i).toNat)
  case atStart =>
    refine ⟨0, by omega, rfl, ?_, ?_, ((Below.refl _ _).alloc (Nat.le_refl _) _).alloc (by simp) _⟩
    · have := Has.new n (w.alloc (.cells #[.int .u32 0, .int .u32 0, .int .u32 0, .int .u32 0, .int .u32 0, .int .u32 0, .int .u32 0, .int .u32 0, .int .u32 0, .int .u32 0, .int .u32 0, .int .u32 0, .int .u32 0, .int .u32 0, .int .u32 0, .int .u32 0, .int .u32 0, .int .u32 0, .int .u32 0, .int .u32 0, .int .u32 0, .int .u32 0, .int .u32 0, .int .u32 0, .int .u32 0, .int .u32 0, .int .u32 0, .int .u32 0, .int .u32 0, .int .u32 0, .int .u32 0, .int .u32 0] 35)) 35 _ 32 _ (zeros32 n (fun i => stN 8 (one i)))
      simpa using this
    · exact (Has.new n w 35 _ 32 _ (zeros32 n _)).old _ (by simp)
  case round =>
    obtain ⟨k, hk, rfl, ht, hz, hb⟩ := hrel
    by_cases hlt : k < 32
    · have hc := ht.cell k hlt
      have hf := ht.frozen k
      have hd : decide ((k : Int) < 32) = true := by simp; omega
      go_wp2
      go_loop [3, 9] (fun x j => ∃ q : Nat, q ≤ 8 ∧ j = .int .i64 q ∧ x = .int .u32 (n.u (stN q (one k)))) (fun _ j => 8 - (intOf j).toNat)
      case atStart => exact ⟨0, by omega, rfl, int_eq (n.one k hlt)⟩
      case round =>
        obtain ⟨q, hq, rfl, rfl⟩ := hrel
        by_cases hl : q < 8
        · go_wp2_with (go_at_call 22; refine (step_any n _ _).mono ?_; rintro e w' ⟨rfl, rfl⟩)
          go_round
          case rel => exact ⟨q + 1, by omega, by go_num, int_eq (by rw [stN_succ])⟩
          case measure => simp [intOf]; omega
        · have hq4 : q = 8 := by omega
          subst hq4
          go_wp2
          go_roundw
          case rel =>
            refine ⟨k + 1, by omega, by go_num, ?_, hz.other _ _ (by simp), hb.setCell (by simp) _⟩
            have := ht.set k (stN 8 (one k))
            rw [upd_upto (fun i => stN 8 (one i)) k] at this
            exact this
          case measure => simp [intOf]; omega
    · have hk16 : k = 32 := by omega
      subst hk16
      go_wp2_with (first | refine wpList_load_row rfl 35 _ rfl (w.heap.size + 1) rfl 35 _ (0, 0) _ ht Try.underlying35 rfl (info35 n _) ?_ | refine wpList_store_row rfl 35 _ _ rfl w.heap.size _ rfl rfl 35 _ hz (info35 n _) (by rw [tab_size, tab_size]) (tab_one n _ _) ?_)
      exact bodyPost_ret (results_cell_row rfl _ _ w.heap.size 35 _ (0, 0) _ rfl (hz.row _) Try.underlying35 rfl (info35 n _)) rfl ⟨by rw [tab_full], below_setRow hb (Nat.le_refl _) _⟩

attribute [local go_sem] Num.bit Num.xor
set_option maxHeartbeats 400000 in
theorem of_any (n : Num) (x : BitVec 32) (g : Nat) (t : TypeId) (f : Nat → BitVec 32) (w : World) (hg : Has n w g t f 32) :
    Calls Try.prog 17 #[.pointer (some ⟨g, 0, none⟩), .int .u32 (n.u x)] w fun e w' => e = .returned (.int .u32 (n.u (ap f x 32))) ∧ Below w.heap.size w w' := by
  have hx0 := n.nonneg x
  have hx1 := n.lt x
  go_enter Try.func17, Try.ntmps17
  go_wp2
  go_loopw [5, 9] (fun y i wr => ∃ k : Nat, k ≤ 32 ∧ i = .int .i64 k ∧ y = .int .u32 (n.u (ap f x k)) ∧ Below w.heap.size w wr) (fun _ i _ => 32 - (intOf i).toNat)
  case atStart => exact ⟨0, by omega, rfl, int_eq n.zero.symm, Below.refl _ _⟩
  case round =>
    obtain ⟨k, hk, rfl, rfl, hb⟩ := hrel
    by_cases hlt : k < 32
    · have hc := (hg.below hb hg.lt).cell k hlt
      have hd : decide ((k : Int) < 32) = true := by simp; omega
      go_wp2
      go_quiet (fail)
      go_wp2
      · have hbit : x.getLsbD k = true := by first | assumption | (rw [BitVec.getLsbD_eq_getElem hlt]; assumption)
        go_roundw
        case rel => exact ⟨k + 1, by omega, by go_num, int_eq (by simp only [ap]; rw [if_pos hbit]), below_drewN hb _⟩
        case measure => simp [intOf]; omega
      · have hbit : x.getLsbD k = false := by first | assumption | (rw [BitVec.getLsbD_eq_getElem hlt]; assumption)
        go_roundw
        case rel => exact ⟨k + 1, by omega, by go_num, int_eq (by simp only [ap]; rw [if_neg (by rw [hbit]; simp)]), below_drewN hb _⟩
        case measure => simp [intOf]; omega
    · have hk16 : k = 32 := by omega
      subst hk16
      go_wp2
      go_ret
      exact ⟨rfl, hb⟩
end Go.Proofs.Ytjlbglinkacdiaa
