/-
  The document's Sum of parts.
-/
import Derived.Test.YtagopbdoabhjfaaDoorRefOne
import Derived.Test.YtagopbdoabhjfaaDoorSumText
namespace Go.Proofs.YtagopbdoabhjfaaDoor
open Go.RowKit S
set_option maxHeartbeats 800000 in
theorem refSum_any (n : Num) (a : Option Addr) (cap : Nat) (ss : List ByteArray) (w : World) (hs : Strs w a ss) (hl : (flat ss).length ≤ 140737488355200) (hn : ss.length < 1152921504606846976) :
    Calls Tryd.prog 50 #[.slice a ss.length cap] w fun e w' => e = .returned (.agg (tabv (bv (sha (flat ss))) 32)) ∧ Below w.heap.size w w' := by
  go_enter Tryd.func50, Tryd.ntmps50
  go_wp2
  generalize hW : World.alloc w _ = w3
  have g0 : Has w3 w.heap.size 23 (fun _ => .int .u8 0) 32 := by rw [← hW]; exact Has.new w 23 (fun _ => .int .u8 0) 32 _ rfl
  have gb : Below w.heap.size w w3 := by rw [← hW]; exact (Below.refl _ _).alloc (Nat.le_refl _) _
  clear hW
  go_loopw [4, 3] (fun i v wr => ∃ (k : Nat) (r : ByteArray), k ≤ ss.length ∧ i = .int .i64 k ∧ v = .string r ∧ r.data.toList = flat (ss.take k) ∧ wr = w3) (fun i _ _ => ss.length - (intOf i).toNat)
  case atStart => exact ⟨0, ⟨#[]⟩, by omega, rfl, rfl, by rw [List.take_zero]; rfl, rfl⟩
  case round =>
    obtain ⟨k, r, hk, rfl, rfl, hr, rfl⟩ := hrel
    have hrz : r.size ≤ 140737488355200 := by rw [← str_len, hr]; exact Nat.le_trans (flat_le ss k) hl
    have HR := hide hr
    clear hr
    by_cases hlt : k < ss.length
    · have hd : decide ((k : Int) < (ss.length : Int)) = true := by simp; omega
      have hle := flat_le ss (k + 1)
      have hft := flat_take ss k hlt
      rw [hft, List.length_append, str_len, ← HR.out, str_len] at hle
      rcases hs.below gb with h | ⟨b, o, rfl, hb0, hcs⟩
      · rw [h] at hlt; exact absurd hlt (by simp)
      have hck := hcs k hlt
      have hsz : r.size + ss[k].size ≤ 9223372036854775807 := by omega
      have HF := hide hft
      clear hft hle hcs
      go_wp2
      go_roundw
      case rel => exact ⟨k + 1, r ++ ss[k], by omega, by go_num, rfl, by rw [HF.out, ByteArray.data_append, Array.toList_append, HR.out], by first | rfl | trivial⟩
      case measure => simp [intOf]; omega
    · have hkl : k = ss.length := by omega
      subst hkl
      have hd : decide ((ss.length : Int) < (ss.length : Int)) = false := by simp
      go_wp2_with fail
      refine (refOne_any n r _ hrz).mono ?_
      rintro e w5 ⟨rfl, hb5⟩
      have e1 : r.data.toList = flat ss := by rw [HR.out, List.take_length]
      rw [e1]
      have g0' := g0.below hb5 g0.lt
      have gb' := gb.trans (hb5.mono gb.size)
      go_wp2_with (refine wpList_store_part rfl 23 _ _ rfl rfl w.heap.size 0 (bv (sha (flat ss))) 32 rfl rfl 23 _ 32 g0' (by omega) info26 (fun _ _ => rfl) (bv (sha (flat ss))) (fun i hi => by unfold splice; rw [if_pos (by omega), Nat.sub_zero]) ?_)
      exact bodyPost_ret (results_cell_row rfl _ _ w.heap.size 23 _ (0, 0) _ rfl (g0'.row _ _ rfl) Tryd.underlying23 rfl (by rw [tabv_size]; exact info26)) rfl ⟨rfl, below_setRow gb' (Nat.le_refl _) _⟩
end Go.Proofs.YtagopbdoabhjfaaDoor
