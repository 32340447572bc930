/-
  The document's turned, Join.
-/
import Derived.Test.YtjlbglinkacdiaaFirst
namespace Go.Proofs.Ytjlbglinkacdiaa
open Go.RowKit C
attribute [local go_sem] Num.bit Num.xor
set_option maxHeartbeats 400000 in
theorem turned_any (n : Num) (x : BitVec 32) (f : Nat → BitVec 32) (w : World) :
    Calls Try.prog 21 #[.agg (tab n f 32), .int .u32 (n.u x)] w fun e w' => e = .returned (.int .u32 (n.u (ap f x 32))) ∧ Below w.heap.size w w' := by
  have hx0 := n.nonneg x
  have hx1 := n.lt x
  go_enter Try.func21, Try.ntmps21
  go_wp2
  have hg := Has.new n w 34 f 32 _ rfl
  have hb := (Below.refl w.heap.size w).alloc (Nat.le_refl _) (.cells (tab n f 32) 34)
  generalize w.alloc (.cells (tab n f 32) 34) = w1 at hg hb ⊢
  go_loop [5, 6] (fun y i => ∃ k : Nat, k ≤ 32 ∧ i = .int .i64 k ∧ y = .int .u32 (n.u (ap f x k))) (fun _ i => 32 - (intOf i).toNat)
  case atStart => exact ⟨0, by omega, rfl, int_eq n.zero.symm⟩
  case round =>
    obtain ⟨k, hk, rfl, rfl⟩ := hrel
    by_cases hlt : k < 32
    · have hc := hg.cell k hlt
      have hd : decide ((k : Int) < 32) = true := by simp; omega
      go_wp2
      · have hbit : x.getLsbD k = true := by first | assumption | (rw [BitVec.getLsbD_eq_getElem hlt]; assumption)
        go_round
        case rel => exact ⟨k + 1, by omega, by go_num, int_eq (by simp only [ap]; rw [if_pos hbit])⟩
        case measure => simp [intOf]; omega
      · have hbit : x.getLsbD k = false := by first | assumption | (rw [BitVec.getLsbD_eq_getElem hlt]; assumption)
        go_round
        case rel => exact ⟨k + 1, by omega, by go_num, int_eq (by simp only [ap]; rw [if_neg (by rw [hbit]; simp)])⟩
        case measure => simp [intOf]; omega
    · have hk16 : k = 32 := by omega
      subst hk16
      go_wp2
      go_ret
      exact ⟨rfl, hb⟩
theorem info34 (n : Num) (f : Nat → BitVec 32) : (Try.prog.info? 34).map (·.size) = some (tab n f 32).size := by rw [tab_size]; kernel_rfl
theorem turned_stN (n : Num) (x : BitVec 32) (e : Nat) (w : World) :
    Calls Try.prog 21 #[.agg (tab n (fun i => stN e (one i)) 32), .int .u32 (n.u x)] w fun en w' => en = .returned (.int .u32 (n.u (stN e x))) ∧ Below w.heap.size w w' := by
  have h := turned_any n x (fun i => stN e (one i)) w
  rw [ap_stN] at h
  exact h
end Go.Proofs.Ytjlbglinkacdiaa
