/-
  Hashes against one another.
-/
import Derived.Test.YtnmoheipfadmeaaWords
import Derived.ChangeKeysEq
namespace Go.Proofs.Ytnmoheipfadmeaa
open Go.RowKit S
theorem eqItems26 (w : World) (f g : Nat → UInt8) : ∀ is : List Nat, (∀ i ∈ is, i < 32) → (Op.eqItems 9999 5 1 (tabv (bv f) 32) (tabv (bv g) 32) is).run Try.prog w = .ok (is.all fun i => f i == g i) w
  | [], _ => by simp [Op.eqItems]
  | i :: is, h => by
    have hi := h i (by simp)
    have ih := eqItems26 w f g is (fun j hj => h j (by simp [hj]))
    have e1 : (part 5 (tabv (bv f) 32) (i * 1)).run Try.prog w = .ok (.int .u8 ((f i).toNat : Int)) w := by
      rw [Nat.mul_one]; simp [part, isAgg, run_underlying Try.underlying5, tabv_get _ _ _ hi, bv]
    have e2 : (part 5 (tabv (bv g) 32) (i * 1)).run Try.prog w = .ok (.int .u8 ((g i).toNat : Int)) w := by
      rw [Nat.mul_one]; simp [part, isAgg, run_underlying Try.underlying5, tabv_get _ _ _ hi, bv]
    have e3 : (Op.equalIn 9999 5 (.int .u8 ((f i).toNat : Int)) (.int .u8 ((g i).toNat : Int))).run Try.prog w = .ok (f i == g i) w := by
      rw [run_equalIn_int w 9998 5 .u8 .u8 _ _ Try.underlying5]
      refine congrArg (fun b => Result.ok b w) ?_
      rw [Bool.eq_iff_iff, beq_iff_eq, beq_iff_eq, ← UInt8.toNat_inj]
      omega
    simp only [Op.eqItems, Sem.run_bind, e1, e2, e3, Result.andThen_ok, List.all_cons]
    cases f i == g i
    · simp
    · simpa using ih
theorem eq26 (w : World) (f g : Nat → UInt8) : (Op.equalIn 10000 26 (.agg (tabv (bv f) 32)) (.agg (tabv (bv g) 32))).run Try.prog w = .ok ((List.range 32).all fun i => f i == g i) w := by
  obtain ⟨i, hi⟩ : ∃ i, Try.prog.info? 5 = some i := Option.isSome_iff_exists.1 (by kernel_rfl)
  have hc : Try.prog.cellsOf 5 = 1 := by kernel_rfl
  rw [run_equalIn_array w 9999 (tabv (bv f) 32) (tabv (bv g) 32) Try.underlying26 hi, hc]
  exact eqItems26 w f g _ (fun i hi => List.mem_range.1 hi)
theorem guard26 : Try.prog.eqGuardType Try.prog.depth 26 = false := by kernel_rfl
theorem all_same (f : Nat → UInt8) : ((List.range 32).all fun i => f i == f i) = true := by simp
end Go.Proofs.Ytnmoheipfadmeaa
