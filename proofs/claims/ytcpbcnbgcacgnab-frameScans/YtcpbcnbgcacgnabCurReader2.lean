/-
  The reader: I64, Text, Raw.
-/
import Derived.Test.YtcpbcnbgcacgnabCurRead
namespace Go.Proofs.Ytcpbcnbgcacgnab
open Go.RowKit
def num (n : Int) (st : RS) : Nat := be (takeA n st).data.toList
theorem rI64 (p : Nat) (st : RS) (w : World) (h : CR w p st) (z : Int) (hz : IntKind.i64.wrap (num 8 st : Int) = z) : Calls Try.prog 30 #[.pointer (some ⟨p, 0, none⟩)] w fun e w' => e = .returned (.int .i64 z) ∧ CR w' p (takeS 8 st) ∧ Mr p w w' := by
  obtain ⟨Z, hZ⟩ : ∃ Z : Int, (num 8 st : Int) = Z := ⟨_, rfl⟩
  have hc : ∀ w : World, (convert 52 2 (.int .u64 Z)).run Try.prog w = .ok (.int .i64 z) w := fun w => by
    have h := run_convert_int (P := Try.prog) (w := w) 52 2 .u64 Z (by kernel_rfl) (by kernel_rfl)
    rw [show Try.prog.intKind 2 = .i64 by kernel_rfl, ← hZ, hz] at h
    rw [← hZ]
    exact h
  have hg := fun (w : World) (h : CR w p st) => get_64 p st w h
  unfold num at hZ
  simp only [hZ] at hg
  have HG := hide hg
  have HC := hide hc
  clear hz hZ hc hg
  go_enter Try.func30, Try.ntmps30
  go_wp2_with fail
  refine (HG.out _ h).mono ?_
  rintro e w1 ⟨rfl, h1, hM⟩
  go_wp2_with (refine wpList_conv rfl _ _ _ rfl .u64 .i64 Z z (by rfl) (HC.out _) ?_)
  go_ret
  exact ⟨rfl, h1, hM⟩
theorem takeA_size (n : Int) (st : RS) : (takeA n st).size ≤ st.1.size := by
  unfold takeA
  split
  · split
    · exact Nat.zero_le _
    · rw [ByteArray.size_extract]; omega
  · exact Nat.zero_le _
theorem takeS_size (n : Int) (st : RS) : (takeS n st).1.size ≤ st.1.size := by
  unfold takeS
  split
  · split
    · exact Nat.zero_le _
    · simp only; rw [ByteArray.size_extract]; omega
  · exact Nat.le_refl _
theorem stopS_size (c : Int) (st : RS) : (stopS c st).1.size ≤ st.1.size := by
  unfold stopS
  split
  · exact Nat.zero_le _
  · exact Nat.le_refl _
def rawMid (n : Int) (st : RS) : RS := if n < 0 then stopS 1 st else st
def rawS (n : Int) (st : RS) : RS := takeS n (rawMid n st)
def rawA (n : Int) (st : RS) : ByteArray := takeA n (rawMid n st)
set_option maxHeartbeats 1000000 in
theorem rRaw (n : Int) (p : Nat) (st : RS) (w : World) (h : CR w p st) (hs : (rawA n st).size ≤ 281474976710656) : Calls Try.prog 31 #[.pointer (some ⟨p, 0, none⟩), .int .i64 n] w fun e w' => e = .returned (.string (rawA n st)) ∧ CR w' p (rawS n st) ∧ Mr p w w' := by
  have HS := hide hs
  unfold rawA rawS rawMid at *
  clear hs
  by_cases hlt : n < 0
  · have hd : decide (n < 0) = true := decide_eq_true hlt
    rw [if_pos hlt] at HS ⊢
    have hne : (stopS 1 st).2 ≠ 0 := by
      unfold stopS
      split
      · decide
      · assumption
    go_enter Try.func31, Try.ntmps31
    go_wp2_with fail
    refine (rStop 1 p _ _ h).mono ?_
    rintro e w2 ⟨rfl, h2, hM2⟩
    go_wp2_with fail
    refine (rTake n p _ _ h2 (.inl hne)).mono ?_
    rintro e w3 ⟨rfl, h3, hM3⟩
    go_wp2_with fail
    refine (clone_any _ _ HS.out).mono ?_
    rintro e w4 ⟨rfl, h4⟩
    go_wp2
    go_ret
    exact ⟨rfl, h3.below h4, (hM2.trans hM3).trans (Mr.of h4)⟩
  · have hd : decide (n < 0) = false := decide_eq_false hlt
    rw [if_neg hlt] at HS ⊢
    go_enter Try.func31, Try.ntmps31
    go_wp2_with fail
    refine (rTake n p _ _ h (.inr (by omega))).mono ?_
    rintro e w3 ⟨rfl, h3, hM3⟩
    go_wp2_with fail
    refine (clone_any _ _ HS.out).mono ?_
    rintro e w4 ⟨rfl, h4⟩
    go_wp2
    go_ret
    exact ⟨rfl, h3.below h4, hM3.trans (Mr.of h4)⟩
end Go.Proofs.Ytcpbcnbgcacgnab
