/-
  The reader: I64, Text, Raw.
-/
import Derived.Test.YtfohdolhobooiaaCurRead
namespace Go.Proofs.Ytfohdolhobooiaa.Cu
open Go.RowKit
def num (n : Int) (st : RS) : Nat := be (takeA n st).data.toList
theorem rI64 (p : Nat) (st : RS) (w : World) (h : CR w p st) (z : Int) (hz : IntKind.i64.wrap (num 8 st : Int) = z) : Calls Try.prog 43 #[.pointer (some ⟨p, 0, none⟩)] w fun e w' => e = .returned (.int .i64 z) ∧ CR w' p (takeS 8 st) ∧ Mr p w w' := by
  obtain ⟨Z, hZ⟩ : ∃ Z : Int, (num 8 st : Int) = Z := ⟨_, rfl⟩
  have hc : ∀ w : World, (convert 72 2 (.int .u64 Z)).run Try.prog w = .ok (.int .i64 z) w := fun w => by
    have h := run_convert_int (P := Try.prog) (w := w) 72 2 .u64 Z (by kernel_rfl) (by kernel_rfl)
    rw [show Try.prog.intKind 2 = .i64 by kernel_rfl, ← hZ, hz] at h
    rw [← hZ]
    exact h
  have hg := fun (w : World) (h : CR w p st) => get_64 p st w h
  unfold num at hZ
  simp only [hZ] at hg
  have HG := hide hg
  have HC := hide hc
  clear hz hZ hc hg
  go_enter Try.func43, Try.ntmps43
  go_wp2_with fail
  refine (HG.out _ h).mono ?_
  rintro e w1 ⟨rfl, h1, hM⟩
  go_wp2_with (refine wpList_conv rfl _ _ _ rfl .u64 .i64 Z z (by rfl) (HC.out _) ?_)
  go_ret
  exact ⟨rfl, h1, hM⟩
def textMid (most : Int) (st : RS) : RS := if (num 2 st : Int) > most then stopS 3 (takeS 2 st) else takeS 2 st
def textS (most : Int) (st : RS) : RS := takeS (num 2 st) (textMid most st)
def textA (most : Int) (st : RS) : ByteArray := takeA (num 2 st) (textMid most st)
theorem takeA_size (n : Int) (st : RS) : (takeA n st).size ≤ st.1.size := by
  unfold takeA
  split
  · split
    · exact Nat.zero_le _
    · rw [ByteArray.size_extract]; omega
  · exact Nat.zero_le _
theorem takeS_size (n : Int) (st : RS) : (takeS n st).1.size ≤ st.1.size := by
  unfold takeS
  split
  · split
    · exact Nat.zero_le _
    · simp only; rw [ByteArray.size_extract]; omega
  · exact Nat.le_refl _
theorem stopS_size (c : Int) (st : RS) : (stopS c st).1.size ≤ st.1.size := by
  unfold stopS
  split
  · exact Nat.zero_le _
  · exact Nat.le_refl _
theorem textMid_size (most : Int) (st : RS) : (textMid most st).1.size ≤ st.1.size := by
  unfold textMid
  split
  · exact Nat.le_trans (stopS_size _ _) (takeS_size _ _)
  · exact takeS_size _ _
theorem num2_lt (st : RS) : num 2 st < 65536 := by
  have h := be_lt (takeA 2 st).data.toList
  have h2 := takeA_le 2 st
  rw [str_len] at h
  have : 256 ^ (takeA 2 st).size ≤ 256 ^ 2 := Nat.pow_le_pow_right (by decide) h2
  unfold num
  omega
set_option maxHeartbeats 1000000 in
theorem rText (most : Int) (p : Nat) (st : RS) (w : World) (h : CR w p st) (hs : st.1.size ≤ 281474976710656) : Calls Try.prog 45 #[.pointer (some ⟨p, 0, none⟩), .int .i64 most] w fun e w' => e = .returned (.string (textA most st)) ∧ CR w' p (textS most st) ∧ Mr p w w' := by
  have hnl := num2_lt st
  obtain ⟨Z, hZ⟩ : ∃ Z : Int, (num 2 st : Int) = Z := ⟨_, rfl⟩
  have hc : ∀ w : World, (convert 64 3 (.int .u16 Z)).run Try.prog w = .ok (.int .i64 Z) w := fun w => by
    have h := run_convert_int (P := Try.prog) (w := w) 64 3 .u16 Z (by kernel_rfl) (by kernel_rfl)
    have e2 : IntKind.i64.wrap Z = Z := by rw [IntKind.wrap_i64]; omega
    rw [show Try.prog.intKind 3 = .i64 by kernel_rfl, e2] at h
    exact h
  have hg := fun (w : World) (h : CR w p st) => rU16 p st w h
  have hZ2 : (be (takeA 2 st).data.toList : Int) = Z := hZ
  simp only [hZ2] at hg
  have HG := hide hg
  have HC := hide hc
  have hz0 : 0 ≤ Z := by omega
  have HS : Hid ((textA most st).size ≤ 281474976710656) := by
    show _ ≤ _
    unfold textA
    have := takeA_size (num 2 st) (textMid most st)
    have := textMid_size most st
    omega
  unfold textA textS textMid at *
  rw [hZ] at *
  clear hc hg hs hZ2 hZ hnl
  by_cases hgt : Z > most
  · have hd : decide (Z > most) = true := decide_eq_true hgt
    rw [if_pos hgt] at HS ⊢
    go_enter Try.func45, Try.ntmps45
    go_wp2_with fail
    refine (HG.out _ h).mono ?_
    rintro e w1 ⟨rfl, h1, hM⟩
    go_wp2_with (first | (refine wpList_conv rfl _ _ _ rfl .u16 .i64 Z Z (by rfl) (HC.out _) ?_) | fail)
    refine (rStop 3 p _ _ h1).mono ?_
    rintro e w2 ⟨rfl, h2, hM2⟩
    go_wp2_with fail
    refine (rTake Z p _ _ h2 (.inr hz0)).mono ?_
    rintro e w3 ⟨rfl, h3, hM3⟩
    go_wp2_with fail
    refine (clone_any _ _ HS.out).mono ?_
    rintro e w4 ⟨rfl, h4⟩
    go_wp2
    go_ret
    exact ⟨rfl, h3.below h4, ((hM.trans hM2).trans hM3).trans (Mr.of h4)⟩
  · have hd : decide (Z > most) = false := decide_eq_false hgt
    rw [if_neg hgt] at HS ⊢
    go_enter Try.func45, Try.ntmps45
    go_wp2_with fail
    refine (HG.out _ h).mono ?_
    rintro e w1 ⟨rfl, h1, hM⟩
    go_wp2_with (first | (refine wpList_conv rfl _ _ _ rfl .u16 .i64 Z Z (by rfl) (HC.out _) ?_) | fail)
    refine (rTake Z p _ _ h1 (.inr hz0)).mono ?_
    rintro e w3 ⟨rfl, h3, hM3⟩
    go_wp2_with fail
    refine (clone_any _ _ HS.out).mono ?_
    rintro e w4 ⟨rfl, h4⟩
    go_wp2
    go_ret
    exact ⟨rfl, h3.below h4, (hM.trans hM3).trans (Mr.of h4)⟩
def rawMid (n : Int) (st : RS) : RS := if n < 0 then stopS 1 st else st
def rawS (n : Int) (st : RS) : RS := takeS n (rawMid n st)
def rawA (n : Int) (st : RS) : ByteArray := takeA n (rawMid n st)
-- left out in this seat: rRaw
end Go.Proofs.Ytfohdolhobooiaa.Cu
