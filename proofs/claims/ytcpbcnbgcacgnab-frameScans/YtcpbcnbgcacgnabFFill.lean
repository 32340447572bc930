/-
  The program's fill.
-/
import Derived.Test.YtcpbcnbgcacgnabFMath
import Derived.Test.YtcpbcnbgcacgnabCurReader2
import Derived.Test.YtcpbcnbgcacgnabCrcOn
import Derived.Test.YtcpbcnbgcacgnabShelf
namespace Go.Proofs.Ytcpbcnbgcacgnab
open Go.RowKit C
theorem repeat_any (k : Nat) (w : World) (hk : k ≤ 64) (K : Int) (hK : K = (k : Int)) : Calls Try.prog 27 #[.string { data := #[0] }, .int .i64 K] w fun e w' => e = .returned (.string ⟨(List.replicate k 0).toArray⟩) ∧ Below w.heap.size w w' := by
  have h := Any.strings_Repeat Try.laysRepeat Try.Builder_Extra_105 { data := #[0] } k w (by omega) (by show 1 * k ≤ _; omega)
  have e : Lib.repeatL (ByteArray.mk #[0]).data.toList k = List.replicate k 0 := by
    have := Lib.repeatL_replicate 0 1 k
    rw [Nat.mul_one] at this
    exact this
  rw [e] at h
  rw [hK]
  exact h
set_option maxHeartbeats 1000000 in
theorem fill_any (k : Nat) (w : World) (hk : k ≤ 65536) : Calls Try.prog 18 #[.int .i64 ((16 + k : Nat) : Int)] w fun e w' => e = .returned (.string ⟨(fillL k).toArray⟩) ∧ Below w.heap.size w w' := by
  obtain ⟨N, hN⟩ : ∃ N : Int, ((16 + k : Nat) : Int) = N := ⟨_, rfl⟩
  have hr := room_ge k
  have hd : room k = (k + 79) / 64 * 64 := rfl
  rw [hN]
  have h1 : wrap64 (64 - N % 64) = 64 - N % 64 := by unfold wrap64; omega
  have hn0 : 0 ≤ N := by omega
  have hN3 : -(N % 64) % 64 = ((room k - (16 + k) : Nat) : Int) := by omega
  have H3 := hide hN3
  have hN2 : (64 - N % 64) % 64 = ((room k - (16 + k) : Nat) : Int) := by omega
  have hle : room k - (16 + k) ≤ 64 := by omega
  have H2 := hide hN2
  have HL := hide hle
  have hm0 : Int.tmod N 64 = N % 64 := Int.tmod_eq_emod_of_nonneg hn0
  have hm1 : Int.tmod (64 - N % 64) 64 = (64 - N % 64) % 64 := Int.tmod_eq_emod_of_nonneg (by omega)
  clear hN3 hN2 hle hr hd hk hN
  go_enter Try.func18, Try.ntmps18
  go_wp2_with fail
  refine (repeat_any (room k - (16 + k)) _ HL.out _ ?_).mono ?_
  · first | exact H3.out | exact H2.out
  rintro e w1 ⟨rfl, hb1⟩
  go_wp2
  go_ret
  exact ⟨rfl, hb1⟩
end Go.Proofs.Ytcpbcnbgcacgnab
