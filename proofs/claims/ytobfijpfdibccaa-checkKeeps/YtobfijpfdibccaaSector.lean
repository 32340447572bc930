/-
  sector, clear, file.write.
-/
import Derived.Test.YtobfijpfdibccaaCopy
namespace Go.Proofs.Ytobfijpfdibccaa
open Go.RowKit Go.Maps Go.WideMaps
def sFrom (s len : Nat) : Nat := min (64 * s) len
def sTo (s len : Nat) : Nat := min (sFrom s len + 64) len
theorem sFrom_le (s len : Nat) : sFrom s len ≤ len := Nat.min_le_right _ _
theorem sTo_le (s len : Nat) : sTo s len ≤ len := Nat.min_le_right _ _
theorem sFromTo (s len : Nat) : sFrom s len ≤ sTo s len := by unfold sTo sFrom; omega
set_option maxRecDepth 5000 in
set_option maxHeartbeats 400000 in
theorem sector_any (w : World) (v : Value) (l : List UInt8) (hB : Bytes w 0 v l) (s : Nat) (hs : s < 16384) (hl : l.length ≤ 140737488355328) :
    ∃ u, Piece u v.ownBlock (sFrom s l.length) (sTo s l.length - sFrom s l.length) ∧ ∀ W : World, Calls Try.prog 42 #[v, .int .i64 (s : Int)] W fun e w' => e = .returned u ∧ w' = W := by
  obtain ⟨ad, cp, hv⟩ := hB.shape
  obtain ⟨u, hr, hp⟩ := run_slice_piece w hB (sFrom s l.length) (sTo s l.length) (sFromTo _ _) (sTo_le _ _)
  obtain ⟨n, hn⟩ : ∃ n, l.length = n := ⟨_, rfl⟩
  rw [hn] at hr hp hl hv
  subst hv
  rw [hn]
  refine ⟨u, hp, fun W => ?_⟩
  have hf : (if (n : Int) < (s : Int) * 64 then (n : Int) else (s : Int) * 64) = ((sFrom s n : Nat) : Int) := by unfold sFrom; split <;> omega
  have ht : (if (n : Int) < ((sFrom s n : Nat) : Int) + 64 then (n : Int) else ((sFrom s n : Nat) : Int) + 64) = ((sTo s n : Nat) : Int) := by unfold sTo; split <;> omega
  have h1 : ((sFrom s n : Nat) : Int) ≤ 140737488355328 := by have := sFrom_le s n; omega
  have hs' : (s : Int) < 16384 := by omega
  obtain ⟨f, hff⟩ : ∃ f, sFrom s n = f := ⟨_, rfl⟩
  obtain ⟨t, htt⟩ : ∃ t, sTo s n = t := ⟨_, rfl⟩
  rw [hff] at hf ht hr h1
  rw [htt] at ht hr
  clear hp hff htt hB
  go_enter Try.func42, Try.ntmps42
  go_wp2
  go_ret
  exact ⟨rfl, rfl⟩
end Go.Proofs.Ytobfijpfdibccaa
