/-
  The statements' own helper: text.
-/
import Derived.Test.YtcmhfpiglacdaaaGreatMade
namespace Go.Proofs.YtcmhfpiglacdaaaGreat
open Go.RowKit Go.Maps Go.WideMaps
set_option linter.unusedVariables false
set_option linter.unusedSimpArgs false
theorem set_fill (c : UInt8) (n k : Nat) (h : k < n) : (List.replicate k c ++ List.replicate (n - k) (0 : UInt8)).set k c = List.replicate (k + 1) c ++ List.replicate (n - (k + 1)) 0 := by
  obtain ⟨m, rfl⟩ : ∃ m, n = k + 1 + m := ⟨n - (k + 1), by omega⟩
  rw [show k + 1 + m - k = m + 1 by omega, show k + 1 + m - (k + 1) = m by omega, List.set_append_right _ _ (by simp), List.length_replicate, Nat.sub_self, List.replicate_succ, List.set_cons_zero, List.replicate_succ']
  simp
theorem Bytes.stored {w : World} {g n cap : Nat} {l : List UInt8} (h : Bytes w 0 (.slice (some ⟨g, 0, none⟩) n cap) l) (hn : l.length = n) (j : Nat) (c : UInt8) : Bytes (w.setCell ⟨g, j, none⟩ (.int .u8 (c.toNat : Int))) 0 (.slice (some ⟨g, 0, none⟩) n cap) (l.set j c) := by
  subst hn
  have := (World.ownsRow.stored h j (.int .u8 (c.toNat : Int))).1
  unfold Bytes
  rw [List.length_set, List.map_set]
  exact this
set_option maxRecDepth 5000 in
theorem text_any (w : World) (c : UInt8) (n : Nat) (hn : n ≤ 1000) (X N : Int) (hX : X = (c.toNat : Int)) (hN : N = (n : Int)) :
    Calls Tryz.prog 11 #[.int .u8 X, .int .i64 N] w fun e w' => e = .returned (.string ⟨(List.replicate n c).toArray⟩) ∧ Below w.heap.size w w' := by
  subst hX hN
  obtain ⟨g, hg⟩ : ∃ g, w.heap.size = g := ⟨_, rfl⟩
  have HG := hide hg
  go_enter Tryz.func11, Tryz.ntmps11
  go_wp2_with (first | (refine wpList_make_zero rfl _ _ rfl n (by rfl) (by rfl) (by omega) ?_; intro w2 hB2 hb2) | go_in)
  try go_frame
  have hB2' : Bytes w2 0 (.slice (some ⟨g, 0, none⟩) n n) (List.replicate 0 c ++ List.replicate (n - 0) 0) := by first | exact hB2 | (rw [← hg]; exact hB2)
  have HB2 := hide hB2'
  have HW2 := hide hb2
  clear hB2 hB2' hb2
  go_loopw [6] (fun i wr => ∃ k : Nat, k ≤ n ∧ i = .int .i64 (k : Int) ∧ Bytes wr 0 (.slice (some ⟨g, 0, none⟩) n n) (List.replicate k c ++ List.replicate (n - k) 0) ∧ Below w.heap.size w wr) (fun i _ => n - (intOf i).toNat)
  case atStart => exact ⟨0, by omega, rfl, HB2.out, by first | exact HW2.out | (rw [HG.out]; exact HW2.out)⟩
  case round =>
    obtain ⟨k, hk, rfl, hB, hbw⟩ := hrel
    have hl : (List.replicate k c ++ List.replicate (n - k) (0 : UInt8)).length = n := by simp; omega
    by_cases hlt : k < n
    · have dk : decide ((k : Int) < (n : Int)) = true := decide_eq_true (by omega)
      have hk0 : (0 : Int) ≤ (k : Int) := by omega
      have hk1 : (k : Int) < (n : Int) := by omega
      have h1 := hB
      unfold Bytes at h1
      rw [hl] at h1
      have f0 : ∃ v, wr.cell? ⟨g, k, none⟩ = some v := by
        rw [World.ownsRow.cellAt h1 k (by omega)]
        exact ⟨_, List.getElem?_eq_getElem (by simp; omega)⟩
      obtain ⟨v, f0⟩ := f0
      have f1 := World.ownsRow.frozenAt h1 k
      have hs := hB.stored hl k c
      rw [set_fill c n k hlt] at hs
      have HS := hide hs
      have HW := hide (Below.setCell (p := ⟨g, k, none⟩) hbw (by rw [HG.out]; exact Nat.le_refl _) (.int .u8 (c.toNat : Int)))
      clear h1 hs hB hbw hl
      go_wp2
      go_roundw
      case rel => exact ⟨k + 1, by omega, by go_num, HS.out, HW.out⟩
      case measure => simp [intOf]; omega
    · have hkl : k = n := by omega
      subst hkl
      have dk : decide ((k : Int) < (k : Int)) = false := decide_eq_false (by omega)
      have hcv : (convert 77 9 (.slice (some ⟨g, 0, none⟩) k k)).run Tryz.prog wr = .ok (.string ⟨(List.replicate k c).toArray⟩) wr := by
        have := run_conv_piece wr hB (Piece.whole hB) (by omega)
        rw [hl] at this
        rw [this]
        simp
      have HW := hide hbw
      clear hB hl hbw
      go_wp2
      go_ret
      exact ⟨rfl, HW.out⟩
end Go.Proofs.YtcmhfpiglacdaaaGreat
