/-
  The document's disk: FateOf.
-/
import Derived.Test.YtcmhfpiglacdaaaGreatRefBase
namespace Go.Proofs.YtcmhfpiglacdaaaGreat
open Go.RowKit Go.Maps Go.WideMaps
set_option linter.unusedVariables false
set_option linter.unusedSimpArgs false
theorem firstF_take_none {ls : List FT} {k : Key} {s : Int} {j : Nat} (h : firstF (ls.take j) k s = none) (hj : j < ls.length) (hx : ¬ (ls[j].file.data.toList = k ∧ ls[j].sector = s)) : firstF (ls.take (j + 1)) k s = none := by
  rw [take_snoc ls j hj, firstF_snoc, h]
  simp only [Option.none_or]
  rw [if_neg hx]
theorem firstF_at {ls : List FT} {k : Key} {s : Int} {j : Nat} (h : firstF (ls.take j) k s = none) (hj : j < ls.length) (hx : ls[j].file.data.toList = k ∧ ls[j].sector = s) : firstF ls k s = some ls[j] := by
  have e : ls = ls.take j ++ ls[j] :: ls.drop (j + 1) := by rw [← List.drop_eq_getElem_cons hj, List.take_append_drop]
  obtain ⟨y, hy⟩ : ∃ y, ls[j] = y := ⟨_, rfl⟩
  rw [hy] at hx e ⊢
  unfold firstF at h ⊢
  have e2 := congrArg (List.find? (fun x : FT => x.file.data.toList == k && decide (x.sector = s))) e
  rw [e2, List.find?_append, h]
  simp [hx.1, hx.2]
/-- The fate that is told. -/
def fateR (ls : List FT) (k : Key) (s : Int) : FT := (firstF ls k s).getD FT.zero
theorem fateR_some {ls : List FT} {k : Key} {s : Int} {x : FT} (h : firstF ls k s = some x) : fateR ls k s = x := by unfold fateR; rw [h]; rfl
theorem fateR_none {ls : List FT} {k : Key} {s : Int} (h : firstF ls k s = none) : fateR ls k s = FT.zero := by unfold fateR; rw [h]; rfl
set_option maxRecDepth 5000 in
set_option maxHeartbeats 1000000 in
theorem rFate_any (w : World) (ad : Option Addr) (cap : Nat) (ls : List FT) (h : FatesAt w ad ls) (hl : ls.length ≤ 9223372036854775807) (n : ByteArray) (s : Int) :
    Calls Tryz.prog 90 #[.slice ad ls.length cap, .string n, .int .i64 s] w fun e w' => e = .returned (.agg (fateR ls n.data.toList s).cs) ∧ Below w.heap.size w w' := by
  have HF := hide h
  clear h
  obtain ⟨g, hg⟩ : ∃ g, w.heap.size = g := ⟨_, rfl⟩
  have HG := hide hg
  obtain ⟨w0, hw0⟩ : ∃ w0, w.alloc (.cells FT.zero.cs 51) = w0 := ⟨_, rfl⟩
  have HW0 := hide hw0
  have hb0 : Below w.heap.size w w0 := by rw [← hw0]; exact (Below.refl _ _).alloc (Nat.le_refl _) _
  have HB0 := hide hb0
  clear hw0 hb0
  go_enter Tryz.func90, Tryz.ntmps90
  go_wp2
  go_loopw [7] (fun i wr => ∃ k : Nat, k ≤ ls.length ∧ i = .int .i64 (k : Int) ∧ firstF (ls.take k) n.data.toList s = none ∧ wr = w.alloc (.cells #[.string ⟨#[]⟩, .int .i64 0, .int .i64 0, .string ⟨#[]⟩] 51)) (fun i _ => ls.length - (intOf i).toNat)
  case atStart => exact ⟨0, by omega, rfl, rfl, rfl⟩
  case round =>
    obtain ⟨k, hk, rfl, hno, rfl⟩ := hrel
    have HN := hide hno
    clear hno
    by_cases hlt : k < ls.length
    · have dk : decide ((k : Int) < (ls.length : Int)) = true := decide_eq_true (by omega)
      have hk0 : (0 : Int) ≤ (k : Int) := by omega
      have hk1 : (k : Int) < (ls.length : Int) := by omega
      rcases HF.out with h | ⟨b, o, rfl, hbl, hcs⟩
      · rw [h] at hlt; exact absurd hlt (by simp)
      obtain ⟨x, hx⟩ : ∃ x, ls[k] = x := ⟨_, rfl⟩
      have hcell : ∀ j, j < 4 → (w.alloc (.cells #[.string ⟨#[]⟩, .int .i64 0, .int .i64 0, .string ⟨#[]⟩] 51)).cell? ⟨b, o + k * 4 + j, none⟩ = (x.cs)[j]? := fun j hj => by rw [World.cell?_alloc_lt _ _ _ hbl, hcs k hlt j hj, hx]
      have f0 := (hcell 0 (by omega)).trans (show x.cs[0]? = some (Value.string x.file) from rfl)
      have f1 := (hcell 1 (by omega)).trans (show x.cs[1]? = some (Value.int .i64 x.sector) from rfl)
      have f2 := (hcell 2 (by omega)).trans (show x.cs[2]? = some (Value.int .i64 x.kind) from rfl)
      have f3 := (hcell 3 (by omega)).trans (show x.cs[3]? = some (Value.string x.bytes) from rfl)
      rw [Nat.add_zero] at f0
      cases h1 : (x.file.data.toList == n.data.toList) with
      | false =>
        have hb1 : (x.file.toList == n.toList) = false := by rw [toList_beq]; exact h1
        have HC := hide (firstF_take_none HN.out hlt (by rw [hx]; exact fun e => beq_eq_false_iff_ne.1 h1 e.1))
        clear h1 hcs hx hcell
        go_wp2
        go_roundw
        case rel => exact ⟨k + 1, by omega, by go_num, HC.out, by first | rfl | trivial⟩
        case measure => simp [intOf]; omega
      | true =>
        have hb1 : (x.file.toList == n.toList) = true := by rw [toList_beq]; exact h1
        cases h2 : (x.sector == s) with
        | false =>
          have HC := hide (firstF_take_none HN.out hlt (by rw [hx]; exact fun e => beq_eq_false_iff_ne.1 h2 e.2))
          clear h1 hcs hx hcell
          go_wp2
          go_roundw
          case rel => exact ⟨k + 1, by omega, by go_num, HC.out, by first | rfl | trivial⟩
          case measure => simp [intOf]; omega
        | true =>
          have hC := firstF_at HN.out hlt (by rw [hx]; exact ⟨beq_iff_eq.1 h1, beq_iff_eq.1 h2⟩)
          rw [hx] at hC
          have HC := hide (fateR_some hC)
          clear h1 hcs hx hcell hC
          go_wp2
          exact bodyPost_ret (results_cell_row rfl _ _ g 51 #[.string x.file, .int .i64 x.sector, .int .i64 x.kind, .string x.bytes] (0, 0) _ rfl (by rw [← HG.out]; exact heap_alloc_new w _) Tryz.underlying51 rfl (by kernel_rfl)) rfl ⟨by rw [HC.out]; rfl, (Below.refl _ _).alloc (Nat.le_refl _) _⟩
    · have hkl : k = ls.length := by omega
      subst hkl
      have dk : decide ((ls.length : Int) < (ls.length : Int)) = false := decide_eq_false (by omega)
      have HC := HN.out
      rw [List.take_length] at HC
      have HD := hide (fateR_none HC)
      clear HC
      go_wp2
      exact bodyPost_ret (results_cell_row rfl _ _ g 51 #[.string ⟨#[]⟩, .int .i64 0, .int .i64 0, .string ⟨#[]⟩] (0, 0) _ rfl (by rw [← HG.out]; exact heap_alloc_new w _) Tryz.underlying51 rfl (by kernel_rfl)) rfl ⟨by rw [HD.out]; rfl, (Below.refl _ _).alloc (Nat.le_refl _) _⟩
end Go.Proofs.YtcmhfpiglacdaaaGreat
