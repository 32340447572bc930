/-
  The document's disk: Truncate.
-/
import Derived.Test.YtobfijpfdibccaaGreatRefWrite
namespace Go.Proofs.YtobfijpfdibccaaGreat
open Go.RowKit Go.Maps Go.WideMaps
set_option linter.unusedVariables false
set_option linter.unusedSimpArgs false
def cutDs (ds : List Int) (n : Nat) : List Int := ds.filter (fun d => decide (d * 64 < (n : Int)))
theorem cutDs_snoc (ds : List Int) (n k : Nat) (h : k < ds.length) : cutDs (ds.take (k + 1)) n = cutDs (ds.take k) n ++ (if ds[k] * 64 < (n : Int) then [ds[k]] else []) := by
  unfold cutDs
  rw [take_snoc ds k h, List.filter_append, List.filter_cons, List.filter_nil]
  congr 1
  by_cases e : ds[k] * 64 < (n : Int)
  · rw [if_pos e, if_pos (decide_eq_true e)]
  · rw [if_neg e, if_neg (by simpa using e)]
theorem cutDs_few (ds : List Int) (n : Nat) : (cutDs ds n).length ≤ ds.length := List.length_filter_le ..
theorem range_filter_cut (p : Nat → Bool) (m k : Nat) (h : m ≤ k) (hp : ∀ a, m ≤ a → p a = false) : (List.range k).filter p = (List.range m).filter p := by
  have e : k = m + (k - m) := by omega
  rw [e, List.range_add, List.filter_append]
  have e4 : List.filter p (List.map (fun x => m + x) (List.range (k - m))) = [] := by
    rw [List.filter_eq_nil_iff]
    intro a ha
    obtain ⟨x, _, rfl⟩ := List.mem_map.1 ha
    rw [hp _ (Nat.le_add_right _ _)]
    simp
  rw [e4, List.append_nil]
theorem cutDs_all {F : AF} (h : F.Ok) (n : Nat) (hn : n ≤ F.seen.length) : cutDs (dirtyI F) n = dirtyI (F.trunc n) := by
  unfold cutDs dirtyI AF.dirtyL
  rw [List.filter_map, List.filter_filter]
  congr 1
  have e1 : (F.trunc n).nsec = (n + 63) / 64 := by
    unfold AF.nsec AF.trunc
    simp only [List.length_take]
    rw [Nat.min_eq_left hn]
  have e2 : (F.trunc n).nsec ≤ F.nsec := by rw [e1]; unfold AF.nsec; omega
  rw [range_filter_cut _ _ _ e2 (fun a ha => ?_)]
  · refine List.filter_congr (fun a ha => ?_)
    show (decide ((a : Int) * 64 < (n : Int)) && F.dirty a) = (F.dirty a && decide (64 * a < n))
    rw [Bool.and_comm]
    congr 1
    exact decide_eq_decide.2 (by omega)
  · show (decide ((a : Int) * 64 < (n : Int)) && F.dirty a) = false
    rw [decide_eq_false (by rw [e1] at ha; omega)]
    rfl
section
variable {w w1 w2 : World} {r : Nat} {s : RS} {xs : List RF} {S : Nat → Prop} {A : AD}
-- left out in this seat: rTrunc_any
end
end Go.Proofs.YtobfijpfdibccaaGreat
