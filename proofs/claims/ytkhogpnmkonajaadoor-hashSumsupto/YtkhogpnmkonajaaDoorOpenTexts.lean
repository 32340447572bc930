/-
  A list of texts among the arguments.
-/
import Derived.Test.YtkhogpnmkonajaaDoorRows
import Derived.Test.YtkhogpnmkonajaaDoorLawHashSums
import Derived.ProofKit
import Derived.OpenShut
import Derived.Deep.Strs
namespace Go.Proofs.YtkhogpnmkonajaaDoor
open Go.ChangeShapes Go.WideShapes Go.ChangeAt Go.RowKit Go.Deep S
theorem cells9 : Tryd.prog.cellsOf 9 = 1 := by kernel_rfl
theorem bulk_texts {H : Type} (f : Nat → ByteArray) (n : Nat) : (flat ((List.range n).map f)).length + n ≤ Rows.uptoBulkAll ((List.range n).map fun i => (DataW.lit (.string (f i).data.toList) : DataW H)) := by
  have key : ∀ l : List Nat, (flat (l.map f)).length + l.length ≤ Rows.uptoBulkAll (l.map fun i => (DataW.lit (.string (f i).data.toList) : DataW H)) := by
    intro l
    induction l with
    | nil => simp [flat, Rows.uptoBulkAll]
    | cons a l ih =>
      have e : flat ((a :: l).map f) = (f a).data.toList ++ flat (l.map f) := by simp [flat]
      rw [e, List.length_append, List.length_cons, List.map_cons]
      simp only [Rows.uptoBulkAll, Rows.uptoBulk]
      omega
  have := key (List.range n)
  rwa [List.length_range] at this
theorem open_texts {H : Type} {enc : TypeId × Value → H} {W : World} {ad : Option Addr} {len cap : Nat} {d : DataW H} {p : List MemPlace} (h : DataW.Trod enc Tryd.prog W 0 (fun _ => true) true 24 (.slice ad len cap) d p) :
    ∃ ss : List ByteArray, ss.length = len ∧ Strs W ad ss ∧ (flat ss).length + ss.length ≤ Rows.uptoBulk d := by
  obtain ⟨fuel, hf⟩ := h
  rcases open_strs Tryd.underlying24 Tryd.underlying9 cells9 hf with ⟨hcs, hx⟩ | ⟨a, len', cap', m, Sx, hcs, _, hl, hm, hmm, hx, hcell⟩
  · simp [Value.cells] at hcs
    obtain ⟨rfl, rfl, rfl⟩ := hcs
    exact ⟨[], rfl, .inl rfl, by simp [flat]⟩
  · simp [Value.cells] at hcs
    obtain ⟨rfl, rfl, rfl⟩ := hcs
    simp only [if_true] at hmm
    subst hmm
    simp only [Prod.mk.injEq] at hx
    refine ⟨(List.range len).map Sx, by simp, ?_, ?_⟩
    · by_cases hl0 : len = 0
      · subst hl0; exact .inl rfl
      · obtain ⟨b, off, spot⟩ := a
        have hspot : spot = none := by simpa [Addr.add] using World.cell?_spot (hcell 0 (by omega)).1
        subst hspot
        have hcell' : ∀ j, j < len → W.cell? ⟨b, off + j, none⟩ = some (.string (Sx j)) := fun j hj => by rw [← add_plain]; exact (hcell j (by omega)).1
        exact .inr ⟨b, off, rfl, World.block_lt_of_cell? _ _ (hcell' 0 (by omega)), fun i hi => by
          have hi' : i < len := by simpa using hi
          rw [hcell' i hi']; simp⟩
    · rw [hx.1, List.length_map, List.length_range]
      have := bulk_texts (H := H) Sx len
      simp only [Rows.uptoBulk]
      omega
theorem hashSums_walk (n : Num) (ad : Option Addr) (c : Nat) (ss : List ByteArray) (w : World) (hG : Glob n w) (hst : Strs w ad ss) (hl : (flat ss).length + ss.length ≤ 1048576) :
    Calls Tryd.prog 7 #[.slice ad ss.length c] w fun e w' => e = .returned (.bool true) ∧ Below w.heap.size w w' := hashSums_num n ad c ss w hG hst hl
end Go.Proofs.YtkhogpnmkonajaaDoor
