/-
  script's writer: its text as a string (printed by mkst.py).
-/
import Derived.Test.YtepgoehpjafbhaaGreatDoorSWm
namespace Go.Proofs.YtepgoehpjafbhaaGreatDoor
open Go.RowKit S
set_option linter.unusedVariables false
set_option linter.unusedSimpArgs false
theorem cellsByte5 : Tryz.prog.cellsOf 5 = 1 := by kernel_rfl
set_option maxRecDepth 100000 in
set_option maxHeartbeats 2000000 in
theorem string_nil (b N : Nat) (p : Value) (lg : Bool) (w : World) (h5 : Has w b 89 (wtv p (.slice none 0 0) lg) 3) :
    Calls Tryz.prog 43 #[.pointer (some ⟨b, 0, none⟩)] w fun e w' => e = .returned (.string (bs [])) ∧ Below N w w' := by
  have c1 : w.cell? ⟨b, 1, none⟩ = some (.slice none 0 0) := h5.cell 1 (by omega)
  have hSD : ∀ W : World, (Builtin.unsafeSliceData_ #[24] 125 #[.slice none 0 0]).run Tryz.prog W = .ok (.pointer none) W := fun W => rfl
  have hUS0 : ∀ nq : Nat, (Builtin.unsafeString_ #[125, 3] 9 #[.pointer none, .int .i64 0]).run Tryz.prog (w.drewN nq) = .ok (.string (bs [])) (w.drewN nq) := fun nq => Lib.run_unsafeString_none _ _ _ _ _
  go_enter Tryz.func43, Tryz.ntmps43
  go_wp2_with fail
  refine wp_region_drew_tail 10 (by kernel_rfl) (by kernel_rfl) ?_
  simp only [List.take_succ_cons, List.take_zero, List.drop_succ_cons, List.drop_zero]
  iterate 10 (go_big_quiet_step (fail))
  refine wpQuiet_nil ?_
  intro _ hw'
  obtain ⟨nq, rfl⟩ := hw'
  have hUS := hUS0 nq
  go_wp2
  go_ret
  exact ⟨rfl, belowD (Below.refl N w) nq⟩
set_option maxRecDepth 100000 in
set_option maxHeartbeats 2000000 in
theorem string_room (b N g cap : Nat) (p : Value) (lg : Bool) (w : World) (hc0 : cap ≠ 0) (h5 : Has w b 89 (wtv p (.slice (some ⟨g, 0, none⟩) 0 cap) lg) 3) :
    Calls Tryz.prog 43 #[.pointer (some ⟨b, 0, none⟩)] w fun e w' => e = .returned (.string (bs [])) ∧ Below N w w' := by
  have c1 : w.cell? ⟨b, 1, none⟩ = some (.slice (some ⟨g, 0, none⟩) 0 cap) := h5.cell 1 (by omega)
  have hSD : ∀ W : World, (Builtin.unsafeSliceData_ #[24] 125 #[.slice (some ⟨g, 0, none⟩) 0 cap]).run Tryz.prog W = .ok (.pointer (some ⟨g, 0, none⟩)) W := fun W => Lib.run_unsafeSliceData_row _ _ _ _ _ _ hc0
  have hUS0 : ∀ nq : Nat, (Builtin.unsafeString_ #[125, 3] 9 #[.pointer (some ⟨g, 0, none⟩), .int .i64 0]).run Tryz.prog (w.drewN nq) = .ok (.string (bs [])) (w.drewN nq) := fun nq => Lib.run_unsafeString_none _ _ _ _ _
  clear hc0
  go_enter Tryz.func43, Tryz.ntmps43
  go_wp2_with fail
  refine wp_region_drew_tail 10 (by kernel_rfl) (by kernel_rfl) ?_
  simp only [List.take_succ_cons, List.take_zero, List.drop_succ_cons, List.drop_zero]
  iterate 10 (go_big_quiet_step (fail))
  refine wpQuiet_nil ?_
  intro _ hw'
  obtain ⟨nq, rfl⟩ := hw'
  have hUS := hUS0 nq
  go_wp2
  go_ret
  exact ⟨rfl, belowD (Below.refl N w) nq⟩
set_option maxRecDepth 100000 in
set_option maxHeartbeats 2000000 in
theorem string_some (b N g cap : Nat) (p : Value) (t : List UInt8) (lg : Bool) (w : World) (h0 : t ≠ []) (h3 : Cu.Bytes w N (.slice (some ⟨g, 0, none⟩) t.length cap) t) (h5 : Has w b 89 (wtv p (.slice (some ⟨g, 0, none⟩) t.length cap) lg) 3) :
    Calls Tryz.prog 43 #[.pointer (some ⟨b, 0, none⟩)] w fun e w' => e = .returned (.string (bs t)) ∧ Below N w w' := by
  have hl0 : t.length ≠ 0 := by simpa using h0
  have c1 : w.cell? ⟨b, 1, none⟩ = some (.slice (some ⟨g, 0, none⟩) t.length cap) := h5.cell 1 (by omega)
  obtain ⟨cur, hbg, hg, hnc, hcm, hcs⟩ : ∃ cur : Array Value, N ≤ g ∧ w.heap[g]? = some (.cells cur 5 (0, 0)) ∧ t.length ≤ cap ∧ cap ≤ maxLen ∧ cur.size = cap * 1 := by
    rcases h3.2 with ⟨h1, _⟩ | ⟨g', cap', cur, h1, hbg, hg, hnc, hcm, hcs, _⟩
    · cases h1
    · simp only [Value.slice.injEq, Option.some.injEq, Addr.mk.injEq, and_true] at h1
      obtain ⟨rfl, _, rfl⟩ := h1
      exact ⟨cur, hbg, hg, hnc, hcm, hcs⟩
  have hSD : ∀ W : World, (Builtin.unsafeSliceData_ #[24] 125 #[.slice (some ⟨g, 0, none⟩) t.length cap]).run Tryz.prog W = .ok (.pointer (some ⟨g, 0, none⟩)) W := fun W => Lib.run_unsafeSliceData_row _ _ _ _ _ _ (by omega)
  have hUS0 : ∀ nq : Nat, (Builtin.unsafeString_ #[125, 3] 9 #[.pointer (some ⟨g, 0, none⟩), .int .i64 t.length]).run Tryz.prog (w.drewN nq) = .ok (.string (bs t)) ((w.drewN nq).freeze ⟨g, 0, none⟩ t.length) := fun nq => by
    refine Lib.run_unsafeString_row (w.drewN nq) 125 3 9 5 Tryz.underlying125 cellsByte5 g cur.size (by have hg' : (w.drewN nq).heap[g]? = some (.cells cur 5 (0, 0)) := hg; unfold World.shape?; rw [hg']) t h0 (by omega) (by unfold maxLen at hcm; omega) ?_
    intro j x hx
    exact World.ownsRow.cells h3 (g := g) rfl j (.int .u8 x.toNat) (by rw [List.getElem?_map, hx]; rfl)
  go_enter Tryz.func43, Tryz.ntmps43
  go_wp2_with fail
  refine wp_region_drew_tail 10 (by kernel_rfl) (by kernel_rfl) ?_
  simp only [List.take_succ_cons, List.take_zero, List.drop_succ_cons, List.drop_zero]
  iterate 10 (go_big_quiet_step (fail))
  refine wpQuiet_nil ?_
  intro _ hw'
  obtain ⟨nq, rfl⟩ := hw'
  have hUS := hUS0 nq
  go_wp2
  go_ret
  exact ⟨rfl, Lib.below_freeze (belowD (Below.refl N w) nq) (p := ⟨g, 0, none⟩) hbg _⟩
set_option maxRecDepth 100000 in
set_option maxHeartbeats 2000000 in
theorem string_zero (b N g : Nat) (p : Value) (cur : Array Value) (lg : Bool) (w : World) (h2 : N ≤ w.heap.size) (hg : w.heap[g]? = some (.cells cur 5 (0, 0))) (h5 : Has w b 89 (wtv p (.slice (some ⟨g, 0, none⟩) 0 0) lg) 3) :
    Calls Tryz.prog 43 #[.pointer (some ⟨b, 0, none⟩)] w fun e w' => e = .returned (.string (bs [])) ∧ Below N w w' := by
  have hUS0 : ∀ (W : World) (q : Option Addr), (Builtin.unsafeString_ #[125, 3] 9 #[.pointer q, .int .i64 0]).run Tryz.prog W = .ok (.string (bs [])) W := fun W q => Lib.run_unsafeString_none W _ _ _ q
  have hbl := h5.lt
  have c1 : w.drew.cell? ⟨b, 1, none⟩ = some (.slice (some ⟨g, 0, none⟩) 0 0) := h5.drew.cell 1 (by omega)
  have hSD : (Builtin.unsafeSliceData_ #[24] 125 #[.slice (some ⟨g, 0, none⟩) 0 0]).run Tryz.prog w.drew = .ok (.pointer (some ⟨w.drew.heap.size, 0, none⟩)) (w.drew.alloc (.view ⟨g, 0, none⟩ 5)) :=
    Lib.run_unsafeSliceData_zero w.drew _ _ 5 Tryz.underlying125 ⟨g, 0, none⟩ 0 (5, cur.size) (by have hg' : w.drew.heap[g]? = some (.cells cur 5 (0, 0)) := hg; unfold World.shape?; rw [hg'])
  have c2 : (w.drew.alloc (.view ⟨g, 0, none⟩ 5)).cell? ⟨b, 1, none⟩ = some (.slice (some ⟨g, 0, none⟩) 0 0) := (h5.drew.old _).cell 1 (by omega)
  have c3 : (w.alloc (.view ⟨g, 0, none⟩ 5)).drew.cell? ⟨b, 1, none⟩ = some (.slice (some ⟨g, 0, none⟩) 0 0) := c2
  have c0 : w.cell? ⟨b, 1, none⟩ = some (.slice (some ⟨g, 0, none⟩) 0 0) := c1
  have mixed : Tryz.prog.follows .mixedOrders = true := by kernel_rfl
  go_enter Tryz.func43, Tryz.ntmps43
  go_wp2
  go_region_o
  all_goals (go_wp2; go_ret; exact ⟨rfl, ((Below.refl N w).drew).alloc h2 _⟩)
theorem string_any (b N : Nat) (v : Value) (t : List UInt8) (lg : Bool) (w : World) (h : Wr w b N v t lg) :
    Calls Tryz.prog 43 #[.pointer (some ⟨b, 0, none⟩)] w fun e w' => e = .returned (.string (bs t)) ∧ Below N w w' := by
  obtain ⟨h1, h2, h3, p, h4, h5⟩ := h
  rcases h3.2 with ⟨rfl, hn⟩ | ⟨g, cap, cur, rfl, hbg, hg, hnc, hcm, hcs, htake⟩
  · have : t = [] := List.length_eq_zero_iff.1 hn
    subst this
    exact string_nil b N p lg w h5
  · by_cases h0 : t = []
    · subst h0
      by_cases hc0 : cap = 0
      · subst hc0
        exact string_zero b N g p cur lg w h2 hg h5
      · exact string_room b N g cap p lg w hc0 h5
    · exact string_some b N g cap p t lg w h0 h3 h5
end Go.Proofs.YtepgoehpjafbhaaGreatDoor
