/-
  RecordKeeps: sameList, rises, sound (printed by gen_r15.py).
-/
import Derived.Test.YtlohfoggcdaeiaaGreatROpenA
import Derived.BigQuiet
import Derived.Deep.QuietTactic
namespace Go.Proofs.YtlohfoggcdaeiaaGreat
open Go.RowKit S
set_option linter.unusedVariables false
set_option linter.unusedSimpArgs false
open Cu (nb be hl ofL CW Mw CR Mr RS takeS takeA hOf nil8 doneS)
set_option maxRecDepth 100000 in
set_option maxHeartbeats 1000000 in
theorem sameL_any (ad1 ad2 : Option Addr) (n c1 c2 : Nat) (l : List Upd) (hn : l.length = n) (hz : n ≤ 140737488351232) (w : World) (h1 : Upds w ad1 l) (h2 : Upds w ad2 l) : Calls Tryz.prog 14 #[.slice ad1 n c1, .slice ad2 n c2] w fun e w' => e = .returned (.bool true) ∧ Below w.heap.size w w' := by
  have hni : (n : Int) ≤ 140737488351232 := by omega
  have hd0 : ((n : Int) != (n : Int)) = false := by simp
  have hgs := guardU
  have HN := hide hn
  clear hn
  go_enter Tryz.func14, Tryz.ntmps14
  go_wp2
  go_loopw [5] (fun i wr => ∃ j : Nat, j ≤ n ∧ i = .int .i64 (j : Int) ∧ Below w.heap.size w wr) (fun i _ => n - (intOf i).toNat)
  case atStart => exact ⟨0, Nat.zero_le _, rfl, Below.refl _ _⟩
  case round =>
    obtain ⟨j, hj, rfl, hwk⟩ := hrel
    have h1' := h1.below hwk
    have h2' := h2.below hwk
    by_cases hlt : j < n
    · have hd : decide ((j : Int) < (n : Int)) = true := decide_eq_true (by omega)
      have hd2 : decide (j < n) = true := decide_eq_true hlt
      have hk0 : (0 : Int) ≤ (j : Int) := by omega
      have hk1 : (j : Int) < (n : Int) := by omega
      obtain ⟨s, hs⟩ : ∃ s, l[j]? = some s := ⟨_, List.getElem?_eq_getElem (by rw [HN.out]; exact hlt)⟩
      obtain ⟨b1, o1, rfl, hb1, hA1⟩ := h1'.get j s hs
      obtain ⟨b2, o2, rfl, hb2, hA2⟩ := h2'.get j s hs
      have hqs : ∀ w : World, (Op.equalIn 10000 36 (.agg (tabv s.v 36)) (.agg (tabv s.v 36))).run Tryz.prog w = .ok true w := fun w => by rw [eqUD, eqU_refl]
      have HA1 := hide hA1
      have HA2 := hide hA2
      clear hA1 hA2 hb1 hb2 hs h1' h2'
      go_wp2
      refine wp_region_quiet_lit (by kernel_rfl) (by kernel_rfl) ?_
      iterate 3 (go_big_quiet_step (fail))
      go_big_quiet_want
      refine quiet_value (fun w' hw' => run_load_at w' 36 _ rfl b1 (o1 + j * 36) (by rfl) (s.v) 36 _ (by obtain ⟨m, rfl⟩ := hw'; exact HA1.out) Tryz.underlying36 rfl infoU) ?_
      simp only [Act.put, List.setIfInBounds_toArray, List.set_cons_succ, List.set_cons_zero]
      go_big_quiet_on
      iterate 3 (go_big_quiet_step (fail))
      go_big_quiet_want
      refine quiet_value (fun w' hw' => run_load_at w' 36 _ rfl b2 (o2 + j * 36) (by rfl) (s.v) 36 _ (by obtain ⟨m, rfl⟩ := hw'; exact HA2.out) Tryz.underlying36 rfl infoU) ?_
      simp only [Act.put, List.setIfInBounds_toArray, List.set_cons_succ, List.set_cons_zero]
      go_big_quiet_on
      iterate 1 (go_big_quiet_step (fail))
      refine wpQuiet_nil ?_
      intro _ hw'
      obtain ⟨nq, rfl⟩ := hw'
      go_wp2
      go_roundw
      case rel => exact ⟨j + 1, by omega, by go_num, belowD hwk nq⟩
      case measure => simp [intOf]; omega
    · have hjn : j = n := by omega
      subst hjn
      have hd : decide ((j : Int) < (j : Int)) = false := decide_eq_false (by omega)
      have hd2 : decide (j < j) = false := decide_eq_false (by omega)
      go_wp2
      go_ret
      exact ⟨by simp, hwk⟩
set_option maxRecDepth 100000 in
set_option maxHeartbeats 40000000 in
theorem rises_yes (a b : Int) (h : b = a ∨ b = wrap64 (a + 1)) (w : World) : Calls Tryz.prog 17 #[.int .i64 a, .int .i64 b] w fun e w' => e = .returned (.bool true) ∧ w = w' := by
  obtain ⟨R, hR⟩ : ∃ R, wrap64 (a + 1) = R := ⟨_, rfl⟩
  cases q1 : (b == a) with
  | true =>
    go_enter Tryz.func17, Tryz.ntmps17
    go_wp2
    go_ret
    exact ⟨rfl, rfl⟩
  | false =>
    have q2 : (b == R) = true := by
      rcases h with h | h
      · rw [h] at q1; simp at q1
      · rw [← hR, h]; simp
    clear h
    go_enter Tryz.func17, Tryz.ntmps17
    go_wp2
    go_ret
    exact ⟨rfl, rfl⟩
def soundB (s : St) : Bool := ((s.rem == s.ack) || (s.rem == wrap64 (s.ack + 1))) && (decide (0 ≤ s.ap) && (decide (s.ap ≤ (s.peers.n : Int)) && (decide (0 ≤ s.so) && (decide (s.so ≤ (s.ours.n : Int)) && (decide (0 ≤ s.ho) && decide (s.ho ≤ (s.ours.n : Int)))))))
set_option maxRecDepth 100000 in
set_option maxHeartbeats 40000000 in
theorem sound_any (s : St) (w : World) : Calls Tryz.prog 16 #[.agg (tabv s.v 115)] w fun e w' => e = .returned (.bool (soundB s)) ∧ Below w.heap.size w w' := by
  obtain ⟨w1, hW1⟩ : ∃ wX, w.alloc (.cells (tabv s.v 115) 31) = wX := ⟨_, rfl⟩
  have r1 : Has w1 w.heap.size 31 s.v 115 := by rw [← hW1]; exact Has.new w 31 s.v 115 _ rfl
  have b1 : Below w.heap.size w w1 := by rw [← hW1]; exact (Below.refl w.heap.size w).alloc (Nat.le_refl _) _
  obtain ⟨R, hR⟩ : ∃ R, wrap64 (s.ack + 1) = R := ⟨_, rfl⟩
  have c4 : w1.cell? ⟨w.heap.size, 4, none⟩ = some (.slice s.ours.ad s.ours.n s.ours.c) := r1.cell 4 (by omega)
  have c5 : w1.cell? ⟨w.heap.size, 5, none⟩ = some (.slice s.peers.ad s.peers.n s.peers.c) := r1.cell 5 (by omega)
  have c7 : w1.cell? ⟨w.heap.size, 7, none⟩ = some (.int .i64 s.rem) := r1.cell 7 (by omega)
  have c8 : w1.cell? ⟨w.heap.size, 8, none⟩ = some (.int .i64 s.ack) := r1.cell 8 (by omega)
  have c10 : w1.cell? ⟨w.heap.size, 10, none⟩ = some (.int .i64 s.ap) := r1.cell 10 (by omega)
  have c11 : w1.cell? ⟨w.heap.size, 11, none⟩ = some (.int .i64 s.so) := r1.cell 11 (by omega)
  have c13 : w1.cell? ⟨w.heap.size, 13, none⟩ = some (.int .i64 s.ho) := r1.cell 13 (by omega)
  clear r1
  unfold soundB
  rw [hR]
  cases q1 : (s.rem == s.ack) with
  | true =>
    cases d0 : decide (0 ≤ s.ap) with
    | false =>
      go_enter Tryz.func16, Tryz.ntmps16
      go_wp2
      go_ret
      exact ⟨rfl, b1⟩
    | true =>
      cases d1 : decide (s.ap ≤ (s.peers.n : Int)) with
      | false =>
        go_enter Tryz.func16, Tryz.ntmps16
        go_wp2
        go_ret
        exact ⟨rfl, b1⟩
      | true =>
        cases d2 : decide (0 ≤ s.so) with
        | false =>
          go_enter Tryz.func16, Tryz.ntmps16
          go_wp2
          go_ret
          exact ⟨rfl, b1⟩
        | true =>
          cases d3 : decide (s.so ≤ (s.ours.n : Int)) with
          | false =>
            go_enter Tryz.func16, Tryz.ntmps16
            go_wp2
            go_ret
            exact ⟨rfl, b1⟩
          | true =>
            cases d4 : decide (0 ≤ s.ho) with
            | false =>
              go_enter Tryz.func16, Tryz.ntmps16
              go_wp2
              go_ret
              exact ⟨rfl, b1⟩
            | true =>
              cases d5 : decide (s.ho ≤ (s.ours.n : Int)) with
              | false =>
                go_enter Tryz.func16, Tryz.ntmps16
                go_wp2
                go_ret
                exact ⟨rfl, b1⟩
              | true =>
                go_enter Tryz.func16, Tryz.ntmps16
                go_wp2
                go_ret
                exact ⟨rfl, b1⟩
  | false =>
    cases q2 : (s.rem == R) with
    | false =>
      go_enter Tryz.func16, Tryz.ntmps16
      go_wp2
      go_ret
      exact ⟨rfl, b1⟩
    | true =>
      cases d0 : decide (0 ≤ s.ap) with
      | false =>
        go_enter Tryz.func16, Tryz.ntmps16
        go_wp2
        go_ret
        exact ⟨rfl, b1⟩
      | true =>
        cases d1 : decide (s.ap ≤ (s.peers.n : Int)) with
        | false =>
          go_enter Tryz.func16, Tryz.ntmps16
          go_wp2
          go_ret
          exact ⟨rfl, b1⟩
        | true =>
          cases d2 : decide (0 ≤ s.so) with
          | false =>
            go_enter Tryz.func16, Tryz.ntmps16
            go_wp2
            go_ret
            exact ⟨rfl, b1⟩
          | true =>
            cases d3 : decide (s.so ≤ (s.ours.n : Int)) with
            | false =>
              go_enter Tryz.func16, Tryz.ntmps16
              go_wp2
              go_ret
              exact ⟨rfl, b1⟩
            | true =>
              cases d4 : decide (0 ≤ s.ho) with
              | false =>
                go_enter Tryz.func16, Tryz.ntmps16
                go_wp2
                go_ret
                exact ⟨rfl, b1⟩
              | true =>
                cases d5 : decide (s.ho ≤ (s.ours.n : Int)) with
                | false =>
                  go_enter Tryz.func16, Tryz.ntmps16
                  go_wp2
                  go_ret
                  exact ⟨rfl, b1⟩
                | true =>
                  go_enter Tryz.func16, Tryz.ntmps16
                  go_wp2
                  go_ret
                  exact ⟨rfl, b1⟩
end Go.Proofs.YtlohfoggcdaeiaaGreat
