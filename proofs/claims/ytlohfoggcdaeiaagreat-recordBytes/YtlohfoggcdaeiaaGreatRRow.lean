import Derived.Test.YtlohfoggcdaeiaaGreatROpenA
import Derived.BigQuiet
import Derived.Deep.QuietTactic
import Derived.Test.YtlohfoggcdaeiaaGreatRCame
import Derived.Test.YtlohfoggcdaeiaaGreatRRdO
/-
  RecordKeeps: sameList, rises, sound (printed by gen_r15.py).
-/
namespace Go.Proofs.YtlohfoggcdaeiaaGreat
open Go.RowKit S
set_option linter.unusedVariables false
set_option linter.unusedSimpArgs false
open Cu (nb be hl ofL CW Mw CR Mr RS takeS takeA hOf nil8 doneS)
set_option maxRecDepth 100000 in
set_option maxHeartbeats 1000000 in
theorem sameL_any (ad1 ad2 : Option Addr) (n c1 c2 : Nat) (l : List Upd) (hn : l.length = n) (hz : n ≤ 140737488351232) (w : World) (h1 : Upds w ad1 l) (h2 : Upds w ad2 l) : Calls Tryz.prog 14 #[.slice ad1 n c1, .slice ad2 n c2] w fun e w' => e = .returned (.bool true) ∧ Below w.heap.size w w' := by
  have hni : (n : Int) ≤ 140737488351232 := by omega
  have hd0 : ((n : Int) != (n : Int)) = false := by simp
  have hgs := guardU
  have HN := hide hn
  clear hn
  go_enter Tryz.func14, Tryz.ntmps14
  go_wp2
  go_loopw [5] (fun i wr => ∃ j : Nat, j ≤ n ∧ i = .int .i64 (j : Int) ∧ Below w.heap.size w wr) (fun i _ => n - (intOf i).toNat)
  case atStart => exact ⟨0, Nat.zero_le _, rfl, Below.refl _ _⟩
  case round =>
    obtain ⟨j, hj, rfl, hwk⟩ := hrel
    have h1' := h1.below hwk
    have h2' := h2.below hwk
    by_cases hlt : j < n
    · have hd : decide ((j : Int) < (n : Int)) = true := decide_eq_true (by omega)
      have hd2 : decide (j < n) = true := decide_eq_true hlt
      have hk0 : (0 : Int) ≤ (j : Int) := by omega
      have hk1 : (j : Int) < (n : Int) := by omega
      obtain ⟨s, hs⟩ : ∃ s, l[j]? = some s := ⟨_, List.getElem?_eq_getElem (by rw [HN.out]; exact hlt)⟩
      obtain ⟨b1, o1, rfl, hb1, hA1⟩ := h1'.get j s hs
      obtain ⟨b2, o2, rfl, hb2, hA2⟩ := h2'.get j s hs
      have hqs : ∀ w : World, (Op.equalIn 10000 36 (.agg (tabv s.v 36)) (.agg (tabv s.v 36))).run Tryz.prog w = .ok true w := fun w => by rw [eqUD, eqU_refl]
      have HA1 := hide hA1
      have HA2 := hide hA2
      clear hA1 hA2 hb1 hb2 hs h1' h2'
      go_wp2
      refine wp_region_quiet_lit (by kernel_rfl) (by kernel_rfl) ?_
      iterate 3 (go_big_quiet_step (fail))
      go_big_quiet_want
      refine quiet_value (fun w' hw' => run_load_at w' 36 _ rfl b1 (o1 + j * 36) (by rfl) (s.v) 36 _ (by obtain ⟨m, rfl⟩ := hw'; exact HA1.out) Tryz.underlying36 rfl infoU) ?_
      simp only [Act.put, List.setIfInBounds_toArray, List.set_cons_succ, List.set_cons_zero]
      go_big_quiet_on
      iterate 3 (go_big_quiet_step (fail))
      go_big_quiet_want
      refine quiet_value (fun w' hw' => run_load_at w' 36 _ rfl b2 (o2 + j * 36) (by rfl) (s.v) 36 _ (by obtain ⟨m, rfl⟩ := hw'; exact HA2.out) Tryz.underlying36 rfl infoU) ?_
      simp only [Act.put, List.setIfInBounds_toArray, List.set_cons_succ, List.set_cons_zero]
      go_big_quiet_on
      iterate 1 (go_big_quiet_step (fail))
      refine wpQuiet_nil ?_
      intro _ hw'
      obtain ⟨nq, rfl⟩ := hw'
      go_wp2
      go_roundw
      case rel => exact ⟨j + 1, by omega, by go_num, belowD hwk nq⟩
      case measure => simp [intOf]; omega
    · have hjn : j = n := by omega
      subst hjn
      have hd : decide ((j : Int) < (j : Int)) = false := decide_eq_false (by omega)
      have hd2 : decide (j < j) = false := decide_eq_false (by omega)
      go_wp2
      go_ret
      exact ⟨by simp, hwk⟩
set_option maxRecDepth 100000 in
set_option maxHeartbeats 40000000 in
theorem rises_yes (a b : Int) (h : b = a ∨ b = wrap64 (a + 1)) (w : World) : Calls Tryz.prog 17 #[.int .i64 a, .int .i64 b] w fun e w' => e = .returned (.bool true) ∧ w = w' := by
  obtain ⟨R, hR⟩ : ∃ R, wrap64 (a + 1) = R := ⟨_, rfl⟩
  cases q1 : (b == a) with
  | true =>
    go_enter Tryz.func17, Tryz.ntmps17
    go_wp2
    go_ret
    exact ⟨rfl, rfl⟩
  | false =>
    have q2 : (b == R) = true := by
      rcases h with h | h
      · rw [h] at q1; simp at q1
      · rw [← hR, h]; simp
    clear h
    go_enter Tryz.func17, Tryz.ntmps17
    go_wp2
    go_ret
    exact ⟨rfl, rfl⟩
def soundB (s : St) : Bool := ((s.rem == s.ack) || (s.rem == wrap64 (s.ack + 1))) && (decide (0 ≤ s.ap) && (decide (s.ap ≤ (s.peers.n : Int)) && (decide (0 ≤ s.so) && (decide (s.so ≤ (s.ours.n : Int)) && (decide (0 ≤ s.ho) && decide (s.ho ≤ (s.ours.n : Int)))))))
set_option maxRecDepth 100000 in
set_option maxHeartbeats 40000000 in
theorem sound_any (s : St) (w : World) : Calls Tryz.prog 16 #[.agg (tabv s.v 115)] w fun e w' => e = .returned (.bool (soundB s)) ∧ Below w.heap.size w w' := by
  obtain ⟨w1, hW1⟩ : ∃ wX, w.alloc (.cells (tabv s.v 115) 31) = wX := ⟨_, rfl⟩
  have r1 : Has w1 w.heap.size 31 s.v 115 := by rw [← hW1]; exact Has.new w 31 s.v 115 _ rfl
  have b1 : Below w.heap.size w w1 := by rw [← hW1]; exact (Below.refl w.heap.size w).alloc (Nat.le_refl _) _
  obtain ⟨R, hR⟩ : ∃ R, wrap64 (s.ack + 1) = R := ⟨_, rfl⟩
  have c4 : w1.cell? ⟨w.heap.size, 4, none⟩ = some (.slice s.ours.ad s.ours.n s.ours.c) := r1.cell 4 (by omega)
  have c5 : w1.cell? ⟨w.heap.size, 5, none⟩ = some (.slice s.peers.ad s.peers.n s.peers.c) := r1.cell 5 (by omega)
  have c7 : w1.cell? ⟨w.heap.size, 7, none⟩ = some (.int .i64 s.rem) := r1.cell 7 (by omega)
  have c8 : w1.cell? ⟨w.heap.size, 8, none⟩ = some (.int .i64 s.ack) := r1.cell 8 (by omega)
  have c10 : w1.cell? ⟨w.heap.size, 10, none⟩ = some (.int .i64 s.ap) := r1.cell 10 (by omega)
  have c11 : w1.cell? ⟨w.heap.size, 11, none⟩ = some (.int .i64 s.so) := r1.cell 11 (by omega)
  have c13 : w1.cell? ⟨w.heap.size, 13, none⟩ = some (.int .i64 s.ho) := r1.cell 13 (by omega)
  clear r1
  unfold soundB
  rw [hR]
  cases q1 : (s.rem == s.ack) with
  | true =>
    cases d0 : decide (0 ≤ s.ap) with
    | false =>
      go_enter Tryz.func16, Tryz.ntmps16
      go_wp2
      go_ret
      exact ⟨rfl, b1⟩
    | true =>
      cases d1 : decide (s.ap ≤ (s.peers.n : Int)) with
      | false =>
        go_enter Tryz.func16, Tryz.ntmps16
        go_wp2
        go_ret
        exact ⟨rfl, b1⟩
      | true =>
        cases d2 : decide (0 ≤ s.so) with
        | false =>
          go_enter Tryz.func16, Tryz.ntmps16
          go_wp2
          go_ret
          exact ⟨rfl, b1⟩
        | true =>
          cases d3 : decide (s.so ≤ (s.ours.n : Int)) with
          | false =>
            go_enter Tryz.func16, Tryz.ntmps16
            go_wp2
            go_ret
            exact ⟨rfl, b1⟩
          | true =>
            cases d4 : decide (0 ≤ s.ho) with
            | false =>
              go_enter Tryz.func16, Tryz.ntmps16
              go_wp2
              go_ret
              exact ⟨rfl, b1⟩
            | true =>
              cases d5 : decide (s.ho ≤ (s.ours.n : Int)) with
              | false =>
                go_enter Tryz.func16, Tryz.ntmps16
                go_wp2
                go_ret
                exact ⟨rfl, b1⟩
              | true =>
                go_enter Tryz.func16, Tryz.ntmps16
                go_wp2
                go_ret
                exact ⟨rfl, b1⟩
  | false =>
    cases q2 : (s.rem == R) with
    | false =>
      go_enter Tryz.func16, Tryz.ntmps16
      go_wp2
      go_ret
      exact ⟨rfl, b1⟩
    | true =>
      cases d0 : decide (0 ≤ s.ap) with
      | false =>
        go_enter Tryz.func16, Tryz.ntmps16
        go_wp2
        go_ret
        exact ⟨rfl, b1⟩
      | true =>
        cases d1 : decide (s.ap ≤ (s.peers.n : Int)) with
        | false =>
          go_enter Tryz.func16, Tryz.ntmps16
          go_wp2
          go_ret
          exact ⟨rfl, b1⟩
        | true =>
          cases d2 : decide (0 ≤ s.so) with
          | false =>
            go_enter Tryz.func16, Tryz.ntmps16
            go_wp2
            go_ret
            exact ⟨rfl, b1⟩
          | true =>
            cases d3 : decide (s.so ≤ (s.ours.n : Int)) with
            | false =>
              go_enter Tryz.func16, Tryz.ntmps16
              go_wp2
              go_ret
              exact ⟨rfl, b1⟩
            | true =>
              cases d4 : decide (0 ≤ s.ho) with
              | false =>
                go_enter Tryz.func16, Tryz.ntmps16
                go_wp2
                go_ret
                exact ⟨rfl, b1⟩
              | true =>
                cases d5 : decide (s.ho ≤ (s.ours.n : Int)) with
                | false =>
                  go_enter Tryz.func16, Tryz.ntmps16
                  go_wp2
                  go_ret
                  exact ⟨rfl, b1⟩
                | true =>
                  go_enter Tryz.func16, Tryz.ntmps16
                  go_wp2
                  go_ret
                  exact ⟨rfl, b1⟩
end Go.Proofs.YtlohfoggcdaeiaaGreat
/-
  Rows of records of one's own (made of update's texts by gen_r24.py); same of two records that are one.
-/
namespace Go.Proofs.YtlohfoggcdaeiaaGreat
open Go.RowKit S
set_option linter.unusedVariables false
set_option linter.unusedSimpArgs false
open Cu (nb be hl ofL CW Mw CR Mr RS takeS takeA hOf nil8 doneS)
def cellsR (l : List Rc) : List Value := l.flatMap fun s => (tabv s.v 138).toList
theorem cellsR_cons (s : Rc) (l : List Rc) : cellsR (s :: l) = (tabv s.v 138).toList ++ cellsR l := by simp [cellsR]
theorem cellsR_append (a b : List Rc) : cellsR (a ++ b) = cellsR a ++ cellsR b := by simp [cellsR]
theorem cellsR_one (s : Rc) : cellsR [s] = (tabv s.v 138).toList := by simp [cellsR]
theorem cellsR_length : ∀ l : List Rc, (cellsR l).length = l.length * 138
  | [] => rfl
  | s :: l => by rw [cellsR_cons, List.length_append, tabv_len, cellsR_length l, List.length_cons]; omega
theorem cellsR_get : ∀ (l : List Rc) (k : Nat) (s : Rc) (hk : l[k]? = some s) (j : Nat), j < 138 → (cellsR l)[k * 138 + j]? = some (s.v j)
  | [], k, s, hk, j, hj => by simp at hk
  | x :: l, 0, s, hk, j, hj => by
    simp only [List.getElem?_cons_zero, Option.some.injEq] at hk
    subst hk
    rw [cellsR_cons, List.getElem?_append_left (by rw [tabv_len]; omega), Array.getElem?_toList, Nat.zero_mul, Nat.zero_add, tabv_get _ _ _ hj]
  | x :: l, k + 1, s, hk, j, hj => by
    simp only [List.getElem?_cons_succ] at hk
    rw [cellsR_cons, List.getElem?_append_right (by rw [tabv_len]; omega), tabv_len, show (k + 1) * 138 + j - 138 = k * 138 + j by omega]
    exact cellsR_get l k s hk j hj
theorem oneCell_tabR (s : Rc) : ∀ u ∈ (tabv s.v 138).toList, u.oneCell' = true := by
  intro u hu
  obtain ⟨i, hi, rfl⟩ := List.mem_iff_getElem.1 hu
  have hi' : i < 138 := by rw [tabv_len] at hi; exact hi
  have e : (tabv s.v 138).toList[i]? = some (s.v i) := by rw [Array.getElem?_toList, tabv_get _ _ _ hi']
  rw [List.getElem?_eq_getElem hi] at e
  rw [Option.some.inj e]
  exact oneRc s i
theorem oneCell_R (l : List Rc) : ∀ u ∈ cellsR l, u.oneCell' = true := by
  intro u hu
  obtain ⟨s, _, h⟩ := List.mem_flatMap.1 hu
  exact oneCell_tabR s u h
def OwnR (B : Nat) (w : World) (v : Value) (l : List Rc) : Prop := w.ownsRow B 38 138 v l.length (cellsR l)
theorem infoR3 : (Tryz.prog.info? 38).map (fun i => (i.zero, i.size, i.bytes)) = some (some (.agg (tabv Rc.zero.v 138)), 138, 232) := by kernel_rfl
theorem infoRP : ∃ i, Tryz.prog.info? 38 = some i ∧ i.zero = some (.agg (tabv Rc.zero.v 138)) ∧ i.size = 138 ∧ i.bytes = 232 := by
  have h := infoR3
  cases hq : Tryz.prog.info? 38 with
  | none => simp [hq] at h
  | some i => simp [hq] at h; exact ⟨i, rfl, h.1, h.2.1, h.2.2⟩
theorem OwnR.nil (B : Nat) (w : World) : OwnR B w (.slice none 0 0) [] := World.ownsRow_nil w B _ _
theorem OwnR.mono {B B' : Nat} {w : World} {v : Value} {l : List Rc} (h : OwnR B w v l) (hb : B' ≤ B) : OwnR B' w v l :=
  ⟨h.1, h.2.imp id fun ⟨g, cap, cur, h1, h2, h3⟩ => ⟨g, cap, cur, h1, Nat.le_trans hb h2, h3⟩⟩
theorem OwnR.lt {B : Nat} {w : World} {v : Value} {l : List Rc} (h : OwnR B w v l) : ∀ k, v.ownBlock = some k → B ≤ k ∧ k < w.heap.size := World.ownsRow.lt h
theorem OwnR.same {B : Nat} {w w' : World} {v : Value} {l : List Rc} (h : OwnR B w v l) (e : ∀ k, v.ownBlock = some k → w'.heap[k]? = w.heap[k]?) : OwnR B w' v l := by
  refine ⟨h.1, h.2.imp id fun ⟨g, cap, cur, h1, h2, h3, h4⟩ => ⟨g, cap, cur, h1, h2, ?_, h4⟩⟩
  rw [e g (by rw [h1]; rfl), h3]
theorem OwnR.below {B B' : Nat} {w w' : World} {v : Value} {l : List Rc} (h : OwnR B w v l) (hb : Below B' w w') (hB : w.heap.size ≤ B') : OwnR B w' v l := h.same fun k hk => hb.block k (Nat.lt_of_lt_of_le (h.lt k hk).2 hB)
set_option maxRecDepth 100000 in
theorem run_sliceR (w : World) (s : Rc) : (Instr.buildSlice 40 1 #[(0, .agg (tabv s.v 138))]).run Tryz.prog w = .ok (.slice (some ⟨w.heap.size, 0, none⟩) 1 1) (w.alloc (.cells (tabv s.v 138) 38)) := by
  obtain ⟨i, h1, h2, h3, h4⟩ := infoRP
  have e : Instr.fill (fun i => some (i * 138, 138)) ((Array.range 138).map ((tabv Rc.zero.v 138)[· % 138]!)) [(0, .agg (tabv s.v 138))] = some (tabv s.v 138) := by kernel_rfl
  have ez : (Value.agg (tabv Rc.zero.v 138)).cells = tabv Rc.zero.v 138 := rfl
  simp only [Instr.buildSlice, Sem.run_bind, run_underlying Tryz.underlying40, Result.andThen_ok, sizeOf, typeInfo, h1, h3]
  simp [zeroValue, typeInfo, h1, h2, ez, tabv_size]
  rw [h3, if_neg (by omega), if_neg (by omega), e]
  simp [newRow]
/-- append(v, s) onto a list of one's own. -/
theorem run_appR (w : World) (B : Nat) (v : Value) (l : List Rc) (s : Rc) (ty : TypeId) (hown : OwnR B w v l) (hsz : (l.length + 1) * 232 ≤ 140737488355328) (hB : B ≤ w.heap.size) :
    ∃ v' w', (Builtin.append_ #[40, 40] ty #[v, .slice (some ⟨w.heap.size, 0, none⟩) 1 1]).run Tryz.prog (w.alloc (.cells (tabv s.v 138) 38)) = .ok v' w' ∧ OwnR B w' v' (l ++ [s]) ∧ (w.alloc (.cells (tabv s.v 138) 38)).grownBy w' v.ownBlock := by
  obtain ⟨i, h1, h2, h3, h4⟩ := infoRP
  have hb : Has (w.alloc (.cells (tabv s.v 138) 38)) w.heap.size 38 s.v 138 := Has.new w 38 s.v 138 _ rfl
  have ho : OwnR B (w.alloc (.cells (tabv s.v 138) 38)) v l := World.ownsRow.alloc hown _
  obtain ⟨v', w', e1, e2, e3, _⟩ := run_append_own (P := Tryz.prog) (w.alloc (.cells (tabv s.v 138) 38)) B 40 ty 38 i _ 138 232 Tryz.underlying40 h1 h2 h3 h4 (by rfl) (by omega) v l.length (cellsR l) ho ⟨w.heap.size, 0, none⟩ 1 1 (cellsR [s]) (by rw [cellsR_length]; rfl)
    (fun j u hj => by
      have hj' : j < 138 := by have := (List.getElem?_eq_some_iff.1 hj).1; rw [cellsR_length] at this; simpa using this
      have hadd : (⟨w.heap.size, 0, none⟩ : Addr).add j = ⟨w.heap.size, j, none⟩ := by unfold Addr.add; split <;> simp_all
      rw [hadd, hb.cell j hj', ← hj, cellsR_one, Array.getElem?_toList, tabv_get _ _ _ hj'])
    (oneCell_R _) (by unfold maxLen; omega) hsz (by rw [size_alloc]; omega)
  refine ⟨v', w', e1, ?_, e3⟩
  unfold OwnR
  rw [List.length_append, cellsR_append]
  exact e2
theorem appR_step (w : World) (B : Nat) (v : Value) (l : List Rc) (s : Rc) (hown : OwnR B w v l) (hsz : (l.length + 1) * 232 ≤ 140737488355328) (hB : B ≤ w.heap.size) :
    ∃ v' w1 w', (Instr.buildSlice 40 1 #[(0, .agg (tabv s.v 138))]).run Tryz.prog w = .ok (.slice (some ⟨w.heap.size, 0, none⟩) 1 1) w1 ∧ (Builtin.append_ #[40, 40] 40 #[v, .slice (some ⟨w.heap.size, 0, none⟩) 1 1]).run Tryz.prog w1 = .ok v' w' ∧
      OwnR B w' v' (l ++ [s]) ∧ (∀ g, g < w.heap.size → v.ownBlock ≠ some g → w'.heap[g]? = w.heap[g]?) ∧ Below B w w' := by
  obtain ⟨v', w', e1, e2, e3⟩ := run_appR w B v l s 40 hown hsz hB
  obtain ⟨h1, h2⟩ := grown_all e3 (fun k hk => (hown.lt k hk).1) hB
  exact ⟨v', _, w', run_sliceR w s, e1, e2, h1, h2⟩
theorem OwnR.at {B : Nat} {w : World} {v : Value} {l : List Rc} (h : OwnR B w v l) : ∃ ad cap, v = .slice ad l.length cap ∧ (∀ i s, l[i]? = some s → ∃ g, ad = some ⟨g, 0, none⟩ ∧ g < w.heap.size ∧ B ≤ g ∧ At w g (i * 138) s.v 138) ∧ l.length ≤ cap ∧ cap ≤ maxLen := by
  obtain ⟨hl, ⟨rfl, hn⟩ | ⟨g, cap, cur, rfl, hb, hg, h1, h2, h3, h4⟩⟩ := h
  · have : l = [] := List.length_eq_zero_iff.1 hn
    subst this
    exact ⟨none, 0, rfl, fun i s hs => by simp at hs, by simp, by decide⟩
  · have hlt : g < w.heap.size := by
      rcases Nat.lt_or_ge g w.heap.size with h | h
      · exact h
      · rw [Array.getElem?_eq_none h] at hg; cases hg
    refine ⟨some ⟨g, 0, none⟩, cap, rfl, fun i s hs => ⟨g, rfl, hlt, hb, fun j hj => ?_⟩, h1, h2⟩
    rw [cell_of_row w g _ cur _ (0, 0) hg]
    have hi : i < l.length := (List.getElem?_eq_some_iff.1 hs).1
    have e := cellsR_get l i s hs j hj
    rw [← h4, List.getElem?_take] at e
    rw [if_pos (by omega), Array.getElem?_toList] at e
    exact e
theorem eqU_cells {a b : Upd} (h : eqU a b = true) (j : Nat) (hj : j < 36) : a.v j = b.v j := by
  unfold eqU at h
  simp only [Bool.and_eq_true, beq_iff_eq] at h
  obtain ⟨h1, h2, h3, h4, h5⟩ := h
  have h5' : a.note = b.note := noteEq h5
  unfold Upd.v
  rw [h1, h2, h3, h5']
  split
  · rfl
  split
  · rfl
  split
  · rfl
  split
  · rw [(eqH_iff _ _).1 h4 (j - 3) (by omega)]
  · rfl
theorem eqUs_get : ∀ {vs us : List Upd}, eqUs vs us → ∀ {i : Nat} {u : Upd}, us[i]? = some u → ∃ v, vs[i]? = some v ∧ eqU v u = true
  | [], [], _, i, u, h => by simp at h
  | v :: vs, x :: us, hE, 0, u, h => by
    simp only [List.getElem?_cons_zero, Option.some.injEq] at h
    subst h
    exact ⟨v, rfl, hE.1⟩
  | v :: vs, x :: us, hE, i + 1, u, h => by
    simp only [List.getElem?_cons_succ] at h ⊢
    exact eqUs_get hE.2 h
  | [], _ :: _, hE, _, _, _ => hE.elim
  | _ :: _, [], hE, _, _, _ => hE.elim
theorem Upds.congr {w : World} {ad : Option Addr} {vs us : List Upd} (h : Upds w ad vs) (he : eqUs vs us) : Upds w ad us := by
  rcases h with rfl | ⟨b, o, h1, h2, h3⟩
  · cases us with
    | nil => exact .inl rfl
    | cons _ _ => exact he.elim
  · refine .inr ⟨b, o, h1, h2, fun i s hs j hj => ?_⟩
    obtain ⟨v, hv, e⟩ := eqUs_get he hs
    rw [h3 i v hv j hj, eqU_cells e j hj]
theorem allR_tab {v r : Rc} {vs l : List Upd} (h : allR v r vs l) (x : Sl) : tabv (setU v x).v 138 = tabv (setU r x).v 138 := by
  obtain ⟨h1, h2, h3, h4, h5, h6, h7, h8, h9, _⟩ := h
  refine tabv_congr _ _ _ fun j hj => ?_
  unfold Rc.v setU
  dsimp only
  rw [h1, h3, h4, h5, h9]
  split
  · rfl
  split
  · exact eqU_cells h2 _ (by omega)
  split
  · rfl
  split
  · rfl
  split
  · rfl
  split
  · rfl
  split
  · rw [(eqH_iff _ _).1 h6 _ (by omega)]
  split
  · rw [(eqH_iff _ _).1 h7 _ (by omega)]
  split
  · rw [(eqH_iff _ _).1 h8 _ (by omega)]
  · rfl
set_option maxRecDepth 100000 in
set_option maxHeartbeats 40000000 in
theorem same_yes (r : Rc) (x y : Sl) (l : List Upd) (hx : l.length = x.n) (hy : l.length = y.n) (hz : x.n ≤ 140737488351232) (w : World) (hU : Upds w x.ad l) (hV : Upds w y.ad l) : Calls Tryz.prog 13 #[.agg (tabv (setU r x).v 138), .agg (tabv (setU r y).v 138)] w fun e w' => e = .returned (.bool true) ∧ Below w.heap.size w w' := by
  obtain ⟨w2, hW⟩ : ∃ w2, (w.alloc (.cells (tabv (setU r x).v 138) 38)).alloc (.cells (tabv (setU r y).v 138) 38) = w2 := ⟨_, rfl⟩
  have r1 : Has w2 w.heap.size 38 (setU r x).v 138 := by rw [← hW]; exact (Has.new w 38 (setU r x).v 138 _ rfl).old _
  have r2 : Has w2 (w.heap.size + 1) 38 (setU r y).v 138 := by
    rw [← hW]
    have := Has.new (w.alloc (.cells (tabv (setU r x).v 138) 38)) 38 (setU r y).v 138 _ rfl
    rw [size_alloc] at this
    exact this
  have gb : Below w.heap.size w w2 := by rw [← hW]; exact ((Below.refl w.heap.size w).alloc (Nat.le_refl _) _).alloc (by simp) _
  have SL := hide (sameL_any x.ad y.ad x.n x.c y.c l hx (by omega) w2 (hU.below gb) (hV.below gb))
  obtain ⟨xa, xn, xc⟩ := x
  obtain ⟨ya, yn, yc⟩ := y
  simp only at hx hy hz SL r1 r2 hW
  have hxy : xn = yn := by omega
  subst hxy
  have R1 := hide r1
  have R2 := hide r2
  have QU : Hid (∀ w : World, (Op.equalIn 10000 36 (.agg (tabv r.upd.v 36)) (.agg (tabv r.upd.v 36))).run Tryz.prog w = .ok true w) := fun w => by rw [eqUD, eqU_refl]
  have QC : Hid (∀ w : World, (Op.equalIn 10000 23 (.agg (tabv (ctv r.co r.cp) 2)) (.agg (tabv (ctv r.co r.cp) 2))).run Tryz.prog w = .ok true w) := fun w => by rw [eqCD]; simp
  have Q0 : Hid (∀ w : World, (Op.equalIn 10000 25 (.agg (tabv (bv r.sig) 32)) (.agg (tabv (bv r.sig) 32))).run Tryz.prog w = .ok true w) := fun w => by have := eqHD 9998 w r.sig r.sig; rw [eqH_refl] at this; exact this
  have Q1 : Hid (∀ w : World, (Op.equalIn 10000 25 (.agg (tabv (bv r.sec) 32)) (.agg (tabv (bv r.sec) 32))).run Tryz.prog w = .ok true w) := fun w => by have := eqHD 9998 w r.sec r.sec; rw [eqH_refl] at this; exact this
  have Q2 : Hid (∀ w : World, (Op.equalIn 10000 25 (.agg (tabv (bv r.pt) 32)) (.agg (tabv (bv r.pt) 32))).run Tryz.prog w = .ok true w) := fun w => by have := eqHD 9998 w r.pt r.pt; rw [eqH_refl] at this; exact this
  have k0 : w2.cell? ⟨w.heap.size, 0, none⟩ = some (.int .i64 r.kind) := r1.cell 0 (by omega)
  have k1 : w2.cell? ⟨w.heap.size + 1, 0, none⟩ = some (.int .i64 r.kind) := r2.cell 0 (by omega)
  have k2 : w2.cell? ⟨w.heap.size, 38, none⟩ = some (.int .i64 r.idx) := r1.cell 38 (by omega)
  have k3 : w2.cell? ⟨w.heap.size + 1, 38, none⟩ = some (.int .i64 r.idx) := r2.cell 38 (by omega)
  have k4 : w2.cell? ⟨w.heap.size, 137, none⟩ = some (.int .i64 r.code) := r1.cell 137 (by omega)
  have k5 : w2.cell? ⟨w.heap.size + 1, 137, none⟩ = some (.int .i64 r.code) := r2.cell 137 (by omega)
  have k6 : w2.cell? ⟨w.heap.size, 37, none⟩ = some (.slice xa xn xc) := r1.cell 37 (by omega)
  have k7 : w2.cell? ⟨w.heap.size + 1, 37, none⟩ = some (.slice ya xn yc) := r2.cell 37 (by omega)
  have a1 := hide (show At w2 w.heap.size 1 r.upd.v 36 from fun j hj => by rw [r1.cell (1 + j) (by omega)]; exact congrArg some (Rc.v_upd _ j hj))
  have a2 := hide (show At w2 (w.heap.size + 1) 1 r.upd.v 36 from fun j hj => by rw [r2.cell (1 + j) (by omega)]; exact congrArg some (Rc.v_upd _ j hj))
  have a3 := hide (show At w2 w.heap.size 39 (ctv r.co r.cp) 2 from fun j hj => by rw [r1.cell (39 + j) (by omega)]; first | (match j, hj with | 0, _ => rfl | 1, _ => rfl) | rfl)
  have a4 := hide (show At w2 (w.heap.size + 1) 39 (ctv r.co r.cp) 2 from fun j hj => by rw [r2.cell (39 + j) (by omega)]; first | (match j, hj with | 0, _ => rfl | 1, _ => rfl) | rfl)
  have s0 := hide (show At w2 w.heap.size 41 (bv r.sig) 32 from fun j hj => by rw [r1.cell (41 + j) (by omega)]; exact congrArg some (Rc.v_sig _ j hj))
  have s1 := hide (show At w2 (w.heap.size + 1) 41 (bv r.sig) 32 from fun j hj => by rw [r2.cell (41 + j) (by omega)]; exact congrArg some (Rc.v_sig _ j hj))
  have s2 := hide (show At w2 w.heap.size 73 (bv r.sec) 32 from fun j hj => by rw [r1.cell (73 + j) (by omega)]; exact congrArg some (Rc.v_sec _ j hj))
  have s3 := hide (show At w2 (w.heap.size + 1) 73 (bv r.sec) 32 from fun j hj => by rw [r2.cell (73 + j) (by omega)]; exact congrArg some (Rc.v_sec _ j hj))
  have s4 := hide (show At w2 w.heap.size 105 (bv r.pt) 32 from fun j hj => by rw [r1.cell (105 + j) (by omega)]; exact congrArg some (Rc.v_pt _ j hj))
  have s5 := hide (show At w2 (w.heap.size + 1) 105 (bv r.pt) 32 from fun j hj => by rw [r2.cell (105 + j) (by omega)]; exact congrArg some (Rc.v_pt _ j hj))
  go_enter Tryz.func13, Tryz.ntmps13
  go_wp2_with (first | rw [hW] | refine wpW_load_at 36 _ rfl (w.heap.size) (1) (by rfl) (by rfl) _ 36 _ ((a1.out)) Tryz.underlying36 rfl infoU ?_ | refine wpW_load_at 36 _ rfl ((w.heap.size + 1)) (1) (by rfl) (by rfl) _ 36 _ ((a2.out)) Tryz.underlying36 rfl infoU ?_ | refine wpW_load_at 23 _ rfl (w.heap.size) (39) (by rfl) (by rfl) _ 2 _ ((a3.out)) Tryz.underlying23 rfl infoC ?_ | refine wpW_load_at 23 _ rfl ((w.heap.size + 1)) (39) (by rfl) (by rfl) _ 2 _ ((a4.out)) Tryz.underlying23 rfl infoC ?_ | refine wpW_load_at 25 _ rfl (w.heap.size) (41) (by rfl) (by rfl) _ 32 _ ((s0.out)) Tryz.underlying25 rfl info26 ?_ | refine wpW_load_at 25 _ rfl ((w.heap.size + 1)) (41) (by rfl) (by rfl) _ 32 _ ((s1.out)) Tryz.underlying25 rfl info26 ?_ | refine wpW_load_at 25 _ rfl (w.heap.size) (73) (by rfl) (by rfl) _ 32 _ ((s2.out)) Tryz.underlying25 rfl info26 ?_ | refine wpW_load_at 25 _ rfl ((w.heap.size + 1)) (73) (by rfl) (by rfl) _ 32 _ ((s3.out)) Tryz.underlying25 rfl info26 ?_ | refine wpW_load_at 25 _ rfl (w.heap.size) (105) (by rfl) (by rfl) _ 32 _ ((s4.out)) Tryz.underlying25 rfl info26 ?_ | refine wpW_load_at 25 _ rfl ((w.heap.size + 1)) (105) (by rfl) (by rfl) _ 32 _ ((s5.out)) Tryz.underlying25 rfl info26 ?_ | refine wpW_eqU (by rfl) _ _ rfl (tabv r.upd.v 36) (tabv r.upd.v 36) true (by rfl) (by rfl) QU.out ?_ | refine wpW_eqC (by rfl) _ _ rfl (tabv (ctv r.co r.cp) 2) (tabv (ctv r.co r.cp) 2) true (by rfl) (by rfl) QC.out ?_ | refine wpW_eqH (by rfl) _ _ rfl (tabv (bv r.sig) 32) (tabv (bv r.sig) 32) true (by rfl) (by rfl) Q0.out ?_ | refine wpW_eqH (by rfl) _ _ rfl (tabv (bv r.sec) 32) (tabv (bv r.sec) 32) true (by rfl) (by rfl) Q1.out ?_ | refine wpW_eqH (by rfl) _ _ rfl (tabv (bv r.pt) 32) (tabv (bv r.pt) 32) true (by rfl) (by rfl) Q2.out ?_ | fail)
  refine SL.out.mono ?_
  rintro e w3 ⟨rfl, hb3⟩
  go_wp2
  go_ret
  exact ⟨rfl, gb.trans (hb3.mono gb.size)⟩
end Go.Proofs.YtlohfoggcdaeiaaGreat
