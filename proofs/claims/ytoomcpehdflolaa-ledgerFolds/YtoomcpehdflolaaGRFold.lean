/-
  The document's Fold (printed by gen_rfold.py).
-/
import Derived.Test.YtoomcpehdflolaaGSide
import Derived.Test.YtoomcpehdflolaaGViews
namespace Go.Proofs.Ytoomcpehdflolaa
open Go.RowKit S Go.Shelf Go.Sort
set_option linter.unusedVariables false
set_option linter.unusedSimpArgs false
theorem isA_wrap {a b : Int} (ha : isA a = true) (hb : isA b = true) : IntKind.i64.wrap (a + b) = a + b := wrap_sum ha hb
/-- The two variables that Fold begins with: the counts, and what is answered. -/
theorem rf_start (w : World) (fO fP : Int) : ∃ V1 V2, w.alloc (.cells (tabv (cnv fO fP) 2) 24) = V1 ∧ V1.alloc (.cells #[.int .i64 0, .int .i64 0, .slice none 0 0] 32) = V2 ∧ Has V2 w.heap.size 24 (cnv fO fP) 2 ∧ Has V2 V1.heap.size 32 (ledv 0 0 (.slice none 0 0)) 3 ∧ w.heap.size < V1.heap.size ∧ Below w.heap.size w V2 := by
  have k1 : Has (w.alloc (.cells (tabv (cnv fO fP) 2) 24)) w.heap.size 24 (cnv fO fP) 2 := Has.new w 24 _ 2 _ rfl
  have b1 : Below w.heap.size w (w.alloc (.cells (tabv (cnv fO fP) 2) 24)) := (Below.refl _ _).alloc (Nat.le_refl _) _
  generalize hV1 : w.alloc (.cells (tabv (cnv fO fP) 2) 24) = V1 at k1 b1
  have k2 : Has (V1.alloc (.cells #[.int .i64 0, .int .i64 0, .slice none 0 0] 32)) V1.heap.size 32 (ledv 0 0 (.slice none 0 0)) 3 := by rw [zeroL]; exact Has.new V1 32 _ 3 _ rfl
  have b2 : Below V1.heap.size V1 (V1.alloc (.cells #[.int .i64 0, .int .i64 0, .slice none 0 0] 32)) := (Below.refl _ _).alloc (Nat.le_refl _) _
  exact ⟨V1, _, rfl, rfl, k1.below b2 k1.lt, k2, k1.lt, b1.trans (b2.mono b1.size)⟩
set_option maxRecDepth 100000 in
set_option maxHeartbeats 4000000 in
theorem rfold_arg (bO bP : Int) (a1 a2 : Option Addr) (n1 c1 n2 c2 : Nat) (mine others : List Upd) (hn1 : mine.length = n1) (hn2 : others.length = n2) (z1 : n1 ≤ 1955000000000) (z2 : n2 ≤ 1955000000000) (k1 : n1 ≤ c1) (k2 : n2 ≤ c2) (fO fP : Int) (w : World) (hc : (decide (0 ≤ fO) && (decide (fO ≤ (n1 : Int)) && (decide (0 ≤ fP) && (decide (fP ≤ (n2 : Int)) && (isA bO && (isA bP && isA (bO + bP))))))) = false) : Calls Try.prog 26 #[.int .i64 bO, .int .i64 bP, .slice a1 n1 c1, .slice a2 n2 c2, .agg (tabv (cnv fO fP) 2)] w fun e w' => e = .returned (.tuple #[.agg (tabv (ledv 0 0 (.slice none 0 0)) 3), .int .i64 1]) ∧ Below w.heap.size w w' := by
  obtain ⟨V1, V2, hV1, hV2, q1, q2, hlt, gb⟩ := rf_start w fO fP
  have hge : w.heap.size ≤ V1.heap.size := Nat.le_of_lt hlt
  obtain ⟨g9, hg9⟩ : ∃ g, w.heap.size = g := ⟨_, rfl⟩
  obtain ⟨gR, hgR⟩ : ∃ g, V1.heap.size = g := ⟨_, rfl⟩
  rw [hg9] at q1
  rw [hgR] at q2 hge
  have f0 : V2.cell? ⟨g9, 0, none⟩ = some (.int .i64 fO) := q1.cell 0 (by omega)
  have f1 : V2.cell? ⟨g9, 1, none⟩ = some (.int .i64 fP) := q1.cell 1 (by omega)
  have Q1 := hide q1
  have Q2 := hide q2
  have GE := hide hge
  clear q1 q2 hlt hge
  by_cases y1 : fO < 0
  · have x1 : decide (fO < 0) = true := decide_eq_true y1
    clear hc
    go_enter Try.func26, Try.ntmps26
    go_wp2_with (first | fail | refine wpW_build (by rfl) 32 #[] rfl [] rfl _ built_L0 ?_ | refine wpList_storeL rfl _ _ rfl rfl gR 0 0 (.slice none 0 0) rfl rfl rfl _ Q2.out ?_)
    exact bodyPost_ret (resL2 _ gR _ _ (.int .i64 1) 10 11 (Q2.out.row _ (ledv 0 0 (.slice none 0 0)) rfl) rfl rfl _ rfl) rfl ⟨rfl, by first | exact below_setRow gb GE.out _ | (rw [← hg9]; exact below_setRow gb GE.out _)⟩
  have x1 : decide (fO < 0) = false := decide_eq_false y1
  by_cases y2 : (n1 : Int) < fO
  · have x2 : decide ((n1 : Int) < fO) = true := decide_eq_true y2
    clear hc
    go_enter Try.func26, Try.ntmps26
    go_wp2_with (first | fail | refine wpW_build (by rfl) 32 #[] rfl [] rfl _ built_L0 ?_ | refine wpList_storeL rfl _ _ rfl rfl gR 0 0 (.slice none 0 0) rfl rfl rfl _ Q2.out ?_)
    exact bodyPost_ret (resL2 _ gR _ _ (.int .i64 1) 10 11 (Q2.out.row _ (ledv 0 0 (.slice none 0 0)) rfl) rfl rfl _ rfl) rfl ⟨rfl, by first | exact below_setRow gb GE.out _ | (rw [← hg9]; exact below_setRow gb GE.out _)⟩
  have x2 : decide ((n1 : Int) < fO) = false := decide_eq_false y2
  by_cases y3 : fP < 0
  · have x3 : decide (fP < 0) = true := decide_eq_true y3
    clear hc
    go_enter Try.func26, Try.ntmps26
    go_wp2_with (first | fail | refine wpW_build (by rfl) 32 #[] rfl [] rfl _ built_L0 ?_ | refine wpList_storeL rfl _ _ rfl rfl gR 0 0 (.slice none 0 0) rfl rfl rfl _ Q2.out ?_)
    exact bodyPost_ret (resL2 _ gR _ _ (.int .i64 1) 10 11 (Q2.out.row _ (ledv 0 0 (.slice none 0 0)) rfl) rfl rfl _ rfl) rfl ⟨rfl, by first | exact below_setRow gb GE.out _ | (rw [← hg9]; exact below_setRow gb GE.out _)⟩
  have x3 : decide (fP < 0) = false := decide_eq_false y3
  by_cases y4 : (n2 : Int) < fP
  · have x4 : decide ((n2 : Int) < fP) = true := decide_eq_true y4
    clear hc
    go_enter Try.func26, Try.ntmps26
    go_wp2_with (first | fail | refine wpW_build (by rfl) 32 #[] rfl [] rfl _ built_L0 ?_ | refine wpList_storeL rfl _ _ rfl rfl gR 0 0 (.slice none 0 0) rfl rfl rfl _ Q2.out ?_)
    exact bodyPost_ret (resL2 _ gR _ _ (.int .i64 1) 10 11 (Q2.out.row _ (ledv 0 0 (.slice none 0 0)) rfl) rfl rfl _ rfl) rfl ⟨rfl, by first | exact below_setRow gb GE.out _ | (rw [← hg9]; exact below_setRow gb GE.out _)⟩
  have x4 : decide ((n2 : Int) < fP) = false := decide_eq_false y4
  rw [decide_eq_true (show 0 ≤ fO by omega), decide_eq_true (show fO ≤ (n1 : Int) by omega), decide_eq_true (show 0 ≤ fP by omega), decide_eq_true (show fP ≤ (n2 : Int) by omega)] at hc
  simp only [Bool.true_and] at hc
  cases x5 : isA bO with
  | false =>
    clear hc y1 y2 y3 y4
    go_enter Try.func26, Try.ntmps26
    go_wp2_with (first | (go_at_call 46; go_must (refine (ramount_any _ _).mono ?_); rintro e wx ⟨rfl, hx⟩; obtain rfl := hx.symm; clear hx; first | rw [x5] | rw [x6] | rw [x7]) | refine wpW_build (by rfl) 32 #[] rfl [] rfl _ built_L0 ?_ | refine wpList_storeL rfl _ _ rfl rfl gR 0 0 (.slice none 0 0) rfl rfl rfl _ Q2.out ?_)
    exact bodyPost_ret (resL2 _ gR _ _ (.int .i64 1) 10 11 (Q2.out.row _ (ledv 0 0 (.slice none 0 0)) rfl) rfl rfl _ rfl) rfl ⟨rfl, by first | exact below_setRow gb GE.out _ | (rw [← hg9]; exact below_setRow gb GE.out _)⟩
  | true =>
    cases x6 : isA bP with
    | false =>
      clear hc y1 y2 y3 y4
      go_enter Try.func26, Try.ntmps26
      go_wp2_with (first | (go_at_call 46; go_must (refine (ramount_any _ _).mono ?_); rintro e wx ⟨rfl, hx⟩; obtain rfl := hx.symm; clear hx; first | rw [x5] | rw [x6] | rw [x7]) | refine wpW_build (by rfl) 32 #[] rfl [] rfl _ built_L0 ?_ | refine wpList_storeL rfl _ _ rfl rfl gR 0 0 (.slice none 0 0) rfl rfl rfl _ Q2.out ?_)
      exact bodyPost_ret (resL2 _ gR _ _ (.int .i64 1) 10 11 (Q2.out.row _ (ledv 0 0 (.slice none 0 0)) rfl) rfl rfl _ rfl) rfl ⟨rfl, by first | exact below_setRow gb GE.out _ | (rw [← hg9]; exact below_setRow gb GE.out _)⟩
    | true =>
      have x7 : isA (bO + bP) = false := by rw [x5, x6] at hc; simpa using hc
      have zz := isA_wrap x5 x6
      clear hc y1 y2 y3 y4
      go_enter Try.func26, Try.ntmps26
      go_wp2_with (first | (go_at_call 46; go_must (refine (ramount_any _ _).mono ?_); rintro e wx ⟨rfl, hx⟩; obtain rfl := hx.symm; clear hx; first | rw [x5] | rw [x6] | rw [x7]) | refine wpW_build (by rfl) 32 #[] rfl [] rfl _ built_L0 ?_ | refine wpList_storeL rfl _ _ rfl rfl gR 0 0 (.slice none 0 0) rfl rfl rfl _ Q2.out ?_)
      exact bodyPost_ret (resL2 _ gR _ _ (.int .i64 1) 10 11 (Q2.out.row _ (ledv 0 0 (.slice none 0 0)) rfl) rfl rfl _ rfl) rfl ⟨rfl, by first | exact below_setRow gb GE.out _ | (rw [← hg9]; exact below_setRow gb GE.out _)⟩
set_option maxRecDepth 100000 in
set_option maxHeartbeats 4000000 in
theorem rfold_inv1 (bO bP : Int) (a1 a2 : Option Addr) (n1 c1 n2 c2 : Nat) (mine others : List Upd) (hn1 : mine.length = n1) (hn2 : others.length = n2) (z1 : n1 ≤ 1955000000000) (z2 : n2 ≤ 1955000000000) (k1 : n1 ≤ c1) (k2 : n2 ≤ c2) (kO kP : Nat) (lO : kO ≤ n1) (lP : kP ≤ n2) (x5 : isA bO = true) (x6 : isA bP = true) (x7 : isA (bO + bP) = true) (w : World) (hS1 : Upds w a1 mine) (hS2 : Upds w a2 others) (hv1 : (mine.take kO).all validB = false) : Calls Try.prog 26 #[.int .i64 bO, .int .i64 bP, .slice a1 n1 c1, .slice a2 n2 c2, .agg (tabv (cnv (kO : Int) (kP : Int)) 2)] w fun e w' => e = .returned (.tuple #[.agg (tabv (ledv 0 0 (.slice none 0 0)) 3), .int .i64 120]) ∧ Below w.heap.size w w' := by
  obtain ⟨V1, V2, hV1, hV2, q1, q2, hlt, gb⟩ := rf_start w (kO : Int) (kP : Int)
  have hge : w.heap.size ≤ V1.heap.size := Nat.le_of_lt hlt
  obtain ⟨g9, hg9⟩ : ∃ g, w.heap.size = g := ⟨_, rfl⟩
  obtain ⟨gR, hgR⟩ : ∃ g, V1.heap.size = g := ⟨_, rfl⟩
  rw [hg9] at q1
  rw [hgR] at q2 hge
  have f0 : V2.cell? ⟨g9, 0, none⟩ = some (.int .i64 (kO : Int)) := q1.cell 0 (by omega)
  have f1 : V2.cell? ⟨g9, 1, none⟩ = some (.int .i64 (kP : Int)) := q1.cell 1 (by omega)
  have Q1 := hide q1
  have Q2 := hide q2
  have GE := hide hge
  clear q1 q2 hlt hge
  have x1 : decide ((kO : Int) < 0) = false := decide_eq_false (by omega)
  have x2 : decide ((n1 : Int) < (kO : Int)) = false := decide_eq_false (by omega)
  have x3 : decide ((kP : Int) < 0) = false := decide_eq_false (by omega)
  have x4 : decide ((n2 : Int) < (kP : Int)) = false := decide_eq_false (by omega)
  have zz := isA_wrap x5 x6
  have slO := fun w => sliceK w a1 n1 c1 kO (by omega)
  have slP := fun w => sliceK w a2 n2 c2 kP (by omega)
  have VP := hide (fun (v : World) (hb : Below w.heap.size w v) => rvalids_any a1 kO c1 (mine.take kO) (by rw [List.length_take]; omega) (by omega) v ((hS1.below hb).take _))
  have VQ := hide (fun (v : World) (hb : Below w.heap.size w v) => rvalids_any a2 kP c2 (others.take kP) (by rw [List.length_take]; omega) (by omega) v ((hS2.below hb).take _))
  go_enter Try.func26, Try.ntmps26
  go_wp2_with (first | (go_at_call 46; go_must (refine (ramount_any _ _).mono ?_); rintro e wx ⟨rfl, hx⟩; obtain rfl := hx.symm; clear hx; first | rw [x5] | rw [x6] | rw [x7]))
  refine (VP.out _ gb).mono ?_
  rintro e w3 ⟨rfl, hb3⟩
  rw [hv1]
  have gb3 := gb.trans (hb3.mono gb.size)
  go_wp2_with (first | refine wpW_build (by rfl) 32 #[] rfl [] rfl _ built_L0 ?_ | refine wpList_storeL rfl _ _ rfl rfl gR 0 0 (.slice none 0 0) rfl rfl rfl _ (Q2.out.below hb3 Q2.out.lt) ?_)
  exact bodyPost_ret (resL2 _ gR _ _ (.int .i64 120) 10 11 ((Q2.out.below hb3 Q2.out.lt).row _ (ledv 0 0 (.slice none 0 0)) rfl) rfl rfl _ rfl) rfl ⟨rfl, by first | exact below_setRow gb3 GE.out _ | (rw [← hg9]; exact below_setRow gb3 GE.out _)⟩
set_option maxRecDepth 100000 in
set_option maxHeartbeats 4000000 in
theorem rfold_inv2 (bO bP : Int) (a1 a2 : Option Addr) (n1 c1 n2 c2 : Nat) (mine others : List Upd) (hn1 : mine.length = n1) (hn2 : others.length = n2) (z1 : n1 ≤ 1955000000000) (z2 : n2 ≤ 1955000000000) (k1 : n1 ≤ c1) (k2 : n2 ≤ c2) (kO kP : Nat) (lO : kO ≤ n1) (lP : kP ≤ n2) (x5 : isA bO = true) (x6 : isA bP = true) (x7 : isA (bO + bP) = true) (w : World) (hS1 : Upds w a1 mine) (hS2 : Upds w a2 others) (hv1 : (mine.take kO).all validB = true) (hv2 : (others.take kP).all validB = false) : Calls Try.prog 26 #[.int .i64 bO, .int .i64 bP, .slice a1 n1 c1, .slice a2 n2 c2, .agg (tabv (cnv (kO : Int) (kP : Int)) 2)] w fun e w' => e = .returned (.tuple #[.agg (tabv (ledv 0 0 (.slice none 0 0)) 3), .int .i64 120]) ∧ Below w.heap.size w w' := by
  obtain ⟨V1, V2, hV1, hV2, q1, q2, hlt, gb⟩ := rf_start w (kO : Int) (kP : Int)
  have hge : w.heap.size ≤ V1.heap.size := Nat.le_of_lt hlt
  obtain ⟨g9, hg9⟩ : ∃ g, w.heap.size = g := ⟨_, rfl⟩
  obtain ⟨gR, hgR⟩ : ∃ g, V1.heap.size = g := ⟨_, rfl⟩
  rw [hg9] at q1
  rw [hgR] at q2 hge
  have f0 : V2.cell? ⟨g9, 0, none⟩ = some (.int .i64 (kO : Int)) := q1.cell 0 (by omega)
  have f1 : V2.cell? ⟨g9, 1, none⟩ = some (.int .i64 (kP : Int)) := q1.cell 1 (by omega)
  have Q1 := hide q1
  have Q2 := hide q2
  have GE := hide hge
  clear q1 q2 hlt hge
  have x1 : decide ((kO : Int) < 0) = false := decide_eq_false (by omega)
  have x2 : decide ((n1 : Int) < (kO : Int)) = false := decide_eq_false (by omega)
  have x3 : decide ((kP : Int) < 0) = false := decide_eq_false (by omega)
  have x4 : decide ((n2 : Int) < (kP : Int)) = false := decide_eq_false (by omega)
  have zz := isA_wrap x5 x6
  have slO := fun w => sliceK w a1 n1 c1 kO (by omega)
  have slP := fun w => sliceK w a2 n2 c2 kP (by omega)
  have VP := hide (fun (v : World) (hb : Below w.heap.size w v) => rvalids_any a1 kO c1 (mine.take kO) (by rw [List.length_take]; omega) (by omega) v ((hS1.below hb).take _))
  have VQ := hide (fun (v : World) (hb : Below w.heap.size w v) => rvalids_any a2 kP c2 (others.take kP) (by rw [List.length_take]; omega) (by omega) v ((hS2.below hb).take _))
  go_enter Try.func26, Try.ntmps26
  go_wp2_with (first | (go_at_call 46; go_must (refine (ramount_any _ _).mono ?_); rintro e wx ⟨rfl, hx⟩; obtain rfl := hx.symm; clear hx; first | rw [x5] | rw [x6] | rw [x7]))
  refine (VP.out _ gb).mono ?_
  rintro e w3 ⟨rfl, hb3⟩
  rw [hv1]
  have gb3 := gb.trans (hb3.mono gb.size)
  go_wp2_with fail
  refine (VQ.out _ gb3).mono ?_
  rintro e w4 ⟨rfl, hb4⟩
  rw [hv2]
  have gb4 := gb3.trans (hb4.mono gb3.size)
  have Q4 := hide ((Q2.out.below hb3 Q2.out.lt).below hb4 (Nat.lt_of_lt_of_le Q2.out.lt hb3.size))
  go_wp2_with (first | refine wpW_build (by rfl) 32 #[] rfl [] rfl _ built_L0 ?_ | refine wpList_storeL rfl _ _ rfl rfl gR 0 0 (.slice none 0 0) rfl rfl rfl _ Q4.out ?_)
  exact bodyPost_ret (resL2 _ gR _ _ (.int .i64 120) 10 11 (Q4.out.row _ (ledv 0 0 (.slice none 0 0)) rfl) rfl rfl _ rfl) rfl ⟨rfl, by first | exact below_setRow gb4 GE.out _ | (rw [← hg9]; exact below_setRow gb4 GE.out _)⟩
end Go.Proofs.Ytoomcpehdflolaa
