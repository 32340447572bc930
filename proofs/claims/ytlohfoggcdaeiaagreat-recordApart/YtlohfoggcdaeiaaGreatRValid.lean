/-
  What makes a record valid: isIndex, isCount, each kind's valid (printed by gen_r2.py).
-/
import Derived.Test.YtlohfoggcdaeiaaGreatRMath
namespace Go.Proofs.YtlohfoggcdaeiaaGreat
open Go.RowKit S
set_option linter.unusedVariables false
set_option linter.unusedSimpArgs false
open Cu (nb be hl ofL CW Mw CR Mr RS takeS takeA hOf nil8 num doneS)
set_option maxRecDepth 100000 in
set_option maxHeartbeats 40000000 in
theorem isIndex_any (n : Int) (w : World) : Calls Tryz.prog 158 #[.int .i64 n] w fun e w' => e = .returned (.bool (idxB n)) ∧ w = w' := by
  unfold idxB
  cases d1 : decide (0 ≤ n) with
  | false =>
    go_enter Tryz.func158, Tryz.ntmps158
    go_wp2
    go_ret
    exact ⟨rfl, rfl⟩
  | true =>
    cases d2 : decide (n ≤ 281474976710655) with
    | false =>
      go_enter Tryz.func158, Tryz.ntmps158
      go_wp2
      go_ret
      exact ⟨rfl, rfl⟩
    | true =>
      go_enter Tryz.func158, Tryz.ntmps158
      go_wp2
      go_ret
      exact ⟨rfl, rfl⟩
set_option maxRecDepth 100000 in
set_option maxHeartbeats 40000000 in
theorem isCount_any (n : Int) (w : World) : Calls Tryz.prog 159 #[.int .i64 n] w fun e w' => e = .returned (.bool (cntB n)) ∧ w = w' := by
  unfold cntB
  cases d1 : decide (0 ≤ n) with
  | false =>
    go_enter Tryz.func159, Tryz.ntmps159
    go_wp2
    go_ret
    exact ⟨rfl, rfl⟩
  | true =>
    cases d2 : decide (n ≤ 2048) with
    | false =>
      go_enter Tryz.func159, Tryz.ntmps159
      go_wp2
      go_ret
      exact ⟨rfl, rfl⟩
    | true =>
      go_enter Tryz.func159, Tryz.ntmps159
      go_wp2
      go_ret
      exact ⟨rfl, rfl⟩
/-- A new variable that takes an update, with the world between. -/
theorem newU2 (w5 : World) (s : Upd) : ∃ w6 w7, w5.alloc (.cells #[.int .i64 0, .int .i64 0, .int .i64 0, .int .u8 0, .int .u8 0, .int .u8 0, .int .u8 0, .int .u8 0, .int .u8 0, .int .u8 0, .int .u8 0, .int .u8 0, .int .u8 0, .int .u8 0, .int .u8 0, .int .u8 0, .int .u8 0, .int .u8 0, .int .u8 0, .int .u8 0, .int .u8 0, .int .u8 0, .int .u8 0, .int .u8 0, .int .u8 0, .int .u8 0, .int .u8 0, .int .u8 0, .int .u8 0, .int .u8 0, .int .u8 0, .int .u8 0, .int .u8 0, .int .u8 0, .int .u8 0, .string { data := #[] }] 36) = w6 ∧ Has w6 w5.heap.size 36 Upd.zero.v 36 ∧ w6.setRow w5.heap.size (tabv s.v 36) = w7 ∧ Has w7 w5.heap.size 36 s.v 36 ∧ Below w5.heap.size w5 w7 ∧ Below w5.heap.size w5 w6 := by
  have q1 : Has (w5.alloc (.cells (tabv Upd.zero.v 36) 36)) w5.heap.size 36 Upd.zero.v 36 := Has.new w5 36 Upd.zero.v 36 _ rfl
  have b1 : Below w5.heap.size w5 (w5.alloc (.cells (tabv Upd.zero.v 36) 36)) := (Below.refl w5.heap.size w5).alloc (Nat.le_refl _) _
  exact ⟨_, _, by rw [zero36], q1, rfl, q1.row _ s.v rfl, below_setRow b1 (Nat.le_refl _) _, b1⟩
set_option maxRecDepth 100000 in
set_option maxHeartbeats 40000000 in
theorem vOurs_any (u : Upd) (w : World) : Calls Tryz.prog 130 #[.agg (tabv u.v 36)] w fun e w' => e = .returned (.bool (validB u)) ∧ Below w.heap.size w w' := by
  obtain ⟨w1, hW1⟩ : ∃ wX, w.alloc (.cells (tabv u.v 36) 99) = wX := ⟨_, rfl⟩
  have r1 : Has w1 w.heap.size 99 u.v 36 := by rw [← hW1]; exact Has.new w 99 u.v 36 _ rfl
  have b1 : Below w.heap.size w w1 := by rw [← hW1]; exact (Below.refl w.heap.size w).alloc (Nat.le_refl _) _
  have R1 := hide r1
  go_enter Tryz.func130, Tryz.ntmps130
  go_wp2_with (first | refine wpW_load_at 36 _ rfl (w.heap.size) (0) (by rfl) (by rfl) _ 36 _ (R1.out.at_ 0 (by omega) (fun i hi => by rw [Nat.zero_add])) Tryz.underlying36 rfl infoU ?_ | fail)
  refine (valid_any u _).mono ?_
  rintro e w2 ⟨rfl, hb2⟩
  go_wp2
  go_ret
  exact ⟨rfl, b1.trans (hb2.mono b1.size)⟩
set_option maxRecDepth 100000 in
set_option maxHeartbeats 40000000 in
theorem vSigned_any (x a b : Int) (w : World) : Calls Tryz.prog 157 #[.agg (tabv (Sg.v ⟨x, a, b⟩) 3)] w fun e w' => e = .returned (.bool (idxB x && (cntB a && cntB b))) ∧ Below w.heap.size w w' := by
  cases hI : idxB x with
  | false =>
    obtain ⟨w1, hW1⟩ : ∃ wX, w.alloc (.cells (tabv (Sg.v ⟨x, a, b⟩) 3) 101) = wX := ⟨_, rfl⟩
    have r1 : Has w1 w.heap.size 101 (Sg.v ⟨x, a, b⟩) 3 := by rw [← hW1]; exact Has.new w 101 (Sg.v ⟨x, a, b⟩) 3 _ rfl
    have b1 : Below w.heap.size w w1 := by rw [← hW1]; exact (Below.refl w.heap.size w).alloc (Nat.le_refl _) _
    have c0 : w1.cell? ⟨w.heap.size, 0, none⟩ = some (.int .i64 x) := r1.cell 0 (by omega)
    have c1 : w1.cell? ⟨w.heap.size, 1, none⟩ = some (.int .i64 a) := r1.cell 1 (by omega)
    have c2 : w1.cell? ⟨w.heap.size, 2, none⟩ = some (.int .i64 b) := r1.cell 2 (by omega)
    go_enter Tryz.func157, Tryz.ntmps157
    go_wp2_with fail
    refine (isIndex_any x _).mono ?_
    rintro e wv ⟨rfl, rfl⟩
    rw [hI]
    go_wp2
    go_ret
    exact ⟨rfl, b1⟩
  | true =>
    cases hA : cntB a with
    | false =>
      obtain ⟨w1, hW1⟩ : ∃ wX, w.alloc (.cells (tabv (Sg.v ⟨x, a, b⟩) 3) 101) = wX := ⟨_, rfl⟩
      have r1 : Has w1 w.heap.size 101 (Sg.v ⟨x, a, b⟩) 3 := by rw [← hW1]; exact Has.new w 101 (Sg.v ⟨x, a, b⟩) 3 _ rfl
      have b1 : Below w.heap.size w w1 := by rw [← hW1]; exact (Below.refl w.heap.size w).alloc (Nat.le_refl _) _
      have c0 : w1.cell? ⟨w.heap.size, 0, none⟩ = some (.int .i64 x) := r1.cell 0 (by omega)
      have c1 : w1.cell? ⟨w.heap.size, 1, none⟩ = some (.int .i64 a) := r1.cell 1 (by omega)
      have c2 : w1.cell? ⟨w.heap.size, 2, none⟩ = some (.int .i64 b) := r1.cell 2 (by omega)
      go_enter Tryz.func157, Tryz.ntmps157
      go_wp2_with fail
      refine (isIndex_any x _).mono ?_
      rintro e wv ⟨rfl, rfl⟩
      rw [hI]
      go_wp2_with fail
      refine (isCount_any a _).mono ?_
      rintro e wv ⟨rfl, rfl⟩
      rw [hA]
      go_wp2
      go_ret
      exact ⟨rfl, b1⟩
    | true =>
      obtain ⟨w1, hW1⟩ : ∃ wX, w.alloc (.cells (tabv (Sg.v ⟨x, a, b⟩) 3) 101) = wX := ⟨_, rfl⟩
      have r1 : Has w1 w.heap.size 101 (Sg.v ⟨x, a, b⟩) 3 := by rw [← hW1]; exact Has.new w 101 (Sg.v ⟨x, a, b⟩) 3 _ rfl
      have b1 : Below w.heap.size w w1 := by rw [← hW1]; exact (Below.refl w.heap.size w).alloc (Nat.le_refl _) _
      have c0 : w1.cell? ⟨w.heap.size, 0, none⟩ = some (.int .i64 x) := r1.cell 0 (by omega)
      have c1 : w1.cell? ⟨w.heap.size, 1, none⟩ = some (.int .i64 a) := r1.cell 1 (by omega)
      have c2 : w1.cell? ⟨w.heap.size, 2, none⟩ = some (.int .i64 b) := r1.cell 2 (by omega)
      go_enter Tryz.func157, Tryz.ntmps157
      go_wp2_with fail
      refine (isIndex_any x _).mono ?_
      rintro e wv ⟨rfl, rfl⟩
      rw [hI]
      go_wp2_with fail
      refine (isCount_any a _).mono ?_
      rintro e wv ⟨rfl, rfl⟩
      rw [hA]
      go_wp2_with fail
      refine (isCount_any b _).mono ?_
      rintro e wv ⟨rfl, rfl⟩
      go_wp2
      go_ret
      exact ⟨rfl, b1⟩
set_option maxRecDepth 100000 in
set_option maxHeartbeats 40000000 in
theorem vRevoked_any (x : Int) (h k : Nat → UInt8) (w : World) : Calls Tryz.prog 165 #[.agg (tabv (Rv.v ⟨x, h, k⟩) 65)] w fun e w' => e = .returned (.bool (idxB x)) ∧ Below w.heap.size w w' := by
  obtain ⟨w1, hW1⟩ : ∃ wX, w.alloc (.cells (tabv (Rv.v ⟨x, h, k⟩) 65) 105) = wX := ⟨_, rfl⟩
  have r1 : Has w1 w.heap.size 105 (Rv.v ⟨x, h, k⟩) 65 := by rw [← hW1]; exact Has.new w 105 (Rv.v ⟨x, h, k⟩) 65 _ rfl
  have b1 : Below w.heap.size w w1 := by rw [← hW1]; exact (Below.refl w.heap.size w).alloc (Nat.le_refl _) _
  have c0 : w1.cell? ⟨w.heap.size, 0, none⟩ = some (.int .i64 x) := r1.cell 0 (by omega)
  go_enter Tryz.func165, Tryz.ntmps165
  go_wp2_with fail
  refine (isIndex_any x _).mono ?_
  rintro e wv ⟨rfl, rfl⟩
  go_wp2
  go_ret
  exact ⟨rfl, b1⟩
set_option maxRecDepth 100000 in
set_option maxHeartbeats 40000000 in
theorem vClosed_any (x : Int) (w : World) : Calls Tryz.prog 183 #[.agg #[.int .i64 x]] w fun e w' => e = .returned (.bool (idxB x)) ∧ Below w.heap.size w w' := by
  obtain ⟨w1, hW1⟩ : ∃ wX, w.alloc (.cells (tabv (fun _ => .int .i64 x) 1) 109) = wX := ⟨_, rfl⟩
  have r1 : Has w1 w.heap.size 109 (fun _ => .int .i64 x) 1 := by rw [← hW1]; exact Has.new w 109 (fun _ => .int .i64 x) 1 _ rfl
  have b1 : Below w.heap.size w w1 := by rw [← hW1]; exact (Below.refl w.heap.size w).alloc (Nat.le_refl _) _
  have hW1 : w.alloc (.cells #[.int .i64 x] 109) = w1 := hW1
  have c0 : w1.cell? ⟨w.heap.size, 0, none⟩ = some (.int .i64 x) := r1.cell 0 (by omega)
  go_enter Tryz.func183, Tryz.ntmps183
  go_wp2_with fail
  refine (isIndex_any x _).mono ?_
  rintro e wv ⟨rfl, rfl⟩
  go_wp2
  go_ret
  exact ⟨rfl, b1⟩
set_option maxRecDepth 100000 in
set_option maxHeartbeats 40000000 in
theorem vFailed_any (n : Int) (w : World) : Calls Tryz.prog 180 #[.agg #[.int .i64 n]] w fun e w' => e = .returned (.bool (codB n)) ∧ Below w.heap.size w w' := by
  unfold codB
  cases d1 : decide (1 ≤ n) with
  | false =>
    obtain ⟨w1, hW1⟩ : ∃ wX, w.alloc (.cells (tabv (fun _ => .int .i64 n) 1) 107) = wX := ⟨_, rfl⟩
    have r1 : Has w1 w.heap.size 107 (fun _ => .int .i64 n) 1 := by rw [← hW1]; exact Has.new w 107 (fun _ => .int .i64 n) 1 _ rfl
    have b1 : Below w.heap.size w w1 := by rw [← hW1]; exact (Below.refl w.heap.size w).alloc (Nat.le_refl _) _
    have hW1 : w.alloc (.cells #[.int .i64 n] 107) = w1 := hW1
    have c0 : w1.cell? ⟨w.heap.size, 0, none⟩ = some (.int .i64 n) := r1.cell 0 (by omega)
    go_enter Tryz.func180, Tryz.ntmps180
    go_wp2
    go_ret
    exact ⟨rfl, b1⟩
  | true =>
    cases d2 : decide (n ≤ 65535) with
    | false =>
      obtain ⟨w1, hW1⟩ : ∃ wX, w.alloc (.cells (tabv (fun _ => .int .i64 n) 1) 107) = wX := ⟨_, rfl⟩
      have r1 : Has w1 w.heap.size 107 (fun _ => .int .i64 n) 1 := by rw [← hW1]; exact Has.new w 107 (fun _ => .int .i64 n) 1 _ rfl
      have b1 : Below w.heap.size w w1 := by rw [← hW1]; exact (Below.refl w.heap.size w).alloc (Nat.le_refl _) _
      have hW1 : w.alloc (.cells #[.int .i64 n] 107) = w1 := hW1
      have c0 : w1.cell? ⟨w.heap.size, 0, none⟩ = some (.int .i64 n) := r1.cell 0 (by omega)
      go_enter Tryz.func180, Tryz.ntmps180
      go_wp2
      go_ret
      exact ⟨rfl, b1⟩
    | true =>
      obtain ⟨w1, hW1⟩ : ∃ wX, w.alloc (.cells (tabv (fun _ => .int .i64 n) 1) 107) = wX := ⟨_, rfl⟩
      have r1 : Has w1 w.heap.size 107 (fun _ => .int .i64 n) 1 := by rw [← hW1]; exact Has.new w 107 (fun _ => .int .i64 n) 1 _ rfl
      have b1 : Below w.heap.size w w1 := by rw [← hW1]; exact (Below.refl w.heap.size w).alloc (Nat.le_refl _) _
      have hW1 : w.alloc (.cells #[.int .i64 n] 107) = w1 := hW1
      have c0 : w1.cell? ⟨w.heap.size, 0, none⟩ = some (.int .i64 n) := r1.cell 0 (by omega)
      go_enter Tryz.func180, Tryz.ntmps180
      go_wp2
      go_ret
      exact ⟨rfl, b1⟩
set_option maxRecDepth 100000 in
set_option maxHeartbeats 40000000 in
theorem vCame_any (x : Int) (ad : Option Addr) (n cap : Nat) (h : Nat → UInt8) (l : List Upd) (hn : l.length = n) (w : World) (hS : Upds w ad l) : Calls Tryz.prog 162 #[.agg (tabv (Cm.v ⟨x, ⟨ad, n, cap⟩, h⟩) 34)] w fun e w' => e = .returned (.bool (idxB x && (decide (n ≤ 512) && l.all validB))) ∧ Below w.heap.size w w' := by
  cases hI : idxB x with
  | false =>
    obtain ⟨w1, hW1⟩ : ∃ wX, w.alloc (.cells (tabv (Cm.v ⟨x, ⟨ad, n, cap⟩, h⟩) 34) 103) = wX := ⟨_, rfl⟩
    have r1 : Has w1 w.heap.size 103 (Cm.v ⟨x, ⟨ad, n, cap⟩, h⟩) 34 := by rw [← hW1]; exact Has.new w 103 (Cm.v ⟨x, ⟨ad, n, cap⟩, h⟩) 34 _ rfl
    have b1 : Below w.heap.size w w1 := by rw [← hW1]; exact (Below.refl w.heap.size w).alloc (Nat.le_refl _) _
    have c0 : w1.cell? ⟨w.heap.size, 0, none⟩ = some (.int .i64 x) := r1.cell 0 (by omega)
    have c1 : w1.cell? ⟨w.heap.size, 1, none⟩ = some (.slice ad n cap) := r1.cell 1 (by omega)
    go_enter Tryz.func162, Tryz.ntmps162
    go_wp2_with fail
    refine (isIndex_any x _).mono ?_
    rintro e wv ⟨rfl, rfl⟩
    rw [hI]
    go_wp2
    go_ret
    exact ⟨rfl, b1⟩
  | true =>
    by_cases hn5 : n ≤ 512
    · have d5 : decide ((512 : Int) < (n : Int)) = false := decide_eq_false (by omega)
      have d6 : decide (n ≤ 512) = true := decide_eq_true hn5
      have HN := hide hn
      have hni : (n : Int) ≤ 512 := by omega
      obtain ⟨R, hR⟩ : ∃ R, l.all validB = R := ⟨_, rfl⟩
      rw [hR, d6]
      have HR := hide hR
      clear hR hn d6
      obtain ⟨w1, hW1⟩ : ∃ wX, w.alloc (.cells (tabv (Cm.v ⟨x, ⟨ad, n, cap⟩, h⟩) 34) 103) = wX := ⟨_, rfl⟩
      have r1 : Has w1 w.heap.size 103 (Cm.v ⟨x, ⟨ad, n, cap⟩, h⟩) 34 := by rw [← hW1]; exact Has.new w 103 (Cm.v ⟨x, ⟨ad, n, cap⟩, h⟩) 34 _ rfl
      have b1 : Below w.heap.size w w1 := by rw [← hW1]; exact (Below.refl w.heap.size w).alloc (Nat.le_refl _) _
      have c0 : w1.cell? ⟨w.heap.size, 0, none⟩ = some (.int .i64 x) := r1.cell 0 (by omega)
      have c1 : w1.cell? ⟨w.heap.size, 1, none⟩ = some (.slice ad n cap) := r1.cell 1 (by omega)
      go_enter Tryz.func162, Tryz.ntmps162
      go_wp2_with fail
      refine (isIndex_any x _).mono ?_
      rintro e wv ⟨rfl, rfl⟩
      rw [hI]
      clear hI
      go_wp2
      clear hW1
      go_loopw [18] (fun i wr => ∃ j : Nat, j ≤ n ∧ i = .int .i64 (j : Int) ∧ Hid ((l.take j).all validB = true) ∧ Below w.heap.size w wr) (fun i _ => n - (intOf i).toNat)
      case atStart => exact ⟨0, Nat.zero_le _, rfl, rfl, b1⟩
      case round =>
        clear r1 b1 c0 c1
        obtain ⟨j, hj, rfl, HF, gb⟩ := hrel
        by_cases hlt : j < n
        · have hd : decide ((j : Int) < (n : Int)) = true := decide_eq_true (by omega)
          have hd2 : decide (j < n) = true := decide_eq_true hlt
          have hk0 : (0 : Int) ≤ (j : Int) := by omega
          have hk1 : (j : Int) < (n : Int) := by omega
          obtain ⟨s, hs⟩ : ∃ s, l[j]? = some s := ⟨_, List.getElem?_eq_getElem (by rw [HN.out]; exact hlt)⟩
          obtain ⟨b, o, rfl, hb1, hA⟩ := (hS.below gb).get j s hs
          have HS := hide hs
          have HA := hide hA
          obtain ⟨w6, w7, hW6, q6, hW7, q7, b7, b6⟩ := newU2 wr s
          have Q6 := hide q6
          have Q7 := hide q7
          have HA6 := hide (hA.below b6 hb1)
          have gb7 : Hid (Below w.heap.size w w7) := gb.trans (b7.mono gb.size)
          clear hs hA hb1 q6 q7 b7 b6 gb
          go_wp2_with (first | rw [hW7] | refine wpW_load_at 36 _ rfl (b) (o + j * 36) (by rfl) (by rfl) _ 36 _ (HA.out) Tryz.underlying36 rfl infoU ?_ | refine wpList_storeU rfl _ _ rfl rfl (wr.heap.size) (s) rfl rfl _ Q6.out ?_ | refine wpW_load_at 36 _ rfl (wr.heap.size) (0) (by rfl) (by rfl) _ 36 _ (Q7.out.at_ 0 (by omega) (fun i hi => by rw [Nat.zero_add])) Tryz.underlying36 rfl infoU ?_ | fail)
          refine (valid_any s _).mono ?_
          rintro e w8 ⟨rfl, hb8⟩
          have gb8 : Below w.heap.size w w8 := gb7.out.trans (hb8.mono gb7.out.size)
          obtain ⟨V, hV⟩ : ∃ V, validB s = V := ⟨_, rfl⟩
          rw [hV]
          have HV := hide hV
          clear hb8 gb7 hV
          cases V with
          | true =>
            go_wp2
            go_roundw
            case rel => exact ⟨j + 1, by omega, by go_num, (by show _ = _; rw [take_snoc HS.out, List.all_append, HF.out]; simp [HV.out]), gb8⟩
            case measure => simp [intOf]; omega
          | false =>
            have HE : Hid (R = false) := by
              show _ = _
              rw [← HR.out, ← List.take_append_drop (j + 1) l, List.all_append, take_snoc HS.out, List.all_append]
              simp [HV.out]
            go_wp2
            go_ret
            exact ⟨by rw [HE.out]; rfl, gb8⟩
        · obtain rfl : j = n := by omega
          have hd : decide ((j : Int) < (j : Int)) = false := by simp
          have HE : Hid (R = true) := by show _ = _; rw [← HR.out, ← HF.out, List.take_of_length_le (by rw [HN.out]; exact Nat.le_refl _)]
          go_wp2
          go_ret
          exact ⟨by rw [HE.out]; rfl, gb⟩
    · have d5 : decide ((512 : Int) < (n : Int)) = true := decide_eq_true (by omega)
      have d6 : decide (n ≤ 512) = false := decide_eq_false hn5
      rw [d6]
      clear d6 hn5 hn
      obtain ⟨w1, hW1⟩ : ∃ wX, w.alloc (.cells (tabv (Cm.v ⟨x, ⟨ad, n, cap⟩, h⟩) 34) 103) = wX := ⟨_, rfl⟩
      have r1 : Has w1 w.heap.size 103 (Cm.v ⟨x, ⟨ad, n, cap⟩, h⟩) 34 := by rw [← hW1]; exact Has.new w 103 (Cm.v ⟨x, ⟨ad, n, cap⟩, h⟩) 34 _ rfl
      have b1 : Below w.heap.size w w1 := by rw [← hW1]; exact (Below.refl w.heap.size w).alloc (Nat.le_refl _) _
      have c0 : w1.cell? ⟨w.heap.size, 0, none⟩ = some (.int .i64 x) := r1.cell 0 (by omega)
      have c1 : w1.cell? ⟨w.heap.size, 1, none⟩ = some (.slice ad n cap) := r1.cell 1 (by omega)
      go_enter Tryz.func162, Tryz.ntmps162
      go_wp2_with fail
      refine (isIndex_any x _).mono ?_
      rintro e wv ⟨rfl, rfl⟩
      rw [hI]
      go_wp2
      go_ret
      exact ⟨rfl, b1⟩
end Go.Proofs.YtlohfoggcdaeiaaGreat
