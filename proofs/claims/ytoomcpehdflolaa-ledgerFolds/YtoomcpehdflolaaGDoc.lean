/-
  The document's sums (Units times 2^60 and a rest), its counts and its first removals.
-/
import Derived.Test.YtoomcpehdflolaaGOpen
namespace Go.Proofs.Ytoomcpehdflolaa
open Go.RowKit S
set_option linter.unusedVariables false
set_option linter.unusedSimpArgs false
theorem infoW : (Try.prog.info? 85).map (·.size) = some 2 := by kernel_rfl
theorem oneW (X : Int) (i : Nat) : (totv X i).oneCell' = true := by unfold totv; split <;> rfl
section
variable {ops : Array Oper} {rest : List Oper} {o : Oper} {a : Act} {w : World} {Q : Exit → Act → World → Prop}
theorem wpList_storeW (hgd : o.guard = none) (x y : Operand) (ho : o.op = .store 85 x y) (hd : o.dst = none) (g : Nat) (X : Int) (hx : a.eval x = .pointer (some ⟨g, 0, none⟩)) (hy : a.eval y = .agg (tabv (totv X) 2)) (f : Nat → Value) (hg : Has w g 85 f 2)
    (hk : wpList Try.prog ops Q rest a (w.setRow g (tabv (totv X) 2))) : wpList Try.prog ops Q (o :: rest) a w :=
  wpList_store_part hgd 85 x y ho hd g 0 (totv X) 2 hx hy 85 f 2 hg (by omega) infoW (fun i _ => oneW X i) (totv X) (fun i hi => by unfold splice; rw [if_pos (by omega), Nat.sub_zero]) hk
end
theorem resW (w : World) (g : Nat) (f : Nat → Value) (tmps : Array Value) (c : Nat) (hg : Has w g 85 f 2) (hp : tmps.getD c undef = .pointer (some ⟨g, 0, none⟩)) (fn : Func) (h : fn.results = #[.cell c 85]) :
    (results fn tmps).run Try.prog w = .ok (.agg (tabv f 2)) w :=
  results_cell_row h _ _ g 85 _ (0, 0) _ hp hg Try.underlying85 rfl (by rw [tabv_size]; exact infoW)
theorem tot_eq {Y H L : Int} (e : Y = H * 1152921504606846976 + L) (h0 : 0 ≤ L) (h1 : L < 1152921504606846976) : tabv (totv Y) 2 = #[.int .i64 H, .int .i64 L] := by
  have e1 : Y / 1152921504606846976 = H := by omega
  have e2 : Y % 1152921504606846976 = L := by omega
  unfold totv
  rw [e1, e2]
  rfl
theorem tot_v (X : Int) : tabv (totv X) 2 = #[.int .i64 (X / 1152921504606846976), .int .i64 (X % 1152921504606846976)] := rfl
theorem builtW (H L : Int) : Try.prog.built 85 [(0, .int .i64 H), (1, .int .i64 L)] = some #[.int .i64 H, .int .i64 L] := by kernel_rfl
set_option maxHeartbeats 1000000 in
theorem rplus_any (X a : Int) (w : World) (h0 : 0 ≤ a) (h1 : a ≤ 1152921504606846976) (hb : Bd X) : Calls Try.prog 41 #[.agg (tabv (totv X) 2), .int .i64 a] w fun e w' => e = .returned (.agg (tabv (totv (X + a)) 2)) ∧ Below w.heap.size w w' := by
  rw [tot_v X]
  obtain ⟨H, hH⟩ : ∃ H, X / 1152921504606846976 = H := ⟨_, rfl⟩
  obtain ⟨L, hL⟩ : ∃ L, X % 1152921504606846976 = L := ⟨_, rfl⟩
  rw [hH, hL]
  have l0 : 0 ≤ L := by omega
  have l1 : L < 1152921504606846976 := by omega
  have e : X = H * 1152921504606846976 + L := by omega
  obtain ⟨b1, b2⟩ := hb
  have w1 : IntKind.i64.wrap (L + a) = L + a := by rw [IntKind.wrap_i64]; omega
  have w2 : IntKind.i64.wrap (L + a - 1152921504606846976) = L + a - 1152921504606846976 := by rw [IntKind.wrap_i64]; omega
  have w3 : IntKind.i64.wrap (H + 1) = H + 1 := by rw [IntKind.wrap_i64]; omega
  obtain ⟨V1, hV1⟩ : ∃ x, w.alloc (.cells #[.int .i64 H, .int .i64 L] 85) = x := ⟨_, rfl⟩
  obtain ⟨V2, hV2⟩ : ∃ x, V1.alloc (.cells #[.int .i64 0, .int .i64 0] 85) = x := ⟨_, rfl⟩
  have k1 : Has V1 w.heap.size 85 (fun i => .int .i64 (if i = 0 then H else L)) 2 := by rw [← hV1]; exact Has.new w 85 _ 2 _ rfl
  have b1 : Below w.heap.size w V1 := by rw [← hV1]; exact (Below.refl _ _).alloc (Nat.le_refl _) _
  have b2 : Below V1.heap.size V1 V2 := by rw [← hV2]; exact (Below.refl _ _).alloc (Nat.le_refl _) _
  have k2 : Has V2 V1.heap.size 85 (totv 0) 2 := by rw [← hV2]; exact Has.new V1 85 _ 2 _ rfl
  have q := k1.below b2 k1.lt
  have hne : w.heap.size < V1.heap.size := k1.lt
  have gb := b1.trans (b2.mono b1.size)
  clear k1 b1 b2
  obtain ⟨g, hg⟩ : ∃ g, w.heap.size = g := ⟨_, rfl⟩
  obtain ⟨g2, hg2⟩ : ∃ g, V1.heap.size = g := ⟨_, rfl⟩
  rw [hg] at q hne gb ⊢
  rw [hg2] at k2 hne
  have c0 : V2.cell? ⟨g, 0, none⟩ = some (.int .i64 H) := q.cell 0 (by omega)
  have c1 : V2.cell? ⟨g, 1, none⟩ = some (.int .i64 L) := q.cell 1 (by omega)
  have z0 := q.frozen 0
  have z1 := q.frozen 1
  have E := hide e
  have L0 := hide l0
  have L1 := hide l1
  have K2 := hide k2
  have HQ := hide q
  have GE : Hid (g ≤ g2) := Nat.le_of_lt hne
  have hne1 : (g2 == g) = false := by rw [beq_eq_false_iff_ne]; omega
  have hne2 : (g == g2) = false := by rw [beq_eq_false_iff_ne]; omega
  have A0 := hide h0
  have A1 := hide h1
  clear e l0 l1 b1 b2 hH hL q k2
  by_cases hu : a = 1152921504606846976
  · subst hu
    have eW : tabv (totv (X + 1152921504606846976)) 2 = #[.int .i64 (H + 1), .int .i64 L] := tot_eq (by have := E.out; omega) L0.out L1.out
    have EW := hide eW
    clear h0 h1 w1 w2 eW hne
    go_enter Try.func41, Try.ntmps41
    go_wp2_with (first | refine wpW_build (by rfl) 85 _ rfl [(0, .int .i64 (H + 1)), (1, .int .i64 L)] (by simp [Act.eval]) _ (builtW _ _) ?_ | refine wpList_storeW rfl _ _ rfl rfl g2 (X + 1152921504606846976) rfl (by rw [EW.out]; rfl) _ K2.out ?_)
    exact bodyPost_ret (resW _ g2 _ _ 4 (K2.out.row _ _ rfl) rfl _ rfl) rfl ⟨rfl, below_setRow gb GE.out _⟩
  · have hd0 : (a == 1152921504606846976) = false := by rw [beq_eq_false_iff_ne]; exact hu
    by_cases hc : 1152921504606846976 ≤ L + a
    · have hd : decide (1152921504606846976 ≤ L + a) = true := decide_eq_true hc
      have HC := hide hc
      have eW : tabv (totv (X + a)) 2 = #[.int .i64 (H + 1), .int .i64 (L + a - 1152921504606846976)] := tot_eq (by have := E.out; omega) (by have := L0.out; have := A1.out; have := HC.out; omega) (by have := L1.out; have := A1.out; have := HC.out; omega)
      have EW := hide eW
      have K3 : Hid (Has (V2.setCell ⟨g, 1, none⟩ (.int .i64 (L + a))) g2 85 (totv 0) 2) := K2.out.same (heap_setCell_other V2 _ g2 _ (by intro e; simp at e; omega))
      have gb3 : Below g w (V2.setCell ⟨g, 1, none⟩ (.int .i64 (L + a))) := gb.trans (Keep.below (keep_set (S := (· = g)) _ _ _ _ rfl) (by rw [← hg]; exact gb.size) (fun k hk e => by omega))
      clear h0 h1 hu hc eW hne
      go_enter Try.func41, Try.ntmps41
      go_wp2_with (first | refine wpW_build (by rfl) 85 _ rfl [(0, .int .i64 (H + 1)), (1, .int .i64 (L + a - 1152921504606846976))] (by simp [Act.eval]) _ (builtW _ _) ?_ | refine wpList_storeW rfl _ _ rfl rfl g2 (X + a) rfl (by rw [EW.out]; rfl) _ K3.out ?_)
      exact bodyPost_ret (resW _ g2 _ _ 4 (K3.out.row _ _ rfl) rfl _ rfl) rfl ⟨rfl, below_setRow gb3 GE.out _⟩
    · have hd : decide (1152921504606846976 ≤ L + a) = false := decide_eq_false hc
      have HC := hide hc
      have K3 : Hid (Has (V2.setCell ⟨g, 1, none⟩ (.int .i64 (L + a))) g2 85 (totv 0) 2) := K2.out.same (heap_setCell_other V2 _ g2 _ (by intro e; simp at e; omega))
      have Q3 : Hid (Has (V2.setCell ⟨g, 1, none⟩ (.int .i64 (L + a))) g 85 (totv (X + a)) 2) := (HQ.out.two1 _).congr _ (fun i hi => by
        have e1 : (X + a) / 1152921504606846976 = H := by have := E.out; have := L0.out; have := L1.out; have := HC.out; have := A0.out; omega
        have e2 : (X + a) % 1152921504606846976 = L + a := by have := E.out; have := L0.out; have := L1.out; have := HC.out; have := A0.out; omega
        unfold totv; rw [e1, e2])
      have gb3 : Below g w (V2.setCell ⟨g, 1, none⟩ (.int .i64 (L + a))) := gb.trans (Keep.below (keep_set (S := (· = g)) _ _ _ _ rfl) (by rw [← hg]; exact gb.size) (fun k hk e => by omega))
      clear h0 h1 hu hc hne
      go_enter Try.func41, Try.ntmps41
      go_wp2_with (first | refine wpW_load_at 85 _ rfl g 0 (by rfl) (by rfl) _ 2 _ (Q3.out.at_ 0 (by omega) (fun i hi => by rw [Nat.zero_add])) Try.underlying85 rfl infoW ?_ | refine wpList_storeW rfl _ _ rfl rfl g2 (X + a) rfl rfl _ K3.out ?_)
      exact bodyPost_ret (resW _ g2 _ _ 4 (K3.out.row _ _ rfl) rfl _ rfl) rfl ⟨rfl, below_setRow gb3 GE.out _⟩
set_option maxHeartbeats 1000000 in
theorem rminus_any (X a : Int) (w : World) (h0 : 0 ≤ a) (h1 : a ≤ 1152921504606846976) (hb : Bd X) : Calls Try.prog 44 #[.agg (tabv (totv X) 2), .int .i64 a] w fun e w' => e = .returned (.agg (tabv (totv (X - a)) 2)) ∧ Below w.heap.size w w' := by
  rw [tot_v X]
  obtain ⟨H, hH⟩ : ∃ H, X / 1152921504606846976 = H := ⟨_, rfl⟩
  obtain ⟨L, hL⟩ : ∃ L, X % 1152921504606846976 = L := ⟨_, rfl⟩
  rw [hH, hL]
  have l0 : 0 ≤ L := by omega
  have l1 : L < 1152921504606846976 := by omega
  have e : X = H * 1152921504606846976 + L := by omega
  obtain ⟨b1, b2⟩ := hb
  have w1 : IntKind.i64.wrap (L - a) = L - a := by rw [IntKind.wrap_i64]; omega
  have w2 : IntKind.i64.wrap (L - a + 1152921504606846976) = L - a + 1152921504606846976 := by rw [IntKind.wrap_i64]; omega
  have w3 : IntKind.i64.wrap (H - 1) = H - 1 := by rw [IntKind.wrap_i64]; omega
  obtain ⟨V1, hV1⟩ : ∃ x, w.alloc (.cells #[.int .i64 H, .int .i64 L] 85) = x := ⟨_, rfl⟩
  obtain ⟨V2, hV2⟩ : ∃ x, V1.alloc (.cells #[.int .i64 0, .int .i64 0] 85) = x := ⟨_, rfl⟩
  have k1 : Has V1 w.heap.size 85 (fun i => .int .i64 (if i = 0 then H else L)) 2 := by rw [← hV1]; exact Has.new w 85 _ 2 _ rfl
  have b1 : Below w.heap.size w V1 := by rw [← hV1]; exact (Below.refl _ _).alloc (Nat.le_refl _) _
  have b2 : Below V1.heap.size V1 V2 := by rw [← hV2]; exact (Below.refl _ _).alloc (Nat.le_refl _) _
  have k2 : Has V2 V1.heap.size 85 (totv 0) 2 := by rw [← hV2]; exact Has.new V1 85 _ 2 _ rfl
  have q := k1.below b2 k1.lt
  have hne : w.heap.size < V1.heap.size := k1.lt
  have gb := b1.trans (b2.mono b1.size)
  clear k1 b1 b2
  obtain ⟨g, hg⟩ : ∃ g, w.heap.size = g := ⟨_, rfl⟩
  obtain ⟨g2, hg2⟩ : ∃ g, V1.heap.size = g := ⟨_, rfl⟩
  rw [hg] at q hne gb ⊢
  rw [hg2] at k2 hne
  have c0 : V2.cell? ⟨g, 0, none⟩ = some (.int .i64 H) := q.cell 0 (by omega)
  have c1 : V2.cell? ⟨g, 1, none⟩ = some (.int .i64 L) := q.cell 1 (by omega)
  have z0 := q.frozen 0
  have z1 := q.frozen 1
  have E := hide e
  have L0 := hide l0
  have L1 := hide l1
  have K2 := hide k2
  have HQ := hide q
  have GE : Hid (g ≤ g2) := Nat.le_of_lt hne
  have hne1 : (g2 == g) = false := by rw [beq_eq_false_iff_ne]; omega
  have hne2 : (g == g2) = false := by rw [beq_eq_false_iff_ne]; omega
  have A0 := hide h0
  have A1 := hide h1
  clear e l0 l1 b1 b2 hH hL q k2
  by_cases hu : a = 1152921504606846976
  · subst hu
    have eW : tabv (totv (X - 1152921504606846976)) 2 = #[.int .i64 (H - 1), .int .i64 L] := tot_eq (by have := E.out; omega) L0.out L1.out
    have EW := hide eW
    clear h0 h1 w1 w2 eW hne
    go_enter Try.func44, Try.ntmps44
    go_wp2_with (first | refine wpW_build (by rfl) 85 _ rfl [(0, .int .i64 (H - 1)), (1, .int .i64 L)] (by simp [Act.eval]) _ (builtW _ _) ?_ | refine wpList_storeW rfl _ _ rfl rfl g2 (X - 1152921504606846976) rfl (by rw [EW.out]; rfl) _ K2.out ?_)
    exact bodyPost_ret (resW _ g2 _ _ 4 (K2.out.row _ _ rfl) rfl _ rfl) rfl ⟨rfl, below_setRow gb GE.out _⟩
  · have hd0 : (a == 1152921504606846976) = false := by rw [beq_eq_false_iff_ne]; exact hu
    by_cases hc : L - a < 0
    · have hd : decide (L - a < 0) = true := decide_eq_true hc
      have HC := hide hc
      have eW : tabv (totv (X - a)) 2 = #[.int .i64 (H - 1), .int .i64 (L - a + 1152921504606846976)] := tot_eq (by have := E.out; omega) (by have := L0.out; have := A1.out; have := HC.out; omega) (by have := L1.out; have := A1.out; have := HC.out; omega)
      have EW := hide eW
      have K3 : Hid (Has (V2.setCell ⟨g, 1, none⟩ (.int .i64 (L - a))) g2 85 (totv 0) 2) := K2.out.same (heap_setCell_other V2 _ g2 _ (by intro e; simp at e; omega))
      have gb3 : Below g w (V2.setCell ⟨g, 1, none⟩ (.int .i64 (L - a))) := gb.trans (Keep.below (keep_set (S := (· = g)) _ _ _ _ rfl) (by rw [← hg]; exact gb.size) (fun k hk e => by omega))
      clear h0 h1 hu hc eW hne
      go_enter Try.func44, Try.ntmps44
      go_wp2_with (first | refine wpW_build (by rfl) 85 _ rfl [(0, .int .i64 (H - 1)), (1, .int .i64 (L - a + 1152921504606846976))] (by simp [Act.eval]) _ (builtW _ _) ?_ | refine wpList_storeW rfl _ _ rfl rfl g2 (X - a) rfl (by rw [EW.out]; rfl) _ K3.out ?_)
      exact bodyPost_ret (resW _ g2 _ _ 4 (K3.out.row _ _ rfl) rfl _ rfl) rfl ⟨rfl, below_setRow gb3 GE.out _⟩
    · have hd : decide (L - a < 0) = false := decide_eq_false hc
      have HC := hide hc
      have K3 : Hid (Has (V2.setCell ⟨g, 1, none⟩ (.int .i64 (L - a))) g2 85 (totv 0) 2) := K2.out.same (heap_setCell_other V2 _ g2 _ (by intro e; simp at e; omega))
      have Q3 : Hid (Has (V2.setCell ⟨g, 1, none⟩ (.int .i64 (L - a))) g 85 (totv (X - a)) 2) := (HQ.out.two1 _).congr _ (fun i hi => by
        have e1 : (X - a) / 1152921504606846976 = H := by have := E.out; have := L0.out; have := L1.out; have := HC.out; have := A0.out; omega
        have e2 : (X - a) % 1152921504606846976 = L - a := by have := E.out; have := L0.out; have := L1.out; have := HC.out; have := A0.out; omega
        unfold totv; rw [e1, e2])
      have gb3 : Below g w (V2.setCell ⟨g, 1, none⟩ (.int .i64 (L - a))) := gb.trans (Keep.below (keep_set (S := (· = g)) _ _ _ _ rfl) (by rw [← hg]; exact gb.size) (fun k hk e => by omega))
      clear h0 h1 hu hc hne
      go_enter Try.func44, Try.ntmps44
      go_wp2_with (first | refine wpW_load_at 85 _ rfl g 0 (by rfl) (by rfl) _ 2 _ (Q3.out.at_ 0 (by omega) (fun i hi => by rw [Nat.zero_add])) Try.underlying85 rfl infoW ?_ | refine wpList_storeW rfl _ _ rfl rfl g2 (X - a) rfl rfl _ K3.out ?_)
      exact bodyPost_ret (resW _ g2 _ _ 4 (K3.out.row _ _ rfl) rfl _ rfl) rfl ⟨rfl, below_setRow gb3 GE.out _⟩
theorem rcut_any (X : Int) (w : World) : Calls Try.prog 45 #[.agg (tabv (totv X) 2)] w fun e w' => e = .returned (.int .i64 (clampA X)) ∧ Below w.heap.size w w' := by
  rw [tot_v X]
  obtain ⟨H, hH⟩ : ∃ H, X / 1152921504606846976 = H := ⟨_, rfl⟩
  obtain ⟨L, hL⟩ : ∃ L, X % 1152921504606846976 = L := ⟨_, rfl⟩
  rw [hH, hL]
  have gb : Below w.heap.size w (w.alloc (.cells #[.int .i64 H, .int .i64 L] 85)) := (Below.refl _ w).alloc (Nat.le_refl _) _
  by_cases h1 : H < 0
  · have e : clampA X = 0 := by unfold clampA; rw [if_pos (by omega)]
    have hd : decide (H < 0) = true := decide_eq_true h1
    rw [e]; clear hH hL e h1
    go_enter Try.func45, Try.ntmps45
    go_wp2
    go_ret
    exact ⟨rfl, gb⟩
  · have hd : decide (H < 0) = false := decide_eq_false h1
    by_cases h2 : 0 < H
    · have e : clampA X = 1152921504606846976 := by unfold clampA; rw [if_neg (by omega), if_pos (by omega)]
      have hd2 : decide (0 < H) = true := decide_eq_true h2
      rw [e]; clear hH hL e h1 h2
      go_enter Try.func45, Try.ntmps45
      go_wp2
      go_ret
      exact ⟨rfl, gb⟩
    · have e : clampA X = L := by unfold clampA; rw [if_neg (by omega), if_neg (by omega)]; omega
      have hd2 : decide (0 < H) = false := decide_eq_false h2
      rw [e]; clear hH hL e h1 h2
      go_enter Try.func45, Try.ntmps45
      go_wp2
      go_ret
      exact ⟨rfl, gb⟩
theorem rfirst_any (ad : Option Addr) (n cap : Nat) (k : Int) (hc : n ≤ cap) (w : World) : Calls Try.prog 40 #[.slice ad n cap, .int .i64 k] w fun e w' => e = .returned (.slice ad (inL k n) cap) ∧ w' = w := by
  by_cases h1 : k < 0
  · rw [show inL k n = 0 by unfold inL; rw [if_pos h1]]
    have hd : decide (k < 0) = true := decide_eq_true h1
    have hd2 : decide ((n : Int) < 0) = false := decide_eq_false (by omega)
    have hd3 : decide (0 > (n : Int)) = false := decide_eq_false (by omega)
    have sl : ∀ w, (Instr.sliceAt 22 (.slice ad n cap) none (some (.int .i64 0)) none).run Try.prog w = .ok (.slice ad 0 cap) w := fun w => sliceK w ad n cap 0 (by omega)
    clear h1 hc
    go_enter Try.func40, Try.ntmps40
    go_wp2
    all_goals first | (go_ret; exact ⟨rfl, rfl⟩) | omega
  · have hd : decide (k < 0) = false := decide_eq_false h1
    by_cases h2 : (n : Int) < k
    · rw [show inL k n = n by unfold inL; rw [if_neg h1, if_pos h2]]
      have hd2 : decide ((n : Int) < k) = true := decide_eq_true h2
      have sl := fun w => sliceK w ad n cap n (by omega)
      clear h1 h2 hc
      go_enter Try.func40, Try.ntmps40
      go_wp2
      all_goals first | (go_ret; exact ⟨rfl, rfl⟩) | omega
    · have hk : ((inL k n : Nat) : Int) = k := (inL_eq k n).2 (by omega)
      have hd2 : decide ((n : Int) < k) = false := decide_eq_false h2
      have sl := fun w => sliceK w ad n cap (inL k n) (Nat.le_trans (inL_le _ _) hc)
      rw [hk] at sl
      clear h1 h2 hc hk
      go_enter Try.func40, Try.ntmps40
      go_wp2
      all_goals first | (go_ret; exact ⟨rfl, rfl⟩) | omega
theorem rem_next {id : Int} {l : List Upd} {j : Nat} {x : Upd} (hx : l[j]? = some x) (h0 : (l.take j).find? (remP id) = none) (hp : remP id x = false) : (l.take (j + 1)).find? (remP id) = none := find_next hx h0 hp
set_option maxRecDepth 100000 in
set_option maxHeartbeats 4000000 in
theorem rremoved_any (ad : Option Addr) (n cap : Nat) (l : List Upd) (hn : l.length = n) (hz : n ≤ 140737488351232) (id : Int) (w : World) (hS : Upds w ad l) : Calls Try.prog 43 #[.slice ad n cap, .int .i64 id] w fun e w' => e = .returned (.int .i64 (remK l id)) ∧ Below w.heap.size w w' := by
  obtain ⟨R, hR⟩ : ∃ R, remK l id = R := ⟨_, rfl⟩
  rw [hR]
  have HR := hide hR
  have HN := hide hn
  have hni : (n : Int) ≤ 140737488351232 := by omega
  clear hR hn hz
  go_enter Try.func43, Try.ntmps43
  go_wp2
  go_loopw [5] (fun i wr => ∃ j : Nat, j ≤ n ∧ i = .int .i64 (j : Int) ∧ Hid ((l.take j).find? (remP id) = none) ∧ Below w.heap.size w wr) (fun i _ => n - (intOf i).toNat)
  case atStart => exact ⟨0, Nat.zero_le _, rfl, rfl, Below.refl _ _⟩
  case round =>
    obtain ⟨j, hj, rfl, HF, gb⟩ := hrel
    by_cases hlt : j < n
    · have hd : decide ((j : Int) < (n : Int)) = true := decide_eq_true (by omega)
      have hd2 : decide (j < n) = true := decide_eq_true hlt
      have hk0 : (0 : Int) ≤ (j : Int) := by omega
      have hk1 : (j : Int) < (n : Int) := by omega
      obtain ⟨s, hs⟩ : ∃ s, l[j]? = some s := ⟨_, List.getElem?_eq_getElem (by rw [HN.out]; exact hlt)⟩
      obtain ⟨b, o, rfl, hb1, hA⟩ := (hS.below gb).get j s hs
      have HS := hide hs
      have HA := hide hA
      have c0 : wr.cell? ⟨b, o + j * 36 + 0, none⟩ = some (.int .i64 s.kind) := hA 0 (by omega)
      have c1 : wr.cell? ⟨b, o + j * 36 + 1, none⟩ = some (.int .i64 s.id) := hA 1 (by omega)
      rw [Nat.add_zero] at c0
      clear hs hA
      cases k1 : (s.kind != 1) with
      | false =>
        go_wp2
        go_roundw
        case rel => exact ⟨j + 1, by omega, by go_num, find_next HS.out HF.out (by unfold remP; simp [k1]), gb⟩
        case measure => simp [intOf]; omega
      | true =>
        cases ki : (s.id == id) with
        | false =>
          go_wp2
          go_roundw
          case rel => exact ⟨j + 1, by omega, by go_num, find_next HS.out HF.out (by unfold remP; simp [ki]), gb⟩
          case measure => simp [intOf]; omega
        | true =>
          cases hv : validB s with
          | false =>
            have hC : Calls Try.prog 42 #[.agg (tabv s.v 36)] wr fun e w' => e = .returned (.bool false) ∧ Below wr.heap.size wr w' := by have := rvalid_any s wr; rw [hv] at this; exact this
            have HC := hide hC
            clear hC
            go_wp2_with (first | refine wpW_load_at 39 _ rfl (b) (o + j * 36) (by rfl) (by rfl) _ 36 _ (HA.out) Try.underlying39 rfl infoU ?_ | (go_at_call 42; go_must (refine HC.out.mono ?_); rintro e w8 ⟨rfl, hb8⟩))
            go_roundw
            case rel => exact ⟨j + 1, by omega, by go_num, find_next HS.out HF.out (by unfold remP; simp [hv]), gb.trans (hb8.mono gb.size)⟩
            case measure => simp [intOf]; omega
          | true =>
            have hC : Calls Try.prog 42 #[.agg (tabv s.v 36)] wr fun e w' => e = .returned (.bool true) ∧ Below wr.heap.size wr w' := by have := rvalid_any s wr; rw [hv] at this; exact this
            have HC := hide hC
            clear hC
            have hfi : R = s.kind := by rw [← HR.out]; unfold remK; rw [find_at HS.out HF.out (by unfold remP; simp [hv, k1, ki])]; rfl
            subst hfi
            go_wp2_with (first | refine wpW_load_at 39 _ rfl (b) (o + j * 36) (by rfl) (by rfl) _ 36 _ (HA.out) Try.underlying39 rfl infoU ?_ | (go_at_call 42; go_must (refine HC.out.mono ?_); rintro e w8 ⟨rfl, hb8⟩; have d0 := (hb8.cell (p := ⟨b, o + j * 36, none⟩) hb1).trans c0))
            go_ret
            exact ⟨rfl, gb.trans (hb8.mono gb.size)⟩
    · have hjn : j = n := by omega
      subst hjn
      have hd : decide ((j : Int) < (j : Int)) = false := decide_eq_false (by omega)
      have hd2 : decide (j < j) = false := decide_eq_false (by omega)
      have hfi : R = 0 := by
        have h := HF.out
        rw [← HN.out] at h
        rw [← HR.out]; unfold remK; rw [find_end h]; rfl
      subst hfi
      go_wp2
      go_ret
      exact ⟨rfl, gb⟩
end Go.Proofs.Ytoomcpehdflolaa
