/-
  counts; a ledger turned (printed by gen_counts.py).
-/
import Derived.Test.YtoomcpehdflolaaGMade
import Derived.Test.YtoomcpehdflolaaGViewM
namespace Go.Proofs.Ytoomcpehdflolaa
open Go.RowKit S Go.Shelf Go.Sort
set_option linter.unusedVariables false
set_option linter.unusedSimpArgs false
theorem wp_store_part {P : Program} {o : Oper} {a : Act} {w : World} {K : Act → World → Prop} {Q : Exit → Act → World → Prop} (ty : TypeId) (x y : Operand) (ho : o.op = .store ty x y) (hd : o.dst = none)
    (g of : Nat) (h : Nat → Value) (m : Nat) (hx : a.eval x = .pointer (some ⟨g, of, none⟩)) (hy : a.eval y = .agg (tabv h m))
    (t : TypeId) (f : Nat → Value) (M : Nat) (hg : Has w g t f M) (hm : of + m ≤ M) (hi : (P.info? ty).map (·.size) = some m)
    (h1 : ∀ i, i < m → (h i).oneCell' = true) (f' : Nat → Value) (hf : ∀ i, i < M → splice f of h m i = f' i)
    (hk : K a (w.setRow g (tabv f' M))) : o.wp P a w K Q := by
  unfold Oper.wp execOp
  simp only [ho, hx, hy, Instr.storeAt, Instr.sureAddr, Sem.run_bind, Sem.run_pure, Result.andThen_ok, run_storeVar_part w g of t ty f h M m hg hm hi h1]
  rw [tabv_congr _ f' M hf]
  show K (a.put o.dst undef) _
  rw [hd]
  exact hk
theorem at_nat (z : Int) (s : Nat) (h : 0 < s) (hs : s ≤ 140737488351232) : ∃ p : Nat, (IntKind.u64.wrap z).tmod (s : Int) = (p : Int) ∧ p < s := by
  have h0 : 0 ≤ IntKind.u64.wrap z := by simp [IntKind.wrap, IntKind.bits, IntKind.signed]; omega
  refine ⟨((IntKind.u64.wrap z).tmod (s : Int)).toNat, ?_, ?_⟩
  · rw [Int.toNat_of_nonneg (Int.tmod_nonneg _ h0)]
  · have := Int.tmod_lt_of_pos (IntKind.u64.wrap z) (show (0 : Int) < s by omega)
    have := Int.tmod_nonneg (s : Int) h0
    omega
theorem built_cnt (x y : Int) : Try.prog.built 24 [(0, .int .i64 x), (1, .int .i64 y)] = some (tabv (cnv x y) 2) := by kernel_rfl
theorem oneC (x y : Int) (i : Nat) : (cnv x y i).oneCell' = true := rfl
set_option maxRecDepth 100000 in
set_option maxHeartbeats 4000000 in
theorem counts_any (x y : Int) (n1 n2 : Nat) (h1 : n1 ≤ 140737488351231) (h2 : n2 ≤ 140737488351231) : ∃ kO kP : Nat, kO ≤ n1 ∧ kP ≤ n2 ∧ ∀ w : World, Calls Try.prog 11 #[.agg (tabv (cnv x y) 2), .int .i64 (n1 : Int), .int .i64 (n2 : Int)] w fun e w' => e = .returned (.agg (tabv (cnv kO kP) 2)) ∧ Below w.heap.size w w' := by
  obtain ⟨kO, hO, lO⟩ := at_nat x (n1 + 1) (by omega) (by omega)
  obtain ⟨kP, hP, lP⟩ := at_nat y (n2 + 1) (by omega) (by omega)
  refine ⟨kO, kP, by omega, by omega, fun w => ?_⟩
  obtain ⟨U1, hU1⟩ : ∃ u, IntKind.u64.wrap x = u := ⟨_, rfl⟩
  obtain ⟨U2, hU2⟩ : ∃ u, IntKind.u64.wrap y = u := ⟨_, rfl⟩
  rw [hU1, show ((n1 + 1 : Nat) : Int) = (n1 : Int) + 1 by omega] at hO
  rw [hU2, show ((n2 + 1 : Nat) : Int) = (n2 : Int) + 1 by omega] at hP
  obtain ⟨V1, hV1⟩ : ∃ z, w.alloc (.cells (tabv (cnv x y) 2) 24) = z := ⟨_, rfl⟩
  obtain ⟨V2, hV2⟩ : ∃ z, V1.alloc (.cells #[.int .i64 0, .int .i64 0] 24) = z := ⟨_, rfl⟩
  have k1 : Has V1 w.heap.size 24 (cnv x y) 2 := by rw [← hV1]; exact Has.new w 24 _ 2 _ rfl
  have b1 : Below w.heap.size w V1 := by rw [← hV1]; exact (Below.refl _ _).alloc (Nat.le_refl _) _
  have b2 : Below V1.heap.size V1 V2 := by rw [← hV2]; exact (Below.refl _ _).alloc (Nat.le_refl _) _
  have k2 : Has V2 V1.heap.size 24 (cnv 0 0) 2 := by rw [← hV2]; exact Has.new V1 24 _ 2 _ rfl
  have q1 := k1.below b2 k1.lt
  have gb := b1.trans (b2.mono b1.size)
  have hlt := k1.lt
  obtain ⟨g, hg⟩ : ∃ g, w.heap.size = g := ⟨_, rfl⟩
  obtain ⟨g2, hg2⟩ : ∃ g, V1.heap.size = g := ⟨_, rfl⟩
  rw [hg] at q1 hlt
  rw [hg2] at k2 hlt
  have hge : w.heap.size ≤ g2 := by omega
  have K2 := hide k2
  have Q1 := hide q1
  have GE := hide hge
  have NE : Hid (g ≠ g2) := by show _ ≠ _; omega
  clear k1 b1 b2 k2 q1 hge hlt
  go_enter Try.func11, Try.ntmps11
  go_wp2
  refine wp_region_noPanic ?_
  refine wp_region_held_drew (S := fun wx => Has wx g 24 (cnv x y) 2 ∧ Below w.heap.size w wx) (by kernel_rfl) (⟨Q1.out, gb.drew⟩) (fun hHeld => ?_)
  refine takeH 0 (some 7) (.pointer (some ⟨g, 0, none⟩)) rfl rfl (by kernel_rfl) (by kernel_rfl) (by kernel_rfl) (fun _ _ _ h => h) (by rfl) (fun w hw => by first | rfl | (go_simp; done) | (go_simp; rfl) | (go_simp; omega)) hHeld ?_
  simp only [Act.put, List.setIfInBounds_toArray, List.set_cons_zero, List.set_cons_succ]
  refine takeH 1 (some 8) (.int .i64 x) rfl rfl (by kernel_rfl) (by kernel_rfl) (by kernel_rfl) (fun _ _ _ h => h) (by rfl) (fun w hw => by have c : w.cell? ⟨g, 0, none⟩ = some (.int .i64 x) := hw.1.cell 0 (by omega); first | (go_simp; done) | (go_simp; rfl)) hHeld ?_
  simp only [Act.put, List.setIfInBounds_toArray, List.set_cons_zero, List.set_cons_succ]
  refine takeH 2 (some 9) (.int .u64 U1) rfl rfl (by kernel_rfl) (by kernel_rfl) (by kernel_rfl) (fun _ _ _ h => h) (by rfl) (fun w hw => by go_simp; first | done | rfl | (rw [hU1])) hHeld ?_
  simp only [Act.put, List.setIfInBounds_toArray, List.set_cons_zero, List.set_cons_succ]
  refine takeH 3 (some 10) (.int .i64 (n1 : Int)) rfl rfl (by kernel_rfl) (by kernel_rfl) (by kernel_rfl) (fun _ _ _ h => h) (by rfl) (fun w hw => by first | rfl | (go_simp; done) | (go_simp; rfl) | (go_simp; omega)) hHeld ?_
  simp only [Act.put, List.setIfInBounds_toArray, List.set_cons_zero, List.set_cons_succ]
  refine takeH 4 (some 11) (.int .i64 ((n1 : Int) + 1)) rfl rfl (by kernel_rfl) (by kernel_rfl) (by kernel_rfl) (fun _ _ _ h => h) (by rfl) (fun w hw => by have z : IntKind.i64.wrap ((n1 : Int) + 1) = (n1 : Int) + 1 := (by rw [IntKind.wrap_i64]; omega); first | rfl | (go_simp; done) | (go_simp; rfl)) hHeld ?_
  simp only [Act.put, List.setIfInBounds_toArray, List.set_cons_zero, List.set_cons_succ]
  refine takeH 5 (some 12) (.int .u64 ((n1 : Int) + 1)) rfl rfl (by kernel_rfl) (by kernel_rfl) (by kernel_rfl) (fun _ _ _ h => h) (by rfl) (fun w hw => by have z : IntKind.u64.wrap ((n1 : Int) + 1) = (n1 : Int) + 1 := (by simp [IntKind.wrap, IntKind.bits, IntKind.signed]; omega); go_simp; first | done | rfl) hHeld ?_
  simp only [Act.put, List.setIfInBounds_toArray, List.set_cons_zero, List.set_cons_succ]
  refine takeH 6 (some 13) (.int .u64 (kO : Int)) rfl rfl (by kernel_rfl) (by kernel_rfl) (by kernel_rfl) (fun _ _ _ h => h) (by rfl) (fun w hw => by have hne : ¬((n1 : Int) + 1 = 0) := (by omega); have z : IntKind.u64.wrap (kO : Int) = (kO : Int) := (by simp [IntKind.wrap, IntKind.bits, IntKind.signed]; omega); have hr := hO; go_simp; first | done | (rw [if_neg hne, hr]; first | rfl | (rw [z])) | (rw [hr]; first | rfl | (rw [z]))) hHeld ?_
  simp only [Act.put, List.setIfInBounds_toArray, List.set_cons_zero, List.set_cons_succ]
  refine takeH 7 (some 14) (.int .i64 (kO : Int)) rfl rfl (by kernel_rfl) (by kernel_rfl) (by kernel_rfl) (fun _ _ _ h => h) (by rfl) (fun w hw => by have z : IntKind.i64.wrap (kO : Int) = (kO : Int) := (by rw [IntKind.wrap_i64]; omega); go_simp; first | done | rfl) hHeld ?_
  simp only [Act.put, List.setIfInBounds_toArray, List.set_cons_zero, List.set_cons_succ]
  refine takeH 8 (some 15) (.pointer (some ⟨g, 1, none⟩)) rfl rfl (by kernel_rfl) (by kernel_rfl) (by kernel_rfl) (fun _ _ _ h => h) (by rfl) (fun w hw => by first | rfl | (go_simp; done) | (go_simp; rfl) | (go_simp; omega)) hHeld ?_
  simp only [Act.put, List.setIfInBounds_toArray, List.set_cons_zero, List.set_cons_succ]
  refine takeH 9 (some 16) (.int .i64 y) rfl rfl (by kernel_rfl) (by kernel_rfl) (by kernel_rfl) (fun _ _ _ h => h) (by rfl) (fun w hw => by have c : w.cell? ⟨g, 1, none⟩ = some (.int .i64 y) := hw.1.cell 1 (by omega); first | (go_simp; done) | (go_simp; rfl)) hHeld ?_
  simp only [Act.put, List.setIfInBounds_toArray, List.set_cons_zero, List.set_cons_succ]
  refine takeH 10 (some 17) (.int .u64 U2) rfl rfl (by kernel_rfl) (by kernel_rfl) (by kernel_rfl) (fun _ _ _ h => h) (by rfl) (fun w hw => by go_simp; first | done | rfl | (rw [hU2])) hHeld ?_
  simp only [Act.put, List.setIfInBounds_toArray, List.set_cons_zero, List.set_cons_succ]
  refine takeH 11 (some 18) (.int .i64 (n2 : Int)) rfl rfl (by kernel_rfl) (by kernel_rfl) (by kernel_rfl) (fun _ _ _ h => h) (by rfl) (fun w hw => by first | rfl | (go_simp; done) | (go_simp; rfl) | (go_simp; omega)) hHeld ?_
  simp only [Act.put, List.setIfInBounds_toArray, List.set_cons_zero, List.set_cons_succ]
  refine takeH 12 (some 19) (.int .i64 ((n2 : Int) + 1)) rfl rfl (by kernel_rfl) (by kernel_rfl) (by kernel_rfl) (fun _ _ _ h => h) (by rfl) (fun w hw => by have z : IntKind.i64.wrap ((n2 : Int) + 1) = (n2 : Int) + 1 := (by rw [IntKind.wrap_i64]; omega); first | rfl | (go_simp; done) | (go_simp; rfl)) hHeld ?_
  simp only [Act.put, List.setIfInBounds_toArray, List.set_cons_zero, List.set_cons_succ]
  refine takeH 13 (some 20) (.int .u64 ((n2 : Int) + 1)) rfl rfl (by kernel_rfl) (by kernel_rfl) (by kernel_rfl) (fun _ _ _ h => h) (by rfl) (fun w hw => by have z : IntKind.u64.wrap ((n2 : Int) + 1) = (n2 : Int) + 1 := (by simp [IntKind.wrap, IntKind.bits, IntKind.signed]; omega); go_simp; first | done | rfl) hHeld ?_
  simp only [Act.put, List.setIfInBounds_toArray, List.set_cons_zero, List.set_cons_succ]
  refine takeH 14 (some 21) (.int .u64 (kP : Int)) rfl rfl (by kernel_rfl) (by kernel_rfl) (by kernel_rfl) (fun _ _ _ h => h) (by rfl) (fun w hw => by have hne : ¬((n2 : Int) + 1 = 0) := (by omega); have z : IntKind.u64.wrap (kP : Int) = (kP : Int) := (by simp [IntKind.wrap, IntKind.bits, IntKind.signed]; omega); have hr := hP; go_simp; first | done | (rw [if_neg hne, hr]; first | rfl | (rw [z])) | (rw [hr]; first | rfl | (rw [z]))) hHeld ?_
  simp only [Act.put, List.setIfInBounds_toArray, List.set_cons_zero, List.set_cons_succ]
  refine takeH 15 (some 22) (.int .i64 (kP : Int)) rfl rfl (by kernel_rfl) (by kernel_rfl) (by kernel_rfl) (fun _ _ _ h => h) (by rfl) (fun w hw => by have z : IntKind.i64.wrap (kP : Int) = (kP : Int) := (by rw [IntKind.wrap_i64]; omega); go_simp; first | done | rfl) hHeld ?_
  simp only [Act.put, List.setIfInBounds_toArray, List.set_cons_zero, List.set_cons_succ]
  refine takeH 16 (some 23) (.agg (tabv (cnv kO kP) 2)) rfl rfl (by kernel_rfl) (by kernel_rfl) (by kernel_rfl) (fun _ _ _ h => h) (by rfl) (fun w hw => by go_simp; rfl) hHeld ?_
  simp only [Act.put, List.setIfInBounds_toArray, List.set_cons_zero, List.set_cons_succ]
  refine wpAnyH_ready (rs := [17]) (by kernel_rfl) (by simp) (AllReadyH.cons rfl (fun K hK => ?_) AllReadyH.nil)
  rw [if_pos (by rfl)]
  refine wp_store_part 24 _ _ rfl rfl g2 0 (cnv kO kP) 2 rfl rfl 24 (cnv 0 0) 2 K2.out (by omega) infoC (fun i _ => oneC _ _ i) (cnv kO kP) (fun i hi => by unfold splice; rw [if_pos (by omega), Nat.sub_zero]) ?_
  refine hK.out _ _ ⟨Q1.out.same (setRow_other _ g2 g _ NE.out), below_setRow gb.drew GE.out _⟩ (fun hH => ?_)
  refine ⟨by kernel_rfl, ?_⟩
  refine NoPanic.normal ?_
  try go_wp2
  exact bodyPost_ret (results_cell_row rfl _ _ g2 24 _ (0, 0) _ rfl (Has.row (w := V2.drew) K2.out _ (cnv kO kP) rfl) Try.underlying24 rfl (by rw [tabv_size]; exact infoC)) rfl ⟨rfl, hH.2⟩
end Go.Proofs.Ytoomcpehdflolaa
