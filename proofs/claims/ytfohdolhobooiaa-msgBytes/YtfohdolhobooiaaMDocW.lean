/-
  The document's Write (printed by gen_m11.py).
-/
import Derived.Test.YtfohdolhobooiaaMDoc
import Derived.Test.YtfohdolhobooiaaUDoc
namespace Go.Proofs.Ytfohdolhobooiaa
open Go.RowKit S
set_option linter.unusedVariables false
set_option linter.unusedSimpArgs false
open Cu (nb be hl ofL CW Mw CR Mr RS takeS takeA hOf nil8 num doneS)
set_option maxRecDepth 100000 in
set_option maxHeartbeats 40000000 in
theorem rwM_no (m : Msg) (hv : validM m = false) (w : World) : Calls Try.prog 16 #[.agg (tabv m.v 70)] w fun e w' => e = .returned (.tuple #[.string (wrS m), .int .i64 (wrE m)]) ∧ Below w.heap.size w w' := by
  have HS : Hid (nilB = wrS m ∧ wrE m = 160) := ⟨by unfold wrS; rw [hv]; rfl, by unfold wrE; rw [hv]; rfl⟩
  obtain ⟨w1, hW1⟩ : ∃ wX, w.alloc (.cells (tabv m.v 70) 25) = wX := ⟨_, rfl⟩
  have r1 : Has w1 w.heap.size 25 m.v 70 := by rw [← hW1]; exact Has.new w 25 m.v 70 _ rfl
  have b1 : Below w.heap.size w w1 := by rw [← hW1]; exact (Below.refl w.heap.size w).alloc (Nat.le_refl _) _
  have R1 := hide r1
  have G1 : Hid (Below w.heap.size w w1) := b1
  have VM := hide (fun w : World => rvalidM_any m w)
  rw [hv] at VM
  clear r1 b1 hv
  go_enter Try.func16, Try.ntmps16
  go_wp2_with (first | refine wpW_load_at 25 _ rfl (w.heap.size) (0) (by rfl) (by rfl) _ 70 _ (R1.out.at_ 0 (by omega) (fun i hi => by rw [Nat.zero_add])) Try.underlying25 rfl infoM ?_ | fail)
  refine (VM.out _).mono ?_
  rintro e w2 ⟨rfl, hb⟩
  have R2 := hide (R1.out.below hb R1.out.lt)
  have G2 : Hid (Below w.heap.size w w2) := G1.out.trans (hb.mono G1.out.size)
  clear hb R1 G1 hW1 VM
  go_wp2
  go_ret2
  exact ⟨by rw [← HS.out.1, HS.out.2]; rfl, G2.out⟩
set_option maxRecDepth 100000 in
set_option maxHeartbeats 40000000 in
theorem rwM_upd (m : Msg) (hk : isU m.kind) (hv : validM m = true) (w : World) : Calls Try.prog 16 #[.agg (tabv m.v 70)] w fun e w' => e = .returned (.tuple #[.string (wrS m), .int .i64 (wrE m)]) ∧ Below w.heap.size w w' := by
  have HS : Hid (writeS m.upd = wrS m ∧ wrE m = 0) := by
    rcases valid_forms hv with ⟨_, h2, _⟩ | ⟨h1, _⟩
    · exact ⟨by unfold writeS wrS bytesM; rw [if_pos h2, if_pos hv, if_pos hk], by unfold wrE; rw [if_pos hv]⟩
    · exact absurd hk (notU h1)
  have HK := hide hk
  have dk : decide (m.kind ≤ 3) = true := decide_eq_true (by unfold isU at hk; omega)
  clear hk
  obtain ⟨w1, hW1⟩ : ∃ wX, w.alloc (.cells (tabv m.v 70) 25) = wX := ⟨_, rfl⟩
  have r1 : Has w1 w.heap.size 25 m.v 70 := by rw [← hW1]; exact Has.new w 25 m.v 70 _ rfl
  have b1 : Below w.heap.size w w1 := by rw [← hW1]; exact (Below.refl w.heap.size w).alloc (Nat.le_refl _) _
  have R1 := hide r1
  have G1 : Hid (Below w.heap.size w w1) := b1
  have VM := hide (fun w : World => rvalidM_any m w)
  rw [hv] at VM
  clear r1 b1 hv
  go_enter Try.func16, Try.ntmps16
  go_wp2_with (first | refine wpW_load_at 25 _ rfl (w.heap.size) (0) (by rfl) (by rfl) _ 70 _ (R1.out.at_ 0 (by omega) (fun i hi => by rw [Nat.zero_add])) Try.underlying25 rfl infoM ?_ | fail)
  refine (VM.out _).mono ?_
  rintro e w2 ⟨rfl, hb⟩
  have R2 := hide (R1.out.below hb R1.out.lt)
  have G2 : Hid (Below w.heap.size w w2) := G1.out.trans (hb.mono G1.out.size)
  clear hb R1 G1 hW1 VM
  have c0 : w2.cell? ⟨w.heap.size, 0, none⟩ = some (.int .i64 m.kind) := R2.out.cell 0 (by omega)
  go_wp2_with (first | refine wpW_load_at 25 _ rfl (w.heap.size) (0) (by rfl) (by rfl) _ 70 _ (R2.out.at_ 0 (by omega) (fun i hi => by rw [Nat.zero_add])) Try.underlying25 rfl infoM ?_ | fail)
  refine (rupdate_any_yes m HK.out _).mono ?_
  rintro e w3 ⟨rfl, hb⟩
  obtain ⟨wn, w4, hWn, rn, hW4, r4, b4, _⟩ := newU2 w3 m.upd
  have RN := hide rn
  have V4 := hide r4
  have bb : Below w2.heap.size w2 w4 := hb.trans (b4.mono hb.size)
  have G4 : Hid (Below w.heap.size w w4) := G2.out.trans (bb.mono G2.out.size)
  clear rn r4 b4 hb bb R2 G2 c0 dk
  go_upto_region 5 with (first | refine wpList_storeU rfl _ _ rfl rfl (w3.heap.size) (m.upd) rfl rfl _ RN.out ?_ | fail)
  try rw [hW4]
  generalize w3.heap.size = g4 at V4 ⊢
  clear hWn hW4 RN
  go_wp2_with (first | refine wpW_load_at 34 _ rfl (g4) (0) (by rfl) (by rfl) _ 36 _ (V4.out.at_ 0 (by omega) (fun i hi => by rw [Nat.zero_add])) Try.underlying34 rfl infoU ?_ | fail)
  refine (rwrite_any m.upd _).mono ?_
  rintro e w5 ⟨rfl, hb⟩
  have G5 := G4.out.trans (hb.mono G4.out.size)
  go_wp2
  go_ret2
  exact ⟨by rw [HS.out.1, HS.out.2]; rfl, G5⟩
set_option maxRecDepth 100000 in
set_option maxHeartbeats 40000000 in
theorem rwM_4 (m : Msg) (hk1 : m.kind = 4) (hv : validM m = true) (w : World) : Calls Try.prog 16 #[.agg (tabv m.v 70)] w fun e w' => e = .returned (.tuple #[.string (wrS m), .int .i64 (wrE m)]) ∧ Below w.heap.size w w' := by
  have hk : isO m.kind := by unfold isO; omega
  have hi0 : idxB m.idx = true ∧ idxB m.nxt = true := by
    rcases valid_forms hv with ⟨h1, _⟩ | ⟨_, _, h2, h3⟩
    · exact absurd h1 (notU hk)
    · exact ⟨h2, h3⟩
  have hi := (idxB_iff _).1 hi0.1
  have hx := (idxB_iff _).1 hi0.2
  have dk : decide (m.kind ≤ 3) = false := decide_eq_false (by omega)
  have K1 : ∀ w : World, (convert 3 72 (.int .i64 4)).run Try.prog w = .ok (.int .u64 4) w := fun w => conv_u64 3 (by kernel_rfl) (by kernel_rfl) 4 (by omega) (by omega) w
  have K2 : ∀ w : World, (convert 2 72 (.int .i64 m.idx)).run Try.prog w = .ok (.int .u64 m.idx) w := fun w => conv_u64 2 (by kernel_rfl) (by kernel_rfl) m.idx hi.1 (by omega) w
  have K3 : ∀ w : World, (convert 2 72 (.int .i64 m.nxt)).run Try.prog w = .ok (.int .u64 m.nxt) w := fun w => conv_u64 2 (by kernel_rfl) (by kernel_rfl) m.nxt hx.1 (by omega) w
  have B1 := hide (fun w : World => Cu.refBytes 4 4 1 (by rfl) 1 rfl (by omega) w)
  have B8 := hide (fun w : World => Cu.refBytes m.idx m.idx.toNat 8 (by omega) 8 rfl (by omega) w)
  have N8 := hide (fun w : World => Cu.refBytes m.nxt m.nxt.toNat 8 (by omega) 8 rfl (by omega) w)
  obtain ⟨S1, hS1⟩ : ∃ x, ofL (nb 4 1) = x := ⟨_, rfl⟩
  obtain ⟨S8, hS8⟩ : ∃ x, ofL (nb m.idx.toNat 8) = x := ⟨_, rfl⟩
  obtain ⟨S9, hS9⟩ : ∃ x, ofL (nb m.nxt.toNat 8) = x := ⟨_, rfl⟩
  rw [hS1] at B1
  rw [hS8] at B8
  rw [hS9] at N8
  have HS : Hid ((S1 ++ S8) ++ strOf m.hash 32 = wrS m ∧ wrE m = 0) := by
    refine ⟨?_, by unfold wrE; rw [if_pos hv]⟩
    unfold wrS bytesM
    rw [if_pos hv, if_neg (notU hk), ← hS1, ← hS8]
    try rw [← hS9]
    simp only [hk1, strOf_hl, Cu.ofL_append, nb_one]
    first | rfl | (simp only [Int.reduceEq, if_true, if_false, reduceIte, List.append_assoc]; rfl) | simp
  have z1 : S1.size ≤ 64 := by rw [← hS1, Cu.ofL_size, Cu.nb_length]; omega
  have z8 : S8.size ≤ 64 := by rw [← hS8, Cu.ofL_size, Cu.nb_length]; omega
  have z9 : S9.size ≤ 64 := by rw [← hS9, Cu.ofL_size, Cu.nb_length]; omega
  have zh : (strOf m.hash 32).size ≤ 64 := by rw [strOf_size]; omega
  have zs : (strOf m.sec 32).size ≤ 64 := by rw [strOf_size]; omega
  have HKk := hide hk1
  clear hk hi0 hi hx hS1 hS8 hS9 hk1
  obtain ⟨w1, hW1⟩ : ∃ wX, w.alloc (.cells (tabv m.v 70) 25) = wX := ⟨_, rfl⟩
  have r1 : Has w1 w.heap.size 25 m.v 70 := by rw [← hW1]; exact Has.new w 25 m.v 70 _ rfl
  have b1 : Below w.heap.size w w1 := by rw [← hW1]; exact (Below.refl w.heap.size w).alloc (Nat.le_refl _) _
  have R1 := hide r1
  have G1 : Hid (Below w.heap.size w w1) := b1
  have VM := hide (fun w : World => rvalidM_any m w)
  rw [hv] at VM
  clear r1 b1 hv
  go_enter Try.func16, Try.ntmps16
  go_wp2_with (first | refine wpW_load_at 25 _ rfl (w.heap.size) (0) (by rfl) (by rfl) _ 70 _ (R1.out.at_ 0 (by omega) (fun i hi => by rw [Nat.zero_add])) Try.underlying25 rfl infoM ?_ | fail)
  refine (VM.out _).mono ?_
  rintro e w2 ⟨rfl, hb⟩
  have R2 := hide (R1.out.below hb R1.out.lt)
  have G2 : Hid (Below w.heap.size w w2) := G1.out.trans (hb.mono G1.out.size)
  clear hb R1 G1 hW1 VM
  generalize hg1 : w.heap.size = g1 at R2 G2 ⊢
  have c0 : w2.cell? ⟨g1, 0, none⟩ = some (.int .i64 4) := by rw [← HKk.out]; exact R2.out.cell 0 (by omega)
  clear dk HKk
  go_wp2_with fail
  refine (B1.out _).mono ?_
  rintro e w3 ⟨rfl, hb⟩
  have R3 := hide (R2.out.below hb R2.out.lt)
  have G3 : Hid (Below g1 w w3) := G2.out.trans (hb.mono (Nat.le_of_lt R2.out.lt))
  have d0 : w3.cell? ⟨g1, 0, none⟩ = some (.int .i64 4) := (hb.cell (World.block_lt_of_cell? _ _ c0)).trans c0
  clear hb R2 G2 c0
  go_wp2
  refine wp_region_noPanic ?_
  refine wp_region_held_drew (S := fun wx => Below w3.heap.size w3 wx) (by kernel_rfl) ((Below.refl _ _).drew) (fun hHeld => ?_)
  refine Cu.takeH 0 (some 40) (.string S1) rfl rfl (by kernel_rfl) (by kernel_rfl) (by kernel_rfl) (fun _ _ _ h => h) (by rfl) (fun w hw => by first | rfl | (go_simp; done) | (go_simp; rfl) | (go_simp; omega)) hHeld ?_
  simp only [Act.put, List.setIfInBounds_toArray, List.set_cons_zero, List.set_cons_succ]
  refine Cu.takeH 1 (some 41) (.pointer (some ⟨g1, 3, none⟩)) rfl rfl (by kernel_rfl) (by kernel_rfl) (by kernel_rfl) (fun _ _ _ h => h) (by rfl) (fun w hw => by first | rfl | (go_simp; done) | (go_simp; rfl) | (go_simp; omega)) hHeld ?_
  simp only [Act.put, List.setIfInBounds_toArray, List.set_cons_zero, List.set_cons_succ]
  refine Cu.takeH 2 (some 42) (.int .i64 m.idx) rfl rfl (by kernel_rfl) (by kernel_rfl) (by kernel_rfl) (fun _ _ _ h => h) (by rfl) (fun w hw => by have c : w.cell? ⟨_, 3, none⟩ = some (.int .i64 m.idx) := (R3.out.below hw R3.out.lt).cell 3 (by omega); first | rfl | (go_simp; done) | (go_simp; rfl) | (go_simp; omega)) hHeld ?_
  simp only [Act.put, List.setIfInBounds_toArray, List.set_cons_zero, List.set_cons_succ]
  refine Cu.takeH 3 (some 43) (.int .u64 m.idx) rfl rfl (by kernel_rfl) (by kernel_rfl) (by kernel_rfl) (fun _ _ _ h => h) (by rfl) (fun w hw => by first | rfl | (go_simp; done) | (go_simp; rfl) | (go_simp; omega)) hHeld ?_
  simp only [Act.put, List.setIfInBounds_toArray, List.set_cons_zero, List.set_cons_succ]
  refine Cu.takeH 6 (some 46) (.pointer (some ⟨g1, 5, none⟩)) rfl rfl (by kernel_rfl) (by kernel_rfl) (by kernel_rfl) (fun _ _ _ h => h) (by rfl) (fun w hw => by first | rfl | (go_simp; done) | (go_simp; rfl) | (go_simp; omega)) hHeld ?_
  simp only [Act.put, List.setIfInBounds_toArray, List.set_cons_zero, List.set_cons_succ]
  refine Cu.takeH 7 (some 47) (.slice (some ⟨g1, 5, none⟩) 32 32) rfl rfl (by kernel_rfl) (by kernel_rfl) (by kernel_rfl) (fun _ _ _ h => h) (by rfl) (fun w hw => by first | rfl | (go_simp; done) | (go_simp; rfl) | (go_simp; omega)) hHeld ?_
  simp only [Act.put, List.setIfInBounds_toArray, List.set_cons_zero, List.set_cons_succ]
  refine Cu.takeH 8 (some 48) (.string (strOf m.hash 32)) rfl rfl (by kernel_rfl) (by kernel_rfl) (by kernel_rfl) (fun _ _ _ h => h) (by rfl) (fun w hw => by have hcv := run_conv_at ((R3.out.below hw R3.out.lt).atHash); first | rfl | (go_simp; done) | (go_simp; rfl)) hHeld ?_
  simp only [Act.put, List.setIfInBounds_toArray, List.set_cons_zero, List.set_cons_succ]
  refine wpAnyH_ready (rs := [4]) (by kernel_rfl) (by simp) (AllReadyH.cons rfl (fun K hK => ?_) AllReadyH.nil)
  rw [if_pos (by rfl)]
  go_simp
  refine (B8.out _).mono ?_
  rintro e wA ⟨rfl, hbA⟩
  try go_wp2_with fail
  refine hK.out _ _ (hHeld.trans (hbA.mono hHeld.size)) (fun hH => ?_)
  clear hK K hHeld
  have hHeld := hH
  clear hH
  clear hbA
  refine Cu.takeH 5 (some 45) (.string (S1 ++ S8)) rfl rfl (by kernel_rfl) (by kernel_rfl) (by kernel_rfl) (fun _ _ _ h => h) (by rfl) (fun w hw => by first | rfl | (go_simp; done) | (go_simp; rfl) | (go_simp; omega)) hHeld ?_
  simp only [Act.put, List.setIfInBounds_toArray, List.set_cons_zero, List.set_cons_succ]
  refine Cu.takeH 9 (some 49) (.string ((S1 ++ S8) ++ strOf m.hash 32)) rfl rfl (by kernel_rfl) (by kernel_rfl) (by kernel_rfl) (fun _ _ _ h => h) (by rfl) (fun w hw => by first | rfl | (go_simp; done) | (go_simp; rfl) | (go_simp; omega)) hHeld ?_
  simp only [Act.put, List.setIfInBounds_toArray, List.set_cons_zero, List.set_cons_succ]
  refine Cu.takeH 10 (some 8) (.string ((S1 ++ S8) ++ strOf m.hash 32)) rfl rfl (by kernel_rfl) (by kernel_rfl) (by kernel_rfl) (fun _ _ _ h => h) (by rfl) (fun w hw => by first | rfl | (go_simp; done) | (go_simp; rfl) | (go_simp; omega)) hHeld ?_
  simp only [Act.put, List.setIfInBounds_toArray, List.set_cons_zero, List.set_cons_succ]
  refine ⟨by kernel_rfl, ?_⟩
  refine NoPanic.normal ?_
  have G4 := G3.out.trans (hHeld.mono (Nat.le_of_lt R3.out.lt))
  clear hHeld
  try go_wp2
  go_ret2
  exact ⟨by rw [← HS.out.1, HS.out.2]; rfl, by first | exact G4 | (rw [hg1]; exact G4)⟩
set_option maxRecDepth 100000 in
set_option maxHeartbeats 40000000 in
theorem rwM_5 (m : Msg) (hk1 : m.kind = 5) (hv : validM m = true) (w : World) : Calls Try.prog 16 #[.agg (tabv m.v 70)] w fun e w' => e = .returned (.tuple #[.string (wrS m), .int .i64 (wrE m)]) ∧ Below w.heap.size w w' := by
  have hk : isO m.kind := by unfold isO; omega
  have hi0 : idxB m.idx = true ∧ idxB m.nxt = true := by
    rcases valid_forms hv with ⟨h1, _⟩ | ⟨_, _, h2, h3⟩
    · exact absurd h1 (notU hk)
    · exact ⟨h2, h3⟩
  have hi := (idxB_iff _).1 hi0.1
  have hx := (idxB_iff _).1 hi0.2
  have dk : decide (m.kind ≤ 3) = false := decide_eq_false (by omega)
  have K1 : ∀ w : World, (convert 3 72 (.int .i64 5)).run Try.prog w = .ok (.int .u64 5) w := fun w => conv_u64 3 (by kernel_rfl) (by kernel_rfl) 5 (by omega) (by omega) w
  have K2 : ∀ w : World, (convert 2 72 (.int .i64 m.idx)).run Try.prog w = .ok (.int .u64 m.idx) w := fun w => conv_u64 2 (by kernel_rfl) (by kernel_rfl) m.idx hi.1 (by omega) w
  have K3 : ∀ w : World, (convert 2 72 (.int .i64 m.nxt)).run Try.prog w = .ok (.int .u64 m.nxt) w := fun w => conv_u64 2 (by kernel_rfl) (by kernel_rfl) m.nxt hx.1 (by omega) w
  have B1 := hide (fun w : World => Cu.refBytes 5 5 1 (by rfl) 1 rfl (by omega) w)
  have B8 := hide (fun w : World => Cu.refBytes m.idx m.idx.toNat 8 (by omega) 8 rfl (by omega) w)
  have N8 := hide (fun w : World => Cu.refBytes m.nxt m.nxt.toNat 8 (by omega) 8 rfl (by omega) w)
  obtain ⟨S1, hS1⟩ : ∃ x, ofL (nb 5 1) = x := ⟨_, rfl⟩
  obtain ⟨S8, hS8⟩ : ∃ x, ofL (nb m.idx.toNat 8) = x := ⟨_, rfl⟩
  obtain ⟨S9, hS9⟩ : ∃ x, ofL (nb m.nxt.toNat 8) = x := ⟨_, rfl⟩
  rw [hS1] at B1
  rw [hS8] at B8
  rw [hS9] at N8
  have HS : Hid (((S1 ++ S8) ++ strOf m.sec 32) ++ strOf m.hash 32 = wrS m ∧ wrE m = 0) := by
    refine ⟨?_, by unfold wrE; rw [if_pos hv]⟩
    unfold wrS bytesM
    rw [if_pos hv, if_neg (notU hk), ← hS1, ← hS8]
    try rw [← hS9]
    simp only [hk1, strOf_hl, Cu.ofL_append, nb_one]
    first | rfl | (simp only [Int.reduceEq, if_true, if_false, reduceIte, List.append_assoc]; rfl) | simp
  have z1 : S1.size ≤ 64 := by rw [← hS1, Cu.ofL_size, Cu.nb_length]; omega
  have z8 : S8.size ≤ 64 := by rw [← hS8, Cu.ofL_size, Cu.nb_length]; omega
  have z9 : S9.size ≤ 64 := by rw [← hS9, Cu.ofL_size, Cu.nb_length]; omega
  have zh : (strOf m.hash 32).size ≤ 64 := by rw [strOf_size]; omega
  have zs : (strOf m.sec 32).size ≤ 64 := by rw [strOf_size]; omega
  have HKk := hide hk1
  clear hk hi0 hi hx hS1 hS8 hS9 hk1
  obtain ⟨w1, hW1⟩ : ∃ wX, w.alloc (.cells (tabv m.v 70) 25) = wX := ⟨_, rfl⟩
  have r1 : Has w1 w.heap.size 25 m.v 70 := by rw [← hW1]; exact Has.new w 25 m.v 70 _ rfl
  have b1 : Below w.heap.size w w1 := by rw [← hW1]; exact (Below.refl w.heap.size w).alloc (Nat.le_refl _) _
  have R1 := hide r1
  have G1 : Hid (Below w.heap.size w w1) := b1
  have VM := hide (fun w : World => rvalidM_any m w)
  rw [hv] at VM
  clear r1 b1 hv
  go_enter Try.func16, Try.ntmps16
  go_wp2_with (first | refine wpW_load_at 25 _ rfl (w.heap.size) (0) (by rfl) (by rfl) _ 70 _ (R1.out.at_ 0 (by omega) (fun i hi => by rw [Nat.zero_add])) Try.underlying25 rfl infoM ?_ | fail)
  refine (VM.out _).mono ?_
  rintro e w2 ⟨rfl, hb⟩
  have R2 := hide (R1.out.below hb R1.out.lt)
  have G2 : Hid (Below w.heap.size w w2) := G1.out.trans (hb.mono G1.out.size)
  clear hb R1 G1 hW1 VM
  generalize hg1 : w.heap.size = g1 at R2 G2 ⊢
  have c0 : w2.cell? ⟨g1, 0, none⟩ = some (.int .i64 5) := by rw [← HKk.out]; exact R2.out.cell 0 (by omega)
  clear dk HKk
  go_wp2_with fail
  refine (B1.out _).mono ?_
  rintro e w3 ⟨rfl, hb⟩
  have R3 := hide (R2.out.below hb R2.out.lt)
  have G3 : Hid (Below g1 w w3) := G2.out.trans (hb.mono (Nat.le_of_lt R2.out.lt))
  have d0 : w3.cell? ⟨g1, 0, none⟩ = some (.int .i64 5) := (hb.cell (World.block_lt_of_cell? _ _ c0)).trans c0
  clear hb R2 G2 c0
  go_wp2
  refine wp_region_noPanic ?_
  refine wp_region_held_drew (S := fun wx => Below w3.heap.size w3 wx) (by kernel_rfl) ((Below.refl _ _).drew) (fun hHeld => ?_)
  refine Cu.takeH 0 (some 52) (.string S1) rfl rfl (by kernel_rfl) (by kernel_rfl) (by kernel_rfl) (fun _ _ _ h => h) (by rfl) (fun w hw => by first | rfl | (go_simp; done) | (go_simp; rfl) | (go_simp; omega)) hHeld ?_
  simp only [Act.put, List.setIfInBounds_toArray, List.set_cons_zero, List.set_cons_succ]
  refine Cu.takeH 1 (some 53) (.pointer (some ⟨g1, 3, none⟩)) rfl rfl (by kernel_rfl) (by kernel_rfl) (by kernel_rfl) (fun _ _ _ h => h) (by rfl) (fun w hw => by first | rfl | (go_simp; done) | (go_simp; rfl) | (go_simp; omega)) hHeld ?_
  simp only [Act.put, List.setIfInBounds_toArray, List.set_cons_zero, List.set_cons_succ]
  refine Cu.takeH 2 (some 54) (.int .i64 m.idx) rfl rfl (by kernel_rfl) (by kernel_rfl) (by kernel_rfl) (fun _ _ _ h => h) (by rfl) (fun w hw => by have c : w.cell? ⟨_, 3, none⟩ = some (.int .i64 m.idx) := (R3.out.below hw R3.out.lt).cell 3 (by omega); first | rfl | (go_simp; done) | (go_simp; rfl) | (go_simp; omega)) hHeld ?_
  simp only [Act.put, List.setIfInBounds_toArray, List.set_cons_zero, List.set_cons_succ]
  refine Cu.takeH 3 (some 55) (.int .u64 m.idx) rfl rfl (by kernel_rfl) (by kernel_rfl) (by kernel_rfl) (fun _ _ _ h => h) (by rfl) (fun w hw => by first | rfl | (go_simp; done) | (go_simp; rfl) | (go_simp; omega)) hHeld ?_
  simp only [Act.put, List.setIfInBounds_toArray, List.set_cons_zero, List.set_cons_succ]
  refine Cu.takeH 6 (some 58) (.pointer (some ⟨g1, 37, none⟩)) rfl rfl (by kernel_rfl) (by kernel_rfl) (by kernel_rfl) (fun _ _ _ h => h) (by rfl) (fun w hw => by first | rfl | (go_simp; done) | (go_simp; rfl) | (go_simp; omega)) hHeld ?_
  simp only [Act.put, List.setIfInBounds_toArray, List.set_cons_zero, List.set_cons_succ]
  refine Cu.takeH 7 (some 59) (.slice (some ⟨g1, 37, none⟩) 32 32) rfl rfl (by kernel_rfl) (by kernel_rfl) (by kernel_rfl) (fun _ _ _ h => h) (by rfl) (fun w hw => by first | rfl | (go_simp; done) | (go_simp; rfl) | (go_simp; omega)) hHeld ?_
  simp only [Act.put, List.setIfInBounds_toArray, List.set_cons_zero, List.set_cons_succ]
  refine Cu.takeH 8 (some 60) (.string (strOf m.sec 32)) rfl rfl (by kernel_rfl) (by kernel_rfl) (by kernel_rfl) (fun _ _ _ h => h) (by rfl) (fun w hw => by have hcv := run_conv_at ((R3.out.below hw R3.out.lt).atSec); first | rfl | (go_simp; done) | (go_simp; rfl)) hHeld ?_
  simp only [Act.put, List.setIfInBounds_toArray, List.set_cons_zero, List.set_cons_succ]
  refine Cu.takeH 10 (some 62) (.pointer (some ⟨g1, 5, none⟩)) rfl rfl (by kernel_rfl) (by kernel_rfl) (by kernel_rfl) (fun _ _ _ h => h) (by rfl) (fun w hw => by first | rfl | (go_simp; done) | (go_simp; rfl) | (go_simp; omega)) hHeld ?_
  simp only [Act.put, List.setIfInBounds_toArray, List.set_cons_zero, List.set_cons_succ]
  refine Cu.takeH 11 (some 63) (.slice (some ⟨g1, 5, none⟩) 32 32) rfl rfl (by kernel_rfl) (by kernel_rfl) (by kernel_rfl) (fun _ _ _ h => h) (by rfl) (fun w hw => by first | rfl | (go_simp; done) | (go_simp; rfl) | (go_simp; omega)) hHeld ?_
  simp only [Act.put, List.setIfInBounds_toArray, List.set_cons_zero, List.set_cons_succ]
  refine Cu.takeH 12 (some 64) (.string (strOf m.hash 32)) rfl rfl (by kernel_rfl) (by kernel_rfl) (by kernel_rfl) (fun _ _ _ h => h) (by rfl) (fun w hw => by have hcv := run_conv_at ((R3.out.below hw R3.out.lt).atHash); first | rfl | (go_simp; done) | (go_simp; rfl)) hHeld ?_
  simp only [Act.put, List.setIfInBounds_toArray, List.set_cons_zero, List.set_cons_succ]
  refine wpAnyH_ready (rs := [4]) (by kernel_rfl) (by simp) (AllReadyH.cons rfl (fun K hK => ?_) AllReadyH.nil)
  rw [if_pos (by rfl)]
  go_simp
  refine (B8.out _).mono ?_
  rintro e wA ⟨rfl, hbA⟩
  try go_wp2_with fail
  refine hK.out _ _ (hHeld.trans (hbA.mono hHeld.size)) (fun hH => ?_)
  clear hK K hHeld
  have hHeld := hH
  clear hH
  clear hbA
  refine Cu.takeH 5 (some 57) (.string (S1 ++ S8)) rfl rfl (by kernel_rfl) (by kernel_rfl) (by kernel_rfl) (fun _ _ _ h => h) (by rfl) (fun w hw => by first | rfl | (go_simp; done) | (go_simp; rfl) | (go_simp; omega)) hHeld ?_
  simp only [Act.put, List.setIfInBounds_toArray, List.set_cons_zero, List.set_cons_succ]
  refine Cu.takeH 9 (some 61) (.string ((S1 ++ S8) ++ strOf m.sec 32)) rfl rfl (by kernel_rfl) (by kernel_rfl) (by kernel_rfl) (fun _ _ _ h => h) (by rfl) (fun w hw => by first | rfl | (go_simp; done) | (go_simp; rfl) | (go_simp; omega)) hHeld ?_
  simp only [Act.put, List.setIfInBounds_toArray, List.set_cons_zero, List.set_cons_succ]
  refine Cu.takeH 13 (some 65) (.string (((S1 ++ S8) ++ strOf m.sec 32) ++ strOf m.hash 32)) rfl rfl (by kernel_rfl) (by kernel_rfl) (by kernel_rfl) (fun _ _ _ h => h) (by rfl) (fun w hw => by first | rfl | (go_simp; done) | (go_simp; rfl) | (go_simp; omega)) hHeld ?_
  simp only [Act.put, List.setIfInBounds_toArray, List.set_cons_zero, List.set_cons_succ]
  refine Cu.takeH 14 (some 8) (.string (((S1 ++ S8) ++ strOf m.sec 32) ++ strOf m.hash 32)) rfl rfl (by kernel_rfl) (by kernel_rfl) (by kernel_rfl) (fun _ _ _ h => h) (by rfl) (fun w hw => by first | rfl | (go_simp; done) | (go_simp; rfl) | (go_simp; omega)) hHeld ?_
  simp only [Act.put, List.setIfInBounds_toArray, List.set_cons_zero, List.set_cons_succ]
  refine ⟨by kernel_rfl, ?_⟩
  refine NoPanic.normal ?_
  have G4 := G3.out.trans (hHeld.mono (Nat.le_of_lt R3.out.lt))
  clear hHeld
  try go_wp2
  go_ret2
  exact ⟨by rw [← HS.out.1, HS.out.2]; rfl, by first | exact G4 | (rw [hg1]; exact G4)⟩
set_option maxRecDepth 100000 in
set_option maxHeartbeats 40000000 in
theorem rwM_6 (m : Msg) (hk1 : m.kind = 6) (hv : validM m = true) (w : World) : Calls Try.prog 16 #[.agg (tabv m.v 70)] w fun e w' => e = .returned (.tuple #[.string (wrS m), .int .i64 (wrE m)]) ∧ Below w.heap.size w w' := by
  have hk : isO m.kind := by unfold isO; omega
  have hi0 : idxB m.idx = true ∧ idxB m.nxt = true := by
    rcases valid_forms hv with ⟨h1, _⟩ | ⟨_, _, h2, h3⟩
    · exact absurd h1 (notU hk)
    · exact ⟨h2, h3⟩
  have hi := (idxB_iff _).1 hi0.1
  have hx := (idxB_iff _).1 hi0.2
  have dk : decide (m.kind ≤ 3) = false := decide_eq_false (by omega)
  have K1 : ∀ w : World, (convert 3 72 (.int .i64 6)).run Try.prog w = .ok (.int .u64 6) w := fun w => conv_u64 3 (by kernel_rfl) (by kernel_rfl) 6 (by omega) (by omega) w
  have K2 : ∀ w : World, (convert 2 72 (.int .i64 m.idx)).run Try.prog w = .ok (.int .u64 m.idx) w := fun w => conv_u64 2 (by kernel_rfl) (by kernel_rfl) m.idx hi.1 (by omega) w
  have K3 : ∀ w : World, (convert 2 72 (.int .i64 m.nxt)).run Try.prog w = .ok (.int .u64 m.nxt) w := fun w => conv_u64 2 (by kernel_rfl) (by kernel_rfl) m.nxt hx.1 (by omega) w
  have B1 := hide (fun w : World => Cu.refBytes 6 6 1 (by rfl) 1 rfl (by omega) w)
  have B8 := hide (fun w : World => Cu.refBytes m.idx m.idx.toNat 8 (by omega) 8 rfl (by omega) w)
  have N8 := hide (fun w : World => Cu.refBytes m.nxt m.nxt.toNat 8 (by omega) 8 rfl (by omega) w)
  obtain ⟨S1, hS1⟩ : ∃ x, ofL (nb 6 1) = x := ⟨_, rfl⟩
  obtain ⟨S8, hS8⟩ : ∃ x, ofL (nb m.idx.toNat 8) = x := ⟨_, rfl⟩
  obtain ⟨S9, hS9⟩ : ∃ x, ofL (nb m.nxt.toNat 8) = x := ⟨_, rfl⟩
  rw [hS1] at B1
  rw [hS8] at B8
  rw [hS9] at N8
  have HS : Hid (((S1 ++ S8) ++ S9) ++ strOf m.sec 32 = wrS m ∧ wrE m = 0) := by
    refine ⟨?_, by unfold wrE; rw [if_pos hv]⟩
    unfold wrS bytesM
    rw [if_pos hv, if_neg (notU hk), ← hS1, ← hS8]
    try rw [← hS9]
    simp only [hk1, strOf_hl, Cu.ofL_append, nb_one]
    first | rfl | (simp only [Int.reduceEq, if_true, if_false, reduceIte, List.append_assoc]; rfl) | simp
  have z1 : S1.size ≤ 64 := by rw [← hS1, Cu.ofL_size, Cu.nb_length]; omega
  have z8 : S8.size ≤ 64 := by rw [← hS8, Cu.ofL_size, Cu.nb_length]; omega
  have z9 : S9.size ≤ 64 := by rw [← hS9, Cu.ofL_size, Cu.nb_length]; omega
  have zh : (strOf m.hash 32).size ≤ 64 := by rw [strOf_size]; omega
  have zs : (strOf m.sec 32).size ≤ 64 := by rw [strOf_size]; omega
  have HKk := hide hk1
  clear hk hi0 hi hx hS1 hS8 hS9 hk1
  obtain ⟨w1, hW1⟩ : ∃ wX, w.alloc (.cells (tabv m.v 70) 25) = wX := ⟨_, rfl⟩
  have r1 : Has w1 w.heap.size 25 m.v 70 := by rw [← hW1]; exact Has.new w 25 m.v 70 _ rfl
  have b1 : Below w.heap.size w w1 := by rw [← hW1]; exact (Below.refl w.heap.size w).alloc (Nat.le_refl _) _
  have R1 := hide r1
  have G1 : Hid (Below w.heap.size w w1) := b1
  have VM := hide (fun w : World => rvalidM_any m w)
  rw [hv] at VM
  clear r1 b1 hv
  go_enter Try.func16, Try.ntmps16
  go_wp2_with (first | refine wpW_load_at 25 _ rfl (w.heap.size) (0) (by rfl) (by rfl) _ 70 _ (R1.out.at_ 0 (by omega) (fun i hi => by rw [Nat.zero_add])) Try.underlying25 rfl infoM ?_ | fail)
  refine (VM.out _).mono ?_
  rintro e w2 ⟨rfl, hb⟩
  have R2 := hide (R1.out.below hb R1.out.lt)
  have G2 : Hid (Below w.heap.size w w2) := G1.out.trans (hb.mono G1.out.size)
  clear hb R1 G1 hW1 VM
  generalize hg1 : w.heap.size = g1 at R2 G2 ⊢
  have c0 : w2.cell? ⟨g1, 0, none⟩ = some (.int .i64 6) := by rw [← HKk.out]; exact R2.out.cell 0 (by omega)
  clear dk HKk
  go_wp2_with fail
  refine (B1.out _).mono ?_
  rintro e w3 ⟨rfl, hb⟩
  have R3 := hide (R2.out.below hb R2.out.lt)
  have G3 : Hid (Below g1 w w3) := G2.out.trans (hb.mono (Nat.le_of_lt R2.out.lt))
  have d0 : w3.cell? ⟨g1, 0, none⟩ = some (.int .i64 6) := (hb.cell (World.block_lt_of_cell? _ _ c0)).trans c0
  clear hb R2 G2 c0
  go_wp2
  refine wp_region_noPanic ?_
  refine wp_region_held_drew (S := fun wx => Below w3.heap.size w3 wx) (by kernel_rfl) ((Below.refl _ _).drew) (fun hHeld => ?_)
  refine Cu.takeH 0 (some 68) (.string S1) rfl rfl (by kernel_rfl) (by kernel_rfl) (by kernel_rfl) (fun _ _ _ h => h) (by rfl) (fun w hw => by first | rfl | (go_simp; done) | (go_simp; rfl) | (go_simp; omega)) hHeld ?_
  simp only [Act.put, List.setIfInBounds_toArray, List.set_cons_zero, List.set_cons_succ]
  refine Cu.takeH 1 (some 69) (.pointer (some ⟨g1, 3, none⟩)) rfl rfl (by kernel_rfl) (by kernel_rfl) (by kernel_rfl) (fun _ _ _ h => h) (by rfl) (fun w hw => by first | rfl | (go_simp; done) | (go_simp; rfl) | (go_simp; omega)) hHeld ?_
  simp only [Act.put, List.setIfInBounds_toArray, List.set_cons_zero, List.set_cons_succ]
  refine Cu.takeH 2 (some 70) (.int .i64 m.idx) rfl rfl (by kernel_rfl) (by kernel_rfl) (by kernel_rfl) (fun _ _ _ h => h) (by rfl) (fun w hw => by have c : w.cell? ⟨_, 3, none⟩ = some (.int .i64 m.idx) := (R3.out.below hw R3.out.lt).cell 3 (by omega); first | rfl | (go_simp; done) | (go_simp; rfl) | (go_simp; omega)) hHeld ?_
  simp only [Act.put, List.setIfInBounds_toArray, List.set_cons_zero, List.set_cons_succ]
  refine Cu.takeH 3 (some 71) (.int .u64 m.idx) rfl rfl (by kernel_rfl) (by kernel_rfl) (by kernel_rfl) (fun _ _ _ h => h) (by rfl) (fun w hw => by first | rfl | (go_simp; done) | (go_simp; rfl) | (go_simp; omega)) hHeld ?_
  simp only [Act.put, List.setIfInBounds_toArray, List.set_cons_zero, List.set_cons_succ]
  refine Cu.takeH 6 (some 74) (.pointer (some ⟨g1, 4, none⟩)) rfl rfl (by kernel_rfl) (by kernel_rfl) (by kernel_rfl) (fun _ _ _ h => h) (by rfl) (fun w hw => by first | rfl | (go_simp; done) | (go_simp; rfl) | (go_simp; omega)) hHeld ?_
  simp only [Act.put, List.setIfInBounds_toArray, List.set_cons_zero, List.set_cons_succ]
  refine Cu.takeH 7 (some 75) (.int .i64 m.nxt) rfl rfl (by kernel_rfl) (by kernel_rfl) (by kernel_rfl) (fun _ _ _ h => h) (by rfl) (fun w hw => by have c : w.cell? ⟨_, 4, none⟩ = some (.int .i64 m.nxt) := (R3.out.below hw R3.out.lt).cell 4 (by omega); first | rfl | (go_simp; done) | (go_simp; rfl) | (go_simp; omega)) hHeld ?_
  simp only [Act.put, List.setIfInBounds_toArray, List.set_cons_zero, List.set_cons_succ]
  refine Cu.takeH 8 (some 76) (.int .u64 m.nxt) rfl rfl (by kernel_rfl) (by kernel_rfl) (by kernel_rfl) (fun _ _ _ h => h) (by rfl) (fun w hw => by first | rfl | (go_simp; done) | (go_simp; rfl) | (go_simp; omega)) hHeld ?_
  simp only [Act.put, List.setIfInBounds_toArray, List.set_cons_zero, List.set_cons_succ]
  refine Cu.takeH 11 (some 79) (.pointer (some ⟨g1, 37, none⟩)) rfl rfl (by kernel_rfl) (by kernel_rfl) (by kernel_rfl) (fun _ _ _ h => h) (by rfl) (fun w hw => by first | rfl | (go_simp; done) | (go_simp; rfl) | (go_simp; omega)) hHeld ?_
  simp only [Act.put, List.setIfInBounds_toArray, List.set_cons_zero, List.set_cons_succ]
  refine Cu.takeH 12 (some 80) (.slice (some ⟨g1, 37, none⟩) 32 32) rfl rfl (by kernel_rfl) (by kernel_rfl) (by kernel_rfl) (fun _ _ _ h => h) (by rfl) (fun w hw => by first | rfl | (go_simp; done) | (go_simp; rfl) | (go_simp; omega)) hHeld ?_
  simp only [Act.put, List.setIfInBounds_toArray, List.set_cons_zero, List.set_cons_succ]
  refine Cu.takeH 13 (some 81) (.string (strOf m.sec 32)) rfl rfl (by kernel_rfl) (by kernel_rfl) (by kernel_rfl) (fun _ _ _ h => h) (by rfl) (fun w hw => by have hcv := run_conv_at ((R3.out.below hw R3.out.lt).atSec); first | rfl | (go_simp; done) | (go_simp; rfl)) hHeld ?_
  simp only [Act.put, List.setIfInBounds_toArray, List.set_cons_zero, List.set_cons_succ]
  refine wpAnyH_ready (rs := [4]) (by kernel_rfl) (by simp) (AllReadyH.cons rfl (fun K hK => ?_) AllReadyH.nil)
  rw [if_pos (by rfl)]
  go_simp
  refine (B8.out _).mono ?_
  rintro e wA ⟨rfl, hbA⟩
  try go_wp2_with fail
  refine hK.out _ _ (hHeld.trans (hbA.mono hHeld.size)) (fun hH => ?_)
  clear hK K hHeld
  have hHeld := hH
  clear hH
  clear hbA
  refine Cu.takeH 5 (some 73) (.string (S1 ++ S8)) rfl rfl (by kernel_rfl) (by kernel_rfl) (by kernel_rfl) (fun _ _ _ h => h) (by rfl) (fun w hw => by first | rfl | (go_simp; done) | (go_simp; rfl) | (go_simp; omega)) hHeld ?_
  simp only [Act.put, List.setIfInBounds_toArray, List.set_cons_zero, List.set_cons_succ]
  refine wpAnyH_ready (rs := [9]) (by kernel_rfl) (by simp) (AllReadyH.cons rfl (fun K hK => ?_) AllReadyH.nil)
  rw [if_pos (by rfl)]
  go_simp
  refine (N8.out _).mono ?_
  rintro e wB ⟨rfl, hbA⟩
  try go_wp2_with fail
  refine hK.out _ _ (hHeld.trans (hbA.mono hHeld.size)) (fun hH => ?_)
  clear hK K hHeld
  have hHeld := hH
  clear hH
  clear hbA
  refine Cu.takeH 10 (some 78) (.string ((S1 ++ S8) ++ S9)) rfl rfl (by kernel_rfl) (by kernel_rfl) (by kernel_rfl) (fun _ _ _ h => h) (by rfl) (fun w hw => by first | rfl | (go_simp; done) | (go_simp; rfl) | (go_simp; omega)) hHeld ?_
  simp only [Act.put, List.setIfInBounds_toArray, List.set_cons_zero, List.set_cons_succ]
  refine Cu.takeH 14 (some 82) (.string (((S1 ++ S8) ++ S9) ++ strOf m.sec 32)) rfl rfl (by kernel_rfl) (by kernel_rfl) (by kernel_rfl) (fun _ _ _ h => h) (by rfl) (fun w hw => by first | rfl | (go_simp; done) | (go_simp; rfl) | (go_simp; omega)) hHeld ?_
  simp only [Act.put, List.setIfInBounds_toArray, List.set_cons_zero, List.set_cons_succ]
  refine Cu.takeH 15 (some 8) (.string (((S1 ++ S8) ++ S9) ++ strOf m.sec 32)) rfl rfl (by kernel_rfl) (by kernel_rfl) (by kernel_rfl) (fun _ _ _ h => h) (by rfl) (fun w hw => by first | rfl | (go_simp; done) | (go_simp; rfl) | (go_simp; omega)) hHeld ?_
  simp only [Act.put, List.setIfInBounds_toArray, List.set_cons_zero, List.set_cons_succ]
  refine ⟨by kernel_rfl, ?_⟩
  refine NoPanic.normal ?_
  have G4 := G3.out.trans (hHeld.mono (Nat.le_of_lt R3.out.lt))
  clear hHeld
  try go_wp2
  go_ret2
  exact ⟨by rw [← HS.out.1, HS.out.2]; rfl, by first | exact G4 | (rw [hg1]; exact G4)⟩
set_option maxRecDepth 100000 in
set_option maxHeartbeats 40000000 in
theorem rwM_7 (m : Msg) (hk1 : m.kind = 7) (hv : validM m = true) (w : World) : Calls Try.prog 16 #[.agg (tabv m.v 70)] w fun e w' => e = .returned (.tuple #[.string (wrS m), .int .i64 (wrE m)]) ∧ Below w.heap.size w w' := by
  have hk : isO m.kind := by unfold isO; omega
  have hi0 : idxB m.idx = true ∧ idxB m.nxt = true := by
    rcases valid_forms hv with ⟨h1, _⟩ | ⟨_, _, h2, h3⟩
    · exact absurd h1 (notU hk)
    · exact ⟨h2, h3⟩
  have hi := (idxB_iff _).1 hi0.1
  have hx := (idxB_iff _).1 hi0.2
  have dk : decide (m.kind ≤ 3) = false := decide_eq_false (by omega)
  have K1 : ∀ w : World, (convert 3 72 (.int .i64 7)).run Try.prog w = .ok (.int .u64 7) w := fun w => conv_u64 3 (by kernel_rfl) (by kernel_rfl) 7 (by omega) (by omega) w
  have K2 : ∀ w : World, (convert 2 72 (.int .i64 m.idx)).run Try.prog w = .ok (.int .u64 m.idx) w := fun w => conv_u64 2 (by kernel_rfl) (by kernel_rfl) m.idx hi.1 (by omega) w
  have K3 : ∀ w : World, (convert 2 72 (.int .i64 m.nxt)).run Try.prog w = .ok (.int .u64 m.nxt) w := fun w => conv_u64 2 (by kernel_rfl) (by kernel_rfl) m.nxt hx.1 (by omega) w
  have B1 := hide (fun w : World => Cu.refBytes 7 7 1 (by rfl) 1 rfl (by omega) w)
  have B8 := hide (fun w : World => Cu.refBytes m.idx m.idx.toNat 8 (by omega) 8 rfl (by omega) w)
  have N8 := hide (fun w : World => Cu.refBytes m.nxt m.nxt.toNat 8 (by omega) 8 rfl (by omega) w)
  obtain ⟨S1, hS1⟩ : ∃ x, ofL (nb 7 1) = x := ⟨_, rfl⟩
  obtain ⟨S8, hS8⟩ : ∃ x, ofL (nb m.idx.toNat 8) = x := ⟨_, rfl⟩
  obtain ⟨S9, hS9⟩ : ∃ x, ofL (nb m.nxt.toNat 8) = x := ⟨_, rfl⟩
  rw [hS1] at B1
  rw [hS8] at B8
  rw [hS9] at N8
  have HS : Hid (S1 ++ S8 = wrS m ∧ wrE m = 0) := by
    refine ⟨?_, by unfold wrE; rw [if_pos hv]⟩
    unfold wrS bytesM
    rw [if_pos hv, if_neg (notU hk), ← hS1, ← hS8]
    try rw [← hS9]
    simp only [hk1, strOf_hl, Cu.ofL_append, nb_one]
    first | rfl | (simp only [Int.reduceEq, if_true, if_false, reduceIte, List.append_assoc]; rfl) | simp
  have z1 : S1.size ≤ 64 := by rw [← hS1, Cu.ofL_size, Cu.nb_length]; omega
  have z8 : S8.size ≤ 64 := by rw [← hS8, Cu.ofL_size, Cu.nb_length]; omega
  have z9 : S9.size ≤ 64 := by rw [← hS9, Cu.ofL_size, Cu.nb_length]; omega
  have zh : (strOf m.hash 32).size ≤ 64 := by rw [strOf_size]; omega
  have zs : (strOf m.sec 32).size ≤ 64 := by rw [strOf_size]; omega
  have HKk := hide hk1
  clear hk hi0 hi hx hS1 hS8 hS9 hk1
  obtain ⟨w1, hW1⟩ : ∃ wX, w.alloc (.cells (tabv m.v 70) 25) = wX := ⟨_, rfl⟩
  have r1 : Has w1 w.heap.size 25 m.v 70 := by rw [← hW1]; exact Has.new w 25 m.v 70 _ rfl
  have b1 : Below w.heap.size w w1 := by rw [← hW1]; exact (Below.refl w.heap.size w).alloc (Nat.le_refl _) _
  have R1 := hide r1
  have G1 : Hid (Below w.heap.size w w1) := b1
  have VM := hide (fun w : World => rvalidM_any m w)
  rw [hv] at VM
  clear r1 b1 hv
  go_enter Try.func16, Try.ntmps16
  go_wp2_with (first | refine wpW_load_at 25 _ rfl (w.heap.size) (0) (by rfl) (by rfl) _ 70 _ (R1.out.at_ 0 (by omega) (fun i hi => by rw [Nat.zero_add])) Try.underlying25 rfl infoM ?_ | fail)
  refine (VM.out _).mono ?_
  rintro e w2 ⟨rfl, hb⟩
  have R2 := hide (R1.out.below hb R1.out.lt)
  have G2 : Hid (Below w.heap.size w w2) := G1.out.trans (hb.mono G1.out.size)
  clear hb R1 G1 hW1 VM
  generalize hg1 : w.heap.size = g1 at R2 G2 ⊢
  have c0 : w2.cell? ⟨g1, 0, none⟩ = some (.int .i64 7) := by rw [← HKk.out]; exact R2.out.cell 0 (by omega)
  clear dk HKk
  go_wp2_with fail
  refine (B1.out _).mono ?_
  rintro e w3 ⟨rfl, hb⟩
  have R3 := hide (R2.out.below hb R2.out.lt)
  have G3 : Hid (Below g1 w w3) := G2.out.trans (hb.mono (Nat.le_of_lt R2.out.lt))
  have d0 : w3.cell? ⟨g1, 0, none⟩ = some (.int .i64 7) := (hb.cell (World.block_lt_of_cell? _ _ c0)).trans c0
  clear hb R2 G2 c0
  have d3 : w3.cell? ⟨g1, 3, none⟩ = some (.int .i64 m.idx) := R3.out.cell 3 (by omega)
  go_wp2_with fail
  refine (B8.out _).mono ?_
  rintro e w4 ⟨rfl, hb⟩
  have G4 := G3.out.trans (hb.mono (Nat.le_of_lt R3.out.lt))
  go_wp2
  go_ret2
  exact ⟨by rw [← HS.out.1, HS.out.2]; rfl, by first | exact G4 | (rw [hg1]; exact G4)⟩
theorem rwriteM_any (m : Msg) (w : World) : Calls Try.prog 16 #[.agg (tabv m.v 70)] w fun e w' => e = .returned (.tuple #[.string (wrS m), .int .i64 (wrE m)]) ∧ Below w.heap.size w w' := by
  cases hv : validM m with
  | false => exact rwM_no m hv w
  | true =>
    rcases valid_forms hv with ⟨hk, _⟩ | ⟨hk, _⟩
    · exact rwM_upd m hk hv w
    · rcases hk with h | h | h | h
      · exact rwM_4 m h hv w
      · exact rwM_5 m h hv w
      · exact rwM_6 m h hv w
      · exact rwM_7 m h hv w
end Go.Proofs.Ytfohdolhobooiaa
