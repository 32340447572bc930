/-
  Write of the document (printed by gen_doc.py).
-/
import Derived.Test.YtlohfoggcdaeiaaGreatUMath
import Derived.Test.YtlohfoggcdaeiaaGreatCurRef
namespace Go.Proofs.YtlohfoggcdaeiaaGreat
set_option maxRecDepth 20000
open Go.RowKit S
set_option linter.unusedVariables false
set_option linter.unusedSimpArgs false
open Cu (nb be hl ofL)
theorem strOf_hl (h : Nat → UInt8) : strOf h 32 = ofL (hl h) := rfl
theorem conv_u64 (t : TypeId) (ht : (Tryz.prog.underlying t).isSome = true) (hi : Tryz.prog.underlying t = some (.int .i64)) (X : Int) (h0 : 0 ≤ X) (h1 : X < 9223372036854775808) (w : World) : (convert t 79 (.int .i64 X)).run Tryz.prog w = .ok (.int .u64 X) w := by
  have h := run_convert_int (P := Tryz.prog) (w := w) t 79 .i64 X ht (by kernel_rfl)
  rw [show Tryz.prog.intKind 79 = .u64 by kernel_rfl, show IntKind.u64.wrap X = X by simp [IntKind.wrap, IntKind.bits, IntKind.signed]; omega] at h
  exact h
set_option maxRecDepth 100000 in
set_option maxHeartbeats 4000000 in
theorem rw_add (i a : Int) (h : Nat → UInt8) (nt : ByteArray) (w : World) (hi0 : 0 ≤ i) (hi1 : i < 2048) (ha0 : 0 ≤ a) (ha1 : a ≤ 1152921504606846976) (hn : nt.size ≤ 64) (hv : validB ⟨1, i, a, h, nt⟩ = true) : Calls Tryz.prog 36 #[.agg (tabv (Upd.v ⟨1, i, a, h, nt⟩) 36)] w fun e w' => e = .returned (.tuple #[.string (ofL (bytesU ⟨1, i, a, h, nt⟩)), .int .i64 0]) ∧ Below w.heap.size w w' := by
  obtain ⟨w3, hW⟩ : ∃ x, w.alloc (.cells (tabv (Upd.mk 1 i a h nt).v 36) 36) = x := ⟨_, rfl⟩
  have g0 : Has w3 w.heap.size 36 (Upd.mk 1 i a h nt).v 36 := by rw [← hW]; exact Has.new w 36 (Upd.mk 1 i a h nt).v 36 _ rfl
  have gb : Below w.heap.size w w3 := by rw [← hW]; exact (Below.refl w.heap.size w).alloc (Nat.le_refl _) _
  have G0 := hide g0
  have HV := hide (fun w : World => rvalid_any ⟨1, i, a, h, nt⟩ w)
  rw [hv] at HV
  have K1 : ∀ w : World, (convert 3 79 (.int .i64 1)).run Tryz.prog w = .ok (.int .u64 1) w := fun w => conv_u64 3 (by kernel_rfl) (by kernel_rfl) 1 (by omega) (by omega) w
  have K2 : ∀ w : World, (convert 2 79 (.int .i64 i)).run Tryz.prog w = .ok (.int .u64 i) w := fun w => conv_u64 2 (by kernel_rfl) (by kernel_rfl) i hi0 (by omega) w
  have K3 : ∀ w : World, (convert 2 79 (.int .i64 a)).run Tryz.prog w = .ok (.int .u64 a) w := fun w => conv_u64 2 (by kernel_rfl) (by kernel_rfl) a ha0 (by omega) w
  have K4 : ∀ w : World, (convert 3 79 (.int .i64 (nt.size : Int))).run Tryz.prog w = .ok (.int .u64 (nt.size : Int)) w := fun w => conv_u64 3 (by kernel_rfl) (by kernel_rfl) _ (by omega) (by omega) w
  have B1 := hide (fun w : World => Cu.refBytes 1 1 1 (by rfl) 1 rfl (by omega) w)
  have B2 := hide (fun w : World => Cu.refBytes i i.toNat 2 (by omega) 2 rfl (by omega) w)
  have B8 := hide (fun w : World => Cu.refBytes a a.toNat 8 (by omega) 8 rfl (by omega) w)
  have B3 := hide (fun w : World => Cu.refBytes (nt.size : Int) nt.size 2 rfl 2 rfl (by omega) w)
  obtain ⟨S1, hS1⟩ : ∃ x, ofL (nb 1 1) = x := ⟨_, rfl⟩
  obtain ⟨S2, hS2⟩ : ∃ x, ofL (nb i.toNat 2) = x := ⟨_, rfl⟩
  obtain ⟨S8, hS8⟩ : ∃ x, ofL (nb a.toNat 8) = x := ⟨_, rfl⟩
  obtain ⟨S3, hS3⟩ : ∃ x, ofL (nb nt.size 2) = x := ⟨_, rfl⟩
  rw [hS1] at B1
  rw [hS2] at B2
  rw [hS8] at B8
  rw [hS3] at B3
  obtain ⟨Z, hZ⟩ : ∃ Z, ofL (bytesU ⟨1, i, a, h, nt⟩) = Z := ⟨_, rfl⟩
  rw [hZ]
  have HZ : Hid (((S1 ++ S2) ++ S8) ++ strOf h 32 = Z) := by
    show _ = _
    rw [← hZ, ← hS1, ← hS2, ← hS8]
    try rw [strOf_hl]
    try rw [← Cu.ofL_of nt]
    simp only [Cu.ofL_append]
    try congr 1
    try simp [bytesU, Cu.ofL_data, Cu.ofL_size]
  have HN := hide hn
  have z1 : S1.size ≤ 64 := by rw [← hS1, Cu.ofL_size, Cu.nb_length]; omega
  have z2 : S2.size ≤ 64 := by rw [← hS2, Cu.ofL_size, Cu.nb_length]; omega
  have z8 : S8.size ≤ 64 := by rw [← hS8, Cu.ofL_size, Cu.nb_length]; omega
  have z3 : S3.size ≤ 64 := by rw [← hS3, Cu.ofL_size, Cu.nb_length]; omega
  have zh : (strOf h 32).size ≤ 64 := by rw [strOf_size]; omega
  have zn : nt.size ≤ 64 := hn
  have hnb : (nt.size : Int) ≤ 64 := by omega
  clear hv g0 hi0 hi1 ha0 ha1 hn hS1 hS2 hS3 hS8 hZ
  go_enter Tryz.func36, Tryz.ntmps36
  go_wp2_with (first | refine wpW_load_at 36 _ rfl (w.heap.size) (0) (by rfl) (by rfl) _ 36 _ (G0.out.at_ 0 (by omega) (fun i hi => by rw [Nat.zero_add])) Tryz.underlying36 rfl infoU ?_ | fail)
  refine (HV.out _).mono ?_
  rintro e w4 ⟨rfl, hb4⟩
  have gb4 := gb.trans (hb4.mono gb.size)
  have G4 := hide (G0.out.below hb4 G0.out.lt)
  clear hW hb4 gb HV
  go_wp2
  refine wp_region_noPanic ?_
  refine wp_region_held_drew (S := fun wx => Below w4.heap.size w4 wx) (by kernel_rfl) ((Below.refl _ _).drew) (fun hHeld => ?_)
  refine Cu.takeH 0 (some 8) (.pointer (some ⟨w.heap.size, 0, none⟩)) rfl rfl (by kernel_rfl) (by kernel_rfl) (by kernel_rfl) (fun _ _ _ h => h) (by rfl) (fun w hw => by first | rfl | (go_simp; done) | (go_simp; rfl) | (go_simp; omega)) hHeld ?_
  simp only [Act.put, List.setIfInBounds_toArray, List.set_cons_zero, List.set_cons_succ]
  refine Cu.takeH 1 (some 9) (.int .i64 1) rfl rfl (by kernel_rfl) (by kernel_rfl) (by kernel_rfl) (fun _ _ _ h => h) (by rfl) (fun w hw => by have c : w.cell? ⟨_, 0, none⟩ = some (.int .i64 1) := (G4.out.below hw G4.out.lt).cell 0 (by omega); first | rfl | (go_simp; done) | (go_simp; rfl) | (go_simp; omega)) hHeld ?_
  simp only [Act.put, List.setIfInBounds_toArray, List.set_cons_zero, List.set_cons_succ]
  refine Cu.takeH 2 (some 10) (.int .u64 1) rfl rfl (by kernel_rfl) (by kernel_rfl) (by kernel_rfl) (fun _ _ _ h => h) (by rfl) (fun w hw => by first | rfl | (go_simp; done) | (go_simp; rfl) | (go_simp; omega)) hHeld ?_
  simp only [Act.put, List.setIfInBounds_toArray, List.set_cons_zero, List.set_cons_succ]
  refine Cu.takeH 4 (some 12) (.pointer (some ⟨w.heap.size, 1, none⟩)) rfl rfl (by kernel_rfl) (by kernel_rfl) (by kernel_rfl) (fun _ _ _ h => h) (by rfl) (fun w hw => by first | rfl | (go_simp; done) | (go_simp; rfl) | (go_simp; omega)) hHeld ?_
  simp only [Act.put, List.setIfInBounds_toArray, List.set_cons_zero, List.set_cons_succ]
  refine Cu.takeH 5 (some 13) (.int .i64 i) rfl rfl (by kernel_rfl) (by kernel_rfl) (by kernel_rfl) (fun _ _ _ h => h) (by rfl) (fun w hw => by have c : w.cell? ⟨_, 1, none⟩ = some (.int .i64 i) := (G4.out.below hw G4.out.lt).cell 1 (by omega); first | rfl | (go_simp; done) | (go_simp; rfl) | (go_simp; omega)) hHeld ?_
  simp only [Act.put, List.setIfInBounds_toArray, List.set_cons_zero, List.set_cons_succ]
  refine Cu.takeH 6 (some 14) (.int .u64 i) rfl rfl (by kernel_rfl) (by kernel_rfl) (by kernel_rfl) (fun _ _ _ h => h) (by rfl) (fun w hw => by first | rfl | (go_simp; done) | (go_simp; rfl) | (go_simp; omega)) hHeld ?_
  simp only [Act.put, List.setIfInBounds_toArray, List.set_cons_zero, List.set_cons_succ]
  refine wpAnyH_ready (rs := [3]) (by kernel_rfl) (by simp) (AllReadyH.cons rfl (fun K hK => ?_) AllReadyH.nil)
  rw [if_pos (by rfl)]
  go_simp
  refine (B1.out _).mono ?_
  rintro e w5 ⟨rfl, hb5⟩
  try go_wp2_with fail
  refine hK.out _ _ (hHeld.trans (hb5.mono hHeld.size)) (fun hH => ?_)
  clear hK K hHeld
  have hHeld := hH
  clear hH
  refine wpAnyH_ready (rs := [7]) (by kernel_rfl) (by simp) (AllReadyH.cons rfl (fun K hK => ?_) AllReadyH.nil)
  rw [if_pos (by rfl)]
  go_simp
  refine (B2.out _).mono ?_
  rintro e w6 ⟨rfl, hb6⟩
  try go_wp2_with fail
  refine hK.out _ _ (hHeld.trans (hb6.mono hHeld.size)) (fun hH => ?_)
  clear hK K hHeld
  have hHeld := hH
  clear hH
  refine Cu.takeH 8 (some 16) (.string (S1 ++ S2)) rfl rfl (by kernel_rfl) (by kernel_rfl) (by kernel_rfl) (fun _ _ _ h => h) (by rfl) (fun w hw => by first | rfl | (go_simp; done) | (go_simp; rfl) | (go_simp; omega)) hHeld ?_
  simp only [Act.put, List.setIfInBounds_toArray, List.set_cons_zero, List.set_cons_succ]
  refine Cu.takeH 9 (some 4) (.string (S1 ++ S2)) rfl rfl (by kernel_rfl) (by kernel_rfl) (by kernel_rfl) (fun _ _ _ h => h) (by rfl) (fun w hw => by first | rfl | (go_simp; done) | (go_simp; rfl) | (go_simp; omega)) hHeld ?_
  simp only [Act.put, List.setIfInBounds_toArray, List.set_cons_zero, List.set_cons_succ]
  refine ⟨by kernel_rfl, ?_⟩
  refine NoPanic.normal ?_
  have g6 := G4.out.below hHeld G4.out.lt
  have gb6 := gb4.trans (hHeld.mono gb4.size)
  have d0 : w6.cell? ⟨w.heap.size, 0, none⟩ = some (.int .i64 1) := g6.cell 0 (by omega)
  have G6 := hide g6
  clear hb5 hb6 hHeld gb4 g6 G4
  go_wp2
  clear d0
  refine wp_region_noPanic ?_
  refine wp_region_held_drew (S := fun wx => Below w6.heap.size w6 wx) (by kernel_rfl) ((Below.refl _ _).drew) (fun hHeld => ?_)
  refine Cu.takeH 0 (some 31) (.string (S1 ++ S2)) rfl rfl (by kernel_rfl) (by kernel_rfl) (by kernel_rfl) (fun _ _ _ h => h) (by rfl) (fun w hw => by first | rfl | (go_simp; done) | (go_simp; rfl) | (go_simp; omega)) hHeld ?_
  simp only [Act.put, List.setIfInBounds_toArray, List.set_cons_zero, List.set_cons_succ]
  refine Cu.takeH 1 (some 32) (.pointer (some ⟨w.heap.size, 2, none⟩)) rfl rfl (by kernel_rfl) (by kernel_rfl) (by kernel_rfl) (fun _ _ _ h => h) (by rfl) (fun w hw => by first | rfl | (go_simp; done) | (go_simp; rfl) | (go_simp; omega)) hHeld ?_
  simp only [Act.put, List.setIfInBounds_toArray, List.set_cons_zero, List.set_cons_succ]
  refine Cu.takeH 2 (some 33) (.int .i64 a) rfl rfl (by kernel_rfl) (by kernel_rfl) (by kernel_rfl) (fun _ _ _ h => h) (by rfl) (fun w hw => by have c : w.cell? ⟨_, 2, none⟩ = some (.int .i64 a) := (G6.out.below hw G6.out.lt).cell 2 (by omega); first | rfl | (go_simp; done) | (go_simp; rfl) | (go_simp; omega)) hHeld ?_
  simp only [Act.put, List.setIfInBounds_toArray, List.set_cons_zero, List.set_cons_succ]
  refine Cu.takeH 3 (some 34) (.int .u64 a) rfl rfl (by kernel_rfl) (by kernel_rfl) (by kernel_rfl) (fun _ _ _ h => h) (by rfl) (fun w hw => by first | rfl | (go_simp; done) | (go_simp; rfl) | (go_simp; omega)) hHeld ?_
  simp only [Act.put, List.setIfInBounds_toArray, List.set_cons_zero, List.set_cons_succ]
  refine Cu.takeH 6 (some 37) (.pointer (some ⟨w.heap.size, 3, none⟩)) rfl rfl (by kernel_rfl) (by kernel_rfl) (by kernel_rfl) (fun _ _ _ h => h) (by rfl) (fun w hw => by first | rfl | (go_simp; done) | (go_simp; rfl) | (go_simp; omega)) hHeld ?_
  simp only [Act.put, List.setIfInBounds_toArray, List.set_cons_zero, List.set_cons_succ]
  refine Cu.takeH 7 (some 38) (.slice (some ⟨w.heap.size, 3, none⟩) 32 32) rfl rfl (by kernel_rfl) (by kernel_rfl) (by kernel_rfl) (fun _ _ _ h => h) (by rfl) (fun w hw => by first | rfl | (go_simp; done) | (go_simp; rfl) | (go_simp; omega)) hHeld ?_
  simp only [Act.put, List.setIfInBounds_toArray, List.set_cons_zero, List.set_cons_succ]
  refine Cu.takeH 8 (some 39) (.string (strOf h 32)) rfl rfl (by kernel_rfl) (by kernel_rfl) (by kernel_rfl) (fun _ _ _ h => h) (by rfl) (fun w hw => by have hcv := run_conv_at (G6.out.below hw G6.out.lt).at_hash; first | rfl | (go_simp; done) | (go_simp; rfl) | (go_simp; omega)) hHeld ?_
  simp only [Act.put, List.setIfInBounds_toArray, List.set_cons_zero, List.set_cons_succ]
  refine wpAnyH_ready (rs := [4]) (by kernel_rfl) (by simp) (AllReadyH.cons rfl (fun K hK => ?_) AllReadyH.nil)
  rw [if_pos (by rfl)]
  go_simp
  refine (B8.out _).mono ?_
  rintro e w7 ⟨rfl, hb7⟩
  try go_wp2_with fail
  refine hK.out _ _ (hHeld.trans (hb7.mono hHeld.size)) (fun hH => ?_)
  clear hK K hHeld
  have hHeld := hH
  clear hH
  refine Cu.takeH 5 (some 36) (.string ((S1 ++ S2) ++ S8)) rfl rfl (by kernel_rfl) (by kernel_rfl) (by kernel_rfl) (fun _ _ _ h => h) (by rfl) (fun w hw => by first | rfl | (go_simp; done) | (go_simp; rfl) | (go_simp; omega)) hHeld ?_
  simp only [Act.put, List.setIfInBounds_toArray, List.set_cons_zero, List.set_cons_succ]
  refine Cu.takeH 9 (some 40) (.string (((S1 ++ S2) ++ S8) ++ strOf h 32)) rfl rfl (by kernel_rfl) (by kernel_rfl) (by kernel_rfl) (fun _ _ _ h => h) (by rfl) (fun w hw => by first | rfl | (go_simp; done) | (go_simp; rfl) | (go_simp; omega)) hHeld ?_
  simp only [Act.put, List.setIfInBounds_toArray, List.set_cons_zero, List.set_cons_succ]
  refine Cu.takeH 10 (some 4) (.string (((S1 ++ S2) ++ S8) ++ strOf h 32)) rfl rfl (by kernel_rfl) (by kernel_rfl) (by kernel_rfl) (fun _ _ _ h => h) (by rfl) (fun w hw => by first | rfl | (go_simp; done) | (go_simp; rfl) | (go_simp; omega)) hHeld ?_
  simp only [Act.put, List.setIfInBounds_toArray, List.set_cons_zero, List.set_cons_succ]
  refine ⟨by kernel_rfl, ?_⟩
  refine NoPanic.normal ?_
  have gb7 := gb6.trans (hHeld.mono gb6.size)
  clear hb7 hHeld gb6
  try rw [HZ.out]
  go_wp2
  try rw [HZ.out]
  go_ret2
  exact ⟨by first | rfl | (rw [← HZ.out]; rfl), gb7⟩
set_option maxRecDepth 100000 in
set_option maxHeartbeats 4000000 in
theorem rw_ful (i a : Int) (h : Nat → UInt8) (nt : ByteArray) (w : World) (hi0 : 0 ≤ i) (hi1 : i < 2048) (ha0 : 0 ≤ a) (ha1 : a ≤ 1152921504606846976) (hn : nt.size ≤ 64) (hv : validB ⟨2, i, a, h, nt⟩ = true) : Calls Tryz.prog 36 #[.agg (tabv (Upd.v ⟨2, i, a, h, nt⟩) 36)] w fun e w' => e = .returned (.tuple #[.string (ofL (bytesU ⟨2, i, a, h, nt⟩)), .int .i64 0]) ∧ Below w.heap.size w w' := by
  obtain ⟨w3, hW⟩ : ∃ x, w.alloc (.cells (tabv (Upd.mk 2 i a h nt).v 36) 36) = x := ⟨_, rfl⟩
  have g0 : Has w3 w.heap.size 36 (Upd.mk 2 i a h nt).v 36 := by rw [← hW]; exact Has.new w 36 (Upd.mk 2 i a h nt).v 36 _ rfl
  have gb : Below w.heap.size w w3 := by rw [← hW]; exact (Below.refl w.heap.size w).alloc (Nat.le_refl _) _
  have G0 := hide g0
  have HV := hide (fun w : World => rvalid_any ⟨2, i, a, h, nt⟩ w)
  rw [hv] at HV
  have K1 : ∀ w : World, (convert 3 79 (.int .i64 2)).run Tryz.prog w = .ok (.int .u64 2) w := fun w => conv_u64 3 (by kernel_rfl) (by kernel_rfl) 2 (by omega) (by omega) w
  have K2 : ∀ w : World, (convert 2 79 (.int .i64 i)).run Tryz.prog w = .ok (.int .u64 i) w := fun w => conv_u64 2 (by kernel_rfl) (by kernel_rfl) i hi0 (by omega) w
  have K3 : ∀ w : World, (convert 2 79 (.int .i64 a)).run Tryz.prog w = .ok (.int .u64 a) w := fun w => conv_u64 2 (by kernel_rfl) (by kernel_rfl) a ha0 (by omega) w
  have K4 : ∀ w : World, (convert 3 79 (.int .i64 (nt.size : Int))).run Tryz.prog w = .ok (.int .u64 (nt.size : Int)) w := fun w => conv_u64 3 (by kernel_rfl) (by kernel_rfl) _ (by omega) (by omega) w
  have B1 := hide (fun w : World => Cu.refBytes 2 2 1 (by rfl) 1 rfl (by omega) w)
  have B2 := hide (fun w : World => Cu.refBytes i i.toNat 2 (by omega) 2 rfl (by omega) w)
  have B8 := hide (fun w : World => Cu.refBytes a a.toNat 8 (by omega) 8 rfl (by omega) w)
  have B3 := hide (fun w : World => Cu.refBytes (nt.size : Int) nt.size 2 rfl 2 rfl (by omega) w)
  obtain ⟨S1, hS1⟩ : ∃ x, ofL (nb 2 1) = x := ⟨_, rfl⟩
  obtain ⟨S2, hS2⟩ : ∃ x, ofL (nb i.toNat 2) = x := ⟨_, rfl⟩
  obtain ⟨S8, hS8⟩ : ∃ x, ofL (nb a.toNat 8) = x := ⟨_, rfl⟩
  obtain ⟨S3, hS3⟩ : ∃ x, ofL (nb nt.size 2) = x := ⟨_, rfl⟩
  rw [hS1] at B1
  rw [hS2] at B2
  rw [hS8] at B8
  rw [hS3] at B3
  obtain ⟨Z, hZ⟩ : ∃ Z, ofL (bytesU ⟨2, i, a, h, nt⟩) = Z := ⟨_, rfl⟩
  rw [hZ]
  have HZ : Hid ((S1 ++ S2) ++ strOf h 32 = Z) := by
    show _ = _
    rw [← hZ, ← hS1, ← hS2]
    try rw [strOf_hl]
    try rw [← Cu.ofL_of nt]
    simp only [Cu.ofL_append]
    try congr 1
    try simp [bytesU, Cu.ofL_data, Cu.ofL_size]
  have HN := hide hn
  have z1 : S1.size ≤ 64 := by rw [← hS1, Cu.ofL_size, Cu.nb_length]; omega
  have z2 : S2.size ≤ 64 := by rw [← hS2, Cu.ofL_size, Cu.nb_length]; omega
  have z8 : S8.size ≤ 64 := by rw [← hS8, Cu.ofL_size, Cu.nb_length]; omega
  have z3 : S3.size ≤ 64 := by rw [← hS3, Cu.ofL_size, Cu.nb_length]; omega
  have zh : (strOf h 32).size ≤ 64 := by rw [strOf_size]; omega
  have zn : nt.size ≤ 64 := hn
  have hnb : (nt.size : Int) ≤ 64 := by omega
  clear hv g0 hi0 hi1 ha0 ha1 hn hS1 hS2 hS3 hS8 hZ
  go_enter Tryz.func36, Tryz.ntmps36
  go_wp2_with (first | refine wpW_load_at 36 _ rfl (w.heap.size) (0) (by rfl) (by rfl) _ 36 _ (G0.out.at_ 0 (by omega) (fun i hi => by rw [Nat.zero_add])) Tryz.underlying36 rfl infoU ?_ | fail)
  refine (HV.out _).mono ?_
  rintro e w4 ⟨rfl, hb4⟩
  have gb4 := gb.trans (hb4.mono gb.size)
  have G4 := hide (G0.out.below hb4 G0.out.lt)
  clear hW hb4 gb HV
  go_wp2
  refine wp_region_noPanic ?_
  refine wp_region_held_drew (S := fun wx => Below w4.heap.size w4 wx) (by kernel_rfl) ((Below.refl _ _).drew) (fun hHeld => ?_)
  refine Cu.takeH 0 (some 8) (.pointer (some ⟨w.heap.size, 0, none⟩)) rfl rfl (by kernel_rfl) (by kernel_rfl) (by kernel_rfl) (fun _ _ _ h => h) (by rfl) (fun w hw => by first | rfl | (go_simp; done) | (go_simp; rfl) | (go_simp; omega)) hHeld ?_
  simp only [Act.put, List.setIfInBounds_toArray, List.set_cons_zero, List.set_cons_succ]
  refine Cu.takeH 1 (some 9) (.int .i64 2) rfl rfl (by kernel_rfl) (by kernel_rfl) (by kernel_rfl) (fun _ _ _ h => h) (by rfl) (fun w hw => by have c : w.cell? ⟨_, 0, none⟩ = some (.int .i64 2) := (G4.out.below hw G4.out.lt).cell 0 (by omega); first | rfl | (go_simp; done) | (go_simp; rfl) | (go_simp; omega)) hHeld ?_
  simp only [Act.put, List.setIfInBounds_toArray, List.set_cons_zero, List.set_cons_succ]
  refine Cu.takeH 2 (some 10) (.int .u64 2) rfl rfl (by kernel_rfl) (by kernel_rfl) (by kernel_rfl) (fun _ _ _ h => h) (by rfl) (fun w hw => by first | rfl | (go_simp; done) | (go_simp; rfl) | (go_simp; omega)) hHeld ?_
  simp only [Act.put, List.setIfInBounds_toArray, List.set_cons_zero, List.set_cons_succ]
  refine Cu.takeH 4 (some 12) (.pointer (some ⟨w.heap.size, 1, none⟩)) rfl rfl (by kernel_rfl) (by kernel_rfl) (by kernel_rfl) (fun _ _ _ h => h) (by rfl) (fun w hw => by first | rfl | (go_simp; done) | (go_simp; rfl) | (go_simp; omega)) hHeld ?_
  simp only [Act.put, List.setIfInBounds_toArray, List.set_cons_zero, List.set_cons_succ]
  refine Cu.takeH 5 (some 13) (.int .i64 i) rfl rfl (by kernel_rfl) (by kernel_rfl) (by kernel_rfl) (fun _ _ _ h => h) (by rfl) (fun w hw => by have c : w.cell? ⟨_, 1, none⟩ = some (.int .i64 i) := (G4.out.below hw G4.out.lt).cell 1 (by omega); first | rfl | (go_simp; done) | (go_simp; rfl) | (go_simp; omega)) hHeld ?_
  simp only [Act.put, List.setIfInBounds_toArray, List.set_cons_zero, List.set_cons_succ]
  refine Cu.takeH 6 (some 14) (.int .u64 i) rfl rfl (by kernel_rfl) (by kernel_rfl) (by kernel_rfl) (fun _ _ _ h => h) (by rfl) (fun w hw => by first | rfl | (go_simp; done) | (go_simp; rfl) | (go_simp; omega)) hHeld ?_
  simp only [Act.put, List.setIfInBounds_toArray, List.set_cons_zero, List.set_cons_succ]
  refine wpAnyH_ready (rs := [3]) (by kernel_rfl) (by simp) (AllReadyH.cons rfl (fun K hK => ?_) AllReadyH.nil)
  rw [if_pos (by rfl)]
  go_simp
  refine (B1.out _).mono ?_
  rintro e w5 ⟨rfl, hb5⟩
  try go_wp2_with fail
  refine hK.out _ _ (hHeld.trans (hb5.mono hHeld.size)) (fun hH => ?_)
  clear hK K hHeld
  have hHeld := hH
  clear hH
  refine wpAnyH_ready (rs := [7]) (by kernel_rfl) (by simp) (AllReadyH.cons rfl (fun K hK => ?_) AllReadyH.nil)
  rw [if_pos (by rfl)]
  go_simp
  refine (B2.out _).mono ?_
  rintro e w6 ⟨rfl, hb6⟩
  try go_wp2_with fail
  refine hK.out _ _ (hHeld.trans (hb6.mono hHeld.size)) (fun hH => ?_)
  clear hK K hHeld
  have hHeld := hH
  clear hH
  refine Cu.takeH 8 (some 16) (.string (S1 ++ S2)) rfl rfl (by kernel_rfl) (by kernel_rfl) (by kernel_rfl) (fun _ _ _ h => h) (by rfl) (fun w hw => by first | rfl | (go_simp; done) | (go_simp; rfl) | (go_simp; omega)) hHeld ?_
  simp only [Act.put, List.setIfInBounds_toArray, List.set_cons_zero, List.set_cons_succ]
  refine Cu.takeH 9 (some 4) (.string (S1 ++ S2)) rfl rfl (by kernel_rfl) (by kernel_rfl) (by kernel_rfl) (fun _ _ _ h => h) (by rfl) (fun w hw => by first | rfl | (go_simp; done) | (go_simp; rfl) | (go_simp; omega)) hHeld ?_
  simp only [Act.put, List.setIfInBounds_toArray, List.set_cons_zero, List.set_cons_succ]
  refine ⟨by kernel_rfl, ?_⟩
  refine NoPanic.normal ?_
  have g6 := G4.out.below hHeld G4.out.lt
  have gb6 := gb4.trans (hHeld.mono gb4.size)
  have d0 : w6.cell? ⟨w.heap.size, 0, none⟩ = some (.int .i64 2) := g6.cell 0 (by omega)
  have G6 := hide g6
  clear hb5 hb6 hHeld gb4 g6 G4
  have hcv := run_conv_at G6.out.at_hash
  have hb7 := Below.refl w6.heap.size w6
  have hHeld := hb7
  have gb7 := gb6.trans (hHeld.mono gb6.size)
  clear hb7 hHeld gb6
  try rw [HZ.out]
  go_wp2
  try rw [HZ.out]
  go_ret2
  exact ⟨by first | rfl | (rw [← HZ.out]; rfl), gb7⟩
set_option maxRecDepth 100000 in
set_option maxHeartbeats 4000000 in
theorem rw_fail (i a : Int) (h : Nat → UInt8) (nt : ByteArray) (w : World) (hi0 : 0 ≤ i) (hi1 : i < 2048) (ha0 : 0 ≤ a) (ha1 : a ≤ 1152921504606846976) (hn : nt.size ≤ 64) (hv : validB ⟨3, i, a, h, nt⟩ = true) : Calls Tryz.prog 36 #[.agg (tabv (Upd.v ⟨3, i, a, h, nt⟩) 36)] w fun e w' => e = .returned (.tuple #[.string (ofL (bytesU ⟨3, i, a, h, nt⟩)), .int .i64 0]) ∧ Below w.heap.size w w' := by
  obtain ⟨w3, hW⟩ : ∃ x, w.alloc (.cells (tabv (Upd.mk 3 i a h nt).v 36) 36) = x := ⟨_, rfl⟩
  have g0 : Has w3 w.heap.size 36 (Upd.mk 3 i a h nt).v 36 := by rw [← hW]; exact Has.new w 36 (Upd.mk 3 i a h nt).v 36 _ rfl
  have gb : Below w.heap.size w w3 := by rw [← hW]; exact (Below.refl w.heap.size w).alloc (Nat.le_refl _) _
  have G0 := hide g0
  have HV := hide (fun w : World => rvalid_any ⟨3, i, a, h, nt⟩ w)
  rw [hv] at HV
  have K1 : ∀ w : World, (convert 3 79 (.int .i64 3)).run Tryz.prog w = .ok (.int .u64 3) w := fun w => conv_u64 3 (by kernel_rfl) (by kernel_rfl) 3 (by omega) (by omega) w
  have K2 : ∀ w : World, (convert 2 79 (.int .i64 i)).run Tryz.prog w = .ok (.int .u64 i) w := fun w => conv_u64 2 (by kernel_rfl) (by kernel_rfl) i hi0 (by omega) w
  have K3 : ∀ w : World, (convert 2 79 (.int .i64 a)).run Tryz.prog w = .ok (.int .u64 a) w := fun w => conv_u64 2 (by kernel_rfl) (by kernel_rfl) a ha0 (by omega) w
  have K4 : ∀ w : World, (convert 3 79 (.int .i64 (nt.size : Int))).run Tryz.prog w = .ok (.int .u64 (nt.size : Int)) w := fun w => conv_u64 3 (by kernel_rfl) (by kernel_rfl) _ (by omega) (by omega) w
  have B1 := hide (fun w : World => Cu.refBytes 3 3 1 (by rfl) 1 rfl (by omega) w)
  have B2 := hide (fun w : World => Cu.refBytes i i.toNat 2 (by omega) 2 rfl (by omega) w)
  have B8 := hide (fun w : World => Cu.refBytes a a.toNat 8 (by omega) 8 rfl (by omega) w)
  have B3 := hide (fun w : World => Cu.refBytes (nt.size : Int) nt.size 2 rfl 2 rfl (by omega) w)
  obtain ⟨S1, hS1⟩ : ∃ x, ofL (nb 3 1) = x := ⟨_, rfl⟩
  obtain ⟨S2, hS2⟩ : ∃ x, ofL (nb i.toNat 2) = x := ⟨_, rfl⟩
  obtain ⟨S8, hS8⟩ : ∃ x, ofL (nb a.toNat 8) = x := ⟨_, rfl⟩
  obtain ⟨S3, hS3⟩ : ∃ x, ofL (nb nt.size 2) = x := ⟨_, rfl⟩
  rw [hS1] at B1
  rw [hS2] at B2
  rw [hS8] at B8
  rw [hS3] at B3
  obtain ⟨Z, hZ⟩ : ∃ Z, ofL (bytesU ⟨3, i, a, h, nt⟩) = Z := ⟨_, rfl⟩
  rw [hZ]
  have HZ : Hid (((S1 ++ S2) ++ S3) ++ nt = Z) := by
    show _ = _
    rw [← hZ, ← hS1, ← hS2, ← hS3]
    try rw [strOf_hl]
    try rw [← Cu.ofL_of nt]
    simp only [Cu.ofL_append]
    try congr 1
    try simp [bytesU, Cu.ofL_data, Cu.ofL_size]
  have HN := hide hn
  have z1 : S1.size ≤ 64 := by rw [← hS1, Cu.ofL_size, Cu.nb_length]; omega
  have z2 : S2.size ≤ 64 := by rw [← hS2, Cu.ofL_size, Cu.nb_length]; omega
  have z8 : S8.size ≤ 64 := by rw [← hS8, Cu.ofL_size, Cu.nb_length]; omega
  have z3 : S3.size ≤ 64 := by rw [← hS3, Cu.ofL_size, Cu.nb_length]; omega
  have zh : (strOf h 32).size ≤ 64 := by rw [strOf_size]; omega
  have zn : nt.size ≤ 64 := hn
  have hnb : (nt.size : Int) ≤ 64 := by omega
  clear hv g0 hi0 hi1 ha0 ha1 hn hS1 hS2 hS3 hS8 hZ
  go_enter Tryz.func36, Tryz.ntmps36
  go_wp2_with (first | refine wpW_load_at 36 _ rfl (w.heap.size) (0) (by rfl) (by rfl) _ 36 _ (G0.out.at_ 0 (by omega) (fun i hi => by rw [Nat.zero_add])) Tryz.underlying36 rfl infoU ?_ | fail)
  refine (HV.out _).mono ?_
  rintro e w4 ⟨rfl, hb4⟩
  have gb4 := gb.trans (hb4.mono gb.size)
  have G4 := hide (G0.out.below hb4 G0.out.lt)
  clear hW hb4 gb HV
  go_wp2
  refine wp_region_noPanic ?_
  refine wp_region_held_drew (S := fun wx => Below w4.heap.size w4 wx) (by kernel_rfl) ((Below.refl _ _).drew) (fun hHeld => ?_)
  refine Cu.takeH 0 (some 8) (.pointer (some ⟨w.heap.size, 0, none⟩)) rfl rfl (by kernel_rfl) (by kernel_rfl) (by kernel_rfl) (fun _ _ _ h => h) (by rfl) (fun w hw => by first | rfl | (go_simp; done) | (go_simp; rfl) | (go_simp; omega)) hHeld ?_
  simp only [Act.put, List.setIfInBounds_toArray, List.set_cons_zero, List.set_cons_succ]
  refine Cu.takeH 1 (some 9) (.int .i64 3) rfl rfl (by kernel_rfl) (by kernel_rfl) (by kernel_rfl) (fun _ _ _ h => h) (by rfl) (fun w hw => by have c : w.cell? ⟨_, 0, none⟩ = some (.int .i64 3) := (G4.out.below hw G4.out.lt).cell 0 (by omega); first | rfl | (go_simp; done) | (go_simp; rfl) | (go_simp; omega)) hHeld ?_
  simp only [Act.put, List.setIfInBounds_toArray, List.set_cons_zero, List.set_cons_succ]
  refine Cu.takeH 2 (some 10) (.int .u64 3) rfl rfl (by kernel_rfl) (by kernel_rfl) (by kernel_rfl) (fun _ _ _ h => h) (by rfl) (fun w hw => by first | rfl | (go_simp; done) | (go_simp; rfl) | (go_simp; omega)) hHeld ?_
  simp only [Act.put, List.setIfInBounds_toArray, List.set_cons_zero, List.set_cons_succ]
  refine Cu.takeH 4 (some 12) (.pointer (some ⟨w.heap.size, 1, none⟩)) rfl rfl (by kernel_rfl) (by kernel_rfl) (by kernel_rfl) (fun _ _ _ h => h) (by rfl) (fun w hw => by first | rfl | (go_simp; done) | (go_simp; rfl) | (go_simp; omega)) hHeld ?_
  simp only [Act.put, List.setIfInBounds_toArray, List.set_cons_zero, List.set_cons_succ]
  refine Cu.takeH 5 (some 13) (.int .i64 i) rfl rfl (by kernel_rfl) (by kernel_rfl) (by kernel_rfl) (fun _ _ _ h => h) (by rfl) (fun w hw => by have c : w.cell? ⟨_, 1, none⟩ = some (.int .i64 i) := (G4.out.below hw G4.out.lt).cell 1 (by omega); first | rfl | (go_simp; done) | (go_simp; rfl) | (go_simp; omega)) hHeld ?_
  simp only [Act.put, List.setIfInBounds_toArray, List.set_cons_zero, List.set_cons_succ]
  refine Cu.takeH 6 (some 14) (.int .u64 i) rfl rfl (by kernel_rfl) (by kernel_rfl) (by kernel_rfl) (fun _ _ _ h => h) (by rfl) (fun w hw => by first | rfl | (go_simp; done) | (go_simp; rfl) | (go_simp; omega)) hHeld ?_
  simp only [Act.put, List.setIfInBounds_toArray, List.set_cons_zero, List.set_cons_succ]
  refine wpAnyH_ready (rs := [3]) (by kernel_rfl) (by simp) (AllReadyH.cons rfl (fun K hK => ?_) AllReadyH.nil)
  rw [if_pos (by rfl)]
  go_simp
  refine (B1.out _).mono ?_
  rintro e w5 ⟨rfl, hb5⟩
  try go_wp2_with fail
  refine hK.out _ _ (hHeld.trans (hb5.mono hHeld.size)) (fun hH => ?_)
  clear hK K hHeld
  have hHeld := hH
  clear hH
  refine wpAnyH_ready (rs := [7]) (by kernel_rfl) (by simp) (AllReadyH.cons rfl (fun K hK => ?_) AllReadyH.nil)
  rw [if_pos (by rfl)]
  go_simp
  refine (B2.out _).mono ?_
  rintro e w6 ⟨rfl, hb6⟩
  try go_wp2_with fail
  refine hK.out _ _ (hHeld.trans (hb6.mono hHeld.size)) (fun hH => ?_)
  clear hK K hHeld
  have hHeld := hH
  clear hH
  refine Cu.takeH 8 (some 16) (.string (S1 ++ S2)) rfl rfl (by kernel_rfl) (by kernel_rfl) (by kernel_rfl) (fun _ _ _ h => h) (by rfl) (fun w hw => by first | rfl | (go_simp; done) | (go_simp; rfl) | (go_simp; omega)) hHeld ?_
  simp only [Act.put, List.setIfInBounds_toArray, List.set_cons_zero, List.set_cons_succ]
  refine Cu.takeH 9 (some 4) (.string (S1 ++ S2)) rfl rfl (by kernel_rfl) (by kernel_rfl) (by kernel_rfl) (fun _ _ _ h => h) (by rfl) (fun w hw => by first | rfl | (go_simp; done) | (go_simp; rfl) | (go_simp; omega)) hHeld ?_
  simp only [Act.put, List.setIfInBounds_toArray, List.set_cons_zero, List.set_cons_succ]
  refine ⟨by kernel_rfl, ?_⟩
  refine NoPanic.normal ?_
  have g6 := G4.out.below hHeld G4.out.lt
  have gb6 := gb4.trans (hHeld.mono gb4.size)
  have d0 : w6.cell? ⟨w.heap.size, 0, none⟩ = some (.int .i64 3) := g6.cell 0 (by omega)
  have G6 := hide g6
  clear hb5 hb6 hHeld gb4 g6 G4
  go_wp2
  clear d0
  refine wp_region_noPanic ?_
  refine wp_region_held_drew (S := fun wx => Below w6.heap.size w6 wx) (by kernel_rfl) ((Below.refl _ _).drew) (fun hHeld => ?_)
  refine Cu.takeH 0 (some 19) (.string (S1 ++ S2)) rfl rfl (by kernel_rfl) (by kernel_rfl) (by kernel_rfl) (fun _ _ _ h => h) (by rfl) (fun w hw => by first | rfl | (go_simp; done) | (go_simp; rfl) | (go_simp; omega)) hHeld ?_
  simp only [Act.put, List.setIfInBounds_toArray, List.set_cons_zero, List.set_cons_succ]
  refine Cu.takeH 1 (some 20) (.pointer (some ⟨w.heap.size, 35, none⟩)) rfl rfl (by kernel_rfl) (by kernel_rfl) (by kernel_rfl) (fun _ _ _ h => h) (by rfl) (fun w hw => by first | rfl | (go_simp; done) | (go_simp; rfl) | (go_simp; omega)) hHeld ?_
  simp only [Act.put, List.setIfInBounds_toArray, List.set_cons_zero, List.set_cons_succ]
  refine Cu.takeH 2 (some 21) (.string nt) rfl rfl (by kernel_rfl) (by kernel_rfl) (by kernel_rfl) (fun _ _ _ h => h) (by rfl) (fun w hw => by have c : w.cell? ⟨_, 35, none⟩ = some (.string nt) := (G6.out.below hw G6.out.lt).cell 35 (by omega); first | rfl | (go_simp; done) | (go_simp; rfl) | (go_simp; omega)) hHeld ?_
  simp only [Act.put, List.setIfInBounds_toArray, List.set_cons_zero, List.set_cons_succ]
  refine Cu.takeH 3 (some 22) (.int .i64 (nt.size : Int)) rfl rfl (by kernel_rfl) (by kernel_rfl) (by kernel_rfl) (fun _ _ _ h => h) (by rfl) (fun w hw => by first | rfl | (go_simp; done) | (go_simp; rfl) | (go_simp; omega)) hHeld ?_
  simp only [Act.put, List.setIfInBounds_toArray, List.set_cons_zero, List.set_cons_succ]
  refine Cu.takeH 4 (some 23) (.int .u64 (nt.size : Int)) rfl rfl (by kernel_rfl) (by kernel_rfl) (by kernel_rfl) (fun _ _ _ h => h) (by rfl) (fun w hw => by first | rfl | (go_simp; done) | (go_simp; rfl) | (go_simp; omega)) hHeld ?_
  simp only [Act.put, List.setIfInBounds_toArray, List.set_cons_zero, List.set_cons_succ]
  refine Cu.takeH 7 (some 26) (.pointer (some ⟨w.heap.size, 35, none⟩)) rfl rfl (by kernel_rfl) (by kernel_rfl) (by kernel_rfl) (fun _ _ _ h => h) (by rfl) (fun w hw => by first | rfl | (go_simp; done) | (go_simp; rfl) | (go_simp; omega)) hHeld ?_
  simp only [Act.put, List.setIfInBounds_toArray, List.set_cons_zero, List.set_cons_succ]
  refine Cu.takeH 8 (some 27) (.string nt) rfl rfl (by kernel_rfl) (by kernel_rfl) (by kernel_rfl) (fun _ _ _ h => h) (by rfl) (fun w hw => by have c : w.cell? ⟨_, 35, none⟩ = some (.string nt) := (G6.out.below hw G6.out.lt).cell 35 (by omega); first | rfl | (go_simp; done) | (go_simp; rfl) | (go_simp; omega)) hHeld ?_
  simp only [Act.put, List.setIfInBounds_toArray, List.set_cons_zero, List.set_cons_succ]
  refine wpAnyH_ready (rs := [5]) (by kernel_rfl) (by simp) (AllReadyH.cons rfl (fun K hK => ?_) AllReadyH.nil)
  rw [if_pos (by rfl)]
  go_simp
  refine (B3.out _).mono ?_
  rintro e w7 ⟨rfl, hb7⟩
  try go_wp2_with fail
  refine hK.out _ _ (hHeld.trans (hb7.mono hHeld.size)) (fun hH => ?_)
  clear hK K hHeld
  have hHeld := hH
  clear hH
  refine Cu.takeH 6 (some 25) (.string ((S1 ++ S2) ++ S3)) rfl rfl (by kernel_rfl) (by kernel_rfl) (by kernel_rfl) (fun _ _ _ h => h) (by rfl) (fun w hw => by first | rfl | (go_simp; done) | (go_simp; rfl) | (go_simp; omega)) hHeld ?_
  simp only [Act.put, List.setIfInBounds_toArray, List.set_cons_zero, List.set_cons_succ]
  refine Cu.takeH 9 (some 28) (.string (((S1 ++ S2) ++ S3) ++ nt)) rfl rfl (by kernel_rfl) (by kernel_rfl) (by kernel_rfl) (fun _ _ _ h => h) (by rfl) (fun w hw => by first | rfl | (go_simp; done) | (go_simp; rfl) | (go_simp; omega)) hHeld ?_
  simp only [Act.put, List.setIfInBounds_toArray, List.set_cons_zero, List.set_cons_succ]
  refine Cu.takeH 10 (some 4) (.string (((S1 ++ S2) ++ S3) ++ nt)) rfl rfl (by kernel_rfl) (by kernel_rfl) (by kernel_rfl) (fun _ _ _ h => h) (by rfl) (fun w hw => by first | rfl | (go_simp; done) | (go_simp; rfl) | (go_simp; omega)) hHeld ?_
  simp only [Act.put, List.setIfInBounds_toArray, List.set_cons_zero, List.set_cons_succ]
  refine ⟨by kernel_rfl, ?_⟩
  refine NoPanic.normal ?_
  have gb7 := gb6.trans (hHeld.mono gb6.size)
  clear hb7 hHeld gb6
  try rw [HZ.out]
  go_wp2
  try rw [HZ.out]
  go_ret2
  exact ⟨by first | rfl | (rw [← HZ.out]; rfl), gb7⟩
set_option maxRecDepth 100000 in
set_option maxHeartbeats 4000000 in
theorem rw_no (u : Upd) (w : World) (hv : validB u = false) : Calls Tryz.prog 36 #[.agg (tabv u.v 36)] w fun e w' => e = .returned (.tuple #[.string nilB, .int .i64 120]) ∧ Below w.heap.size w w' := by
  obtain ⟨w3, hW⟩ : ∃ x, w.alloc (.cells (tabv u.v 36) 36) = x := ⟨_, rfl⟩
  have g0 : Has w3 w.heap.size 36 u.v 36 := by rw [← hW]; exact Has.new w 36 u.v 36 _ rfl
  have gb : Below w.heap.size w w3 := by rw [← hW]; exact (Below.refl w.heap.size w).alloc (Nat.le_refl _) _

  have G0 := hide g0
  have HV := hide (fun w : World => rvalid_any u w)
  rw [hv] at HV
  clear hv g0
  go_enter Tryz.func36, Tryz.ntmps36
  go_wp2_with (first | refine wpW_load_at 36 _ rfl (w.heap.size) (0) (by rfl) (by rfl) _ 36 _ (G0.out.at_ 0 (by omega) (fun i hi => by rw [Nat.zero_add])) Tryz.underlying36 rfl infoU ?_ | fail)
  refine (HV.out _).mono ?_
  rintro e w4 ⟨rfl, hb4⟩
  have gb4 := gb.trans (hb4.mono gb.size)
  clear hW hb4 gb HV
  go_wp2
  go_ret2
  exact ⟨rfl, gb4⟩
theorem rwrite_any (u : Upd) (w : World) : Calls Tryz.prog 36 #[.agg (tabv u.v 36)] w fun e w' => e = .returned (.tuple #[.string (writeS u), .int .i64 (writeE u)]) ∧ Below w.heap.size w w' := by
  unfold writeS writeE
  cases hv : validB u with
  | false =>
    rw [if_neg (by decide), if_neg (by decide)]
    exact rw_no u w hv
  | true =>
    rw [if_pos rfl, if_pos rfl]
    have hi := valid_id hv
    have hk := valid_kinds hv
    obtain ⟨k, i, a, h, nt⟩ := u
    rcases hk with ⟨hk, h1, h2, h3⟩ | ⟨hk, h1, h2⟩ | ⟨hk, h1, h2, h3⟩
    · have := noteE_nil h3
      simp only at hi hk h1 h2 this
      subst hk this
      exact rw_add i a h nilB w hi.1 hi.2 (by omega) h2 (by decide) hv
    · have := noteE_nil h2
      simp only at hi hk h1 this
      subst hk this
      exact rw_ful i a h nilB w hi.1 hi.2 (by omega) (by omega) (by decide) hv
    · simp only at hi hk h1 h3
      subst hk
      exact rw_fail i a h nt w hi.1 hi.2 (by omega) (by omega) h3 hv
end Go.Proofs.YtlohfoggcdaeiaaGreat
