/-
  The document's Mac.
-/
import Derived.Test.YtfacfbmfnpioeaaDoorRefOne
import Derived.Test.YtfacfbmfnpioeaaDoorETake
namespace Go.Proofs.YtfacfbmfnpioeaaDoor
open Go.RowKit S
attribute [local go_sem ↓] Go.wp_at_zero Go.wp_at_succ
set_option maxHeartbeats 1600000 in
theorem refMac_any (n : Num) (key : Nat → UInt8) (s : ByteArray) (w : World) (hs : s.size ≤ 140737488351232) :
    Calls Tryd.prog 12 #[.agg (tabv (bv key) 32), .string s] w fun e w' => e = .returned (.agg (tabv (bv (mac key s.data.toList)) 32)) ∧ Below w.heap.size w w' := by
  obtain ⟨P1, hP1⟩ : ∃ P1, strOf (keyed key 54) 64 = P1 := ⟨_, rfl⟩
  obtain ⟨P2, hP2⟩ : ∃ P2, strOf (keyed key 92) 64 = P2 := ⟨_, rfl⟩
  have hp1 : ∀ w : World, Calls Tryd.prog 16 #[.agg (tabv (bv key) 32), .int .u8 54] w fun e w' => e = .returned (.string P1) ∧ Below w.heap.size w w' := fun w => by rw [← hP1]; exact refPad_any key 0x36 54 rfl w
  have hp2 : ∀ w : World, Calls Tryd.prog 16 #[.agg (tabv (bv key) 32), .int .u8 92] w fun e w' => e = .returned (.string P2) ∧ Below w.heap.size w w' := fun w => by rw [← hP2]; exact refPad_any key 0x5c 92 rfl w
  have z1 : P1.size = 64 := by rw [← hP1, strOf_size]
  have z2 : P2.size = 64 := by rw [← hP2, strOf_size]
  obtain ⟨I, hI⟩ : ∃ I, sha (P1 ++ s).data.toList = I := ⟨_, rfl⟩
  have hone1 : ∀ w : World, Calls Tryd.prog 15 #[.string (P1 ++ s)] w fun e w' => e = .returned (.agg (tabv (bv I) 32)) ∧ Below w.heap.size w w' := fun w => by
    have := refOne_any n (P1 ++ s) w (by rw [ByteArray.size_append]; omega)
    rw [hI] at this; exact this
  obtain ⟨J, hJ⟩ : ∃ J, strOf I 32 = J := ⟨_, rfl⟩
  have zJ : J.size = 32 := by rw [← hJ, strOf_size]
  have hby : ∀ w : World, Calls Tryd.prog 17 #[.agg (tabv (bv I) 32)] w fun e w' => e = .returned (.string J) ∧ Below w.heap.size w w' := fun w => by rw [← hJ]; exact refBytes_any I w
  obtain ⟨M, hM⟩ : ∃ M, sha (P2 ++ J).data.toList = M := ⟨_, rfl⟩
  have hone2 : ∀ w : World, Calls Tryd.prog 15 #[.string (P2 ++ J)] w fun e w' => e = .returned (.agg (tabv (bv M) 32)) ∧ Below w.heap.size w w' := fun w => by
    have := refOne_any n (P2 ++ J) w (by rw [ByteArray.size_append]; omega)
    rw [hM] at this; exact this
  have hMM : mac key s.data.toList = M := by
    rw [← hM]
    unfold mac shaL keyL
    rw [ByteArray.data_append, Array.toList_append, ← hP2, ← hJ, strOf_list, strOf_list, ← hI, ByteArray.data_append, Array.toList_append, ← hP1, strOf_list]
  rw [hMM]
  have A1 := hide hp1
  have A2 := hide hp2
  have A3 := hide hone1
  have A4 := hide hby
  have A5 := hide hone2
  clear hp1 hp2 hone1 hby hone2 hMM hM hJ hI hP1 hP2
  go_enter Tryd.func12, Tryd.ntmps12
  go_wp2
  generalize hW : World.alloc (World.alloc w _) _ = W
  have g0 : Has W w.heap.size 23 (bv key) 32 := by rw [← hW]; exact (Has.new w 23 (bv key) 32 _ rfl).old _
  have g1 : Has W (w.heap.size + 1) 23 (fun _ => .int .u8 0) 32 := by
    rw [← hW]
    have := Has.new (w.alloc (.cells (tabv (bv key) 32) 23)) 23 (fun _ => .int .u8 0) 32 _ rfl
    rw [size_alloc] at this
    exact this
  have gb : Below w.heap.size w W := by rw [← hW]; exact ((Below.refl w.heap.size w).alloc (Nat.le_refl _) _).alloc (by simp) _
  clear hW
  refine wp_region_noPanic ?_
  refine wp_region_held_drew (S := fun wx => Has wx w.heap.size 23 (bv key) 32 ∧ (∃ f, Has wx (w.heap.size + 1) 23 f 32) ∧ Below w.heap.size w wx) (by kernel_rfl) ⟨g0, ⟨_, g1⟩, gb.drew⟩ (fun hHeld => ?_)
  refine takeH 0 (some 5) (.agg (tabv (bv key) 32)) rfl rfl (by kernel_rfl) (by kernel_rfl) (by kernel_rfl) (fun _ _ _ h => h) (by rfl) (fun w hw => run_load_part w 23 _ rfl _ 0 rfl 23 _ 32 32 _ hw.1 (by omega) Tryd.underlying23 rfl info26 (bv key) (fun i _ => by rw [Nat.zero_add])) hHeld ?_
  simp only [Act.put, List.setIfInBounds_toArray, List.set_cons_zero, List.set_cons_succ]
  refine takeH 2 (some 7) (.agg (tabv (bv key) 32)) rfl rfl (by kernel_rfl) (by kernel_rfl) (by kernel_rfl) (fun _ _ _ h => h) (by rfl) (fun w hw => run_load_part w 23 _ rfl _ 0 rfl 23 _ 32 32 _ hw.1 (by omega) Tryd.underlying23 rfl info26 (bv key) (fun i _ => by rw [Nat.zero_add])) hHeld ?_
  simp only [Act.put, List.setIfInBounds_toArray, List.set_cons_zero, List.set_cons_succ]
  refine takeH 4 (some 9) (.string s) rfl rfl (by kernel_rfl) (by kernel_rfl) (by kernel_rfl) (fun _ _ _ h => h) (by rfl) (fun w hw => by first | (go_simp; done) | (go_simp; omega) | (go_simp; go_num; done) | rfl) hHeld ?_
  simp only [Act.put, List.setIfInBounds_toArray, List.set_cons_zero, List.set_cons_succ]
  refine wpAnyH_ready (rs := [1]) (by kernel_rfl) (by simp) (AllReadyH.cons rfl (fun K hK => ?_) AllReadyH.nil)
  rw [if_pos (by rfl)]
  go_simp
  refine (A2.out _).mono ?_
  rintro e w5 ⟨rfl, hb5⟩
  try go_wp2_with fail
  refine hK.out _ _ (⟨hHeld.1.below hb5 hHeld.1.lt, hHeld.2.1.imp (fun f h => h.below hb5 h.lt), hHeld.2.2.trans (hb5.mono hHeld.2.2.size)⟩) (fun hHeld => ?_)
  clear hK K
  refine wpAnyH_ready (rs := [3]) (by kernel_rfl) (by simp) (AllReadyH.cons rfl (fun K hK => ?_) AllReadyH.nil)
  rw [if_pos (by rfl)]
  go_simp
  refine (A1.out _).mono ?_
  rintro e w5 ⟨rfl, hb5⟩
  try go_wp2_with fail
  refine hK.out _ _ (⟨hHeld.1.below hb5 hHeld.1.lt, hHeld.2.1.imp (fun f h => h.below hb5 h.lt), hHeld.2.2.trans (hb5.mono hHeld.2.2.size)⟩) (fun hHeld => ?_)
  clear hK K
  refine takeH 5 (some 10) (.string (P1 ++ s)) rfl rfl (by kernel_rfl) (by kernel_rfl) (by kernel_rfl) (fun _ _ _ h => h) (by rfl) (fun w hw => by first | (go_simp; done) | (go_simp; omega) | (go_simp; go_num; done) | rfl) hHeld ?_
  simp only [Act.put, List.setIfInBounds_toArray, List.set_cons_zero, List.set_cons_succ]
  refine wpAnyH_ready (rs := [6]) (by kernel_rfl) (by simp) (AllReadyH.cons rfl (fun K hK => ?_) AllReadyH.nil)
  rw [if_pos (by rfl)]
  go_simp
  refine (A3.out _).mono ?_
  rintro e w5 ⟨rfl, hb5⟩
  try go_wp2_with fail
  refine hK.out _ _ (⟨hHeld.1.below hb5 hHeld.1.lt, hHeld.2.1.imp (fun f h => h.below hb5 h.lt), hHeld.2.2.trans (hb5.mono hHeld.2.2.size)⟩) (fun hHeld => ?_)
  clear hK K
  refine wpAnyH_ready (rs := [7]) (by kernel_rfl) (by simp) (AllReadyH.cons rfl (fun K hK => ?_) AllReadyH.nil)
  rw [if_pos (by rfl)]
  go_simp
  refine (A4.out _).mono ?_
  rintro e w5 ⟨rfl, hb5⟩
  try go_wp2_with fail
  refine hK.out _ _ (⟨hHeld.1.below hb5 hHeld.1.lt, hHeld.2.1.imp (fun f h => h.below hb5 h.lt), hHeld.2.2.trans (hb5.mono hHeld.2.2.size)⟩) (fun hHeld => ?_)
  clear hK K
  refine takeH 8 (some 13) (.string (P2 ++ J)) rfl rfl (by kernel_rfl) (by kernel_rfl) (by kernel_rfl) (fun _ _ _ h => h) (by rfl) (fun w hw => by first | (go_simp; done) | (go_simp; omega) | (go_simp; go_num; done) | rfl) hHeld ?_
  simp only [Act.put, List.setIfInBounds_toArray, List.set_cons_zero, List.set_cons_succ]
  refine wpAnyH_ready (rs := [9]) (by kernel_rfl) (by simp) (AllReadyH.cons rfl (fun K hK => ?_) AllReadyH.nil)
  rw [if_pos (by rfl)]
  go_simp
  refine (A5.out _).mono ?_
  rintro e w5 ⟨rfl, hb5⟩
  try go_wp2_with fail
  refine hK.out _ _ (⟨hHeld.1.below hb5 hHeld.1.lt, hHeld.2.1.imp (fun f h => h.below hb5 h.lt), hHeld.2.2.trans (hb5.mono hHeld.2.2.size)⟩) (fun hHeld => ?_)
  clear hK K
  refine wpAnyH_ready (rs := [10]) (by kernel_rfl) (by simp) (AllReadyH.cons rfl (fun K hK => ?_) AllReadyH.nil)
  rw [if_pos (by rfl)]
  obtain ⟨f0, hf0⟩ := hHeld.2.1
  refine wp_store_part 23 _ _ rfl rfl (w.heap.size + 1) 0 (bv M) 32 rfl rfl 23 _ 32 hf0 (by omega) info26 (fun _ _ => rfl) (bv M) (fun i hi => by unfold splice; rw [if_pos (by omega), Nat.sub_zero]) ?_
  have hfin := hf0.row (tabv (bv M) 32) (bv M) rfl
  have hfb := below_setRow hHeld.2.2 (show w.heap.size ≤ w.heap.size + 1 by omega) (tabv (bv M) 32)
  refine hK.out _ _ ⟨hHeld.1.row_other _ _ (by omega), ⟨_, hfin⟩, hfb⟩ (fun hHeld => ?_)
  clear hK K
  refine ⟨by kernel_rfl, ?_⟩
  refine NoPanic.normal ?_
  go_wp2
  exact bodyPost_ret (results_cell_row rfl _ _ (w.heap.size + 1) 23 _ (0, 0) _ rfl hfin Tryd.underlying23 rfl (by rw [tabv_size]; exact info26)) rfl ⟨rfl, hfb⟩
end Go.Proofs.YtfacfbmfnpioeaaDoor
