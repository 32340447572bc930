import Derived.Test.YtmmcoedgoekhgaaGreatDoorGSortM
import Derived.Test.YtmmcoedgoekhgaaGreatDoorGCounts
import Derived.Test.YtmmcoedgoekhgaaGreatDoorSRef
import Derived.Test.YtmmcoedgoekhgaaGreatDoorSNear
import Derived.Test.YtmmcoedgoekhgaaGreatDoorBytesText
import Derived.Deep.RegionHeld3
import Derived.Deep.DrawnRows
import Derived.BigQuiet
/-
  One operation of a drawn region taken ahead.
-/
namespace Go.Proofs.YtmmcoedgoekhgaaGreatDoor
set_option maxRecDepth 20000
open Go.RowKit S
-- stands in another text: takeH
-- stands in another text: wp_store_part
-- stands in another text: zero32
-- stands in another text: Glob.up
-- stands in another text: wpList_load_want
end Go.Proofs.YtmmcoedgoekhgaaGreatDoor
/-
  Sign and Right of the code.
-/
namespace Go.Proofs.YtmmcoedgoekhgaaGreatDoor
set_option maxRecDepth 20000
open Go.RowKit S
set_option maxHeartbeats 800000 in
theorem sign_any (n : Num) (key : Nat → UInt8) (s : ByteArray) (w : World) (hG : Glob n w) (hl : s.size < 1152921504606840000) :
    Calls Tryz.prog 47 #[.agg (tabv (bv key) 32), .string s] w fun e w' => e = .returned (.agg (tabv (bv (mac key s.data.toList)) 32)) ∧ Below w.heap.size w w' := by
  have h0 : Has ((w.alloc (.cells (tabv (bv key) 32) 23)).alloc (.cells (tabv (fun _ => .int .u8 0) 32) 23)) w.heap.size 23 (bv key) 32 := (Has.new w 23 (bv key) 32 _ rfl).old _
  have h1 : Has ((w.alloc (.cells (tabv (bv key) 32) 23)).alloc (.cells (tabv (fun _ => .int .u8 0) 32) 23)) (w.heap.size + 1) 23 (fun _ => .int .u8 0) 32 := by
    have := Has.new (w.alloc (.cells (tabv (bv key) 32) 23)) 23 (fun _ => .int .u8 0) 32 _ rfl
    rw [size_alloc] at this
    exact this
  have hb : Below w.heap.size w ((w.alloc (.cells (tabv (bv key) 32) 23)).alloc (.cells (tabv (fun _ => .int .u8 0) 32) 23)) := ((Below.refl w.heap.size w).alloc (Nat.le_refl _) _).alloc (by simp) _
  have H0 := hide h0
  have H1 := hide h1
  clear h0 h1
  go_enter Tryz.func47, Tryz.ntmps47
  go_wp2_with (refine wpList_load_part rfl 23 _ rfl w.heap.size 0 rfl 23 _ 32 32 _ H0.out (by omega) Tryz.underlying23 rfl info26 (bv key) (fun i _ => by rw [Nat.zero_add]) ?_)
  refine (mac_any n key s _ (hG.below hb hG.2.2) hl).mono ?_
  rintro e w1 ⟨rfl, hb1⟩
  have k1 := H1.out.below hb1 H1.out.lt
  have kb := hb.trans (hb1.mono hb.size)
  clear H0 H1 hb hb1
  go_wp2_with (refine wpList_store_part rfl 23 _ _ rfl rfl (w.heap.size + 1) 0 (bv (mac key s.data.toList)) 32 rfl rfl 23 _ 32 k1 (by omega) info26 (fun _ _ => rfl) (bv (mac key s.data.toList)) (fun i hi => by unfold splice; rw [if_pos (by omega), Nat.sub_zero]) ?_)
  exact bodyPost_ret (results_cell_row rfl _ _ (w.heap.size + 1) 23 _ (0, 0) _ rfl (k1.row _ _ rfl) Tryz.underlying23 rfl (by rw [tabv_size]; exact info26)) rfl ⟨rfl, below_setRow kb (by omega) _⟩
/-- Two hashes are one. -/
def sameH (f g : Nat → UInt8) : Bool := (List.range 32).all fun i => f i == g i
theorem eqHE (w : World) (f g : Nat → UInt8) : (Op.equalIn 10000 23 (.agg (tabv (bv f) 32)) (.agg (tabv (bv g) 32))).run Tryz.prog w = .ok (sameH f g) w := eq26 w f g
set_option maxHeartbeats 1600000 in
theorem right_anyE (n : Num) (key sig : Nat → UInt8) (s : ByteArray) (w : World) (hG : Glob n w) (hl : s.size < 1152921504606840000) :
    Calls Tryz.prog 51 #[.agg (tabv (bv key) 32), .string s, .agg (tabv (bv sig) 32)] w fun e w' => e = .returned (.bool (sameH sig (mac key s.data.toList))) ∧ Below w.heap.size w w' := by
  obtain ⟨M, hM⟩ : ∃ M, mac key s.data.toList = M := ⟨_, rfl⟩
  have hsg : ∀ w : World, Glob n w → Calls Tryz.prog 47 #[.agg (tabv (bv key) 32), .string s] w fun e w' => e = .returned (.agg (tabv (bv M) 32)) ∧ Below w.heap.size w w' := fun w h => by rw [← hM]; exact sign_any n key s w h hl
  rw [hM]
  clear hM
  obtain ⟨R, hR⟩ : ∃ R, sameH sig M = R := ⟨_, rfl⟩
  have hq : ∀ w : World, (Op.equalIn 10000 23 (.agg (tabv (bv sig) 32)) (.agg (tabv (bv M) 32))).run Tryz.prog w = .ok R w := fun w => by rw [eqHE, hR]
  have hgt := guard26
  rw [hR]
  have A1 := hide hsg
  clear hsg hR
  obtain ⟨W, hW⟩ : ∃ x, (World.alloc (World.alloc w (.cells (tabv (bv key) 32) 23)) (.cells (tabv (bv sig) 32) 23)) = x := ⟨_, rfl⟩
  have g0 : Has W (w.heap.size) 23 (bv key) 32 := by
    rw [← hW]
    have := Has.new w 23 (bv key) 32 _ rfl
    exact this.old _
  have g1 : Has W (w.heap.size + 1) 23 (bv sig) 32 := by
    rw [← hW]
    have := Has.new (World.alloc w (.cells (tabv (bv key) 32) 23)) 23 (bv sig) 32 _ rfl
    rw [size_alloc] at this
    exact this
  have gb : Below w.heap.size w W := by rw [← hW]; exact (((Below.refl w.heap.size w).alloc (by simp) _).alloc (by simp) _)
  go_enter Tryz.func51, Tryz.ntmps51
  go_wp2
  have hGW := hG.below gb hG.2.2
  refine wp_region_noPanic ?_
  refine wp_region_held_drew (S := fun wx => Glob n wx ∧ Has wx w.heap.size 23 (bv key) 32 ∧ Has wx (w.heap.size + 1) 23 (bv sig) 32 ∧ Below w.heap.size w wx) (by kernel_rfl) ⟨hGW, g0, g1, gb.drew⟩ (fun hHeld => ?_)
  refine takeH 0 (some 7) (.agg (tabv (bv sig) 32)) rfl rfl (by kernel_rfl) (by kernel_rfl) (by kernel_rfl) (fun _ _ _ h => h) (by rfl) (fun w hw => run_load_part w 23 _ rfl _ 0 rfl 23 _ 32 32 _ hw.2.2.1 (by omega) Tryz.underlying23 rfl info26 (bv sig) (fun i _ => by rw [Nat.zero_add])) hHeld ?_
  simp only [Act.put, List.setIfInBounds_toArray, List.set_cons_zero, List.set_cons_succ]
  refine takeH 1 (some 8) (.agg (tabv (bv key) 32)) rfl rfl (by kernel_rfl) (by kernel_rfl) (by kernel_rfl) (fun _ _ _ h => h) (by rfl) (fun w hw => run_load_part w 23 _ rfl _ 0 rfl 23 _ 32 32 _ hw.2.1 (by omega) Tryz.underlying23 rfl info26 (bv key) (fun i _ => by rw [Nat.zero_add])) hHeld ?_
  simp only [Act.put, List.setIfInBounds_toArray, List.set_cons_zero, List.set_cons_succ]
  refine takeH 2 (some 9) (.string s) rfl rfl (by kernel_rfl) (by kernel_rfl) (by kernel_rfl) (fun _ _ _ h => h) (by rfl) (fun w hw => by first | (go_simp; done) | (go_simp; omega) | (go_simp; go_num; done) | rfl) hHeld ?_
  simp only [Act.put, List.setIfInBounds_toArray, List.set_cons_zero, List.set_cons_succ]
  refine wpAnyH_ready (rs := [3]) (by kernel_rfl) (by simp) (AllReadyH.cons rfl (fun K hK => ?_) AllReadyH.nil)
  rw [if_pos (by rfl)]
  go_simp
  refine (A1.out _ hHeld.1).mono ?_
  rintro e w5 ⟨rfl, hb5⟩
  try go_wp2_with fail
  refine hK.out _ _ (⟨hHeld.1.below hb5 hHeld.1.2.2, hHeld.2.1.below hb5 hHeld.2.1.lt, hHeld.2.2.1.below hb5 hHeld.2.2.1.lt, hHeld.2.2.2.trans (hb5.mono hHeld.2.2.2.size)⟩) (fun hHeld => ?_)
  clear hK K
  refine takeH 4 (some 11) (.bool R) rfl rfl (by kernel_rfl) (by kernel_rfl) (by kernel_rfl) (fun _ _ _ h => h) (by rfl) (fun w hw => by first | (go_simp; done) | (go_simp; omega) | (go_simp; go_num; done) | rfl) hHeld ?_
  simp only [Act.put, List.setIfInBounds_toArray, List.set_cons_zero, List.set_cons_succ]
  refine takeH 5 (some 6) (.bool R) rfl rfl (by kernel_rfl) (by kernel_rfl) (by kernel_rfl) (fun _ _ _ h => h) (by rfl) (fun w hw => by first | (go_simp; done) | (go_simp; omega) | (go_simp; go_num; done) | rfl) hHeld ?_
  simp only [Act.put, List.setIfInBounds_toArray, List.set_cons_zero, List.set_cons_succ]
  refine ⟨by kernel_rfl, ?_⟩
  refine NoPanic.normal ?_
  go_wp2
  go_ret
  exact ⟨rfl, hHeld.2.2.2⟩
end Go.Proofs.YtmmcoedgoekhgaaGreatDoor
