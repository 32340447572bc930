/-
  The document's Sum and Mac; the walk of HashMacs.
-/
import Derived.Test.YtkhogpnmkonajaaDoorRefOne
import Derived.Test.YtkhogpnmkonajaaDoorLawHashDigits
namespace Go.Proofs.YtkhogpnmkonajaaDoor
open Go.RowKit S
set_option maxHeartbeats 800000 in
theorem refSum_any (n : Num) (a : Option Addr) (cap : Nat) (ss : List ByteArray) (w : World) (hs : Strs w a ss) (hl : (flat ss).length ≤ 140737488355200) (hn : ss.length < 1152921504606846976) :
    Calls Tryd.prog 19 #[.slice a ss.length cap] w fun e w' => e = .returned (.agg (tabv (bv (sha (flat ss))) 32)) ∧ Below w.heap.size w w' := by
  go_enter Tryd.func19, Tryd.ntmps19
  go_wp2
  generalize hW : World.alloc w _ = w3
  have g0 : Has w3 w.heap.size 26 (fun _ => .int .u8 0) 32 := by rw [← hW]; exact Has.new w 26 (fun _ => .int .u8 0) 32 _ rfl
  have gb : Below w.heap.size w w3 := by rw [← hW]; exact (Below.refl _ _).alloc (Nat.le_refl _) _
  clear hW
  go_loopw [4, 3] (fun i v wr => ∃ (k : Nat) (r : ByteArray), k ≤ ss.length ∧ i = .int .i64 k ∧ v = .string r ∧ r.data.toList = flat (ss.take k) ∧ wr = w3) (fun i _ _ => ss.length - (intOf i).toNat)
  case atStart => exact ⟨0, ⟨#[]⟩, by omega, rfl, rfl, by rw [List.take_zero]; rfl, rfl⟩
  case round =>
    obtain ⟨k, r, hk, rfl, rfl, hr, rfl⟩ := hrel
    have hrz : r.size ≤ 140737488355200 := by rw [← str_len, hr]; exact Nat.le_trans (flat_le ss k) hl
    have HR := hide hr
    clear hr
    by_cases hlt : k < ss.length
    · have hd : decide ((k : Int) < (ss.length : Int)) = true := by simp; omega
      have hle := flat_le ss (k + 1)
      have hft := flat_take ss k hlt
      rw [hft, List.length_append, str_len, ← HR.out, str_len] at hle
      rcases hs.below gb with h | ⟨b, o, rfl, hb0, hcs⟩
      · rw [h] at hlt; exact absurd hlt (by simp)
      have hck := hcs k hlt
      have hsz : r.size + ss[k].size ≤ 9223372036854775807 := by omega
      have HF := hide hft
      clear hft hle hcs
      go_wp2
      go_roundw
      case rel => exact ⟨k + 1, r ++ ss[k], by omega, by go_num, rfl, by rw [HF.out, ByteArray.data_append, Array.toList_append, HR.out], by first | rfl | trivial⟩
      case measure => simp [intOf]; omega
    · have hkl : k = ss.length := by omega
      subst hkl
      have hd : decide ((ss.length : Int) < (ss.length : Int)) = false := by simp
      go_wp2_with fail
      refine (refOne_any n r _ hrz).mono ?_
      rintro e w5 ⟨rfl, hb5⟩
      have e1 : r.data.toList = flat ss := by rw [HR.out, List.take_length]
      rw [e1]
      have g0' := g0.below hb5 g0.lt
      have gb' := gb.trans (hb5.mono gb.size)
      go_wp2_with (refine wpList_store_part rfl 26 _ _ rfl rfl w.heap.size 0 (bv (sha (flat ss))) 32 rfl rfl 26 _ 32 g0' (by omega) info26 (fun _ _ => rfl) (bv (sha (flat ss))) (fun i hi => by unfold splice; rw [if_pos (by omega), Nat.sub_zero]) ?_)
      exact bodyPost_ret (results_cell_row rfl _ _ w.heap.size 26 _ (0, 0) _ rfl (g0'.row _ _ rfl) Tryd.underlying26 rfl (by rw [tabv_size]; exact info26)) rfl ⟨rfl, below_setRow gb' (Nat.le_refl _) _⟩
attribute [local go_sem ↓] Go.wp_at_zero Go.wp_at_succ
set_option maxHeartbeats 1600000 in
theorem refMac_any (n : Num) (key : Nat → UInt8) (s : ByteArray) (w : World) (hs : s.size ≤ 140737488351232) :
    Calls Tryd.prog 21 #[.agg (tabv (bv key) 32), .string s] w fun e w' => e = .returned (.agg (tabv (bv (mac key s.data.toList)) 32)) ∧ Below w.heap.size w w' := by
  obtain ⟨P1, hP1⟩ : ∃ P1, strOf (keyed key 54) 64 = P1 := ⟨_, rfl⟩
  obtain ⟨P2, hP2⟩ : ∃ P2, strOf (keyed key 92) 64 = P2 := ⟨_, rfl⟩
  have hp1 : ∀ w : World, Calls Tryd.prog 28 #[.agg (tabv (bv key) 32), .int .u8 54] w fun e w' => e = .returned (.string P1) ∧ Below w.heap.size w w' := fun w => by rw [← hP1]; exact refPad_any key 0x36 54 rfl w
  have hp2 : ∀ w : World, Calls Tryd.prog 28 #[.agg (tabv (bv key) 32), .int .u8 92] w fun e w' => e = .returned (.string P2) ∧ Below w.heap.size w w' := fun w => by rw [← hP2]; exact refPad_any key 0x5c 92 rfl w
  have z1 : P1.size = 64 := by rw [← hP1, strOf_size]
  have z2 : P2.size = 64 := by rw [← hP2, strOf_size]
  obtain ⟨I, hI⟩ : ∃ I, sha (P1 ++ s).data.toList = I := ⟨_, rfl⟩
  have hone1 : ∀ w : World, Calls Tryd.prog 27 #[.string (P1 ++ s)] w fun e w' => e = .returned (.agg (tabv (bv I) 32)) ∧ Below w.heap.size w w' := fun w => by
    have := refOne_any n (P1 ++ s) w (by rw [ByteArray.size_append]; omega)
    rw [hI] at this; exact this
  obtain ⟨J, hJ⟩ : ∃ J, strOf I 32 = J := ⟨_, rfl⟩
  have zJ : J.size = 32 := by rw [← hJ, strOf_size]
  have hby : ∀ w : World, Calls Tryd.prog 29 #[.agg (tabv (bv I) 32)] w fun e w' => e = .returned (.string J) ∧ Below w.heap.size w w' := fun w => by rw [← hJ]; exact refBytes_any I w
  obtain ⟨M, hM⟩ : ∃ M, sha (P2 ++ J).data.toList = M := ⟨_, rfl⟩
  have hone2 : ∀ w : World, Calls Tryd.prog 27 #[.string (P2 ++ J)] w fun e w' => e = .returned (.agg (tabv (bv M) 32)) ∧ Below w.heap.size w w' := fun w => by
    have := refOne_any n (P2 ++ J) w (by rw [ByteArray.size_append]; omega)
    rw [hM] at this; exact this
  have hMM : mac key s.data.toList = M := by
    rw [← hM]
    unfold mac shaL keyL
    rw [ByteArray.data_append, Array.toList_append, ← hP2, ← hJ, strOf_list, strOf_list, ← hI, ByteArray.data_append, Array.toList_append, ← hP1, strOf_list]
  rw [hMM]
  have A1 := hide hp1
  have A2 := hide hp2
  have A3 := hide hone1
  have A4 := hide hby
  have A5 := hide hone2
  clear hp1 hp2 hone1 hby hone2 hMM hM hJ hI hP1 hP2
  go_enter Tryd.func21, Tryd.ntmps21
  go_wp2
  generalize hW : World.alloc (World.alloc w _) _ = W
  have g0 : Has W w.heap.size 26 (bv key) 32 := by rw [← hW]; exact (Has.new w 26 (bv key) 32 _ rfl).old _
  have g1 : Has W (w.heap.size + 1) 26 (fun _ => .int .u8 0) 32 := by
    rw [← hW]
    have := Has.new (w.alloc (.cells (tabv (bv key) 32) 26)) 26 (fun _ => .int .u8 0) 32 _ rfl
    rw [size_alloc] at this
    exact this
  have gb : Below w.heap.size w W := by rw [← hW]; exact ((Below.refl w.heap.size w).alloc (Nat.le_refl _) _).alloc (by simp) _
  clear hW
  refine wp_region_noPanic ?_
  refine wp_region_held_drew (S := fun wx => Has wx w.heap.size 26 (bv key) 32 ∧ (∃ f, Has wx (w.heap.size + 1) 26 f 32) ∧ Below w.heap.size w wx) (by kernel_rfl) ⟨g0, ⟨_, g1⟩, gb.drew⟩ (fun hHeld => ?_)
  refine takeH 0 (some 5) (.agg (tabv (bv key) 32)) rfl rfl (by kernel_rfl) (by kernel_rfl) (by kernel_rfl) (fun _ _ _ h => h) (by rfl) (fun w hw => run_load_part w 26 _ rfl _ 0 rfl 26 _ 32 32 _ hw.1 (by omega) Tryd.underlying26 rfl info26 (bv key) (fun i _ => by rw [Nat.zero_add])) hHeld ?_
  simp only [Act.put, List.setIfInBounds_toArray, List.set_cons_zero, List.set_cons_succ]
  refine takeH 2 (some 7) (.agg (tabv (bv key) 32)) rfl rfl (by kernel_rfl) (by kernel_rfl) (by kernel_rfl) (fun _ _ _ h => h) (by rfl) (fun w hw => run_load_part w 26 _ rfl _ 0 rfl 26 _ 32 32 _ hw.1 (by omega) Tryd.underlying26 rfl info26 (bv key) (fun i _ => by rw [Nat.zero_add])) hHeld ?_
  simp only [Act.put, List.setIfInBounds_toArray, List.set_cons_zero, List.set_cons_succ]
  refine takeH 4 (some 9) (.string s) rfl rfl (by kernel_rfl) (by kernel_rfl) (by kernel_rfl) (fun _ _ _ h => h) (by rfl) (fun w hw => by first | (go_simp; done) | (go_simp; omega) | (go_simp; go_num; done) | rfl) hHeld ?_
  simp only [Act.put, List.setIfInBounds_toArray, List.set_cons_zero, List.set_cons_succ]
  refine wpAnyH_ready (rs := [1]) (by kernel_rfl) (by simp) (AllReadyH.cons rfl (fun K hK => ?_) AllReadyH.nil)
  rw [if_pos (by rfl)]
  go_simp
  refine (A2.out _).mono ?_
  rintro e w5 ⟨rfl, hb5⟩
  try go_wp2_with fail
  refine hK.out _ _ (⟨hHeld.1.below hb5 hHeld.1.lt, hHeld.2.1.imp (fun f h => h.below hb5 h.lt), hHeld.2.2.trans (hb5.mono hHeld.2.2.size)⟩) (fun hHeld => ?_)
  clear hK K
  refine wpAnyH_ready (rs := [3]) (by kernel_rfl) (by simp) (AllReadyH.cons rfl (fun K hK => ?_) AllReadyH.nil)
  rw [if_pos (by rfl)]
  go_simp
  refine (A1.out _).mono ?_
  rintro e w5 ⟨rfl, hb5⟩
  try go_wp2_with fail
  refine hK.out _ _ (⟨hHeld.1.below hb5 hHeld.1.lt, hHeld.2.1.imp (fun f h => h.below hb5 h.lt), hHeld.2.2.trans (hb5.mono hHeld.2.2.size)⟩) (fun hHeld => ?_)
  clear hK K
  refine takeH 5 (some 10) (.string (P1 ++ s)) rfl rfl (by kernel_rfl) (by kernel_rfl) (by kernel_rfl) (fun _ _ _ h => h) (by rfl) (fun w hw => by first | (go_simp; done) | (go_simp; omega) | (go_simp; go_num; done) | rfl) hHeld ?_
  simp only [Act.put, List.setIfInBounds_toArray, List.set_cons_zero, List.set_cons_succ]
  refine wpAnyH_ready (rs := [6]) (by kernel_rfl) (by simp) (AllReadyH.cons rfl (fun K hK => ?_) AllReadyH.nil)
  rw [if_pos (by rfl)]
  go_simp
  refine (A3.out _).mono ?_
  rintro e w5 ⟨rfl, hb5⟩
  try go_wp2_with fail
  refine hK.out _ _ (⟨hHeld.1.below hb5 hHeld.1.lt, hHeld.2.1.imp (fun f h => h.below hb5 h.lt), hHeld.2.2.trans (hb5.mono hHeld.2.2.size)⟩) (fun hHeld => ?_)
  clear hK K
  refine wpAnyH_ready (rs := [7]) (by kernel_rfl) (by simp) (AllReadyH.cons rfl (fun K hK => ?_) AllReadyH.nil)
  rw [if_pos (by rfl)]
  go_simp
  refine (A4.out _).mono ?_
  rintro e w5 ⟨rfl, hb5⟩
  try go_wp2_with fail
  refine hK.out _ _ (⟨hHeld.1.below hb5 hHeld.1.lt, hHeld.2.1.imp (fun f h => h.below hb5 h.lt), hHeld.2.2.trans (hb5.mono hHeld.2.2.size)⟩) (fun hHeld => ?_)
  clear hK K
  refine takeH 8 (some 13) (.string (P2 ++ J)) rfl rfl (by kernel_rfl) (by kernel_rfl) (by kernel_rfl) (fun _ _ _ h => h) (by rfl) (fun w hw => by first | (go_simp; done) | (go_simp; omega) | (go_simp; go_num; done) | rfl) hHeld ?_
  simp only [Act.put, List.setIfInBounds_toArray, List.set_cons_zero, List.set_cons_succ]
  refine wpAnyH_ready (rs := [9]) (by kernel_rfl) (by simp) (AllReadyH.cons rfl (fun K hK => ?_) AllReadyH.nil)
  rw [if_pos (by rfl)]
  go_simp
  refine (A5.out _).mono ?_
  rintro e w5 ⟨rfl, hb5⟩
  try go_wp2_with fail
  refine hK.out _ _ (⟨hHeld.1.below hb5 hHeld.1.lt, hHeld.2.1.imp (fun f h => h.below hb5 h.lt), hHeld.2.2.trans (hb5.mono hHeld.2.2.size)⟩) (fun hHeld => ?_)
  clear hK K
  refine wpAnyH_ready (rs := [10]) (by kernel_rfl) (by simp) (AllReadyH.cons rfl (fun K hK => ?_) AllReadyH.nil)
  rw [if_pos (by rfl)]
  obtain ⟨f0, hf0⟩ := hHeld.2.1
  refine wp_store_part 26 _ _ rfl rfl (w.heap.size + 1) 0 (bv M) 32 rfl rfl 26 _ 32 hf0 (by omega) info26 (fun _ _ => rfl) (bv M) (fun i hi => by unfold splice; rw [if_pos (by omega), Nat.sub_zero]) ?_
  have hfin := hf0.row (tabv (bv M) 32) (bv M) rfl
  have hfb := below_setRow hHeld.2.2 (show w.heap.size ≤ w.heap.size + 1 by omega) (tabv (bv M) 32)
  refine hK.out _ _ ⟨hHeld.1.row_other _ _ (by omega), ⟨_, hfin⟩, hfb⟩ (fun hHeld => ?_)
  clear hK K
  refine ⟨by kernel_rfl, ?_⟩
  refine NoPanic.normal ?_
  go_wp2
  exact bodyPost_ret (results_cell_row rfl _ _ (w.heap.size + 1) 26 _ (0, 0) _ rfl hfin Tryd.underlying26 rfl (by rw [tabv_size]; exact info26)) rfl ⟨rfl, hfb⟩
set_option maxHeartbeats 1600000 in
theorem hashMacs_walk (n : Num) (key : Nat → UInt8) (s : ByteArray) (w : World) (hG : Glob n w) (hs : s.size ≤ 140737488351232) :
    Calls Tryd.prog 8 #[.agg (tabv (bv key) 32), .string s] w fun e w' => e = .returned (.bool true) ∧ Below w.heap.size w w' := by
  have h0 : Has (w.alloc (.cells (tabv (bv key) 32) 26)) w.heap.size 26 (bv key) 32 := Has.new w 26 (bv key) 32 _ rfl
  have hb : Below w.heap.size w (w.alloc (.cells (tabv (bv key) 32) 26)) := (Below.refl w.heap.size w).alloc (Nat.le_refl _) _
  obtain ⟨M, hM⟩ : ∃ M, mac key s.data.toList = M := ⟨_, rfl⟩
  have hmac : ∀ w : World, Glob n w → Calls Tryd.prog 11 #[.agg (tabv (bv key) 32), .string s] w fun e w' => e = .returned (.agg (tabv (bv M) 32)) ∧ Below w.heap.size w w' := fun w h => by rw [← hM]; exact mac_any n key s w h (by omega)
  have href : ∀ w : World, Calls Tryd.prog 21 #[.agg (tabv (bv key) 32), .string s] w fun e w' => e = .returned (.agg (tabv (bv M) 32)) ∧ Below w.heap.size w w' := fun w => by rw [← hM]; exact refMac_any n key s w hs
  have A1 := hide hmac
  have A2 := hide href
  have H0 := hide h0
  have HB := hide hb
  clear h0 hb hmac href hM
  go_enter Tryd.func8, Tryd.ntmps8
  go_wp2_with (refine wpList_load_part rfl 26 _ rfl w.heap.size 0 rfl 26 _ 32 32 _ H0.out (by omega) Tryd.underlying26 rfl info26 (bv key) (fun i _ => by rw [Nat.zero_add]) ?_)
  refine (A1.out _ (hG.below HB.out hG.2.2)).mono ?_
  rintro e w1 ⟨rfl, hb1⟩
  have k0 := H0.out.below hb1 H0.out.lt
  have kb := HB.out.trans (hb1.mono HB.out.size)
  clear H0 HB hb1
  have hn := Has.new w1 26 (fun _ => .int .u8 0) 32 _ rfl
  have HN := hide hn
  clear hn
  go_wp2_with (refine wpList_store_part rfl 26 _ _ rfl rfl w1.heap.size 0 (bv M) 32 rfl rfl 26 _ 32 HN.out (by omega) info26 (fun _ _ => rfl) (bv M) (fun i hi => by unfold splice; rw [if_pos (by omega), Nat.sub_zero]) ?_)
  generalize hW : World.setRow (World.alloc w1 _) _ _ = w3
  have jb : Below w1.heap.size w1 w3 := by rw [← hW]; exact below_setRow ((Below.refl _ _).alloc (Nat.le_refl _) _) (Nat.le_refl _) _
  have j2 : Has w3 w1.heap.size 26 (bv M) 32 := by rw [← hW]; exact HN.out.row _ _ rfl
  have j0 := k0.below jb k0.lt
  have jbb := kb.trans (jb.mono kb.size)
  have jG := hG.below jbb hG.2.2
  clear hW HN k0 kb jb
  generalize w1.heap.size = g2 at j2 ⊢
  have hq : ∀ w : World, (Op.equalIn 10000 26 (.agg (tabv (bv M) 32)) (.agg (tabv (bv M) 32))).run Tryd.prog w = .ok true w := fun w => by rw [eq26, all_same]
  have hgt := guard26
  refine wp_region_noPanic ?_
  refine wp_region_held_drew (S := fun wx => Glob n wx ∧ Has wx w.heap.size 26 (bv key) 32 ∧ Has wx g2 26 (bv M) 32 ∧ Below w.heap.size w wx) (by kernel_rfl) ⟨jG, j0, j2, jbb.drew⟩ (fun hHeld => ?_)
  refine wpAnyH_ready (rs := [0]) (by kernel_rfl) (by simp) (AllReadyH.cons rfl (fun K hK => ?_) AllReadyH.nil)
  rw [if_pos (by rfl)]
  go_simp
  refine (first_any n _ hHeld.1).mono ?_
  rintro e w5 ⟨rfl, hb5⟩
  try go_wp2_with fail
  refine hK.out _ _ (⟨hHeld.1.below hb5 hHeld.1.2.2, hHeld.2.1.below hb5 hHeld.2.1.lt, hHeld.2.2.1.below hb5 hHeld.2.2.1.lt, hHeld.2.2.2.trans (hb5.mono hHeld.2.2.2.size)⟩) (fun hHeld => ?_)
  clear hK K
  refine takeH 1 (some 10) (.bool true) rfl rfl (by kernel_rfl) (by kernel_rfl) (by kernel_rfl) (fun _ _ _ h => h) (by rfl) (fun w hw => by first | (go_simp; done) | (go_simp; omega) | (go_simp; go_num; done) | rfl) hHeld ?_
  simp only [Act.put, List.setIfInBounds_toArray, List.set_cons_zero, List.set_cons_succ]
  refine takeH 2 (some 11) (.agg (tabv (bv M) 32)) rfl rfl (by kernel_rfl) (by kernel_rfl) (by kernel_rfl) (fun _ _ _ h => h) (by rfl) (fun w hw => run_load_part w 26 _ rfl g2 0 rfl 26 _ 32 32 _ hw.2.2.1 (by omega) Tryd.underlying26 rfl info26 (bv M) (fun i _ => by rw [Nat.zero_add])) hHeld ?_
  simp only [Act.put, List.setIfInBounds_toArray, List.set_cons_zero, List.set_cons_succ]
  refine takeH 3 (some 12) (.agg (tabv (bv key) 32)) rfl rfl (by kernel_rfl) (by kernel_rfl) (by kernel_rfl) (fun _ _ _ h => h) (by rfl) (fun w hw => run_load_part w 26 _ rfl _ 0 rfl 26 _ 32 32 _ hw.2.1 (by omega) Tryd.underlying26 rfl info26 (bv key) (fun i _ => by rw [Nat.zero_add])) hHeld ?_
  simp only [Act.put, List.setIfInBounds_toArray, List.set_cons_zero, List.set_cons_succ]
  refine takeH 4 (some 13) (.string s) rfl rfl (by kernel_rfl) (by kernel_rfl) (by kernel_rfl) (fun _ _ _ h => h) (by rfl) (fun w hw => by first | (go_simp; done) | (go_simp; omega) | (go_simp; go_num; done) | rfl) hHeld ?_
  simp only [Act.put, List.setIfInBounds_toArray, List.set_cons_zero, List.set_cons_succ]
  refine wpAnyH_ready (rs := [5]) (by kernel_rfl) (by simp) (AllReadyH.cons rfl (fun K hK => ?_) AllReadyH.nil)
  rw [if_pos (by rfl)]
  go_simp
  refine (A2.out _).mono ?_
  rintro e w5 ⟨rfl, hb5⟩
  try go_wp2_with fail
  refine hK.out _ _ (⟨hHeld.1.below hb5 hHeld.1.2.2, hHeld.2.1.below hb5 hHeld.2.1.lt, hHeld.2.2.1.below hb5 hHeld.2.2.1.lt, hHeld.2.2.2.trans (hb5.mono hHeld.2.2.2.size)⟩) (fun hHeld => ?_)
  clear hK K
  refine takeH 6 (some 15) (.bool true) rfl rfl (by kernel_rfl) (by kernel_rfl) (by kernel_rfl) (fun _ _ _ h => h) (by rfl) (fun w hw => by first | (go_simp; done) | (go_simp; omega) | (go_simp; go_num; done) | rfl) hHeld ?_
  simp only [Act.put, List.setIfInBounds_toArray, List.set_cons_zero, List.set_cons_succ]
  refine takeH 7 (some 16) (.bool true) rfl rfl (by kernel_rfl) (by kernel_rfl) (by kernel_rfl) (fun _ _ _ h => h) (by rfl) (fun w hw => by first | (go_simp; done) | (go_simp; omega) | (go_simp; go_num; done) | rfl) hHeld ?_
  simp only [Act.put, List.setIfInBounds_toArray, List.set_cons_zero, List.set_cons_succ]
  refine takeH 8 (some 4) (.bool true) rfl rfl (by kernel_rfl) (by kernel_rfl) (by kernel_rfl) (fun _ _ _ h => h) (by rfl) (fun w hw => by first | (go_simp; done) | (go_simp; omega) | (go_simp; go_num; done) | rfl) hHeld ?_
  simp only [Act.put, List.setIfInBounds_toArray, List.set_cons_zero, List.set_cons_succ]
  refine ⟨by kernel_rfl, ?_⟩
  refine NoPanic.normal ?_
  go_wp2
  go_ret
  exact ⟨rfl, hHeld.2.2.2⟩
end Go.Proofs.YtkhogpnmkonajaaDoor
