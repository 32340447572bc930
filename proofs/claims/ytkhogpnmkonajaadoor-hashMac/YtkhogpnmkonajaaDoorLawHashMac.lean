/-
  The walk of HashMac.
-/
import Derived.Test.YtkhogpnmkonajaaDoorBytesText
import Derived.Test.YtkhogpnmkonajaaDoorLawHashDigits
namespace Go.Proofs.YtkhogpnmkonajaaDoor
open Go.RowKit S
def ApartV (v u : Value) : Prop := ∀ b, v.ownBlock = some b → u.ownBlock ≠ some b
theorem apart_kept {w w' : World} {B : Nat} {v u : Value} {l : List UInt8} (h : Bytes w B u l) (hg : w.grownBy w' v.ownBlock) (ha : ApartV v u) : Bytes w' B u l :=
  World.ownsRow.kept h hg (by
    cases hu : u.ownBlock with
    | none => exact .inl rfl
    | some b => exact .inr fun e => ha b e.symm hu)
theorem bytes_below {w w' : World} {B : Nat} {v : Value} {l : List UInt8} (h : Bytes w B v l) (hb : Below w.heap.size w w') : Bytes w' B v l :=
  World.ownsRow.kept (row := none) h ⟨hb.os, hb.tape, hb.output, hb.size, fun i hi _ => hb.block i hi⟩ (by cases v.ownBlock <;> simp)
theorem flat_three (s t u : ByteArray) : flat [s, t, u] = s.data.toList ++ (t.data.toList ++ u.data.toList) := by simp [flat]
attribute [local go_sem ↓] Go.wp_at_zero Go.wp_at_succ
set_option maxHeartbeats 1600000 in
theorem hashMac_num (n : Num) (key : Nat → UInt8) (s t : ByteArray) (w : World) (hG : Glob n w) (hs : s.size ≤ 140737488351232) (ht : t.size ≤ 140737488351232) :
    Calls Tryd.prog 4 #[.agg (tabv (bv key) 32), .string s, .string t] w fun e w' => e = .returned (.bool true) ∧ Below w.heap.size w w' := by
  have h0 : Has (w.alloc (.cells (tabv (bv key) 32) 26)) w.heap.size 26 (bv key) 32 := Has.new w 26 (bv key) 32 _ rfl
  have hb : Below w.heap.size w (w.alloc (.cells (tabv (bv key) 32) 26)) := (Below.refl w.heap.size w).alloc (Nat.le_refl _) _
  have H0 := hide h0
  have HB := hide hb
  clear h0 hb
  go_enter Tryd.func4, Tryd.ntmps4
  go_wp2_with fail
  refine (first_any n _ (hG.below HB.out hG.2.2)).mono ?_
  rintro e w1 ⟨rfl, hb1⟩
  have k0 := H0.out.below hb1 H0.out.lt
  have kb := HB.out.trans (hb1.mono HB.out.size)
  have ks : w.heap.size + 1 ≤ w1.heap.size := k0.lt
  clear H0 HB hb1
  go_wp2
  go_loopw [9, 7, 8] (fun i v u wr => ∃ k : Nat, k ≤ 64 ∧ i = .int .i64 k ∧ Bytes wr (w.heap.size + 1) v ((List.range k).map (keyed key 54)) ∧ Bytes wr (w.heap.size + 1) u ((List.range k).map (keyed key 92)) ∧ ApartV v u ∧ Has wr w.heap.size 26 (bv key) 32 ∧ Below w.heap.size w wr ∧ w.heap.size + 1 ≤ wr.heap.size) (fun i _ _ _ => 64 - (intOf i).toNat)
  case atStart => exact ⟨0, by omega, rfl, Bytes.nil _ _, Bytes.nil _ _, (fun b h => by cases h), k0, kb, ks⟩
  case round =>
    clear k0 kb ks
    obtain ⟨k, hk, rfl, hV, hU, hap, g0, gb, gs⟩ := hrel
    by_cases hlt : k < 64
    · have hd : decide ((k : Int) < 64) = true := by simp; omega
      have fin : ∀ (g cap g2 cap2 : Nat) (w5 w6 : World) (v u : Value), Bytes wr (w.heap.size + 1) v ((List.range k).map (keyed key 54)) → Bytes wr (w.heap.size + 1) u ((List.range k).map (keyed key 92)) → ApartV v u →
          Bytes w5 (w.heap.size + 1) (.slice (some ⟨g, 0, none⟩) (((List.range k).map (keyed key 54)).length + 1) cap) ((List.range k).map (keyed key 54) ++ [keyed key 54 k]) → wr.grownBy w5 v.ownBlock → (v.ownBlock = some g ∨ g = wr.heap.size + 1) →
          Bytes w6 (w.heap.size + 1) (.slice (some ⟨g2, 0, none⟩) (((List.range k).map (keyed key 92)).length + 1) cap2) ((List.range k).map (keyed key 92) ++ [keyed key 92 k]) → w5.grownBy w6 u.ownBlock → (u.ownBlock = some g2 ∨ g2 = w5.heap.size + 1) →
          Bytes w6 (w.heap.size + 1) (.slice (some ⟨g, 0, none⟩) (k + 1) cap) ((List.range (k + 1)).map (keyed key 54)) ∧ Bytes w6 (w.heap.size + 1) (.slice (some ⟨g2, 0, none⟩) (k + 1) cap2) ((List.range (k + 1)).map (keyed key 92)) ∧ ApartV (.slice (some ⟨g, 0, none⟩) (k + 1) cap) (.slice (some ⟨g2, 0, none⟩) (k + 1) cap2) ∧ Has w6 w.heap.size 26 (bv key) 32 ∧ Below w.heap.size w w6 ∧ w.heap.size + 1 ≤ w6.heap.size := by
        intro g cap g2 cap2 w5 w6 v u hV hU hap hV5 hgr hg hU6 hgr2 hg2
        have hb5 := grown_below (B := w.heap.size + 1) hgr hV.block gs
        have hU5 := apart_kept hU hgr hap
        have hb6 := grown_below (B := w.heap.size + 1) hgr2 hU.block (Nat.le_trans gs hb5.size)
        have hgl : g < w5.heap.size := (World.ownsRow.lt hV5 g rfl).2
        have hap5 : ApartV u (.slice (some ⟨g, 0, none⟩) (((List.range k).map (keyed key 54)).length + 1) cap) := fun b hb e => by
          simp only [Value.ownBlock, Option.some.injEq] at e
          subst e
          rcases hg with h | h
          · exact hap g h hb
          · have := (World.ownsRow.lt hU g hb).2; omega
        have hV6 := apart_kept hV5 hgr2 hap5
        rw [range_snoc, List.length_map, List.length_range] at hV6 hU6
        refine ⟨hV6, hU6, fun b hb e => ?_, (g0.below hb5 (by omega)).below hb6 (by omega), gb.trans ((hb5.trans hb6).mono (by omega)), Nat.le_trans gs (Nat.le_trans hb5.size hb6.size)⟩
        simp only [Value.ownBlock, Option.some.injEq] at hb e
        rw [← hb] at e
        rcases hg2 with h | h
        · exact hap5 g2 h (by rw [e]; rfl)
        · omega
      have F := hide fin
      clear fin
      by_cases h32 : k < 32
      · have hc := g0.cell k h32
        simp only [bv] at hc
        have hd2 : decide ((k : Int) < 32) = true := by simp; omega
        have hx : bits .xor .u8 ((key k).toNat : Int) 54 = ((keyed key 54 k).toNat : Int) := by unfold keyed; rw [if_pos h32]; exact u8_xor_byte _ 54
        have hy : bits .xor .u8 ((key k).toNat : Int) 92 = ((keyed key 92 k).toNat : Int) := by unfold keyed; rw [if_pos h32]; exact u8_xor_byte _ 92
        go_wp2_with (at_builtin; first | (refine wpList_append_byte rfl _ _ rfl (w.heap.size + 1) _ ((List.range k).map (keyed key 54)) (keyed key 54 k) _ rfl (by rfl) hV (by rfl) rfl (by simp; omega) gs ?_; intro g cap w5 hV5 hgr hg) | (refine wpList_append_byte rfl _ _ rfl (w.heap.size + 1) _ ((List.range k).map (keyed key 92)) (keyed key 92 k) _ rfl (by rfl) (apart_kept hU hgr hap) (by rfl) rfl (by simp; omega) (Nat.le_trans gs hgr.size) ?_; intro g2 cap2 w6 hU6 hgr2 hg2))
        go_roundw
        case rel => exact ⟨k + 1, by omega, by go_num, F.out g cap g2 cap2 w5 w6 _ _ hV hU hap hV5 hgr hg hU6 hgr2 hg2⟩
        case measure => simp [intOf]; omega
      · have hd2 : decide ((k : Int) < 32) = false := by simp; omega
        have hx : bits .xor .u8 0 54 = ((keyed key 54 k).toNat : Int) := by unfold keyed; rw [if_neg h32]; rfl
        have hy : bits .xor .u8 0 92 = ((keyed key 92 k).toNat : Int) := by unfold keyed; rw [if_neg h32]; rfl
        go_wp2_with (at_builtin; first | (refine wpList_append_byte rfl _ _ rfl (w.heap.size + 1) _ ((List.range k).map (keyed key 54)) (keyed key 54 k) _ rfl (by rfl) hV (by rfl) rfl (by simp; omega) gs ?_; intro g cap w5 hV5 hgr hg) | (refine wpList_append_byte rfl _ _ rfl (w.heap.size + 1) _ ((List.range k).map (keyed key 92)) (keyed key 92 k) _ rfl (by rfl) (apart_kept hU hgr hap) (by rfl) rfl (by simp; omega) (Nat.le_trans gs hgr.size) ?_; intro g2 cap2 w6 hU6 hgr2 hg2))
        go_roundw
        case rel => exact ⟨k + 1, by omega, by go_num, F.out g cap g2 cap2 w5 w6 _ _ hV hU hap hV5 hgr hg hU6 hgr2 hg2⟩
        case measure => simp [intOf]; omega
    · have hk64 : k = 64 := by omega
      subst hk64
      obtain ⟨gv, cv, rfl, _, _⟩ := World.ownsRow.form hV (by simp)
      obtain ⟨gu, cu, rfl, _, _⟩ := World.ownsRow.form hU (by simp)
      rw [show ((List.range 64).map (keyed key 54)).length = 64 by simp] at hV ⊢
      rw [show ((List.range 64).map (keyed key 92)).length = 64 by simp] at hU ⊢
      have hcv := hV.conv (by simp)
      rw [show ((List.range 64).map (keyed key 54)) = keyL key 54 from rfl] at hcv
      obtain ⟨sv, hsv⟩ : ∃ sv : ByteArray, ⟨(keyL key 54).toArray⟩ = sv := ⟨_, rfl⟩
      have hsvl : sv.data.toList = keyL key 54 := by rw [← hsv]
      have hsvz : sv.size = 64 := by rw [← str_len, hsvl]; simp [keyL]
      rw [hsv] at hcv
      have HV := hide hsvl
      clear hsvl hsv
      go_wp2_with fail
      have mb : Below wr.heap.size wr (wr.alloc (.cells #[.string sv, .string s, .string t] 9)) := (Below.refl _ _).alloc (Nat.le_refl _) _
      have gG := hG.below gb hG.2.2
      refine (sum_any n (some ⟨wr.heap.size, 0, none⟩) 3 [sv, s, t] _ (gG.below mb gG.2.2) (Strs.mk wr 9 [sv, s, t]) (by rw [flat_three, List.length_append, List.length_append, str_len, str_len, str_len]; omega) (by simp)).mono ?_
      rintro e w2 ⟨rfl, hb2⟩
      rw [flat_three, HV.out]
      have mb2 := mb.trans (hb2.mono mb.size)
      have k0 := g0.below mb2 g0.lt
      have kb := gb.trans (mb2.mono gb.size)
      have kU : Bytes w2 (w.heap.size + 1) (.slice (some ⟨gu, 0, none⟩) 64 cu) ((List.range 64).map (keyed key 92)) := World.ownsRow.kept hU ⟨mb2.os, mb2.tape, mb2.output, mb2.size, fun i hi _ => mb2.block i hi⟩ (.inr (by simp [Value.ownBlock]) : _ ∨ Value.ownBlock _ ≠ none)
      have kG := hG.below kb hG.2.2
      clear mb mb2 hb2 g0 gb hU hV gG hcv hap
      obtain ⟨I, hI⟩ : ∃ I, sha (keyL key 54 ++ (s.data.toList ++ t.data.toList)) = I := ⟨_, rfl⟩
      rw [hI]
      have HI := hide hI
      clear hI
      have hn := Has.new w2 26 (fun _ => .int .u8 0) 32 _ rfl
      have HN := hide hn
      clear hn
      go_wp2_with (refine wpList_store_part rfl 26 _ _ rfl rfl w2.heap.size 0 (bv I) 32 rfl rfl 26 _ 32 HN.out (by omega) info26 (fun _ _ => rfl) (bv I) (fun i hi => by unfold splice; rw [if_pos (by omega), Nat.sub_zero]) ?_)
      generalize hW : World.setRow (World.alloc w2 _) _ _ = w3
      have jb : Below w2.heap.size w2 w3 := by rw [← hW]; exact below_setRow ((Below.refl _ _).alloc (Nat.le_refl _) _) (Nat.le_refl _) _
      have j2 : Has w3 w2.heap.size 26 (bv I) 32 := by rw [← hW]; exact HN.out.row _ _ rfl
      have j0 := k0.below jb k0.lt
      have jU : Bytes w3 (w.heap.size + 1) (.slice (some ⟨gu, 0, none⟩) 64 cu) ((List.range 64).map (keyed key 92)) := World.ownsRow.kept kU ⟨jb.os, jb.tape, jb.output, jb.size, fun i hi _ => jb.block i hi⟩ (.inr (by simp [Value.ownBlock]) : _ ∨ Value.ownBlock _ ≠ none)
      have jbb := kb.trans (jb.mono kb.size)
      have jG := hG.below jbb hG.2.2
      clear hW HN k0 kb kU kG jb
      generalize w2.heap.size = g2 at j2 ⊢
      have hmac : ∀ w' : World, Glob n w' → Calls Tryd.prog 11 #[.agg (tabv (bv key) 32), .string (s ++ t)] w' fun e w2 => e = .returned (.agg (tabv (bv (mac key (s ++ t).data.toList)) 32)) ∧ Below w'.heap.size w' w2 := fun w' h => mac_any n key (s ++ t) w' h (by rw [ByteArray.size_append]; omega)
      obtain ⟨M, hM⟩ : ∃ M, mac key (s ++ t).data.toList = M := ⟨_, rfl⟩
      rw [hM] at hmac
      obtain ⟨su, hsu⟩ : ∃ su : ByteArray, ⟨(keyL key 92).toArray⟩ = su := ⟨_, rfl⟩
      have hsul : su.data.toList = keyL key 92 := by rw [← hsu]
      have hsum : ∀ w' : World, Glob n w' → Calls Tryd.prog 10 #[.slice (some ⟨w'.heap.size, 0, none⟩) 2 2] (w'.alloc (.cells #[.string su, .string (strOf I 32)] 9)) fun e w2 => e = .returned (.agg (tabv (bv M) 32)) ∧ Below w'.heap.size w' w2 := fun w' h => by
        have mb : Below w'.heap.size w' (w'.alloc (.cells #[.string su, .string (strOf I 32)] 9)) := (Below.refl _ _).alloc (Nat.le_refl _) _
        refine (sum_any n (some ⟨w'.heap.size, 0, none⟩) 2 [su, strOf I 32] _ (h.below mb h.2.2) (Strs.mk w' 9 [su, strOf I 32]) (by rw [flat_two, List.length_append, str_len, str_len, strOf_size, ← str_len, hsul]; simp [keyL]) (by simp)).mono ?_
        rintro e w5 ⟨rfl, hb5⟩
        refine ⟨?_, mb.trans (hb5.mono mb.size)⟩
        rw [← hM, flat_two, hsul, strOf_list]
        unfold mac shaL
        rw [ByteArray.data_append, Array.toList_append, HI.out]
      have hconv : ∀ w' : World, Bytes w' (w.heap.size + 1) (.slice (some ⟨gu, 0, none⟩) 64 cu) ((List.range 64).map (keyed key 92)) → (convert 29 9 (.slice (some ⟨gu, 0, none⟩) 64 cu)).run Tryd.prog w' = .ok (.string su) w' := fun w' h => by
        rw [h.conv (by simp), ← hsu]; rfl
      have HM := hide hmac
      have HSm := hide hsum
      have HCv := hide hconv
      have hq : ∀ w : World, (Op.equalIn 10000 26 (.agg (tabv (bv M) 32)) (.agg (tabv (bv M) 32))).run Tryd.prog w = .ok true w := fun w => by rw [eq26, all_same]
      have hgt := guard26
      clear hmac hsum hconv hsul hsu hM
      refine wp_region_noPanic ?_
      refine wp_region_held_drew (S := fun wx => Glob n wx ∧ Has wx w.heap.size 26 (bv key) 32 ∧ Has wx g2 26 (bv I) 32 ∧ Bytes wx (w.heap.size + 1) (.slice (some ⟨gu, 0, none⟩) 64 cu) ((List.range 64).map (keyed key 92)) ∧ Below w.heap.size w wx) (by kernel_rfl) ⟨jG, j0, j2, jU, jbb.drew⟩ (fun hHeld => ?_)
      refine takeH 0 (some 39) (.agg (tabv (bv key) 32)) rfl rfl (by kernel_rfl) (by kernel_rfl) (by kernel_rfl) (fun _ _ _ h => h) (by rfl) (fun w hw => run_load_part w 26 _ rfl _ 0 rfl 26 _ 32 32 _ hw.2.1 (by omega) Tryd.underlying26 rfl info26 (bv key) (fun i _ => by rw [Nat.zero_add])) hHeld ?_
      simp only [Act.put, List.setIfInBounds_toArray, List.set_cons_zero, List.set_cons_succ]
      refine takeH 1 (some 40) (.string s) rfl rfl (by kernel_rfl) (by kernel_rfl) (by kernel_rfl) (fun _ _ _ h => h) (by rfl) (fun w hw => by first | (go_simp; done) | (go_simp; omega) | (go_simp; go_num; done) | rfl) hHeld ?_
      simp only [Act.put, List.setIfInBounds_toArray, List.set_cons_zero, List.set_cons_succ]
      refine takeH 2 (some 41) (.string t) rfl rfl (by kernel_rfl) (by kernel_rfl) (by kernel_rfl) (fun _ _ _ h => h) (by rfl) (fun w hw => by first | (go_simp; done) | (go_simp; omega) | (go_simp; go_num; done) | rfl) hHeld ?_
      simp only [Act.put, List.setIfInBounds_toArray, List.set_cons_zero, List.set_cons_succ]
      refine takeH 3 (some 42) (.string (s ++ t)) rfl rfl (by kernel_rfl) (by kernel_rfl) (by kernel_rfl) (fun _ _ _ h => h) (by rfl) (fun w hw => by first | (go_simp; done) | (go_simp; omega) | (go_simp; go_num; done) | rfl) hHeld ?_
      simp only [Act.put, List.setIfInBounds_toArray, List.set_cons_zero, List.set_cons_succ]
      refine takeH 5 (some 44) (.slice (some ⟨gu, 0, none⟩) 64 cu) rfl rfl (by kernel_rfl) (by kernel_rfl) (by kernel_rfl) (fun _ _ _ h => h) (by rfl) (fun w hw => by first | (go_simp; done) | (go_simp; omega) | (go_simp; go_num; done) | rfl) hHeld ?_
      simp only [Act.put, List.setIfInBounds_toArray, List.set_cons_zero, List.set_cons_succ]
      refine takeH 6 (some 45) (.string su) rfl rfl (by kernel_rfl) (by kernel_rfl) (by kernel_rfl) (fun _ _ _ h => h) (by rfl) (fun w hw => by have hcv := HCv.out w hw.2.2.2.1; go_simp) hHeld ?_
      simp only [Act.put, List.setIfInBounds_toArray, List.set_cons_zero, List.set_cons_succ]
      refine takeH 7 (some 46) (.agg (tabv (bv I) 32)) rfl rfl (by kernel_rfl) (by kernel_rfl) (by kernel_rfl) (fun _ _ _ h => h) (by rfl) (fun w hw => run_load_part w 26 _ rfl g2 0 rfl 26 _ 32 32 _ hw.2.2.1 (by omega) Tryd.underlying26 rfl info26 (bv I) (fun i _ => by rw [Nat.zero_add])) hHeld ?_
      simp only [Act.put, List.setIfInBounds_toArray, List.set_cons_zero, List.set_cons_succ]
      refine wpAnyH_ready (rs := [4]) (by kernel_rfl) (by simp) (AllReadyH.cons rfl (fun K hK => ?_) AllReadyH.nil)
      rw [if_pos (by rfl)]
      go_simp
      refine (HM.out _ hHeld.1).mono ?_
      rintro e w5 ⟨rfl, hb5⟩
      try go_wp2_with fail
      refine hK.out _ _ (⟨hHeld.1.below hb5 hHeld.1.2.2, hHeld.2.1.below hb5 hHeld.2.1.lt, hHeld.2.2.1.below hb5 hHeld.2.2.1.lt, bytes_below hHeld.2.2.2.1 hb5, hHeld.2.2.2.2.trans (hb5.mono hHeld.2.2.2.2.size)⟩) (fun hHeld => ?_)
      clear hK K
      refine wpAnyH_ready (rs := [8]) (by kernel_rfl) (by simp) (AllReadyH.cons rfl (fun K hK => ?_) AllReadyH.nil)
      rw [if_pos (by rfl)]
      go_simp
      refine (lawBytes_any I _).mono ?_
      rintro e w5 ⟨rfl, hb5⟩
      try go_wp2_with fail
      refine hK.out _ _ (⟨hHeld.1.below hb5 hHeld.1.2.2, hHeld.2.1.below hb5 hHeld.2.1.lt, hHeld.2.2.1.below hb5 hHeld.2.2.1.lt, bytes_below hHeld.2.2.2.1 hb5, hHeld.2.2.2.2.trans (hb5.mono hHeld.2.2.2.2.size)⟩) (fun hHeld => ?_)
      clear hK K
      refine wpAnyH_ready (rs := [9]) (by kernel_rfl) (by simp) (AllReadyH.cons rfl (fun K hK => ?_) AllReadyH.nil)
      rw [if_pos (by rfl)]
      go_simp
      have hmb : ∀ wz : World, Below wz.heap.size wz (wz.alloc (.cells #[.string su, .string (strOf I 32)] 9)) := fun wz => (Below.refl _ _).alloc (Nat.le_refl _) _
      have hs5 := HSm.out _ hHeld.1
      have S5 := hide hs5
      clear hs5
      have hH5 := hHeld
      refine hK.out _ _ ⟨hHeld.1.below (hmb _) hHeld.1.2.2, hHeld.2.1.old _, hHeld.2.2.1.old _, bytes_below hHeld.2.2.2.1 (hmb _), hHeld.2.2.2.2.alloc hHeld.2.2.2.2.size _⟩ (fun hHeld => ?_)
      clear hK K hHeld
      have hHeld := hH5
      refine wpAnyH_ready (rs := [10]) (by kernel_rfl) (by simp) (AllReadyH.cons rfl (fun K hK => ?_) AllReadyH.nil)
      rw [if_pos (by rfl)]
      go_simp
      refine (S5.out).mono ?_
      rintro e w5 ⟨rfl, hb5⟩
      try go_wp2_with fail
      refine hK.out _ _ (⟨hHeld.1.below hb5 hHeld.1.2.2, hHeld.2.1.below hb5 hHeld.2.1.lt, hHeld.2.2.1.below hb5 hHeld.2.2.1.lt, bytes_below hHeld.2.2.2.1 hb5, hHeld.2.2.2.2.trans (hb5.mono hHeld.2.2.2.2.size)⟩) (fun hHeld => ?_)
      clear hK K
      refine takeH 11 (some 50) (.bool true) rfl rfl (by kernel_rfl) (by kernel_rfl) (by kernel_rfl) (fun _ _ _ h => h) (by rfl) (fun w hw => by first | (go_simp; done) | (go_simp; omega) | (go_simp; go_num; done) | rfl) hHeld ?_
      simp only [Act.put, List.setIfInBounds_toArray, List.set_cons_zero, List.set_cons_succ]
      refine takeH 12 (some 6) (.bool true) rfl rfl (by kernel_rfl) (by kernel_rfl) (by kernel_rfl) (fun _ _ _ h => h) (by rfl) (fun w hw => by first | (go_simp; done) | (go_simp; omega) | (go_simp; go_num; done) | rfl) hHeld ?_
      simp only [Act.put, List.setIfInBounds_toArray, List.set_cons_zero, List.set_cons_succ]
      refine ⟨by kernel_rfl, ?_⟩
      refine NoPanic.normal ?_
      go_wp2
      go_ret
      exact ⟨rfl, hHeld.2.2.2.2⟩
theorem hashMac_walk (n : Num) (f : Nat → UInt8) (s t : ByteArray) (w : World) (hG : Glob n w) (hs : s.size ≤ 140737488351232) (ht : t.size ≤ 140737488351232) :
    Calls Tryd.prog 4 #[.agg (tabv (bv f) 32), .string s, .string t] w fun e w' => e = .returned (.bool true) ∧ Below w.heap.size w w' := hashMac_num n f s t w hG hs ht
end Go.Proofs.YtkhogpnmkonajaaDoor
