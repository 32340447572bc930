/-
  SameDisk: two disks that tell the same (printed by gen_same.py).
-/
import Derived.Test.YtobfijpfdibccaaGreatKRef2
namespace Go.Proofs.YtobfijpfdibccaaGreat
open Go.RowKit Go.Maps Go.WideMaps
set_option linter.unusedVariables false
theorem krowOf {B : Nat} {w : World} {L : List Item} {i : Nat} {e : TypeId} {v : Value} {xs : List Value} (h : Lies B w L) (hi : L[i]? = some (.row e v xs)) : w.ownsRow 0 e 1 v xs.length xs := by
  obtain ⟨S, hp, _⟩ := h.get hi
  exact hp.1
section
variable {B : Nat} {w : World} {L : List Item} {i j p r : Nat} {A : AD}
set_option maxRecDepth 100000 in
set_option maxHeartbeats 8000000 in
theorem sameDisk_any (h : Lies B w L) (hi : L[i]? = some (.disk p A)) (hj : L[j]? = some (.ref r A)) :
    Calls Tryz.prog 8 #[.pointer (some ⟨p, 0, none⟩), .pointer (some ⟨r, 0, none⟩)] w fun e w' => e = .returned (.bool true) ∧ Lies B w' L ∧ Below B w w' := by
  have hok := h.ok hi
  have hll := list_len hok
  have hc := r_list h hj hok
  have hnm : ∀ k ∈ A.list, k.length ≤ 32 := fun k hk => by
    unfold AD.list at hk
    split at hk
    · simp at hk
    · obtain ⟨q, hq, rfl⟩ := List.mem_map.1 hk
      have := hok.names q hq
      rw [nameOk_eq, Bool.and_eq_true, Bool.and_eq_true, decide_eq_true_iff, decide_eq_true_iff] at this
      exact this.1.2
  obtain ⟨ks, hks⟩ : ∃ ks, A.list = ks := ⟨_, rfl⟩
  rw [hks] at hc hll hnm
  have db : (ks == ks) = true := by simp
  have hlk : (ks.map encStr).length = ks.length := List.length_map ..
  have HI := hide hi
  have HJ := hide hj
  have HOK := hide hok
  have HKS := hide hks
  have HLL := hide hll
  have HNM := hide hnm
  unfold maxLen at hll
  obtain ⟨US, hus⟩ : ∃ u : Int, (fused A.fs : Int) = u := ⟨_, rfl⟩
  have HUS := hide hus
  obtain ⟨off, hoff⟩ : ∃ b, A.pow.off = b := ⟨_, rfl⟩
  have HOFF := hide hoff
  clear h hi hj hok hks hnm hus hoff
  go_enter Tryz.func8, Tryz.ntmps8
  go_wp2_with fail
  refine hc.mono ?_
  rintro e w1 ⟨v1, rfl, hr, h, hb⟩
  rw [hlk] at hr
  obtain ⟨ad1, cap1, e1, hr1, _, _⟩ := row_at hr
  subst e1
  have HB1 := hide hb
  have hc2 := s_list h (get_push HI.out)
  rw [HKS.out] at hc2
  clear h hb hr hc hr1
  go_wp2_with fail
  refine hc2.mono ?_
  rintro e w2 ⟨v2, rfl, hr, h, hb⟩
  rw [hlk] at hr
  obtain ⟨ad2, cap2, e2, hr2, _, _⟩ := row_at hr
  subst e2
  have hr1 := krowOf h (get_push (get_last L _))
  rw [hlk] at hr1
  obtain ⟨_, _, en, hr1', _, _⟩ := row_at hr1
  cases en
  have HB2 := hide (HB1.out.trans hb)
  have hc3 := sameTexts_any w2 ad2 ad1 cap2 cap1 ks ks hr2 hr1' HLL.out HLL.out
  rw [db] at hc3
  have H2 := hide h.drop
  clear h hb hr hr1 hr1' hr2 hc2 HB1
  go_wp2_with fail
  refine hc3.mono ?_
  rintro e w3 ⟨rfl, hb⟩
  have h3 := H2.out.below hb
  have HB3 := hide (HB2.out.trans (hb.mono H2.out.base))
  have H3 := hide h3
  have hc4 := s_off h3 (get_push HI.out)
  have hc5 := r_off h3 (get_push HJ.out)
  rw [HOFF.out] at hc4 hc5
  clear hb h3 hc3 H2 HB2
  go_wp2_with fail
  refine hc4.mono ?_
  rintro e w4 ⟨rfl, hw⟩
  obtain rfl := hw.symm
  clear hw hc4
  go_wp2_with fail
  refine hc5.mono ?_
  rintro e w5 ⟨rfl, hw⟩
  obtain rfl := hw.symm
  clear hw hc5
  have hc6 := s_used H3.out (get_push HI.out)
  rw [HUS.out] at hc6
  go_wp2_with fail
  refine hc6.mono ?_
  rintro e w6 ⟨rfl, h, hb⟩
  have HB6 := hide (HB3.out.trans hb)
  have H6 := hide h
  have hc7 := r_used h (get_push HJ.out) HOK.out
  rw [HUS.out] at hc7
  clear h hb hc6 H3 HB3
  go_wp2_with fail
  refine hc7.mono ?_
  rintro e w7 ⟨rfl, hw⟩
  obtain rfl := hw.symm
  clear hw hc7
  go_wp2
  go_loopw [6] (fun i wr => ∃ k : Nat, k ≤ ks.length ∧ i = .int .i64 (k : Int) ∧ Lies B wr (L ++ [.row 9 (.slice ad1 ks.length cap1) (ks.map encStr)]) ∧ Below B w wr) (fun i _ => ks.length - (intOf i).toNat)
  case atStart => exact ⟨0, by omega, rfl, H6.out, HB6.out⟩
  case round =>
    clear H6 HB6
    obtain ⟨k, hk, rfl, hlr, hbr⟩ := hrel
    by_cases hlt : k < ks.length
    · have dk : decide ((k : Int) < (ks.length : Int)) = true := decide_eq_true (by omega)
      have hk0 : (0 : Int) ≤ (k : Int) := by omega
      have hk1 : (k : Int) < (ks.length : Int) := by omega
      have cellOf : ∀ w', Lies B w' (L ++ [.row 9 (.slice ad1 ks.length cap1) (ks.map encStr)]) → ∃ b o, ad1 = some ⟨b, o, none⟩ ∧ w'.cell? ⟨b, o + k, none⟩ = some (.string ⟨ks[k].toArray⟩) := fun w' h => by
        have hr := krowOf h (get_last L _)
        rw [hlk] at hr
        obtain ⟨ad', cap', en, hr', _, _⟩ := row_at hr
        cases en
        rcases hr' with h0 | ⟨b, o, e, hbl, hcs⟩
        · rw [List.map_eq_nil_iff.1 h0] at hlt; exact absurd hlt (by simp)
        · exact ⟨b, o, e, by rw [hcs k (by simpa using hlt), List.getElem?_map, List.getElem?_eq_getElem hlt]; rfl⟩
      have hxs : ks[k].length ≤ 32 := HNM.out _ (List.getElem_mem hlt)
      obtain ⟨x, hx⟩ : ∃ x : ByteArray, x = ⟨ks[k].toArray⟩ := ⟨_, rfl⟩
      have hxz : x.size ≤ maxLen := by rw [← str_len, hx]; show ks[k].length ≤ _; unfold maxLen; omega
      rw [← hx] at cellOf
      have HXZ := hide hxz
      obtain ⟨b, o, ead, f0⟩ := cellOf wr hlr
      subst ead
      have HCO : Hid (∀ w', Lies B w' (L ++ [.row 9 (.slice (some ⟨b, o, none⟩) ks.length cap1) (ks.map encStr)]) → w'.cell? ⟨b, o + k, none⟩ = some (.string x)) := fun w' h => by
        obtain ⟨b', o', e, hc⟩ := cellOf w' h
        cases e
        exact hc
      clear cellOf hx hxs hxz
      obtain ⟨T1, hT1⟩ : ∃ x' : ByteArray, (⟨(A.read x.data.toList 0 1048576).1.toArray⟩ : ByteArray) = x' := ⟨_, rfl⟩
      obtain ⟨E1, hE1⟩ : ∃ x', (A.read x.data.toList 0 1048576).2 = x' := ⟨_, rfl⟩
      have hc8 := s_read hlr (get_push HI.out) x HXZ.out 0 1048576
      rw [hT1, hE1] at hc8
      have HT1 := hide hT1
      have HE1 := hide hE1
      have HBR := hide hbr
      clear hlr hbr hT1 hE1
      go_wp2_with fail
      refine hc8.mono ?_
      rintro e w8 ⟨rfl, h, hb⟩
      have HB8 := hide (HBR.out.trans hb)
      have H8 := hide h
      have f1 := HCO.out w8 h
      have hc9 := r_read h (get_push HJ.out) HOK.out x 0 1048576
      rw [HT1.out, HE1.out] at hc9
      clear h hb hc8 f0 HBR
      go_wp2_with fail
      refine hc9.mono ?_
      rintro e w9 ⟨rfl, hw⟩
      obtain rfl := hw.symm
      clear hw hc9
      obtain ⟨dl, hdl⟩ : ∃ x', A.dirtyI x.data.toList = x' := ⟨_, rfl⟩
      have HDL := hide hdl
      have hld : (dl.map (Value.int .i64)).length = dl.length := List.length_map ..
      have hdm : dl.length ≤ maxLen := by rw [← hdl]; exact dirty_len HOK.out _
      have dd : (dl == dl) = true := by simp
      have HDM := hide hdm
      clear hdl hdm
      have H8d : Hid (Lies B w8.drew (L ++ [.row 9 (.slice (some ⟨b, o, none⟩) ks.length cap1) (ks.map encStr)])) := H8.out.same (Nat.le_refl _) (fun _ _ _ => rfl)
      have HB8d : Hid (Below B w w8.drew) := HB8.out.drew
      have hcd : w8.drew.cell? ⟨b, o + k, none⟩ = some (.string x) := HCO.out _ H8d.out
      go_wp2
      refine wp_region_noPanic ?_
      refine wp_region_held_drew (S := fun wx => wx.cell? ⟨b, o + k, none⟩ = some (.string x)) (by kernel_rfl) (hcd) (fun hHeld => ?_)
      refine takeH 0 (some 56) (.string T1) rfl rfl (by kernel_rfl) (by kernel_rfl) (by kernel_rfl) (fun _ _ _ h => h) (by rfl) (fun w hw => by first | rfl | (go_simp; done) | (go_simp; rfl)) hHeld ?_
      simp only [Act.put, List.setIfInBounds_toArray, List.set_cons_zero, List.set_cons_succ]
      refine takeH 1 (some 57) (.string T1) rfl rfl (by kernel_rfl) (by kernel_rfl) (by kernel_rfl) (fun _ _ _ h => h) (by rfl) (fun w hw => by first | rfl | (go_simp; done) | (go_simp; rfl)) hHeld ?_
      simp only [Act.put, List.setIfInBounds_toArray, List.set_cons_zero, List.set_cons_succ]
      refine takeH 2 (some 58) (.bool false) rfl rfl (by kernel_rfl) (by kernel_rfl) (by kernel_rfl) (fun _ _ _ h => h) (by rfl) (fun w hw => by first | rfl | (go_simp; done) | (go_simp; rfl)) hHeld ?_
      simp only [Act.put, List.setIfInBounds_toArray, List.set_cons_zero, List.set_cons_succ]
      refine takeH 3 (some 59) (.bool false) rfl rfl (by kernel_rfl) (by kernel_rfl) (by kernel_rfl) (fun _ _ _ h => h) (by rfl) (fun w hw => by first | rfl | (go_simp; done) | (go_simp; rfl)) hHeld ?_
      simp only [Act.put, List.setIfInBounds_toArray, List.set_cons_zero, List.set_cons_succ]
      refine takeH 4 (some 60) (.int .i64 E1) rfl rfl (by kernel_rfl) (by kernel_rfl) (by kernel_rfl) (fun _ _ _ h => h) (by rfl) (fun w hw => by first | rfl | (go_simp; done) | (go_simp; rfl)) hHeld ?_
      simp only [Act.put, List.setIfInBounds_toArray, List.set_cons_zero, List.set_cons_succ]
      refine takeH 5 (some 61) (.int .i64 E1) rfl rfl (by kernel_rfl) (by kernel_rfl) (by kernel_rfl) (fun _ _ _ h => h) (by rfl) (fun w hw => by first | rfl | (go_simp; done) | (go_simp; rfl)) hHeld ?_
      simp only [Act.put, List.setIfInBounds_toArray, List.set_cons_zero, List.set_cons_succ]
      refine takeH 6 (some 62) (.bool false) rfl rfl (by kernel_rfl) (by kernel_rfl) (by kernel_rfl) (fun _ _ _ h => h) (by rfl) (fun w hw => by first | rfl | (go_simp; done) | (go_simp; rfl)) hHeld ?_
      simp only [Act.put, List.setIfInBounds_toArray, List.set_cons_zero, List.set_cons_succ]
      refine takeH 7 (some 63) (.bool false) rfl rfl (by kernel_rfl) (by kernel_rfl) (by kernel_rfl) (fun _ _ _ h => h) (by rfl) (fun w hw => by first | rfl | (go_simp; done) | (go_simp; rfl)) hHeld ?_
      simp only [Act.put, List.setIfInBounds_toArray, List.set_cons_zero, List.set_cons_succ]
      refine takeH 8 (some 64) (.bool false) rfl rfl (by kernel_rfl) (by kernel_rfl) (by kernel_rfl) (fun _ _ _ h => h) (by rfl) (fun w hw => by first | rfl | (go_simp; done) | (go_simp; rfl)) hHeld ?_
      simp only [Act.put, List.setIfInBounds_toArray, List.set_cons_zero, List.set_cons_succ]
      refine takeH 9 (some 65) (.pointer (some ⟨p, 0, none⟩)) rfl rfl (by kernel_rfl) (by kernel_rfl) (by kernel_rfl) (fun _ _ _ h => h) (by rfl) (fun w hw => by first | rfl | (go_simp; done) | (go_simp; rfl)) hHeld ?_
      simp only [Act.put, List.setIfInBounds_toArray, List.set_cons_zero, List.set_cons_succ]
      refine takeH 10 (some 66) (.slice (some ⟨b, o, none⟩) ks.length cap1) rfl rfl (by kernel_rfl) (by kernel_rfl) (by kernel_rfl) (fun _ _ _ h => h) (by rfl) (fun w hw => by first | rfl | (go_simp; done) | (go_simp; rfl)) hHeld ?_
      simp only [Act.put, List.setIfInBounds_toArray, List.set_cons_zero, List.set_cons_succ]
      refine takeH 11 (some 67) (.int .i64 (k : Int)) rfl rfl (by kernel_rfl) (by kernel_rfl) (by kernel_rfl) (fun _ _ _ h => h) (by rfl) (fun w hw => by first | rfl | (go_simp; done) | (go_simp; rfl)) hHeld ?_
      simp only [Act.put, List.setIfInBounds_toArray, List.set_cons_zero, List.set_cons_succ]
      refine takeH 12 (some 68) (.pointer (some ⟨b, o + k, none⟩)) rfl rfl (by kernel_rfl) (by kernel_rfl) (by kernel_rfl) (fun _ _ _ h => h) (by rfl) (fun w hw => by first | rfl | (go_simp; done) | (go_simp; rfl)) hHeld ?_
      simp only [Act.put, List.setIfInBounds_toArray, List.set_cons_zero, List.set_cons_succ]
      refine takeH 13 (some 69) (.string x) rfl rfl (by kernel_rfl) (by kernel_rfl) (by kernel_rfl) (fun _ _ _ h => h) (by rfl) (fun w hw => by have hw1 := hw; first | rfl | (go_simp; done) | (go_simp; rfl)) hHeld ?_
      simp only [Act.put, List.setIfInBounds_toArray, List.set_cons_zero, List.set_cons_succ]
      refine takeH 15 (some 71) (.pointer (some ⟨r, 0, none⟩)) rfl rfl (by kernel_rfl) (by kernel_rfl) (by kernel_rfl) (fun _ _ _ h => h) (by rfl) (fun w hw => by first | rfl | (go_simp; done) | (go_simp; rfl)) hHeld ?_
      simp only [Act.put, List.setIfInBounds_toArray, List.set_cons_zero, List.set_cons_succ]
      refine takeH 16 (some 72) (.slice (some ⟨b, o, none⟩) ks.length cap1) rfl rfl (by kernel_rfl) (by kernel_rfl) (by kernel_rfl) (fun _ _ _ h => h) (by rfl) (fun w hw => by first | rfl | (go_simp; done) | (go_simp; rfl)) hHeld ?_
      simp only [Act.put, List.setIfInBounds_toArray, List.set_cons_zero, List.set_cons_succ]
      refine takeH 17 (some 73) (.int .i64 (k : Int)) rfl rfl (by kernel_rfl) (by kernel_rfl) (by kernel_rfl) (fun _ _ _ h => h) (by rfl) (fun w hw => by first | rfl | (go_simp; done) | (go_simp; rfl)) hHeld ?_
      simp only [Act.put, List.setIfInBounds_toArray, List.set_cons_zero, List.set_cons_succ]
      refine takeH 18 (some 74) (.pointer (some ⟨b, o + k, none⟩)) rfl rfl (by kernel_rfl) (by kernel_rfl) (by kernel_rfl) (fun _ _ _ h => h) (by rfl) (fun w hw => by first | rfl | (go_simp; done) | (go_simp; rfl)) hHeld ?_
      simp only [Act.put, List.setIfInBounds_toArray, List.set_cons_zero, List.set_cons_succ]
      refine takeH 19 (some 75) (.string x) rfl rfl (by kernel_rfl) (by kernel_rfl) (by kernel_rfl) (fun _ _ _ h => h) (by rfl) (fun w hw => by have hw1 := hw; first | rfl | (go_simp; done) | (go_simp; rfl)) hHeld ?_
      simp only [Act.put, List.setIfInBounds_toArray, List.set_cons_zero, List.set_cons_succ]
      have hc10 := s_dirty H8d.out (get_push HI.out) x HXZ.out
      rw [HDL.out] at hc10
      have HC10 := hide hc10
      clear hc10
      refine wpAnyH_ready (rs := [14]) (by kernel_rfl) (by simp) (AllReadyH.cons rfl (fun K hK => ?_) AllReadyH.nil)
      rw [if_pos (by rfl)]
      go_simp
      refine (HC10.out).mono ?_
      rintro e w10 ⟨v10, rfl, hr10, h10, hb10⟩
      rw [hld] at hr10
      obtain ⟨ad10, cap10, e10, _, _, _⟩ := row_at hr10
      subst e10
      have HB10 := hide (HB8d.out.trans hb10)
      have H10 := hide h10
      have hcd10 := HCO.out _ h10.drop
      clear h10 hb10 hr10 HC10
      try go_wp2_with fail
      refine hK.out _ _ (hcd10) (fun hH => ?_)
      clear hK K hHeld
      have hHeld := hH
      clear hH
      have hc11 := r_dirty H10.out (get_push (get_push HJ.out)) HOK.out x
      rw [HDL.out] at hc11
      have HC11 := hide hc11
      clear hc11
      refine wpAnyH_ready (rs := [20]) (by kernel_rfl) (by simp) (AllReadyH.cons rfl (fun K hK => ?_) AllReadyH.nil)
      rw [if_pos (by rfl)]
      go_simp
      refine (HC11.out).mono ?_
      rintro e w11 ⟨v11, rfl, hr11, h11, hb11⟩
      rw [hld] at hr11
      obtain ⟨ad11, cap11, e11, hr11', _, _⟩ := row_at hr11
      subst e11
      have hr10 := krowOf h11 (get_push (get_last _ _))
      rw [hld] at hr10
      obtain ⟨_, _, en, hr10', _, _⟩ := row_at hr10
      cases en
      have HB11 := hide (HB10.out.trans hb11)
      have H11 := hide h11.drop.drop
      have HR10 := hide hr10'
      have HR11 := hide hr11'
      have hcd11 := HCO.out _ h11.drop.drop
      clear h11 hb11 hr11 hr10 hr10' hr11' HC11
      try go_wp2_with fail
      refine hK.out _ _ (hcd11) (fun hH => ?_)
      clear hK K hHeld
      have hHeld := hH
      clear hH
      have hc12 := sameInts_any w11 ad10 ad11 cap10 cap11 dl dl HR10.out HR11.out HDM.out HDM.out
      rw [dd] at hc12
      have HC12 := hide hc12
      clear hc12
      refine wpAnyH_ready (rs := [21]) (by kernel_rfl) (by simp) (AllReadyH.cons rfl (fun K hK => ?_) AllReadyH.nil)
      rw [if_pos (by rfl)]
      go_simp
      refine (HC12.out).mono ?_
      rintro e w12 ⟨rfl, hb12⟩
      have h12 := H11.out.below hb12
      have HB12 := hide (HB11.out.trans (hb12.mono H11.out.base))
      have H12 := hide h12
      have hcd12 := HCO.out _ h12
      clear h12 hb12 HC12
      try go_wp2_with fail
      refine hK.out _ _ (hcd12) (fun hH => ?_)
      clear hK K hHeld
      have hHeld := hH
      clear hH
      refine takeH 22 (some 78) (.bool false) rfl rfl (by kernel_rfl) (by kernel_rfl) (by kernel_rfl) (fun _ _ _ h => h) (by rfl) (fun w hw => by first | rfl | (go_simp; done) | (go_simp; rfl)) hHeld ?_
      simp only [Act.put, List.setIfInBounds_toArray, List.set_cons_zero, List.set_cons_succ]
      refine takeH 23 (some 79) (.bool false) rfl rfl (by kernel_rfl) (by kernel_rfl) (by kernel_rfl) (fun _ _ _ h => h) (by rfl) (fun w hw => by first | rfl | (go_simp; done) | (go_simp; rfl)) hHeld ?_
      simp only [Act.put, List.setIfInBounds_toArray, List.set_cons_zero, List.set_cons_succ]
      refine ⟨by kernel_rfl, ?_⟩
      refine NoPanic.normal ?_
      clear H8 HB8 H8d HB8d H10 HB10 H11 HB11 HR10 HR11 f1 hcd hcd10 hcd11 hcd12 hHeld
      go_wp2
      go_roundw
      case rel => exact ⟨k + 1, by omega, by go_num, H12.out, HB12.out⟩
      case measure => simp [intOf]; omega
    · have hkl : k = ks.length := by omega
      subst hkl
      have dk : decide ((ks.length : Int) < (ks.length : Int)) = false := decide_eq_false (by omega)
      have HLR := hide hlr.drop
      have HBR := hide hbr
      clear hlr hbr
      go_wp2
      go_ret
      exact ⟨rfl, HLR.out, HBR.out⟩
end
end Go.Proofs.YtobfijpfdibccaaGreat
