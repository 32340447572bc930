/-
  DiskRefused: seen, equal.
-/
import Derived.Test.YtcmhfpiglacdaaaRefused
import Derived.Test.YtcmhfpiglacdaaaLawApart
namespace Go.Proofs.Ytcmhfpiglacdaaa
open Go.RowKit Go.Maps Go.WideMaps
set_option linter.unusedVariables false
set_option linter.unusedSimpArgs false
theorem get_push {α : Type} {L M : List α} {i : Nat} {x : α} (h : L[i]? = some x) : (L ++ M)[i]? = some x := by
  rw [List.getElem?_append_left (List.getElem?_eq_some_iff.1 h).1]; exact h
theorem get_last {α : Type} (L : List α) (x : α) : (L ++ [x])[L.length]? = some x := by simp
theorem all_to {B : Nat} {w : World} {L : List Item} {i p : Nat} {A : AD} (h : Lies B w L) (hi : L[i]? = some (.disk p A)) (s : ByteArray) (hs : s.size ≤ maxLen) (X : ByteArray) (hX : (⟨(A.all s.data.toList).toArray⟩ : ByteArray) = X) :
    Calls Try.prog 16 #[.pointer (some ⟨p, 0, none⟩), .string s] w fun e w' => e = .returned (.string X) ∧ Lies B w' L ∧ Below B w w' := by
  subst hX
  exact all_any h hi s hs
theorem Lies.drewn {B : Nat} {w : World} {L : List Item} (h : Lies B w L) : Lies B w.drew L := h.same (Nat.le_refl _) (fun _ _ _ => rfl)
theorem cell_row {B : Nat} {w : World} {L : List Item} {i e n cap g k : Nat} {xs : List Value} {v : Value} (h : Lies B w L) (hi : L[i]? = some (.row e (.slice (some ⟨g, 0, none⟩) n cap) xs)) (hn : xs.length = n) (hk : xs[k]? = some v) : w.cell? ⟨g, k, none⟩ = some v := by
  subst hn
  rw [World.ownsRow.cellAt (h.rowOf hi) k (by have := (List.getElem?_eq_some_iff.1 hk).1; omega)]
  exact hk
theorem drew_of {B : Nat} {w w' : World} (h : Below B w.drew w') : Below B w w' := ⟨h.os, h.tape, h.output, h.size, h.block⟩
set_option maxRecDepth 5000 in
set_option maxHeartbeats 2000000 in
theorem seen_any {B : Nat} {w : World} {L : List Item} {i j p q : Nat} {A : AD} (h : Lies B w L) (hi : L[i]? = some (.disk p A)) (hj : L[j]? = some (.disk q A)) :
    Calls Try.prog 49 #[.pointer (some ⟨p, 0, none⟩), .pointer (some ⟨q, 0, none⟩)] w fun e w' => e = .returned (.bool true) ∧ Lies B w' L ∧ Below B w w' := by
  have hc := s_list h hi
  have HI := hide hi
  have HJ := hide hj
  have HOK := hide (h.ok hi)
  have hfew := AD.list_few HOK.out
  have hlm : (A.list.map encStr).length = A.list.length := List.length_map ..
  have HNM : Hid (∀ k ∈ A.list, k.length ≤ 32) := fun k hk => AD.list_name HOK.out hk
  have HDF : Hid (∀ k, (A.dirtyI k).length ≤ maxLen) := fun k => Nat.le_trans (AD.dirty_few HOK.out k) (by unfold maxLen; omega)
  obtain ⟨ks, hks⟩ : ∃ ks, A.list = ks := ⟨_, rfl⟩
  rw [hks] at hc hfew hlm HNM
  have HKS := hide hks
  have db : (ks == ks) = true := by simp
  clear h hi hj hks HOK
  go_enter Try.func49, Try.ntmps49
  go_wp2_with fail
  refine hc.mono ?_
  rintro e w1 ⟨v1, rfl, hr, h, hb⟩
  rw [hlm] at hr
  obtain ⟨ad1, cap1, e1, _, _, hml⟩ := row_at hr
  subst e1
  have HB1 := hide hb
  replace hc := s_list h (get_push HJ.out)
  rw [HKS.out] at hc
  clear h hb hr
  go_wp2_with fail
  refine hc.mono ?_
  rintro e w2 ⟨v2, rfl, hr, h, hb⟩
  rw [hlm] at hr
  obtain ⟨ad2, cap2, e2, hr2, _, _⟩ := row_at hr
  subst e2
  have HB2 := hide (HB1.out.trans hb)
  have hr1 := h.rowOf (get_push (get_last L _))
  rw [hlm] at hr1
  obtain ⟨_, _, en, hr1', _, _⟩ := row_at hr1
  cases en
  replace hc := sameTexts_any w2 ad1 ad2 cap1 cap2 ks ks hr1' hr2 hml hml
  rw [db] at hc
  have H2 := hide h.drop
  clear h hb hr hr1 hr1' hr2 HB1 db
  go_wp2_with fail
  refine hc.mono ?_
  rintro e w3 ⟨rfl, hb⟩
  have HB3 := hide (HB2.out.trans (hb.mono H2.out.base))
  have H3 := hide (H2.out.below hb)
  replace hc := s_used H3.out (get_push HI.out)
  clear hb HB2 H2
  go_wp2_with fail
  refine hc.mono ?_
  rintro e w4 ⟨rfl, h, hb⟩
  have HB4 := hide (HB3.out.trans hb)
  have H4 := hide h
  replace hc := s_used h (get_push HJ.out)
  clear h hb HB3 H3
  go_wp2_with fail
  refine hc.mono ?_
  rintro e w5 ⟨rfl, h, hb⟩
  have HB5 := hide (HB4.out.trans hb)
  have H5 := hide h
  replace hc := s_off h (get_push HI.out)
  clear h hb HB4 H4
  go_wp2_with fail
  refine hc.mono ?_
  rintro e w6 ⟨rfl, rfl⟩
  replace hc := s_off H5.out (get_push HJ.out)
  go_wp2_with fail
  refine hc.mono ?_
  rintro e w7 ⟨rfl, rfl⟩
  clear hc
  go_wp2
  go_loopw [6] (fun i wr => ∃ k : Nat, k ≤ ks.length ∧ i = .int .i64 (k : Int) ∧ Lies B wr (L ++ [.row 9 (.slice ad1 ks.length cap1) (ks.map encStr)]) ∧ Below B w wr) (fun i _ => ks.length - (intOf i).toNat)
  case atStart => exact ⟨0, by omega, rfl, H5.out, HB5.out⟩
  case round =>
    clear H5 HB5
    obtain ⟨k, hk, rfl, hlr, hbr⟩ := hrel
    by_cases hlt : k < ks.length
    · have dk : decide ((k : Int) < (ks.length : Int)) = true := decide_eq_true (by omega)
      have hk0 : (0 : Int) ≤ (k : Int) := by omega
      have hk1 : (k : Int) < (ks.length : Int) := by omega
      obtain ⟨s, hs⟩ : ∃ s : ByteArray, s = ⟨ks[k].toArray⟩ := ⟨_, rfl⟩
      have hsl : s.data.toList = ks[k] := by rw [hs]
      have hsz : s.size ≤ maxLen := by
        rw [← str_len, hsl]
        have := HNM.out ks[k] (List.getElem_mem hlt)
        unfold maxLen
        omega
      have hsv : (ks.map encStr)[k]? = some (.string s) := by rw [List.getElem?_map, List.getElem?_eq_getElem hlt, hs]; rfl
      have hr3 := hlr.rowOf (get_last L _)
      rw [hlm] at hr3
      obtain ⟨gn, rfl⟩ := own_form hr3 (by omega)
      obtain ⟨RW, hRW⟩ : ∃ RW, Item.row 9 (.slice (some ⟨gn, 0, none⟩) ks.length cap1) (ks.map encStr) = RW := ⟨_, rfl⟩
      rw [hRW] at hlr
      have ROW : Hid (∀ (wx : World) (M : List Item), Lies B wx (L ++ [RW] ++ M) → wx.cell? ⟨gn, k, none⟩ = some (.string s)) := fun wx M hx => cell_row hx (by rw [hRW]; exact get_push (get_last L RW)) hlm hsv
      obtain ⟨X, hX⟩ : ∃ x, (⟨(A.all s.data.toList).toArray⟩ : ByteArray) = x := ⟨_, rfl⟩
      obtain ⟨dl, hdl⟩ : ∃ x, A.dirtyI s.data.toList = x := ⟨_, rfl⟩
      have hld : (dl.map (Value.int .i64)).length = dl.length := List.length_map ..
      have HDL := hide hdl
      have hdm : dl.length ≤ maxLen := by rw [← hdl]; exact HDF.out _
      have HSZ := hide hsz
      have HHR := hide hlr
      have HBR := hide hbr
      have HX := hide hX
      have hS0 := ROW.out _ [] (by rw [List.append_nil]; exact hlr)
      have HRW := hide hRW
      have db : (dl == dl) = true := by simp
      clear hlr hbr hr3 hs hsl hsz hsv hX hdl hRW HDF
      go_wp2
      refine wp_region_noPanic ?_
      refine wp_region_held_drew (S := fun wx => wx.cell? ⟨gn, k, none⟩ = some (.string s)) (by kernel_rfl) hS0 (fun hHeld => ?_)
      refine takeH 0 (some 34) (.pointer (some ⟨p, 0, none⟩)) rfl rfl (by kernel_rfl) (by kernel_rfl) (by kernel_rfl) (fun _ _ _ h => h) (by rfl) (fun w hw => by first | rfl | (go_simp; done) | (go_simp; rfl)) hHeld ?_
      simp only [Act.put, List.setIfInBounds_toArray, List.set_cons_zero, List.set_cons_succ]
      refine takeH 1 (some 35) (.slice (some ⟨gn, 0, none⟩) ks.length cap1) rfl rfl (by kernel_rfl) (by kernel_rfl) (by kernel_rfl) (fun _ _ _ h => h) (by rfl) (fun w hw => by first | rfl | (go_simp; done) | (go_simp; rfl)) hHeld ?_
      simp only [Act.put, List.setIfInBounds_toArray, List.set_cons_zero, List.set_cons_succ]
      refine takeH 2 (some 36) (.int .i64 (k : Int)) rfl rfl (by kernel_rfl) (by kernel_rfl) (by kernel_rfl) (fun _ _ _ h => h) (by rfl) (fun w hw => by first | rfl | (go_simp; done) | (go_simp; rfl)) hHeld ?_
      simp only [Act.put, List.setIfInBounds_toArray, List.set_cons_zero, List.set_cons_succ]
      refine takeH 3 (some 37) (.pointer (some ⟨gn, k, none⟩)) rfl rfl (by kernel_rfl) (by kernel_rfl) (by kernel_rfl) (fun _ _ _ h => h) (by rfl) (fun w hw => by first | rfl | (go_simp; done) | (go_simp; rfl)) hHeld ?_
      simp only [Act.put, List.setIfInBounds_toArray, List.set_cons_zero, List.set_cons_succ]
      refine takeH 4 (some 38) (.string s) rfl rfl (by kernel_rfl) (by kernel_rfl) (by kernel_rfl) (fun _ _ _ h => h) (by rfl) (fun w hw => by have hw' : w.cell? ⟨gn, k, none⟩ = some (.string s) := hw; first | rfl | (go_simp; done) | (go_simp; rfl)) hHeld ?_
      simp only [Act.put, List.setIfInBounds_toArray, List.set_cons_zero, List.set_cons_succ]
      refine takeH 6 (some 40) (.pointer (some ⟨q, 0, none⟩)) rfl rfl (by kernel_rfl) (by kernel_rfl) (by kernel_rfl) (fun _ _ _ h => h) (by rfl) (fun w hw => by first | rfl | (go_simp; done) | (go_simp; rfl)) hHeld ?_
      simp only [Act.put, List.setIfInBounds_toArray, List.set_cons_zero, List.set_cons_succ]
      refine takeH 7 (some 41) (.slice (some ⟨gn, 0, none⟩) ks.length cap1) rfl rfl (by kernel_rfl) (by kernel_rfl) (by kernel_rfl) (fun _ _ _ h => h) (by rfl) (fun w hw => by first | rfl | (go_simp; done) | (go_simp; rfl)) hHeld ?_
      simp only [Act.put, List.setIfInBounds_toArray, List.set_cons_zero, List.set_cons_succ]
      refine takeH 8 (some 42) (.int .i64 (k : Int)) rfl rfl (by kernel_rfl) (by kernel_rfl) (by kernel_rfl) (fun _ _ _ h => h) (by rfl) (fun w hw => by first | rfl | (go_simp; done) | (go_simp; rfl)) hHeld ?_
      simp only [Act.put, List.setIfInBounds_toArray, List.set_cons_zero, List.set_cons_succ]
      refine takeH 9 (some 43) (.pointer (some ⟨gn, k, none⟩)) rfl rfl (by kernel_rfl) (by kernel_rfl) (by kernel_rfl) (fun _ _ _ h => h) (by rfl) (fun w hw => by first | rfl | (go_simp; done) | (go_simp; rfl)) hHeld ?_
      simp only [Act.put, List.setIfInBounds_toArray, List.set_cons_zero, List.set_cons_succ]
      refine takeH 10 (some 44) (.string s) rfl rfl (by kernel_rfl) (by kernel_rfl) (by kernel_rfl) (fun _ _ _ h => h) (by rfl) (fun w hw => by have hw' : w.cell? ⟨gn, k, none⟩ = some (.string s) := hw; first | rfl | (go_simp; done) | (go_simp; rfl)) hHeld ?_
      simp only [Act.put, List.setIfInBounds_toArray, List.set_cons_zero, List.set_cons_succ]
      refine wpAnyH_ready (rs := [5]) (by kernel_rfl) (by simp) (AllReadyH.cons rfl (fun K hK => ?_) AllReadyH.nil)
      rw [if_pos (by rfl)]
      go_simp
      refine (all_to (L := L ++ [RW]) HHR.out.drewn (get_push HI.out) s HSZ.out X HX.out).mono ?_
      rintro e x1 ⟨rfl, hl, hb⟩
      try go_wp2_with fail
      have HL1 := hide hl
      have HX1 := hide (HBR.out.trans (drew_of hb))
      refine hK.out _ _ (ROW.out _ [] (by rw [List.append_nil]; exact hl)) (fun hHeld => ?_)
      clear hK K hl hb HHR HBR
      refine wpAnyH_ready (rs := [11]) (by kernel_rfl) (by simp) (AllReadyH.cons rfl (fun K hK => ?_) AllReadyH.nil)
      rw [if_pos (by rfl)]
      go_simp
      refine (all_to (L := L ++ [RW]) HL1.out (get_push HJ.out) s HSZ.out X HX.out).mono ?_
      rintro e x2 ⟨rfl, hl, hb⟩
      try go_wp2_with fail
      have HL2 := hide hl
      have HX2 := hide (HX1.out.trans hb)
      refine hK.out _ _ (ROW.out _ [] (by rw [List.append_nil]; exact hl)) (fun hHeld => ?_)
      clear hK K hl hb HL1 HX1
      refine takeH 12 (some 46) (.bool false) rfl rfl (by kernel_rfl) (by kernel_rfl) (by kernel_rfl) (fun _ _ _ h => h) (by rfl) (fun w hw => by first | rfl | (go_simp; done) | (go_simp; rfl)) hHeld ?_
      simp only [Act.put, List.setIfInBounds_toArray, List.set_cons_zero, List.set_cons_succ]
      refine takeH 13 (some 47) (.bool false) rfl rfl (by kernel_rfl) (by kernel_rfl) (by kernel_rfl) (fun _ _ _ h => h) (by rfl) (fun w hw => by first | rfl | (go_simp; done) | (go_simp; rfl)) hHeld ?_
      simp only [Act.put, List.setIfInBounds_toArray, List.set_cons_zero, List.set_cons_succ]
      refine takeH 14 (some 48) (.pointer (some ⟨p, 0, none⟩)) rfl rfl (by kernel_rfl) (by kernel_rfl) (by kernel_rfl) (fun _ _ _ h => h) (by rfl) (fun w hw => by first | rfl | (go_simp; done) | (go_simp; rfl)) hHeld ?_
      simp only [Act.put, List.setIfInBounds_toArray, List.set_cons_zero, List.set_cons_succ]
      refine takeH 15 (some 49) (.slice (some ⟨gn, 0, none⟩) ks.length cap1) rfl rfl (by kernel_rfl) (by kernel_rfl) (by kernel_rfl) (fun _ _ _ h => h) (by rfl) (fun w hw => by first | rfl | (go_simp; done) | (go_simp; rfl)) hHeld ?_
      simp only [Act.put, List.setIfInBounds_toArray, List.set_cons_zero, List.set_cons_succ]
      refine takeH 16 (some 50) (.int .i64 (k : Int)) rfl rfl (by kernel_rfl) (by kernel_rfl) (by kernel_rfl) (fun _ _ _ h => h) (by rfl) (fun w hw => by first | rfl | (go_simp; done) | (go_simp; rfl)) hHeld ?_
      simp only [Act.put, List.setIfInBounds_toArray, List.set_cons_zero, List.set_cons_succ]
      refine takeH 17 (some 51) (.pointer (some ⟨gn, k, none⟩)) rfl rfl (by kernel_rfl) (by kernel_rfl) (by kernel_rfl) (fun _ _ _ h => h) (by rfl) (fun w hw => by first | rfl | (go_simp; done) | (go_simp; rfl)) hHeld ?_
      simp only [Act.put, List.setIfInBounds_toArray, List.set_cons_zero, List.set_cons_succ]
      refine takeH 18 (some 52) (.string s) rfl rfl (by kernel_rfl) (by kernel_rfl) (by kernel_rfl) (fun _ _ _ h => h) (by rfl) (fun w hw => by have hw' : w.cell? ⟨gn, k, none⟩ = some (.string s) := hw; first | rfl | (go_simp; done) | (go_simp; rfl)) hHeld ?_
      simp only [Act.put, List.setIfInBounds_toArray, List.set_cons_zero, List.set_cons_succ]
      refine takeH 20 (some 54) (.pointer (some ⟨q, 0, none⟩)) rfl rfl (by kernel_rfl) (by kernel_rfl) (by kernel_rfl) (fun _ _ _ h => h) (by rfl) (fun w hw => by first | rfl | (go_simp; done) | (go_simp; rfl)) hHeld ?_
      simp only [Act.put, List.setIfInBounds_toArray, List.set_cons_zero, List.set_cons_succ]
      refine takeH 21 (some 55) (.slice (some ⟨gn, 0, none⟩) ks.length cap1) rfl rfl (by kernel_rfl) (by kernel_rfl) (by kernel_rfl) (fun _ _ _ h => h) (by rfl) (fun w hw => by first | rfl | (go_simp; done) | (go_simp; rfl)) hHeld ?_
      simp only [Act.put, List.setIfInBounds_toArray, List.set_cons_zero, List.set_cons_succ]
      refine takeH 22 (some 56) (.int .i64 (k : Int)) rfl rfl (by kernel_rfl) (by kernel_rfl) (by kernel_rfl) (fun _ _ _ h => h) (by rfl) (fun w hw => by first | rfl | (go_simp; done) | (go_simp; rfl)) hHeld ?_
      simp only [Act.put, List.setIfInBounds_toArray, List.set_cons_zero, List.set_cons_succ]
      refine takeH 23 (some 57) (.pointer (some ⟨gn, k, none⟩)) rfl rfl (by kernel_rfl) (by kernel_rfl) (by kernel_rfl) (fun _ _ _ h => h) (by rfl) (fun w hw => by first | rfl | (go_simp; done) | (go_simp; rfl)) hHeld ?_
      simp only [Act.put, List.setIfInBounds_toArray, List.set_cons_zero, List.set_cons_succ]
      refine takeH 24 (some 58) (.string s) rfl rfl (by kernel_rfl) (by kernel_rfl) (by kernel_rfl) (fun _ _ _ h => h) (by rfl) (fun w hw => by have hw' : w.cell? ⟨gn, k, none⟩ = some (.string s) := hw; first | rfl | (go_simp; done) | (go_simp; rfl)) hHeld ?_
      simp only [Act.put, List.setIfInBounds_toArray, List.set_cons_zero, List.set_cons_succ]
      have hc := s_dirty HL2.out (get_push HI.out) s HSZ.out
      rw [HDL.out] at hc
      refine wpAnyH_ready (rs := [19]) (by kernel_rfl) (by simp) (AllReadyH.cons rfl (fun K hK => ?_) AllReadyH.nil)
      rw [if_pos (by rfl)]
      go_simp
      refine (hc).mono ?_
      rintro e x3 ⟨v3, rfl, hr, hl, hb⟩
      try go_wp2_with fail
      rw [hld] at hr
      obtain ⟨ad3, cap3, e3, _, _, _⟩ := row_at hr
      subst e3
      have HL3 := hide hl
      have HX3 := hide (HX2.out.trans hb)
      refine hK.out _ _ (ROW.out _ _ hl) (fun hHeld => ?_)
      clear hK K hl hb hr HL2 HX2
      replace hc := s_dirty HL3.out (get_push (get_push HJ.out)) s HSZ.out
      rw [HDL.out] at hc
      refine wpAnyH_ready (rs := [25]) (by kernel_rfl) (by simp) (AllReadyH.cons rfl (fun K hK => ?_) AllReadyH.nil)
      rw [if_pos (by rfl)]
      go_simp
      refine (hc).mono ?_
      rintro e x4 ⟨v4, rfl, hr, hl, hb⟩
      try go_wp2_with fail
      rw [hld] at hr
      obtain ⟨ad4, cap4, e4, hr4, _, _⟩ := row_at hr
      subst e4
      have hr3 := hl.rowOf (get_push (get_last (L ++ [RW]) _))
      rw [hld] at hr3
      obtain ⟨_, _, en, hr3', _, _⟩ := row_at hr3
      cases en
      have HC5 := hide (sameInts_any x4 ad3 ad4 cap3 cap4 dl dl hr3' hr4 hdm hdm)
      rw [db] at HC5
      have HL4 := hide hl.drop.drop
      have HX4 := hide (HX3.out.trans hb)
      refine hK.out _ _ (ROW.out _ _ (by rw [List.append_assoc (L ++ [RW])] at hl; exact hl)) (fun hHeld => ?_)
      clear hK K hl hb hr hr3 hr3' hr4 HL3 HX3 hc
      refine wpAnyH_ready (rs := [26]) (by kernel_rfl) (by simp) (AllReadyH.cons rfl (fun K hK => ?_) AllReadyH.nil)
      rw [if_pos (by rfl)]
      go_simp
      refine (HC5.out).mono ?_
      rintro e x5 ⟨rfl, hb⟩
      try go_wp2_with fail
      have HX5 := hide (HX4.out.trans (hb.mono HL4.out.base))
      have hl := HL4.out.below hb
      have HL5 := hide hl
      refine hK.out _ _ (ROW.out _ [] (by rw [List.append_nil]; exact hl)) (fun hHeld => ?_)
      clear hK K hl hb HL4 HX4 HC5
      refine takeH 27 (some 61) (.bool false) rfl rfl (by kernel_rfl) (by kernel_rfl) (by kernel_rfl) (fun _ _ _ h => h) (by rfl) (fun w hw => by first | rfl | (go_simp; done) | (go_simp; rfl)) hHeld ?_
      simp only [Act.put, List.setIfInBounds_toArray, List.set_cons_zero, List.set_cons_succ]
      refine takeH 28 (some 62) (.bool false) rfl rfl (by kernel_rfl) (by kernel_rfl) (by kernel_rfl) (fun _ _ _ h => h) (by rfl) (fun w hw => by first | rfl | (go_simp; done) | (go_simp; rfl)) hHeld ?_
      simp only [Act.put, List.setIfInBounds_toArray, List.set_cons_zero, List.set_cons_succ]
      refine ⟨by kernel_rfl, ?_⟩
      refine NoPanic.normal ?_
      have f3 := ROW.out _ [] (by rw [List.append_nil]; exact HL5.out)
      clear hHeld hS0
      go_wp2
      go_roundw
      case rel => exact ⟨k + 1, by omega, by go_num, by rw [HRW.out]; exact HL5.out, HX5.out⟩
      case measure => simp [intOf]; omega
    · have hkl : k = ks.length := by omega
      subst hkl
      have dk : decide ((ks.length : Int) < (ks.length : Int)) = false := decide_eq_false (by omega)
      have HBR := hide hbr
      have HHR := hide hlr.drop
      clear hlr hbr
      go_wp2
      go_ret
      exact ⟨rfl, HHR.out, HBR.out⟩
set_option maxRecDepth 5000 in
theorem equal_any {B : Nat} {w : World} {L : List Item} {i j p q : Nat} {A : AD} (h : Lies B w L) (hi : L[i]? = some (.disk p A)) (hj : L[j]? = some (.disk q A)) :
    Calls Try.prog 28 #[.pointer (some ⟨p, 0, none⟩), .pointer (some ⟨q, 0, none⟩)] w fun e w' => e = .returned (.bool true) ∧ Lies B w' L ∧ Below B w w' := by
  have hc := s_copy h hi
  have HI := hide hi
  have HJ := hide hj
  clear h hi hj
  go_enter Try.func28, Try.ntmps28
  go_wp2_with fail
  refine hc.mono ?_
  rintro e w1 ⟨p1, rfl, h, hb⟩
  have HB1 := hide hb
  replace hc := s_copy h (get_push HJ.out)
  clear h hb
  go_wp2_with fail
  refine hc.mono ?_
  rintro e w2 ⟨p2, rfl, h, hb⟩
  have HB2 := hide (HB1.out.trans hb)
  have HL := hide (rfl : L ++ [Item.disk p1 A] ++ [Item.disk p2 A] = L ++ [Item.disk p1 A] ++ [Item.disk p2 A])
  have i1 : (L ++ [Item.disk p1 A] ++ [Item.disk p2 A])[L.length]? = some (.disk p1 A) := get_push (get_last L _)
  have i2 : (L ++ [Item.disk p1 A] ++ [Item.disk p2 A])[L.length + 1]? = some (.disk p2 A) := by simp
  replace hc := seen_any h i1 i2
  clear h hb HB1
  go_wp2_with fail
  refine hc.mono ?_
  rintro e w3 ⟨rfl, h, hb⟩
  have HB3 := hide (HB2.out.trans hb)
  replace hc := s_crash0 h i1
  clear h hb HB2 i1 i2 HL
  have hset1 : ∀ X Y Z : Item, (L ++ [X] ++ [Y]).set L.length Z = L ++ [Z] ++ [Y] := fun X Y Z => by simp
  have hset2 : ∀ X Y Z : Item, (L ++ [X] ++ [Y]).set (L.length + 1) Z = L ++ [X] ++ [Z] := fun X Y Z => by simp
  have hget1 : ∀ X Y : Item, (L ++ [X] ++ [Y])[L.length]? = some X := fun X Y => by simp
  have hget2 : ∀ X Y : Item, (L ++ [X] ++ [Y])[L.length + 1]? = some Y := fun X Y => by simp
  have S1 := hide hset1
  have S2 := hide hset2
  have G1 := hide hget1
  have G2 := hide hget2
  clear hset1 hset2 hget1 hget2
  rw [S1.out] at hc
  go_wp2_with fail
  refine hc.mono ?_
  rintro e w4 ⟨rfl, h, hb⟩
  have HB4 := hide (HB3.out.trans hb)
  replace hc := s_crash0 h (G2.out _ _)
  rw [S2.out] at hc
  clear h hb HB3
  go_wp2_with fail
  refine hc.mono ?_
  rintro e w5 ⟨rfl, h, hb⟩
  have HB5 := hide (HB4.out.trans hb)
  replace hc := s_on h (G1.out _ _)
  rw [S1.out] at hc
  clear h hb HB4
  go_wp2_with fail
  refine hc.mono ?_
  rintro e w6 ⟨rfl, h, hb⟩
  have HB6 := hide (HB5.out.trans hb)
  replace hc := s_on h (G2.out _ _)
  rw [S2.out] at hc
  clear h hb HB5
  go_wp2_with fail
  refine hc.mono ?_
  rintro e w7 ⟨rfl, h, hb⟩
  have HB7 := hide (HB6.out.trans hb)
  replace hc := seen_any h (G1.out _ _) (G2.out _ _)
  clear h hb HB6
  go_wp2_with fail
  refine hc.mono ?_
  rintro e w8 ⟨rfl, h, hb⟩
  have HB8 := hide (HB7.out.trans hb)
  have H8 := hide h.drop.drop
  clear h hb hc HB7
  go_wp2
  go_ret
  exact ⟨rfl, H8.out, HB8.out⟩
end Go.Proofs.Ytcmhfpiglacdaaa
