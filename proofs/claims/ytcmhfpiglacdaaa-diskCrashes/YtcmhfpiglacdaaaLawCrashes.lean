/-
  DiskCrashes: the walk.
-/
import Derived.Test.YtcmhfpiglacdaaaCame
import Derived.Test.YtcmhfpiglacdaaaLawApart
namespace Go.Proofs.Ytcmhfpiglacdaaa
open Go.RowKit Go.Maps Go.WideMaps
set_option linter.unusedVariables false
set_option linter.unusedSimpArgs false
theorem all_is {B : Nat} {w : World} {L : List Item} {i p : Nat} {A : AD} (h : Lies B w L) (hi : L[i]? = some (.disk p A)) (s : ByteArray) (hs : s.size ≤ maxLen) (X : ByteArray) (hX : (⟨(A.all s.data.toList).toArray⟩ : ByteArray) = X) :
    Calls Try.prog 16 #[.pointer (some ⟨p, 0, none⟩), .string s] w fun e w' => e = .returned (.string X) ∧ Lies B w' L ∧ Below B w w' := by
  subst hX
  exact all_any h hi s hs
theorem Lies.drew {B : Nat} {w : World} {L : List Item} (h : Lies B w L) : Lies B w.drew L := h.same (Nat.le_refl _) (fun _ _ _ => rfl)
theorem row_cell {B : Nat} {w : World} {L : List Item} {i e n cap g k : Nat} {xs : List Value} {v : Value} (h : Lies B w L) (hi : L[i]? = some (.row e (.slice (some ⟨g, 0, none⟩) n cap) xs)) (hn : xs.length = n) (hk : xs[k]? = some v) : w.cell? ⟨g, k, none⟩ = some v := by
  subst hn
  rw [World.ownsRow.cellAt (h.rowOf hi) k (by have := (List.getElem?_eq_some_iff.1 hk).1; omega)]
  exact hk
theorem of_drew {B : Nat} {w w' : World} (h : Below B w.drew w') : Below B w w' := ⟨h.os, h.tape, h.output, h.size, h.block⟩
theorem sec_lt {F : AF} {j : Nat} : 64 * j < F.seen.length ↔ j < F.nsec := by unfold AF.nsec; omega
set_option maxRecDepth 5000 in
set_option maxHeartbeats 16000000 in
theorem crashes_walk (w : World) (ad : Option Addr) (cap : Nat) (os : List OP) (h : Script w.heap.size w ad os)
    (ad3 : Option Addr) (cap3 : Nat) (ls : List FT) (hfa : FatesAt w ad3 ls) (hfo : ∀ x ∈ ls, x.Ok) (hfl : ls.length ≤ 9223372036854775807) (hflt : ls ≠ [] → ∀ b o, ad3 = some ⟨b, o, none⟩ → b < w.heap.size) :
    Calls Try.prog 5 #[.slice ad os.length cap, .slice ad3 ls.length cap3] w fun e w' => e = .returned (.bool true) ∧ Below w.heap.size w w' := by
  have hc := made_any w ad cap os h
  obtain ⟨B, hB⟩ : ∃ B, w.heap.size = B := ⟨_, rfl⟩
  obtain ⟨D, hD⟩ : ∃ D, madeD os = D := ⟨_, rfl⟩
  have HP : Hid (D.pow = p0) := by rw [← hD]; exact made_pow os
  rw [hB, hD] at hc
  rw [hB] at hflt
  rw [hB]
  have HBE := hide hB
  have HFA := hide hfa
  have HFO := hide hfo
  have HFLT := hide hflt
  clear h hB hD hfa hfo hflt
  go_enter Try.func5, Try.ntmps5
  go_wp2_with fail
  refine hc.mono ?_
  rintro e w1 ⟨p, rfl, h, hb⟩
  have HOK := hide (h.ok (i := 0) rfl)
  have HH := hide h
  have HB1 := hide hb
  clear h hb hc
  go_wp2_with fail
  refine (first_any w1).mono ?_
  rintro e w2 ⟨rfl, hb⟩
  have h2 := HH.out.below hb
  have HB2 := hide (HB1.out.trans (hb.mono HH.out.base))
  have hc := s_copy (i := 0) h2 rfl
  clear h2 hb HH HB1
  go_wp2_with fail
  refine hc.mono ?_
  rintro e w3 ⟨pc, rfl, h, hb⟩
  have HB3 := hide (HB2.out.trans hb)
  replace hc := s_copy (i := 0) h rfl
  clear h hb HB2
  go_wp2_with fail
  refine hc.mono ?_
  rintro e w4 ⟨pe, rfl, h, hb⟩
  have HB4 := hide (HB3.out.trans hb)
  replace hc := s_list (i := 0) h rfl
  clear h hb HB3
  go_wp2_with fail
  refine hc.mono ?_
  rintro e w5 ⟨vn, rfl, hr, h, hb⟩
  have HB5 := hide (HB4.out.trans hb)
  have hlm : (D.list.map encStr).length = D.list.length := List.length_map ..
  rw [hlm] at hr
  obtain ⟨adn, capn, en, _, _, _⟩ := row_at hr
  subst en
  have hoff : D.pow.off = false := by rw [HP.out]; rfl
  have HO := hide hoff
  obtain ⟨C, hC⟩ : ∃ C, (D.crash (ls.map FT.abs)).on = C := ⟨_, rfl⟩
  obtain ⟨E, hE⟩ : ∃ E, (D.crash []).on = E := ⟨_, rfl⟩
  have HCL : Hid (C.list = D.list) := by rw [← hC]; exact back_list hoff _
  have HEL : Hid (E.list = D.list) := by rw [← hE]; exact back_list hoff _
  have HCO : Hid (C.pow.off = false) := by rw [← hC]; rfl
  have HEO : Hid (E.pow.off = false) := by rw [← hE]; rfl
  have HCG : Hid (∀ k, fget C.fs k = (fget D.fs k).map (·.crash (ftOf ls k))) := fun k => by rw [← hC]; exact back_get hoff _ k
  have HEG : Hid (∀ k, fget E.fs k = (fget D.fs k).map (·.crash (fateOf [] k))) := fun k => by rw [← hE]; exact back_get hoff _ k
  replace hc := s_crash (i := 1) h rfl ad3 ls cap3 (HFA.out.later HB5.out HFLT.out) HFO.out hfl HFLT.out
  clear h hb HB4 hr hoff
  go_wp2_with fail
  refine hc.mono ?_
  rintro e w6 ⟨rfl, h, hb⟩
  have HB6 := hide (HB5.out.trans hb)
  replace hc := s_on (i := 1) h rfl
  rw [hC] at hc
  clear h hb HB5
  go_wp2_with fail
  refine hc.mono ?_
  rintro e w7 ⟨rfl, h, hb⟩
  have HB7 := hide (HB6.out.trans hb)
  replace hc := s_crash0 (i := 2) h rfl
  clear h hb HB6
  go_wp2_with fail
  refine hc.mono ?_
  rintro e w8 ⟨rfl, h, hb⟩
  have HB8 := hide (HB7.out.trans hb)
  replace hc := s_on (i := 2) h rfl
  rw [hE] at hc
  clear h hb HB7 hC hE
  go_wp2_with fail
  refine hc.mono ?_
  rintro e w9 ⟨rfl, h, hb⟩
  have HB9 := hide (HB8.out.trans hb)
  have HOC := hide (h.ok (i := 1) rfl)
  have HOE := hide (h.ok (i := 2) rfl)
  replace hc := s_list (i := 1) h rfl
  rw [HCL.out] at hc
  clear h hb HB8
  go_wp2_with fail
  refine hc.mono ?_
  rintro e w10 ⟨v10, rfl, hr, h, hb⟩
  have HB10 := hide (HB9.out.trans hb)
  rw [hlm] at hr
  obtain ⟨ad10, cap10, e10, hr10, _, hml⟩ := row_at hr
  subst e10
  have h10 : Lies B w10 ([.disk p D, .disk pc C, .disk pe E, .row 9 (.slice adn D.list.length capn) (D.list.map encStr)] ++ [.row 9 (.slice ad10 D.list.length cap10) (D.list.map encStr)]) := h
  have hrn := h10.rowOf (i := 3) rfl
  rw [hlm] at hrn
  obtain ⟨_, _, en, hrn', _, _⟩ := row_at hrn
  cases en
  replace hc := sameTexts_any w10 ad10 adn cap10 capn D.list D.list hr10 hrn' hml hml
  have db : (D.list == D.list) = true := by simp
  rw [db] at hc
  have H10 := hide h10.drop
  clear h h10 hb HB9 hr hr10 hrn hrn'
  go_wp2_with fail
  refine hc.mono ?_
  rintro e w11 ⟨rfl, hb⟩
  have h11 := H10.out.below hb
  have HB11 := hide (HB10.out.trans (hb.mono H10.out.base))
  replace hc := s_list (i := 2) h11 rfl
  rw [HEL.out] at hc
  clear h11 hb HB10 H10
  go_wp2_with fail
  refine hc.mono ?_
  rintro e w12 ⟨v12, rfl, hr, h, hb⟩
  have HB12 := hide (HB11.out.trans hb)
  rw [hlm] at hr
  obtain ⟨ad12, cap12, e12, hr12, _, _⟩ := row_at hr
  subst e12
  have h12 : Lies B w12 ([.disk p D, .disk pc C, .disk pe E, .row 9 (.slice adn D.list.length capn) (D.list.map encStr)] ++ [.row 9 (.slice ad12 D.list.length cap12) (D.list.map encStr)]) := h
  have hrn := h12.rowOf (i := 3) rfl
  rw [hlm] at hrn
  obtain ⟨_, _, en, hrn', _, _⟩ := row_at hrn
  cases en
  replace hc := sameTexts_any w12 ad12 adn cap12 capn D.list D.list hr12 hrn' hml hml
  rw [db] at hc
  have H12 := hide h12.drop
  clear h h12 hb HB11 hr hr12 hrn hrn' db
  go_wp2_with fail
  refine hc.mono ?_
  rintro e w13 ⟨rfl, hb⟩
  have h13 := H12.out.below hb
  have HB13 := hide (HB12.out.trans (hb.mono H12.out.base))
  have H13 := hide h13
  have hfew := AD.list_few HOK.out
  obtain ⟨ks, hks⟩ : ∃ ks, D.list = ks := ⟨_, rfl⟩
  rw [hks] at hlm hfew H13 ⊢
  have HKM : Hid (∀ k ∈ ks, ∃ F, fget D.fs k = some F) := fun k hk => by
    have h1 := list_has HO.out k
    rw [hks] at h1
    have h2 : ks.contains k = true := List.contains_iff_mem.2 hk
    rw [h2] at h1
    exact Option.isSome_iff_exists.1 h1.symm
  have HNM : Hid (∀ k ∈ ks, k.length ≤ 32) := fun k hk => AD.list_name HOK.out (by rw [hks]; exact hk)
  clear hc h13 hb HB12 H12 hks hml HCL HEL
  go_wp2
  go_loopw [9] (fun i wr => ∃ k : Nat, k ≤ ks.length ∧ i = .int .i64 (k : Int) ∧ Lies B wr [.disk p D, .disk pc C, .disk pe E, .row 9 (.slice adn ks.length capn) (ks.map encStr)] ∧ Below B w wr) (fun i _ => ks.length - (intOf i).toNat)
  case atStart => exact ⟨0, by omega, rfl, H13.out, HB13.out⟩
  case round =>
    clear H13 HB13
    obtain ⟨k, hk, rfl, hlr, hbr⟩ := hrel
    by_cases hlt : k < ks.length
    · have dk : decide ((k : Int) < (ks.length : Int)) = true := decide_eq_true (by omega)
      have hk0 : (0 : Int) ≤ (k : Int) := by omega
      have hk1 : (k : Int) < (ks.length : Int) := by omega
      obtain ⟨s, hs⟩ : ∃ s : ByteArray, s = ⟨ks[k].toArray⟩ := ⟨_, rfl⟩
      have hsl : s.data.toList = ks[k] := by rw [hs]
      have hsz : s.size ≤ maxLen := by
        rw [← str_len, hsl]
        have := HNM.out ks[k] (List.getElem_mem hlt)
        unfold maxLen
        omega
      have hsv : (ks.map encStr)[k]? = some (.string s) := by rw [List.getElem?_map, List.getElem?_eq_getElem hlt, hs]; rfl
      have hr3 := hlr.rowOf (i := 3) rfl
      rw [hlm] at hr3
      obtain ⟨gn, rfl⟩ := own_form hr3 (by omega)
      have ROW : Hid (∀ (wx : World) (L : List Item), Lies B wx L → L[3]? = some (.row 9 (.slice (some ⟨gn, 0, none⟩) ks.length capn) (ks.map encStr)) → wx.cell? ⟨gn, k, none⟩ = some (.string s)) := fun wx L hx hi => row_cell hx hi hlm hsv
      obtain ⟨F, hF⟩ := HKM.out ks[k] (List.getElem_mem hlt)
      rw [← hsl] at hF
      have hFok := HOK.out.files _ (fget_mem hF)
      have hFm : F.seen.length ≤ 1048576 := hFok.most
      obtain ⟨WA, hWA⟩ : ∃ x, (⟨(D.all s.data.toList).toArray⟩ : ByteArray) = x := ⟨_, rfl⟩
      obtain ⟨WC, hWC⟩ : ∃ x, (⟨(C.all s.data.toList).toArray⟩ : ByteArray) = x := ⟨_, rfl⟩
      obtain ⟨WE, hWE⟩ : ∃ x, (⟨(E.all s.data.toList).toArray⟩ : ByteArray) = x := ⟨_, rfl⟩
      have HWAL : Hid (WA.data.toList = F.seen) := by show _ = _; rw [← hWA]; exact all_get HO.out HOK.out hF
      have hGC : fget C.fs s.data.toList = some (F.crash (ftOf ls s.data.toList)) := by rw [HCG.out, hF]; rfl
      have hGE : fget E.fs s.data.toList = some (F.crash (fateOf [] s.data.toList)) := by rw [HEG.out, hF]; rfl
      have HWCL : Hid (WC.data.toList = F.left (ftOf ls s.data.toList)) := by show _ = _; rw [← hWC]; exact all_get HCO.out HOC.out hGC
      have HWEL : Hid (WE.data.toList = F.safe) := by show _ = _; rw [← hWE]; exact (all_get HEO.out HOE.out hGE).trans (left_lost F _)
      have HFO' := hide hFok
      have HSZ := hide hsz
      have hlen := hFok.le
      have HDI : Hid (D.dirtyI s.data.toList = dirtyI F) := dirty_get HO.out hF
      have HCD : Hid (C.dirtyI s.data.toList = []) := (dirty_get HCO.out hGC).trans (by
        unfold dirtyI AF.dirtyL
        rw [List.map_eq_nil_iff, List.filter_eq_nil_iff]
        intro x _
        show ¬ false = true
        simp)
      have HWAm : Hid (WA.size = F.seen.length) := by show _ = _; rw [← str_len, HWAL.out]
      have HWCm : Hid (WC.size = F.len (ftOf ls s.data.toList)) := by show _ = _; rw [← str_len, HWCL.out, AF.left_length]
      have HWEm : Hid (WE.size = F.safe.length) := by show _ = _; rw [← str_len, HWEL.out]
      have HHR := hide hlr
      have HBR := hide hbr
      have HWA := hide hWA
      have HWC := hide hWC
      have HWE := hide hWE
      have hS0 := ROW.out _ _ hlr rfl
      have HFm := hide hFm
      clear hlr hbr hr3 hs hsl hsz hsv hF hFok hGC hGE hWA hWC hWE hlen
      go_wp2
      refine wp_region_noPanic ?_
      refine wp_region_held_drew (S := fun wx => wx.cell? ⟨gn, k, none⟩ = some (.string s)) (by kernel_rfl) hS0 (fun hHeld => ?_)
      refine takeH 0 (some 65) (.pointer (some ⟨p, 0, none⟩)) rfl rfl (by kernel_rfl) (by kernel_rfl) (by kernel_rfl) (fun _ _ _ h => h) (by rfl) (fun w hw => by first | rfl | (go_simp; done) | (go_simp; rfl)) hHeld ?_
      simp only [Act.put, List.setIfInBounds_toArray, List.set_cons_zero, List.set_cons_succ]
      refine takeH 1 (some 66) (.slice (some ⟨gn, 0, none⟩) ks.length capn) rfl rfl (by kernel_rfl) (by kernel_rfl) (by kernel_rfl) (fun _ _ _ h => h) (by rfl) (fun w hw => by first | rfl | (go_simp; done) | (go_simp; rfl)) hHeld ?_
      simp only [Act.put, List.setIfInBounds_toArray, List.set_cons_zero, List.set_cons_succ]
      refine takeH 2 (some 67) (.int .i64 (k : Int)) rfl rfl (by kernel_rfl) (by kernel_rfl) (by kernel_rfl) (fun _ _ _ h => h) (by rfl) (fun w hw => by first | rfl | (go_simp; done) | (go_simp; rfl)) hHeld ?_
      simp only [Act.put, List.setIfInBounds_toArray, List.set_cons_zero, List.set_cons_succ]
      refine takeH 3 (some 68) (.pointer (some ⟨gn, k, none⟩)) rfl rfl (by kernel_rfl) (by kernel_rfl) (by kernel_rfl) (fun _ _ _ h => h) (by rfl) (fun w hw => by first | rfl | (go_simp; done) | (go_simp; rfl)) hHeld ?_
      simp only [Act.put, List.setIfInBounds_toArray, List.set_cons_zero, List.set_cons_succ]
      refine takeH 4 (some 69) (.string s) rfl rfl (by kernel_rfl) (by kernel_rfl) (by kernel_rfl) (fun _ _ _ h => h) (by rfl) (fun w hw => by have hw' : w.cell? ⟨gn, k, none⟩ = some (.string s) := hw; first | rfl | (go_simp; done) | (go_simp; rfl)) hHeld ?_
      simp only [Act.put, List.setIfInBounds_toArray, List.set_cons_zero, List.set_cons_succ]
      refine takeH 6 (some 71) (.pointer (some ⟨pc, 0, none⟩)) rfl rfl (by kernel_rfl) (by kernel_rfl) (by kernel_rfl) (fun _ _ _ h => h) (by rfl) (fun w hw => by first | rfl | (go_simp; done) | (go_simp; rfl)) hHeld ?_
      simp only [Act.put, List.setIfInBounds_toArray, List.set_cons_zero, List.set_cons_succ]
      refine takeH 7 (some 72) (.slice (some ⟨gn, 0, none⟩) ks.length capn) rfl rfl (by kernel_rfl) (by kernel_rfl) (by kernel_rfl) (fun _ _ _ h => h) (by rfl) (fun w hw => by first | rfl | (go_simp; done) | (go_simp; rfl)) hHeld ?_
      simp only [Act.put, List.setIfInBounds_toArray, List.set_cons_zero, List.set_cons_succ]
      refine takeH 8 (some 73) (.int .i64 (k : Int)) rfl rfl (by kernel_rfl) (by kernel_rfl) (by kernel_rfl) (fun _ _ _ h => h) (by rfl) (fun w hw => by first | rfl | (go_simp; done) | (go_simp; rfl)) hHeld ?_
      simp only [Act.put, List.setIfInBounds_toArray, List.set_cons_zero, List.set_cons_succ]
      refine takeH 9 (some 74) (.pointer (some ⟨gn, k, none⟩)) rfl rfl (by kernel_rfl) (by kernel_rfl) (by kernel_rfl) (fun _ _ _ h => h) (by rfl) (fun w hw => by first | rfl | (go_simp; done) | (go_simp; rfl)) hHeld ?_
      simp only [Act.put, List.setIfInBounds_toArray, List.set_cons_zero, List.set_cons_succ]
      refine takeH 10 (some 75) (.string s) rfl rfl (by kernel_rfl) (by kernel_rfl) (by kernel_rfl) (fun _ _ _ h => h) (by rfl) (fun w hw => by have hw' : w.cell? ⟨gn, k, none⟩ = some (.string s) := hw; first | rfl | (go_simp; done) | (go_simp; rfl)) hHeld ?_
      simp only [Act.put, List.setIfInBounds_toArray, List.set_cons_zero, List.set_cons_succ]
      refine takeH 12 (some 77) (.pointer (some ⟨pe, 0, none⟩)) rfl rfl (by kernel_rfl) (by kernel_rfl) (by kernel_rfl) (fun _ _ _ h => h) (by rfl) (fun w hw => by first | rfl | (go_simp; done) | (go_simp; rfl)) hHeld ?_
      simp only [Act.put, List.setIfInBounds_toArray, List.set_cons_zero, List.set_cons_succ]
      refine takeH 13 (some 78) (.slice (some ⟨gn, 0, none⟩) ks.length capn) rfl rfl (by kernel_rfl) (by kernel_rfl) (by kernel_rfl) (fun _ _ _ h => h) (by rfl) (fun w hw => by first | rfl | (go_simp; done) | (go_simp; rfl)) hHeld ?_
      simp only [Act.put, List.setIfInBounds_toArray, List.set_cons_zero, List.set_cons_succ]
      refine takeH 14 (some 79) (.int .i64 (k : Int)) rfl rfl (by kernel_rfl) (by kernel_rfl) (by kernel_rfl) (fun _ _ _ h => h) (by rfl) (fun w hw => by first | rfl | (go_simp; done) | (go_simp; rfl)) hHeld ?_
      simp only [Act.put, List.setIfInBounds_toArray, List.set_cons_zero, List.set_cons_succ]
      refine takeH 15 (some 80) (.pointer (some ⟨gn, k, none⟩)) rfl rfl (by kernel_rfl) (by kernel_rfl) (by kernel_rfl) (fun _ _ _ h => h) (by rfl) (fun w hw => by first | rfl | (go_simp; done) | (go_simp; rfl)) hHeld ?_
      simp only [Act.put, List.setIfInBounds_toArray, List.set_cons_zero, List.set_cons_succ]
      refine takeH 16 (some 81) (.string s) rfl rfl (by kernel_rfl) (by kernel_rfl) (by kernel_rfl) (fun _ _ _ h => h) (by rfl) (fun w hw => by have hw' : w.cell? ⟨gn, k, none⟩ = some (.string s) := hw; first | rfl | (go_simp; done) | (go_simp; rfl)) hHeld ?_
      simp only [Act.put, List.setIfInBounds_toArray, List.set_cons_zero, List.set_cons_succ]
      refine wpAnyH_ready (rs := [5]) (by kernel_rfl) (by simp) (AllReadyH.cons rfl (fun K hK => ?_) AllReadyH.nil)
      rw [if_pos (by rfl)]
      go_simp
      refine (all_is (i := 0) HHR.out.drew rfl s HSZ.out WA HWA.out).mono ?_
      rintro e x1 ⟨rfl, hl, hb⟩
      try go_wp2_with fail
      have HL1 := hide hl
      have HX1 := hide hb
      refine hK.out _ _ (ROW.out _ _ hl rfl) (fun hHeld => ?_)
      clear hK K hl hb
      refine wpAnyH_ready (rs := [11]) (by kernel_rfl) (by simp) (AllReadyH.cons rfl (fun K hK => ?_) AllReadyH.nil)
      rw [if_pos (by rfl)]
      go_simp
      refine (all_is (i := 1) HL1.out rfl s HSZ.out WC HWC.out).mono ?_
      rintro e x2 ⟨rfl, hl, hb⟩
      try go_wp2_with fail
      have HL2 := hide hl
      have HX2 := hide (HX1.out.trans hb)
      refine hK.out _ _ (ROW.out _ _ hl rfl) (fun hHeld => ?_)
      clear hK K hl hb
      refine wpAnyH_ready (rs := [17]) (by kernel_rfl) (by simp) (AllReadyH.cons rfl (fun K hK => ?_) AllReadyH.nil)
      rw [if_pos (by rfl)]
      go_simp
      refine (all_is (i := 2) HL2.out rfl s HSZ.out WE HWE.out).mono ?_
      rintro e x3 ⟨rfl, hl, hb⟩
      try go_wp2_with fail
      have HL3 := hide hl
      have HX3 := hide (HX2.out.trans hb)
      refine hK.out _ _ (ROW.out _ _ hl rfl) (fun hHeld => ?_)
      clear hK K hl hb
      refine takeH 18 (some 10) (.string WA) rfl rfl (by kernel_rfl) (by kernel_rfl) (by kernel_rfl) (fun _ _ _ h => h) (by rfl) (fun w hw => by first | rfl | (go_simp; done) | (go_simp; rfl)) hHeld ?_
      simp only [Act.put, List.setIfInBounds_toArray, List.set_cons_zero, List.set_cons_succ]
      refine takeH 19 (some 11) (.string WC) rfl rfl (by kernel_rfl) (by kernel_rfl) (by kernel_rfl) (fun _ _ _ h => h) (by rfl) (fun w hw => by first | rfl | (go_simp; done) | (go_simp; rfl)) hHeld ?_
      simp only [Act.put, List.setIfInBounds_toArray, List.set_cons_zero, List.set_cons_succ]
      refine takeH 20 (some 12) (.string WE) rfl rfl (by kernel_rfl) (by kernel_rfl) (by kernel_rfl) (fun _ _ _ h => h) (by rfl) (fun w hw => by first | rfl | (go_simp; done) | (go_simp; rfl)) hHeld ?_
      simp only [Act.put, List.setIfInBounds_toArray, List.set_cons_zero, List.set_cons_succ]
      refine ⟨by kernel_rfl, ?_⟩
      refine NoPanic.normal ?_
      have HB14 := hide (HBR.out.trans (of_drew HX3.out))
      have hc := s_dirty (i := 0) HL3.out rfl s HSZ.out
      rw [HDI.out] at hc
      have f3 := ROW.out _ _ HL3.out rfl
      clear hHeld HHR HBR HL1 HL2 HX1 HX2 hS0
      go_wp2_with fail
      refine hc.mono ?_
      rintro e w15 ⟨v15, rfl, hr, h, hb⟩
      have HB15 := hide (HB14.out.trans hb)
      have hld : ((dirtyI F).map (Value.int .i64)).length = (dirtyI F).length := List.length_map ..
      rw [hld] at hr
      obtain ⟨adi, capi, ei, _, _, hmli⟩ := row_at hr
      subst ei
      have h15 : Lies B w15 [.disk p D, .disk pc C, .disk pe E, .row 9 (.slice (some ⟨gn, 0, none⟩) ks.length capn) (ks.map encStr), .row 3 (.slice adi (dirtyI F).length capi) ((dirtyI F).map (Value.int .i64))] := h
      have H15 := hide h15
      obtain ⟨a1, ha1⟩ : ∃ n, WA.size = n := ⟨_, rfl⟩
      obtain ⟨a2, ha2⟩ : ∃ n, WC.size = n := ⟨_, rfl⟩
      obtain ⟨a3, ha3⟩ : ∃ n, WE.size = n := ⟨_, rfl⟩
      have ha1F : F.seen.length = a1 := by rw [← HWAm.out]; exact ha1
      have ha3F : F.safe.length = a3 := by rw [← HWEm.out]; exact ha3
      have ha13 : a3 ≤ a1 := by rw [← ha1F, ← ha3F]; exact HFO'.out.le
      have ha1m : a1 ≤ 1048576 := by rw [← ha1F]; exact HFm.out
      have ha2F : F.len (ftOf ls s.data.toList) = a2 := by rw [← HWCm.out]; exact ha2
      have ha2m : a2 ≤ a1 := by rw [← ha1F, ← ha2F]; exact AF.len_le HFO'.out _
      have HA1 := hide ha1F
      have HA2 := hide ha2F
      have HA3 := hide ha3F
      clear h h15 hr hc hb HB14 HL3 HX3 f3 ha1F ha2F ha3F
      go_wp2
      go_loopw [14, 15] (fun y i wx => ∃ j : Nat, j ≤ F.nsec ∧ i = .int .i64 (j : Int) ∧ y = .int .i64 (endAt F (ftOf ls s.data.toList) j : Int) ∧ Lies B wx [.disk p D, .disk pc C, .disk pe E, .row 9 (.slice (some ⟨gn, 0, none⟩) ks.length capn) (ks.map encStr), .row 3 (.slice adi (dirtyI F).length capi) ((dirtyI F).map (Value.int .i64))] ∧ Below B w wx) (fun _ i _ => F.nsec - (intOf i).toNat)
      case atStart => exact ⟨0, by omega, rfl, by rw [show endAt F (ftOf ls s.data.toList) 0 = F.safe.length from rfl, HA3.out], H15.out, HB15.out⟩
      case round =>
        clear H15 HB15
        obtain ⟨j, hj, rfl, rfl, hlr, hbr⟩ := hrel
        have hnm : F.nsec ≤ 16384 := AF.nsec_le HFO'.out
        by_cases hjl : j < F.nsec
        · have hj64 : 64 * j < a1 := by rw [← HA1.out]; exact sec_lt.2 hjl
          have dj : decide (64 * (j : Int) < (a1 : Int)) = true := decide_eq_true (by omega)
          have f3 := ROW.out _ _ hlr rfl
          obtain ⟨kd, hkd⟩ : ∃ kd, (kindOf (firstF ls s.data.toList (j : Int))).1 = kd := ⟨_, rfl⟩
          obtain ⟨gv, hgv⟩ : ∃ gv, (kindOf (firstF ls s.data.toList (j : Int))).2 = gv := ⟨_, rfl⟩
          have hc := fate_any wr ad3 cap3 ls (HFA.out.later hbr HFLT.out) hfl s (j : Int)
          rw [hkd, hgv] at hc
          have HCM := hide (came_ok HFO'.out ls s.data.toList j WA WC WE HWAL.out HWCL.out HWEL.out)
          rw [hkd, hgv] at HCM
          have HKH := hide (kind_hits ls s.data.toList j)
          rw [hkd] at HKH
          obtain ⟨en, hen⟩ : ∃ en, endAt F (ftOf ls s.data.toList) j = en := ⟨_, rfl⟩
          have hene : en ≤ a1 := by rw [← hen, ← HA1.out]; exact endAt_le HFO'.out _ j
          have HEN := hide hen
          rw [hen]
          have HLR := hide hlr
          have HBR := hide hbr
          clear hlr hbr hkd hgv hen
          go_wp2_with fail
          refine hc.mono ?_
          rintro e w16 ⟨rfl, hb⟩
          have h16 := HLR.out.below hb
          have HB16 := hide (HBR.out.trans (hb.mono HLR.out.base))
          have hrd := h16.rowOf (i := 4) rfl
          rw [hld] at hrd
          obtain ⟨_, _, ed, hrd', _, _⟩ := row_at hrd
          cases ed
          replace hc := member_any w16 adi capi (dirtyI F) hrd' hmli (j : Int)
          rw [dirtyI_has HFO'.out] at hc
          have H16 := hide h16
          have HMB := hide hc
          clear h16 hb hrd hrd' f3 HLR HBR
          obtain ⟨dy, hdy⟩ : ∃ dy, F.dirty j = dy := ⟨_, rfl⟩
          rw [hdy] at hc HMB HCM
          go_wp2_with fail
          refine hc.mono ?_
          rintro e w17 ⟨rfl, rfl⟩
          clear hc
          cases dy with
          | false =>
            have HEE : Hid (endAt F (ftOf ls s.data.toList) (j + 1) = en) := by
              show _ = _
              rw [endAt_succ, hdy, HEN.out]; simp
            clear hdy
            go_wp2_with fail
            refine HMB.out.mono ?_
            rintro e w18 ⟨rfl, rfl⟩
            have hc := came_any w18 WA WC WE j false kd gv (by omega) (by unfold maxLen; omega) (by unfold maxLen; omega) (by unfold maxLen; omega) HCM.out
            go_wp2_with fail
            refine hc.mono ?_
            rintro e w19 ⟨rfl, rfl⟩
            clear hc
            go_wp2
            go_roundw
            case rel => exact ⟨j + 1, by omega, by go_num, by rw [HEE.out], H16.out, HB16.out⟩
            case measure => simp [intOf]; omega
          | true =>
            cases dz : (kd == 0) with
            | true =>
              have HEE : Hid (endAt F (ftOf ls s.data.toList) (j + 1) = en) := by
                show _ = _
                rw [endAt_succ, hdy, HEN.out, if_neg]
                rw [Bool.true_and, HKH.out]
                exact fun x => x (beq_iff_eq.1 dz)
              clear hdy
              go_wp2_with fail
              refine HMB.out.mono ?_
              rintro e w18 ⟨rfl, rfl⟩
              have hc := came_any w18 WA WC WE j true kd gv (by omega) (by unfold maxLen; omega) (by unfold maxLen; omega) (by unfold maxLen; omega) HCM.out
              go_wp2_with fail
              refine hc.mono ?_
              rintro e w19 ⟨rfl, rfl⟩
              clear hc
              go_wp2
              go_roundw
              case rel => exact ⟨j + 1, by omega, by go_num, by rw [HEE.out], H16.out, HB16.out⟩
              case measure => simp [intOf]; omega
            | false =>
              have HEE : Hid (endAt F (ftOf ls s.data.toList) (j + 1) = max en (min (64 * j + 64) a1)) := by
                show _ = _
                rw [endAt_succ, hdy, HEN.out, HA1.out, if_pos]
                rw [Bool.true_and, HKH.out]
                exact beq_eq_false_iff_ne.1 dz
              clear hdy
              go_wp2_with fail
              refine HMB.out.mono ?_
              rintro e w18 ⟨rfl, rfl⟩
              have hc := came_any w18 WA WC WE j true kd gv (by omega) (by unfold maxLen; omega) (by unfold maxLen; omega) (by unfold maxLen; omega) HCM.out
              go_wp2_with fail
              refine hc.mono ?_
              rintro e w19 ⟨rfl, rfl⟩
              clear hc
              go_wp2
              go_roundw
              case rel => exact ⟨j + 1, by omega, by go_num, by rw [HEE.out]; congr 1; omega, H16.out, HB16.out⟩
              case measure => simp [intOf]; omega
        · have hje : j = F.nsec := by omega
          subst hje
          have dj : decide (64 * (F.nsec : Int) < (a1 : Int)) = false := decide_eq_false (by
            have hn : ¬ 64 * F.nsec < a1 := fun h => by rw [← HA1.out] at h; exact absurd (sec_lt.1 h) (by omega)
            omega)
          rw [endAt_all, HA2.out]
          have f3 := ROW.out _ _ hlr rfl
          have hc := s_dirty (i := 1) hlr rfl s HSZ.out
          rw [HCD.out] at hc
          have HBR := hide hbr
          clear hbr hlr
          go_wp2_with fail
          refine hc.mono ?_
          rintro e w20 ⟨v20, rfl, hr, h, hb⟩
          have HB20 := hide (HBR.out.trans hb)
          obtain ⟨ad20, cap20, e20, _, _, _⟩ := row_at hr
          subst e20
          have h20 : Lies B w20 ([.disk p D, .disk pc C, .disk pe E, .row 9 (.slice (some ⟨gn, 0, none⟩) ks.length capn) (ks.map encStr)] ++ [.row 3 (.slice adi (dirtyI F).length capi) ((dirtyI F).map (Value.int .i64)), .row 3 (.slice ad20 0 cap20) []]) := h
          have H20 := hide h20.drop
          clear h h20 hc hr hb HBR f3
          by_cases hd0 : dirtyI F = []
          · have hWW : WC = WA := bytes_ext (by
              rw [HWCL.out, HWAL.out]
              exact (clean_of HFO'.out (by unfold dirtyI at hd0; exact List.map_eq_nil_iff.1 hd0)).left _)
            have dw : (WC.toList == WA.toList) = true := by rw [hWW]; simp
            have dn : (dirtyI F).length = 0 := by rw [hd0]; rfl
            rw [dn]
            clear hd0 hWW dn
            go_wp2
            exact ⟨⟨k + 1, by omega, by go_num, H20.out, HB20.out⟩, by simp [intOf]; omega⟩
          · have dn : ((((dirtyI F).length : Nat) : Int) == 0) = false := by
              rw [beq_eq_false_iff_ne]
              have : (dirtyI F).length ≠ 0 := fun h => hd0 (List.length_eq_zero_iff.1 h)
              omega
            clear hd0
            go_wp2
            exact ⟨⟨k + 1, by omega, by go_num, H20.out, HB20.out⟩, by simp [intOf]; omega⟩
    · have hkl : k = ks.length := by omega
      subst hkl
      have dk : decide ((ks.length : Int) < (ks.length : Int)) = false := decide_eq_false (by omega)
      have HBR := hide hbr
      clear hlr hbr
      go_wp2
      go_ret
      exact ⟨rfl, HBR.out⟩
end Go.Proofs.Ytcmhfpiglacdaaa
