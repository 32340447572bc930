/-
  Rename.
-/
import Derived.Test.YtlkimfmilccanaaGreatCalls1
namespace Go.Proofs.YtlkimfmilccanaaGreat
open Go.RowKit Go.Maps Go.WideMaps
set_option linter.unusedSimpArgs false
theorem DStep.ren {w w' : World} {p m : Nat} {con : Key → FC} {A : AD} {k k' : Key} {F : AF} (h : DiskAt w p m con A) (hk : fget A.fs k = some F) (hn : nameOk k' = true) (t : Turn (fun b => b = m) w w') {n : Nat}
    (hm : w'.ownsMap Tryz.prog 9 ptrElem m n (((fsD con A.fs).del (.string k)).put (.string k') (.lit (.int .i64 ((con k).g : Int))))) :
    DStep p m con A w (upd con k' (con k)) { A with fs := fput (fdel A.fs k) k' F } w' := by
  have hfk : ∀ x G, fget (fput (fdel A.fs k) k' F) x = some G → (x = k' ∧ G = F) ∨ (x ≠ k' ∧ x ≠ k ∧ fget A.fs x = some G) := fun x G hx => by
    by_cases e : x = k'
    · subst e
      rw [fget_fput_same] at hx
      exact .inl ⟨rfl, by simpa using hx.symm⟩
    · rw [fget_fput_ne e] at hx
      by_cases e2 : x = k
      · subst e2; rw [fget_fdel_same] at hx; cases hx
      · rw [fget_fdel_ne e2] at hx
        exact .inr ⟨e, e2, hx⟩
  have hmem : ∀ q ∈ fput (fdel A.fs k) k' F, q = (k', F) ∨ q ∈ A.fs := fun q hq => by
    rcases mem_fins.1 hq with e | hq
    · exact .inl e
    · exact .inr (List.mem_filter.1 (List.mem_filter.1 hq).1).1
  have hlen : (fput (fdel A.fs k) k' F).length ≤ 16 := by
    have h1 := fput_length (fs := fdel A.fs k) (k := k') (F := F)
    have h2 := fdel_some_length hk
    have h3 := h.ok.few
    omega
  refine ⟨⟨⟨h.ok.c0, h.ok.c1, fput_sorted (fdel_sorted h.ok.sorted), fun q hq => ?_, hlen, fun q hq => ?_, ?_, h.ok.pow⟩, ?_, ?_, fun x G hx => ?_, fun x G hx => ?_, fun x G y G' hx hy hxy b hb hb' => ?_⟩, t.mono (fun _ hb => .inr (.inl hb)), fun b hb => ?_⟩
  · rcases hmem q hq with rfl | hq
    · exact hn
    · exact h.ok.names q hq
  · rcases hmem q hq with rfl | hq
    · exact (h.file k F hk).ok
    · exact h.ok.files q hq
  · have h1 := fused_fdel (apart_of h.ok.sorted) hk
    have h2 := fused_fdel_le (fs := fdel A.fs k) (k := k')
    have h3 := h.ok.space
    show (fused (fput (fdel A.fs k) k' F) : Int) ≤ A.cap
    unfold fput
    rw [fused_fins]
    simp only
    omega
  · rw [t.block p (lt_of_some h.cells) h.pm]; exact h.cells
  · rw [fsD_del] at hm
    have e := fsD_put (con := con) (con' := upd con k' (con k)) (fs := fdel A.fs k) (k := k') (F := F) (fun q _ hq => by rw [upd_ne _ _ hq])
    rw [upd_same] at e
    rw [e] at hm
    refine ownsMap_exact hm ?_
    rw [fsD_size]
    exact hlen
  · rcases hfk x G hx with ⟨rfl, rfl⟩ | ⟨e, _, hx⟩
    · rw [upd_same]
      exact (h.file k G hk).turn t (fun b hb e' => (h.pf k G hk).2 (e' ▸ hb))
    · rw [upd_ne _ _ e]
      exact (h.file x G hx).turn t (fun b hb e' => (h.pf x G hx).2 (e' ▸ hb))
  · rcases hfk x G hx with ⟨rfl, rfl⟩ | ⟨e, _, hx⟩
    · rw [upd_same]; exact h.pf k G hk
    · rw [upd_ne _ _ e]; exact h.pf x G hx
  · rcases hfk x G hx with ⟨ex, eG⟩ | ⟨e, e2, hx2⟩
    · rcases hfk y G' hy with ⟨e', _⟩ | ⟨e', e3, hy2⟩
      · exact hxy (ex.trans e'.symm)
      · rw [ex, upd_same] at hb
        rw [upd_ne _ _ e'] at hb'
        exact h.apart k F y G' hk hy2 (fun q => e3 q.symm) b hb hb'
    · rw [upd_ne _ _ e] at hb
      rcases hfk y G' hy with ⟨ey, _⟩ | ⟨e', e3, hy2⟩
      · rw [ey, upd_same] at hb'
        exact h.apart x G k F hx2 hk e2 b hb hb'
      · rw [upd_ne _ _ e'] at hb'
        exact h.apart x G y G' hx2 hy2 hxy b hb hb'
  · rcases hb with rfl | rfl | ⟨x, G, hx, hb⟩
    · exact .inl (.inl rfl)
    · exact .inl (.inr (.inl rfl))
    · rcases hfk x G hx with ⟨ex, _⟩ | ⟨e, _, hx⟩
      · rw [ex, upd_same] at hb
        exact .inl (.inr (.inr ⟨k, F, hk, hb⟩))
      · rw [upd_ne _ _ e] at hb
        exact .inl (.inr (.inr ⟨x, G, hx, hb⟩))
theorem rename_off {A : AD} {k k' : Key} (h : A.pow.off = true) : A.rename k k' = (9, A) := by unfold AD.rename; rw [if_pos h]
theorem rename_none {A : AD} {k k' : Key} (h : A.pow.off = false) (hk : fget A.fs k = none) : A.rename k k' = (5, A) := by unfold AD.rename; rw [if_neg (by rw [h]; simp), hk]
theorem rename_bad {A : AD} {k k' : Key} {F : AF} (h : A.pow.off = false) (hk : fget A.fs k = some F) (hc : nameOk k' = false) : A.rename k k' = (1, A) := by unfold AD.rename; rw [if_neg (by rw [h]; simp), hk]; simp only; rw [if_pos hc]
theorem rename_some {A : AD} {k k' : Key} {F : AF} (h : A.pow.off = false) (hk : fget A.fs k = some F) (hc : nameOk k' = true) : A.rename k k' = (0, { A with fs := fput (fdel A.fs k) k' F }) := by unfold AD.rename; rw [if_neg (by rw [h]; simp), hk]; simp only; rw [if_neg (by rw [hc]; simp)]
set_option maxRecDepth 5000 in
set_option maxHeartbeats 1000000 in
theorem rename_any (p m : Nat) (con : Key → FC) (A : AD) (w : World) (h : DiskAt w p m con A) (s : ByteArray) (hs : s.size ≤ maxLen) (t : ByteArray) (ht : t.size ≤ maxLen) :
    Calls Tryz.prog 66 #[.pointer (some ⟨p, 0, none⟩), .string s, .string t] w fun e w' => e = .returned (.int .i64 (A.rename s.data.toList t.data.toList).1) ∧ ∃ con', DStep p m con A w con' (A.rename s.data.toList t.data.toList).2 w' := by
  have HH := hide h
  clear h
  go_enter Tryz.func66, Tryz.ntmps66
  go_wp2_with fail
  refine (find_any p m con A _ HH.out s hs).mono ?_
  rintro e w1 ⟨rfl, ⟨ho, rfl⟩ | ⟨ho, hk, rfl⟩ | ⟨F, ho, hk, rfl⟩⟩
  · have HE := hide (rename_off (k := s.data.toList) (k' := t.data.toList) ho)
    clear ho
    go_wp2
    go_ret
    rw [HE.out]
    exact ⟨rfl, con, DStep.refl HH.out⟩
  · have HE := hide (rename_none (k' := t.data.toList) ho hk)
    clear ho hk
    go_wp2
    go_ret
    rw [HE.out]
    exact ⟨rfl, con, DStep.refl HH.out⟩
  · have HO := hide ho
    have HK := hide hk
    clear ho hk
    go_wp2_with fail
    refine (isName_any t _).mono ?_
    rintro e w2 ⟨rfl, rfl⟩
    cases hN : nameOk t.data.toList with
    | false =>
      have HE := hide (rename_bad HO.out HK.out hN)
      clear hN
      go_wp2
      go_ret
      rw [HE.out]
      exact ⟨rfl, con, DStep.refl HH.out⟩
    | true =>
      have HE := hide (rename_some HO.out HK.out hN)
      have HN := hide hN
      have c1 := HH.out.c1
      have HKY := hide (keyOf_string_mk Tryz.underlying9 hs)
      clear hN
      obtain ⟨g, hg⟩ : ∃ g, (con s.data.toList).g = g := ⟨_, rfl⟩
      have HG := hide hg
      rw [hg]
      clear hg
      go_wp2_with (first | (at_delete; refine wpList_delete_own _ rfl _ _ 82 9 rfl 94 law9 Tryz.underlying82 ptrElem m 16 _ rfl HH.out.files _ _ rfl HKY.out ?_; intro w3 hown3 hturn3) | go_in)
      try go_frame
      have hT3 := (Turn.of_grown hturn3.grown).mono (T := fun b => b = m) (fun b hb => by simpa using hb.symm)
      have x1 : w3.cell? ⟨p, 1, none⟩ = some (.map (some m)) := by rw [World.cell?_of_block (hT3.block p (lt_of_some HH.out.cells) HH.out.pm)]; exact c1
      have HO3 := hide hown3
      have HT3 := hide hT3
      clear hown3 hturn3 hT3 c1
      refine wp_region_noPanic ?_
      refine wp_region_held_drew (S := fun wx => wx.cell? ⟨p, 1, none⟩ = some (.map (some m))) (by kernel_rfl) x1 (fun hHeld => ?_)
      refine tK 0 (some 26) (.pointer (some ⟨p, 0, none⟩)) rfl hHeld ?_
      simp only [Act.put, pA, pB, pC]
      refine tK 1 (some 27) (.pointer (some ⟨p, 0, none⟩)) rfl hHeld ?_
      simp only [Act.put, pA, pB, pC]
      refine tK 2 (some 28) (.pointer (some ⟨p, 1, none⟩)) rfl hHeld ?_
      simp only [Act.put, pA, pB, pC]
      refine tH 3 (some 29) (.map (some m)) rfl (fun w hw => by have hw' : w.cell? ⟨p, 1, none⟩ = some (.map (some m)) := hw; first | (go_simp; done) | (go_simp; rfl)) hHeld ?_
      simp only [Act.put, pA, pB, pC]
      refine tK 4 (some 30) (.string t) rfl hHeld ?_
      simp only [Act.put, pA, pB, pC]
      refine tK 6 (some 32) (.pointer (some ⟨g, 0, none⟩)) rfl hHeld ?_
      simp only [Act.put, pA, pB, pC]
      refine rdH 5 rfl (fun K hK => ?_)
      go_simp
      refine (clone_any t w3.drew (by have := HN.out; simp [nameOk] at this; rw [← Array.length_toList] at *; have h5 := str_len t; omega)).mono ?_
      rintro e w4 ⟨rfl, hb4⟩
      try go_wp2_with fail
      have hb4' := below_drew hb4
      have hm3 := HO3.out.lt
      have hown4 := ownsMap_same HO3.out (hb4'.block m hm3)
      obtain ⟨w5, hrun5, hown5, hg5⟩ := hown4.update law9 Tryz.underlying82 (by unfold maxLen; omega) (keyOf_string_mk Tryz.underlying9 ht) (ptrElem_some g)
      have hp3 : p < w3.heap.size := Nat.lt_of_lt_of_le (lt_of_some HH.out.cells) HT3.out.size
      have hcell4 : w4.cell? ⟨p, 1, none⟩ = some (.map (some m)) := by rw [World.cell?_of_block (hb4'.block p hp3)]; exact x1
      have hcell5 : w5.cell? ⟨p, 1, none⟩ = some (.map (some m)) := by rw [World.cell?_of_block (hg5.block p (Nat.lt_of_lt_of_le hp3 hb4'.size) (fun e => HH.out.pm (by simpa using e)))]; exact hcell4
      refine hK.out _ _ hcell4 (fun hHeld => ?_)
      clear hK K
      refine rdH 7 rfl (fun K hK => ?_)
      refine wpSkip (run_mapUpdate_op _ _ _ _ rfl hrun5) ?_
      refine hK.out _ _ hcell5 (fun hHeld => ?_)
      clear hK K
      refine ⟨by kernel_rfl, ?_⟩
      refine NoPanic.normal ?_
      have T25 : Turn (fun b => b = m) w2 w5 := (HT3.out.trans (Turn.of_below hb4' (fun b => b = m)) (fun _ hb => .inl hb)).trans (Turn.of_grown hg5) (fun b hb => .inl (by simpa using hb.symm))
      rw [← HG.out] at hown5
      have S5 := DStep.ren HH.out HK.out HN.out T25 hown5
      clear hown5 T25 hcell4 hcell5 hrun5 hg5 hb4 hb4' hHeld x1
      go_wp2
      go_ret
      rw [HE.out]
      exact ⟨rfl, _, S5⟩
end Go.Proofs.YtlkimfmilccanaaGreat
