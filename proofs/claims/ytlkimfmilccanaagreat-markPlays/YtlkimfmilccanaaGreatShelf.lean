import Derived.Test.YtlkimfmilccanaaGreatCalls1
import Derived.Shelf.SortM.Plain
import Derived.Shelf.SortM.SortNone
import Derived.Shelf.SlIterI.Nil
import Derived.Ground.GgzProg
import Derived.Ground.SlgmProg
import Derived.Shelf.SlGeneric
import Derived.Test.YtlkimfmilccanaaGreatProg
/-
  Rename.
-/
namespace Go.Proofs.YtlkimfmilccanaaGreat
open Go.RowKit Go.Maps Go.WideMaps
set_option linter.unusedSimpArgs false
theorem DStep.ren {w w' : World} {p m : Nat} {con : Key → FC} {A : AD} {k k' : Key} {F : AF} (h : DiskAt w p m con A) (hk : fget A.fs k = some F) (hn : nameOk k' = true) (t : Turn (fun b => b = m) w w') {n : Nat}
    (hm : w'.ownsMap Tryz.prog 9 ptrElem m n (((fsD con A.fs).del (.string k)).put (.string k') (.lit (.int .i64 ((con k).g : Int))))) :
    DStep p m con A w (upd con k' (con k)) { A with fs := fput (fdel A.fs k) k' F } w' := by
  have hfk : ∀ x G, fget (fput (fdel A.fs k) k' F) x = some G → (x = k' ∧ G = F) ∨ (x ≠ k' ∧ x ≠ k ∧ fget A.fs x = some G) := fun x G hx => by
    by_cases e : x = k'
    · subst e
      rw [fget_fput_same] at hx
      exact .inl ⟨rfl, by simpa using hx.symm⟩
    · rw [fget_fput_ne e] at hx
      by_cases e2 : x = k
      · subst e2; rw [fget_fdel_same] at hx; cases hx
      · rw [fget_fdel_ne e2] at hx
        exact .inr ⟨e, e2, hx⟩
  have hmem : ∀ q ∈ fput (fdel A.fs k) k' F, q = (k', F) ∨ q ∈ A.fs := fun q hq => by
    rcases mem_fins.1 hq with e | hq
    · exact .inl e
    · exact .inr (List.mem_filter.1 (List.mem_filter.1 hq).1).1
  have hlen : (fput (fdel A.fs k) k' F).length ≤ 16 := by
    have h1 := fput_length (fs := fdel A.fs k) (k := k') (F := F)
    have h2 := fdel_some_length hk
    have h3 := h.ok.few
    omega
  refine ⟨⟨⟨h.ok.c0, h.ok.c1, fput_sorted (fdel_sorted h.ok.sorted), fun q hq => ?_, hlen, fun q hq => ?_, ?_, h.ok.pow⟩, ?_, ?_, fun x G hx => ?_, fun x G hx => ?_, fun x G y G' hx hy hxy b hb hb' => ?_⟩, t.mono (fun _ hb => .inr (.inl hb)), fun b hb => ?_⟩
  · rcases hmem q hq with rfl | hq
    · exact hn
    · exact h.ok.names q hq
  · rcases hmem q hq with rfl | hq
    · exact (h.file k F hk).ok
    · exact h.ok.files q hq
  · have h1 := fused_fdel (apart_of h.ok.sorted) hk
    have h2 := fused_fdel_le (fs := fdel A.fs k) (k := k')
    have h3 := h.ok.space
    show (fused (fput (fdel A.fs k) k' F) : Int) ≤ A.cap
    unfold fput
    rw [fused_fins]
    simp only
    omega
  · rw [t.block p (lt_of_some h.cells) h.pm]; exact h.cells
  · rw [fsD_del] at hm
    have e := fsD_put (con := con) (con' := upd con k' (con k)) (fs := fdel A.fs k) (k := k') (F := F) (fun q _ hq => by rw [upd_ne _ _ hq])
    rw [upd_same] at e
    rw [e] at hm
    refine ownsMap_exact hm ?_
    rw [fsD_size]
    exact hlen
  · rcases hfk x G hx with ⟨rfl, rfl⟩ | ⟨e, _, hx⟩
    · rw [upd_same]
      exact (h.file k G hk).turn t (fun b hb e' => (h.pf k G hk).2 (e' ▸ hb))
    · rw [upd_ne _ _ e]
      exact (h.file x G hx).turn t (fun b hb e' => (h.pf x G hx).2 (e' ▸ hb))
  · rcases hfk x G hx with ⟨rfl, rfl⟩ | ⟨e, _, hx⟩
    · rw [upd_same]; exact h.pf k G hk
    · rw [upd_ne _ _ e]; exact h.pf x G hx
  · rcases hfk x G hx with ⟨ex, eG⟩ | ⟨e, e2, hx2⟩
    · rcases hfk y G' hy with ⟨e', _⟩ | ⟨e', e3, hy2⟩
      · exact hxy (ex.trans e'.symm)
      · rw [ex, upd_same] at hb
        rw [upd_ne _ _ e'] at hb'
        exact h.apart k F y G' hk hy2 (fun q => e3 q.symm) b hb hb'
    · rw [upd_ne _ _ e] at hb
      rcases hfk y G' hy with ⟨ey, _⟩ | ⟨e', e3, hy2⟩
      · rw [ey, upd_same] at hb'
        exact h.apart x G k F hx2 hk e2 b hb hb'
      · rw [upd_ne _ _ e'] at hb'
        exact h.apart x G y G' hx2 hy2 hxy b hb hb'
  · rcases hb with rfl | rfl | ⟨x, G, hx, hb⟩
    · exact .inl (.inl rfl)
    · exact .inl (.inr (.inl rfl))
    · rcases hfk x G hx with ⟨ex, _⟩ | ⟨e, _, hx⟩
      · rw [ex, upd_same] at hb
        exact .inl (.inr (.inr ⟨k, F, hk, hb⟩))
      · rw [upd_ne _ _ e] at hb
        exact .inl (.inr (.inr ⟨x, G, hx, hb⟩))
theorem rename_off {A : AD} {k k' : Key} (h : A.pow.off = true) : A.rename k k' = (9, A) := by unfold AD.rename; rw [if_pos h]
theorem rename_none {A : AD} {k k' : Key} (h : A.pow.off = false) (hk : fget A.fs k = none) : A.rename k k' = (5, A) := by unfold AD.rename; rw [if_neg (by rw [h]; simp), hk]
theorem rename_bad {A : AD} {k k' : Key} {F : AF} (h : A.pow.off = false) (hk : fget A.fs k = some F) (hc : nameOk k' = false) : A.rename k k' = (1, A) := by unfold AD.rename; rw [if_neg (by rw [h]; simp), hk]; simp only; rw [if_pos hc]
theorem rename_some {A : AD} {k k' : Key} {F : AF} (h : A.pow.off = false) (hk : fget A.fs k = some F) (hc : nameOk k' = true) : A.rename k k' = (0, { A with fs := fput (fdel A.fs k) k' F }) := by unfold AD.rename; rw [if_neg (by rw [h]; simp), hk]; simp only; rw [if_neg (by rw [hc]; simp)]
set_option maxRecDepth 5000 in
set_option maxHeartbeats 1000000 in
theorem rename_any (p m : Nat) (con : Key → FC) (A : AD) (w : World) (h : DiskAt w p m con A) (s : ByteArray) (hs : s.size ≤ maxLen) (t : ByteArray) (ht : t.size ≤ maxLen) :
    Calls Tryz.prog 66 #[.pointer (some ⟨p, 0, none⟩), .string s, .string t] w fun e w' => e = .returned (.int .i64 (A.rename s.data.toList t.data.toList).1) ∧ ∃ con', DStep p m con A w con' (A.rename s.data.toList t.data.toList).2 w' := by
  have HH := hide h
  clear h
  go_enter Tryz.func66, Tryz.ntmps66
  go_wp2_with fail
  refine (find_any p m con A _ HH.out s hs).mono ?_
  rintro e w1 ⟨rfl, ⟨ho, rfl⟩ | ⟨ho, hk, rfl⟩ | ⟨F, ho, hk, rfl⟩⟩
  · have HE := hide (rename_off (k := s.data.toList) (k' := t.data.toList) ho)
    clear ho
    go_wp2
    go_ret
    rw [HE.out]
    exact ⟨rfl, con, DStep.refl HH.out⟩
  · have HE := hide (rename_none (k' := t.data.toList) ho hk)
    clear ho hk
    go_wp2
    go_ret
    rw [HE.out]
    exact ⟨rfl, con, DStep.refl HH.out⟩
  · have HO := hide ho
    have HK := hide hk
    clear ho hk
    go_wp2_with fail
    refine (isName_any t _).mono ?_
    rintro e w2 ⟨rfl, rfl⟩
    cases hN : nameOk t.data.toList with
    | false =>
      have HE := hide (rename_bad HO.out HK.out hN)
      clear hN
      go_wp2
      go_ret
      rw [HE.out]
      exact ⟨rfl, con, DStep.refl HH.out⟩
    | true =>
      have HE := hide (rename_some HO.out HK.out hN)
      have HN := hide hN
      have c1 := HH.out.c1
      have HKY := hide (keyOf_string_mk Tryz.underlying9 hs)
      clear hN
      obtain ⟨g, hg⟩ : ∃ g, (con s.data.toList).g = g := ⟨_, rfl⟩
      have HG := hide hg
      rw [hg]
      clear hg
      go_wp2_with (first | (at_delete; refine wpList_delete_own _ rfl _ _ 82 9 rfl 94 law9 Tryz.underlying82 ptrElem m 16 _ rfl HH.out.files _ _ rfl HKY.out ?_; intro w3 hown3 hturn3) | go_in)
      try go_frame
      have hT3 := (Turn.of_grown hturn3.grown).mono (T := fun b => b = m) (fun b hb => by simpa using hb.symm)
      have x1 : w3.cell? ⟨p, 1, none⟩ = some (.map (some m)) := by rw [World.cell?_of_block (hT3.block p (lt_of_some HH.out.cells) HH.out.pm)]; exact c1
      have HO3 := hide hown3
      have HT3 := hide hT3
      clear hown3 hturn3 hT3 c1
      refine wp_region_noPanic ?_
      refine wp_region_held_drew (S := fun wx => wx.cell? ⟨p, 1, none⟩ = some (.map (some m))) (by kernel_rfl) x1 (fun hHeld => ?_)
      refine tK 0 (some 26) (.pointer (some ⟨p, 0, none⟩)) rfl hHeld ?_
      simp only [Act.put, pA, pB, pC]
      refine tK 1 (some 27) (.pointer (some ⟨p, 0, none⟩)) rfl hHeld ?_
      simp only [Act.put, pA, pB, pC]
      refine tK 2 (some 28) (.pointer (some ⟨p, 1, none⟩)) rfl hHeld ?_
      simp only [Act.put, pA, pB, pC]
      refine tH 3 (some 29) (.map (some m)) rfl (fun w hw => by have hw' : w.cell? ⟨p, 1, none⟩ = some (.map (some m)) := hw; first | (go_simp; done) | (go_simp; rfl)) hHeld ?_
      simp only [Act.put, pA, pB, pC]
      refine tK 4 (some 30) (.string t) rfl hHeld ?_
      simp only [Act.put, pA, pB, pC]
      refine tK 6 (some 32) (.pointer (some ⟨g, 0, none⟩)) rfl hHeld ?_
      simp only [Act.put, pA, pB, pC]
      refine rdH 5 rfl (fun K hK => ?_)
      go_simp
      refine (clone_any t w3.drew (by have := HN.out; simp [nameOk] at this; rw [← Array.length_toList] at *; have h5 := str_len t; omega)).mono ?_
      rintro e w4 ⟨rfl, hb4⟩
      try go_wp2_with fail
      have hb4' := below_drew hb4
      have hm3 := HO3.out.lt
      have hown4 := ownsMap_same HO3.out (hb4'.block m hm3)
      obtain ⟨w5, hrun5, hown5, hg5⟩ := hown4.update law9 Tryz.underlying82 (by unfold maxLen; omega) (keyOf_string_mk Tryz.underlying9 ht) (ptrElem_some g)
      have hp3 : p < w3.heap.size := Nat.lt_of_lt_of_le (lt_of_some HH.out.cells) HT3.out.size
      have hcell4 : w4.cell? ⟨p, 1, none⟩ = some (.map (some m)) := by rw [World.cell?_of_block (hb4'.block p hp3)]; exact x1
      have hcell5 : w5.cell? ⟨p, 1, none⟩ = some (.map (some m)) := by rw [World.cell?_of_block (hg5.block p (Nat.lt_of_lt_of_le hp3 hb4'.size) (fun e => HH.out.pm (by simpa using e)))]; exact hcell4
      refine hK.out _ _ hcell4 (fun hHeld => ?_)
      clear hK K
      refine rdH 7 rfl (fun K hK => ?_)
      refine wpSkip (run_mapUpdate_op _ _ _ _ rfl hrun5) ?_
      refine hK.out _ _ hcell5 (fun hHeld => ?_)
      clear hK K
      refine ⟨by kernel_rfl, ?_⟩
      refine NoPanic.normal ?_
      have T25 : Turn (fun b => b = m) w2 w5 := (HT3.out.trans (Turn.of_below hb4' (fun b => b = m)) (fun _ hb => .inl hb)).trans (Turn.of_grown hg5) (fun b hb => .inl (by simpa using hb.symm))
      rw [← HG.out] at hown5
      have S5 := DStep.ren HH.out HK.out HN.out T25 hown5
      clear hown5 T25 hcell4 hcell5 hrun5 hg5 hb4 hb4' hHeld x1
      go_wp2
      go_ret
      rw [HE.out]
      exact ⟨rfl, _, S5⟩
end Go.Proofs.YtlkimfmilccanaaGreat
/-
  DERIVED: THE SHELF's CONTRACTS AT THIS DUMP, IN PLAIN WORDS (tools/lay-plain.mjs out of 'YtlkimfmilccanaaGreatShelf0.lean', which tools/lay-shelf.mjs wrote): THE SAME DECLARATIONS UNDER THE SAME NAMES: 'import', 'namespace', 'open', 'def', 'theorem' AND NOTHING ELSE: no command of the shelf's: FOR A HAND-IN. Each laying: the table of numbers ('.._ren') and one theorem, a field a fact of the dump's own or the kernel's comparison; each contract: ONE APPLICATION.
-/
namespace Go.Proofs
open Go.Shelf
def Tryz.sortS_ren : Go.Shelf.Ren := ⟨fun | 6 => 64 | 8 => 99 | 9 => 98 | 19 => 128 | 20 => 129 | 21 => 119 | 22 => 120 | 23 => 121 | 24 => 122 | 25 => 123 | 26 => 124 | 27 => 125 | 28 => 126 | 29 => 127 | 36 => 144 | 31 => 145 | 32 => 146 | 37 => 147 | 38 => 148 | 39 => 149 | 41 => 166 | n => n, fun | 27 => 80 | 29 => 9 | 3 => 3 | 32 => 87 | 26 => 80 | 0 => 0 | 44 => 88 | 46 => 158 | 4 => 4 | 36 => 179 | 35 => 178 | 41 => 183 | 5 => 5 | 9 => 9 | 53 => 200 | 57 => 204 | 63 => 219 | 64 => 220 | n => n, fun | n => n⟩
theorem Tryz.sortS : Go.Proofs.SlLaysM.n6 Tryz.prog Tryz.sortS_ren := {
  mixed := by kernel_rfl
  f6 := ⟨Tryz.f64.name, by decide, Tryz.func64.trans (congrArg some (by kernel_rfl))⟩
  f8 := Tryz.func99.trans (congrArg some (by kernel_rfl))
  f9 := ⟨Tryz.f98.name, by decide, Tryz.func98.trans (congrArg some (by kernel_rfl))⟩
  f19 := Tryz.func128.trans (congrArg some (by kernel_rfl))
  f20 := Tryz.func129.trans (congrArg some (by kernel_rfl))
  f21 := ⟨Tryz.f119.name, by decide, Tryz.func119.trans (congrArg some (by kernel_rfl))⟩
  f22 := ⟨Tryz.f120.name, by decide, Tryz.func120.trans (congrArg some (by kernel_rfl))⟩
  f23 := ⟨Tryz.f121.name, by decide, Tryz.func121.trans (congrArg some (by kernel_rfl))⟩
  f24 := ⟨Tryz.f122.name, by decide, Tryz.func122.trans (congrArg some (by kernel_rfl))⟩
  f25 := ⟨Tryz.f123.name, by decide, Tryz.func123.trans (congrArg some (by kernel_rfl))⟩
  f26 := ⟨Tryz.f124.name, by decide, Tryz.func124.trans (congrArg some (by kernel_rfl))⟩
  f27 := ⟨Tryz.f125.name, by decide, Tryz.func125.trans (congrArg some (by kernel_rfl))⟩
  f28 := ⟨Tryz.f126.name, by decide, Tryz.func126.trans (congrArg some (by kernel_rfl))⟩
  f29 := ⟨Tryz.f127.name, by decide, Tryz.func127.trans (congrArg some (by kernel_rfl))⟩
  f31 := Tryz.func145.trans (congrArg some (by kernel_rfl))
  f32 := Tryz.func146.trans (congrArg some (by kernel_rfl))
  f36 := ⟨Tryz.f144.name, by decide, Tryz.func144.trans (congrArg some (by kernel_rfl))⟩
  f37 := ⟨Tryz.f147.name, by decide, Tryz.func147.trans (congrArg some (by kernel_rfl))⟩
  f38 := ⟨Tryz.f148.name, by decide, Tryz.func148.trans (congrArg some (by kernel_rfl))⟩
  f39 := ⟨Tryz.f149.name, by decide, Tryz.func149.trans (congrArg some (by kernel_rfl))⟩
  f41 := ⟨Tryz.f166.name, by decide, Tryz.func166.trans (congrArg some (by kernel_rfl))⟩
  t0 := Tryz.underlying0
  a0 := Tryz.isAgg0
  z0 := Tryz.sizeOf0
  v0 := Tryz.zeroValue0
  t3 := Tryz.underlying3
  a3 := Tryz.isAgg3
  z3 := Tryz.sizeOf3
  v3 := Tryz.zeroValue3
  t4 := Tryz.underlying4
  a4 := Tryz.isAgg4
  z4 := Tryz.sizeOf4
  v4 := Tryz.zeroValue4
  t5 := Tryz.underlying5
  a5 := Tryz.isAgg5
  z5 := Tryz.sizeOf5
  v5 := Tryz.zeroValue5
  t9 := Tryz.underlying9
  a9 := Tryz.isAgg9
  z9 := Tryz.sizeOf9
  v9 := Tryz.zeroValue9
  t26 := Tryz.underlying80
  a26 := Tryz.isAgg80
  z26 := Tryz.sizeOf80
  v26 := Tryz.zeroValue80
  t27 := Tryz.underlying80
  a27 := Tryz.isAgg80
  z27 := Tryz.sizeOf80
  v27 := Tryz.zeroValue80
  t29 := Tryz.underlying9
  a29 := Tryz.isAgg9
  z29 := Tryz.sizeOf9
  v29 := Tryz.zeroValue9
  t32 := Tryz.underlying87
  a32 := Tryz.isAgg87
  z32 := Tryz.sizeOf87
  v32 := Tryz.zeroValue87
  t35 := Tryz.underlying178
  a35 := Tryz.isAgg178
  z35 := Tryz.sizeOf178
  v35 := Tryz.zeroValue178
  t36 := Tryz.underlying179
  a36 := Tryz.isAgg179
  z36 := Tryz.sizeOf179
  v36 := Tryz.zeroValue179
  t41 := Tryz.underlying183
  a41 := Tryz.isAgg183
  z41 := Tryz.sizeOf183
  v41 := Tryz.zeroValue183
  t44 := Tryz.underlying88
  a44 := Tryz.isAgg88
  z44 := Tryz.sizeOf88
  v44 := Tryz.zeroValue88
  t46 := Tryz.underlying158
  a46 := Tryz.isAgg158
  z46 := Tryz.sizeOf158
  v46 := Tryz.zeroValue158
  t53 := Tryz.underlying200
  a53 := Tryz.isAgg200
  z53 := Tryz.sizeOf200
  v53 := Tryz.zeroValue200
  t57 := Tryz.underlying204
  a57 := Tryz.isAgg204
  z57 := Tryz.sizeOf204
  v57 := Tryz.zeroValue204
  t63 := Tryz.underlying219
  a63 := Tryz.isAgg219
  z63 := Tryz.sizeOf219
  v63 := Tryz.zeroValue219
  t64 := Tryz.underlying220
  a64 := Tryz.isAgg220
  z64 := Tryz.sizeOf220
  v64 := Tryz.zeroValue220 }
def Tryz.sortI_ren : Go.Shelf.Ren := ⟨fun | 5 => 111 | 8 => 99 | 7 => 141 | 19 => 128 | 20 => 129 | 10 => 156 | 11 => 157 | 12 => 158 | 13 => 159 | 14 => 160 | 15 => 161 | 16 => 162 | 17 => 163 | 18 => 164 | 30 => 169 | 31 => 145 | 32 => 146 | 33 => 170 | 34 => 171 | 35 => 172 | 40 => 174 | n => n, fun | 23 => 38 | 25 => 3 | 3 => 3 | 32 => 87 | 22 => 38 | 0 => 0 | 44 => 88 | 46 => 158 | 4 => 4 | 36 => 179 | 35 => 178 | 41 => 183 | 5 => 5 | 9 => 9 | 53 => 200 | 57 => 204 | 63 => 219 | 64 => 220 | n => n, fun | n => n⟩
theorem Tryz.sortI : Go.Proofs.SlLaysM.n5 Tryz.prog Tryz.sortI_ren := {
  mixed := by kernel_rfl
  f5 := ⟨Tryz.f111.name, by decide, Tryz.func111.trans (congrArg some (by kernel_rfl))⟩
  f7 := ⟨Tryz.f141.name, by decide, Tryz.func141.trans (congrArg some (by kernel_rfl))⟩
  f8 := Tryz.func99.trans (congrArg some (by kernel_rfl))
  f10 := ⟨Tryz.f156.name, by decide, Tryz.func156.trans (congrArg some (by kernel_rfl))⟩
  f11 := ⟨Tryz.f157.name, by decide, Tryz.func157.trans (congrArg some (by kernel_rfl))⟩
  f12 := ⟨Tryz.f158.name, by decide, Tryz.func158.trans (congrArg some (by kernel_rfl))⟩
  f13 := ⟨Tryz.f159.name, by decide, Tryz.func159.trans (congrArg some (by kernel_rfl))⟩
  f14 := ⟨Tryz.f160.name, by decide, Tryz.func160.trans (congrArg some (by kernel_rfl))⟩
  f15 := ⟨Tryz.f161.name, by decide, Tryz.func161.trans (congrArg some (by kernel_rfl))⟩
  f16 := ⟨Tryz.f162.name, by decide, Tryz.func162.trans (congrArg some (by kernel_rfl))⟩
  f17 := ⟨Tryz.f163.name, by decide, Tryz.func163.trans (congrArg some (by kernel_rfl))⟩
  f18 := ⟨Tryz.f164.name, by decide, Tryz.func164.trans (congrArg some (by kernel_rfl))⟩
  f19 := Tryz.func128.trans (congrArg some (by kernel_rfl))
  f20 := Tryz.func129.trans (congrArg some (by kernel_rfl))
  f30 := ⟨Tryz.f169.name, by decide, Tryz.func169.trans (congrArg some (by kernel_rfl))⟩
  f31 := Tryz.func145.trans (congrArg some (by kernel_rfl))
  f32 := Tryz.func146.trans (congrArg some (by kernel_rfl))
  f33 := ⟨Tryz.f170.name, by decide, Tryz.func170.trans (congrArg some (by kernel_rfl))⟩
  f34 := ⟨Tryz.f171.name, by decide, Tryz.func171.trans (congrArg some (by kernel_rfl))⟩
  f35 := ⟨Tryz.f172.name, by decide, Tryz.func172.trans (congrArg some (by kernel_rfl))⟩
  f40 := ⟨Tryz.f174.name, by decide, Tryz.func174.trans (congrArg some (by kernel_rfl))⟩
  t0 := Tryz.underlying0
  a0 := Tryz.isAgg0
  z0 := Tryz.sizeOf0
  v0 := Tryz.zeroValue0
  t3 := Tryz.underlying3
  a3 := Tryz.isAgg3
  z3 := Tryz.sizeOf3
  v3 := Tryz.zeroValue3
  t4 := Tryz.underlying4
  a4 := Tryz.isAgg4
  z4 := Tryz.sizeOf4
  v4 := Tryz.zeroValue4
  t5 := Tryz.underlying5
  a5 := Tryz.isAgg5
  z5 := Tryz.sizeOf5
  v5 := Tryz.zeroValue5
  t9 := Tryz.underlying9
  a9 := Tryz.isAgg9
  z9 := Tryz.sizeOf9
  v9 := Tryz.zeroValue9
  t22 := Tryz.underlying38
  a22 := Tryz.isAgg38
  z22 := Tryz.sizeOf38
  v22 := Tryz.zeroValue38
  t23 := Tryz.underlying38
  a23 := Tryz.isAgg38
  z23 := Tryz.sizeOf38
  v23 := Tryz.zeroValue38
  t25 := Tryz.underlying3
  a25 := Tryz.isAgg3
  z25 := Tryz.sizeOf3
  v25 := Tryz.zeroValue3
  t32 := Tryz.underlying87
  a32 := Tryz.isAgg87
  z32 := Tryz.sizeOf87
  v32 := Tryz.zeroValue87
  t35 := Tryz.underlying178
  a35 := Tryz.isAgg178
  z35 := Tryz.sizeOf178
  v35 := Tryz.zeroValue178
  t36 := Tryz.underlying179
  a36 := Tryz.isAgg179
  z36 := Tryz.sizeOf179
  v36 := Tryz.zeroValue179
  t41 := Tryz.underlying183
  a41 := Tryz.isAgg183
  z41 := Tryz.sizeOf183
  v41 := Tryz.zeroValue183
  t44 := Tryz.underlying88
  a44 := Tryz.isAgg88
  z44 := Tryz.sizeOf88
  v44 := Tryz.zeroValue88
  t46 := Tryz.underlying158
  a46 := Tryz.isAgg158
  z46 := Tryz.sizeOf158
  v46 := Tryz.zeroValue158
  t53 := Tryz.underlying200
  a53 := Tryz.isAgg200
  z53 := Tryz.sizeOf200
  v53 := Tryz.zeroValue200
  t57 := Tryz.underlying204
  a57 := Tryz.isAgg204
  z57 := Tryz.sizeOf204
  v57 := Tryz.zeroValue204
  t63 := Tryz.underlying219
  a63 := Tryz.isAgg219
  z63 := Tryz.sizeOf219
  v63 := Tryz.zeroValue219
  t64 := Tryz.underlying220
  a64 := Tryz.isAgg220
  z64 := Tryz.sizeOf220
  v64 := Tryz.zeroValue220 }
def Tryz.keysI_ren : Go.Shelf.Ren := ⟨fun | 7 => 78 | 10 => 112 | n => n, fun | 23 => 97 | 26 => 3 | 3 => 136 | 28 => 134 | 0 => 0 | 27 => 133 | 33 => 172 | 4 => 4 | n => n, fun | n => n⟩
theorem Tryz.keysI : Go.Proofs.SlLaysZI.n7 Tryz.prog Tryz.keysI_ren := {
  mixed := by kernel_rfl
  f7 := ⟨Tryz.f78.name, by decide, Tryz.func78.trans (congrArg some (by kernel_rfl))⟩
  f10 := ⟨Tryz.f112.name, by decide, Tryz.func112.trans (congrArg some (by kernel_rfl))⟩
  t0 := Tryz.underlying0
  a0 := Tryz.isAgg0
  z0 := Tryz.sizeOf0
  v0 := Tryz.zeroValue0
  t4 := Tryz.underlying4
  a4 := Tryz.isAgg4
  z4 := Tryz.sizeOf4
  v4 := Tryz.zeroValue4
  t23 := Tryz.underlying97
  a23 := Tryz.isAgg97
  z23 := Tryz.sizeOf97
  v23 := Tryz.zeroValue97
  t26 := Tryz.underlying3
  a26 := Tryz.isAgg3
  z26 := Tryz.sizeOf3
  v26 := Tryz.zeroValue3
  t27 := Tryz.underlying133
  a27 := Tryz.isAgg133
  z27 := Tryz.sizeOf133
  v27 := Tryz.zeroValue133
  t28 := Tryz.underlying134
  a28 := Tryz.isAgg134
  z28 := Tryz.sizeOf134
  v28 := Tryz.zeroValue134
  t33 := Tryz.underlying172
  a33 := Tryz.isAgg172
  z33 := Tryz.sizeOf172
  v33 := Tryz.zeroValue172 }
def Tryz.sortedI_ren : Go.Shelf.Ren := ⟨fun | 6 => 77 | 8 => 110 | 9 => 111 | 11 => 140 | 13 => 99 | 12 => 141 | 23 => 128 | 24 => 129 | 14 => 156 | 15 => 157 | 16 => 158 | 17 => 159 | 18 => 160 | 19 => 161 | 20 => 162 | 21 => 163 | 22 => 164 | 25 => 169 | 26 => 145 | 27 => 146 | 28 => 170 | 29 => 171 | 30 => 172 | 31 => 174 | n => n, fun | 26 => 3 | 28 => 134 | 24 => 38 | 0 => 0 | 3 => 3 | 37 => 87 | 48 => 88 | 50 => 158 | 4 => 4 | 40 => 179 | 39 => 178 | 45 => 183 | 5 => 5 | 9 => 9 | 51 => 200 | 55 => 204 | 57 => 219 | 58 => 220 | 33 => 172 | n => n, fun | n => n⟩
theorem Tryz.sortedI : Go.Proofs.SlLaysZI.n6 Tryz.prog Tryz.sortedI_ren := {
  mixed := by kernel_rfl
  f6 := ⟨Tryz.f77.name, by decide, Tryz.func77.trans (congrArg some (by kernel_rfl))⟩
  f8 := ⟨Tryz.f110.name, by decide, Tryz.func110.trans (congrArg some (by kernel_rfl))⟩
  f11 := ⟨Tryz.f140.name, by decide, Tryz.func140.trans (congrArg some (by kernel_rfl))⟩
  t0 := Tryz.underlying0
  a0 := Tryz.isAgg0
  z0 := Tryz.sizeOf0
  v0 := Tryz.zeroValue0
  t24 := Tryz.underlying38
  a24 := Tryz.isAgg38
  z24 := Tryz.sizeOf38
  v24 := Tryz.zeroValue38
  t26 := Tryz.underlying3
  a26 := Tryz.isAgg3
  z26 := Tryz.sizeOf3
  v26 := Tryz.zeroValue3
  t28 := Tryz.underlying134
  a28 := Tryz.isAgg134
  z28 := Tryz.sizeOf134
  v28 := Tryz.zeroValue134
  i26 := by kernel_rfl }
end Go.Proofs
