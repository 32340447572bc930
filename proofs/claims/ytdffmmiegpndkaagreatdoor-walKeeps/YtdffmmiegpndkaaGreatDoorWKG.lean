/-
  again (printed by gen_kagain.py).
-/
import Derived.Test.YtdffmmiegpndkaaGreatDoorWKG1
namespace Go.Proofs.YtdffmmiegpndkaaGreatDoor
open Go.RowKit Go.Maps
set_option linter.unusedVariables false
set_option linter.unusedSimpArgs false
def cutAd (ad : Option Addr) (cap k : Nat) : Option Addr := if cap = k then ad else ad.map (·.add k)
theorem cut_run (ad : Option Addr) (cap n k : Nat) (hk : k ≤ n) (hc : n ≤ cap) (w' : World) : (Instr.slice 30 (.slice ad n cap) (some (.int .i64 (k : Int))) none none).run Tryz.prog w' = .ok (.slice (cutAd ad cap k) (n - k) (cap - k)) w' := by
  rw [run_slice_l w' 30 ad n cap undT .i64 (k : Int) (by omega) (by omega), elemT, size9t]
  simp only [sliced, Int.toNat_natCast, Nat.mul_one, Result.andThen_ok]
  rfl
theorem cut_row {w : World} {ad : Option Addr} {cap n : Nat} {ks : List Key} (h : RowAt w ad (ks.map encStr)) (hn : ks.length = n) (hc : n ≤ cap) (k : Nat) (hk : k ≤ n) : RowAt w (cutAd ad cap k) ((ks.drop k).map encStr) := by
  unfold cutAd
  by_cases he : ks.drop k = []
  · rw [he]; exact .inl rfl
  · have hlt : k < n := by
      refine Classical.byContradiction fun hc2 => he (List.drop_eq_nil_of_le (by omega))
    rcases h with h0 | ⟨b, o, rfl, hb, hcs⟩
    · have : ks = [] := List.map_eq_nil_iff.1 h0
      rw [this] at hn; simp at hn; omega
    · rw [if_neg (by omega)]
      simp only [Option.map_some, addr_addK]
      exact RowAt.dropAt (.inr ⟨b, o, rfl, hb, hcs⟩) k
theorem pickG {B : Nat} {w : World} {a b c d e f : Item} {Z : List Item} (h : Lies B w (([a, b, c, d] ++ Z) ++ [e, f])) : Lies B w [a, e, f, d] := by
  refine h.choose (fun q => if q = 1 then Z.length + 4 else if q = 2 then Z.length + 5 else q) (fun x y hx hy e => ?_) (fun q x hq => ?_)
  · simp at hx hy
    (repeat' split at e) <;> omega
  · have hlt := (List.getElem?_eq_some_iff.1 hq).1
    have hlen : ([a, b, c, d] ++ Z).length = Z.length + 4 := by simp
    match q, hlt with
    | 0, _ => simpa using hq
    | 1, _ =>
      rw [if_pos rfl, List.getElem?_append_right (by omega), hlen, Nat.sub_self]
      simpa using hq
    | 2, _ =>
      rw [if_neg (by decide), if_pos rfl, List.getElem?_append_right (by omega), hlen, show Z.length + 5 - (Z.length + 4) = 1 by omega]
      simpa using hq
    | 3, _ => simpa using hq
section
variable {B : Nat} {w : World} {x : KX} {A : AD}
theorem fallen_p0 (cap : Int) (fs : FList) (f : Nat) : AD.fallen ⟨cap, fs, p0⟩ (f : Int) = ⟨cap, fs, ⟨false, false, 0, 0, (f : Int)⟩⟩ := by
  unfold AD.fallen p0
  simp only
  rw [show max (f : Int) 0 = (f : Int) by omega]
/-- What again leaves. -/
def GPost (B : Nat) (x : KX) (w w' : World) : Prop := Below B w w' ∧ ((∃ A', Lies B w' (KL x.k x.p x.l A' x.g x.acked x.sz x.first x.v x.u x.way true)) ∨ ∃ l' A' g' pay v', Lies B w' (KL x.k x.p l' A' g' pay x.sz x.first v' x.u false x.gone) ∧ KS A' g' x.sz x.first pay x.u.data.toList false ∧ g'.next ≤ x.g.next + 1100)
set_option maxRecDepth 100000 in
set_option maxHeartbeats 16000000 in
theorem kagain_any (h : Lies B w (x.L A)) (he : Env B w) (hs : KS A x.g x.sz x.first x.acked x.u.data.toList x.way) (hx : KXOk x) (hcap : A.cap = x.cap) {ad : Option Addr} {capf : Nat} {ls : List FT} (hZ : FI x.Z ad capf ls) (hfo : ∀ y ∈ ls, y.Ok) (hfl : ls.length ≤ 9223372036854775807) (hfg : x.fg = forgedT ls) (F : Int) :
    Calls Tryz.prog 12 #[.pointer (some ⟨x.k, 0, none⟩), .slice ad ls.length capf, .int .i64 F] w fun e w' => e = .returned (.bool true) ∧ GPost B x w w' := by
  obtain ⟨f, hf3, hf4⟩ := and3 F
  obtain ⟨fs', hcr, haf⟩ := ks_crash hs (ls.map FT.abs)
  rw [forgedT_abs, ← hfg] at haf
  rw [hcap] at hcr
  have HC1 := hide (kc h hZ hfo hfl)
  have HAF := hide haf
  have HCR := hide hcr
  have HENV := hide he
  have HS := hide hs
  have HX := hide hx
  have HZ := hide hZ
  have HFO := hide hfo
  have HFL := hide hfl
  have HFG := hide hfg
  have HF4 := hide hf4
  obtain ⟨c0, c1, c2, c3, c4, c5, c6, c7, fz⟩ := KX.cells0 h
  have hB := h.base
  clear h hs he hx hZ hfo hfl hfg hcap hcr haf hf4
  obtain ⟨n, hn⟩ : ∃ n, ls.length = n := ⟨_, rfl⟩
  rw [hn] at HC1 ⊢
  have HN := hide hn
  clear hn
  go_enter Tryz.func12, Tryz.ntmps12
  go_wp2_with fail
  refine (HC1.out).mono ?_
  rintro e w1 ⟨rfl, hl1, hb1⟩
  change Lies B w1 (x.L (A.crash (ls.map FT.abs))) at hl1
  have HC2 := hide (s_on (i := 0) hl1 rfl)
  have HB1 := hide hb1
  clear c0 c1 c2 c3 c4 c5 c6 c7 fz HC1
  obtain ⟨c0, c1, c2, c3, c4, c5, c6, c7, fz⟩ := KX.cells0 hl1
  clear hl1 hb1
  go_wp2_with fail
  refine (HC2.out).mono ?_
  rintro e w2 ⟨rfl, hl2, hb2⟩
  change Lies B w2 (x.L (A.crash (ls.map FT.abs)).on) at hl2
  rw [HCR.out] at hl2
  have HC3 := hide (s_fall (i := 0) hl2 rfl (f : Int) (by have := HF4.out; omega))
  have HB2 := hide (HB1.out.trans hb2)
  clear c0 c1 c2 c3 c4 c5 c6 c7 fz HC2
  obtain ⟨c0, c1, c2, c3, c4, c5, c6, c7, fz⟩ := KX.cells0 hl2
  clear hl2 hb2
  go_wp2_with fail
  refine (HC3.out).mono ?_
  rintro e w3 ⟨rfl, hl3, hb3⟩
  change Lies B w3 (x.L (AD.fallen ⟨x.cap, fs', p0⟩ (f : Int))) at hl3
  rw [fallen_p0] at hl3
  have HB3 := hide (HB2.out.trans hb3)
  clear c0 c1 c2 c3 c4 c5 c6 c7 fz HC3 hb3
  obtain ⟨V0, hV0⟩ : ∃ y, w3.drew = y := ⟨_, rfl⟩
  have hv0 := hl3.same (w' := w3.drew) (Nat.le_refl _) (fun _ _ _ => rfl)
  rw [hV0] at hv0
  have hvb0 : Below B w V0 := by rw [← hV0]; exact HB3.out.drew
  obtain ⟨c0, c1, c2, c3, c4, c5, c6, c7, fz⟩ := KX.cells0 hl3
  have HO := hide (open_dj1 hv0 (HENV.out.below hvb0) HX.out (by omega) HAF.out)
  have HV0 := hide hV0
  have HVB := hide hvb0
  clear hl3 hv0 hvb0 hV0
  go_upto_region 4 with fail
  refine wp_region_noPanic ?_
  refine wp_region_held_drew (S := fun wx => wx.cell? ⟨x.k, 0, none⟩ = some (.pointer (some ⟨x.p, 0, none⟩)) ∧ wx.cell? ⟨x.k, 2, none⟩ = some (.int .i64 x.sz) ∧ wx.cell? ⟨x.k, 3, none⟩ = some (.int .i64 x.first)) (by kernel_rfl) ⟨c0, c2, c3⟩ (fun hHeld => ?_)
  rw [HV0.out] at hHeld ⊢
  refine tK 0 (some 31) (.pointer (some ⟨x.k, 0, none⟩)) rfl hHeld ?_
  simp only [Act.put, pA, pB, pC]
  refine tK 1 (some 32) (.pointer (some ⟨x.k, 0, none⟩)) rfl hHeld ?_
  simp only [Act.put, pA, pB, pC]
  refine tK 2 (some 33) (.pointer (some ⟨x.k, 0, none⟩)) rfl hHeld ?_
  simp only [Act.put, pA, pB, pC]
  refine tH 3 (some 34) (.pointer (some ⟨x.p, 0, none⟩)) rfl (fun w hw => by have q := hw.1; first | rfl | (go_simp; done) | (go_simp; rfl) | (go_simp; omega)) hHeld ?_
  simp only [Act.put, pA, pB, pC]
  refine tK 4 (some 35) (.pointer (some ⟨x.k, 0, none⟩)) rfl hHeld ?_
  simp only [Act.put, pA, pB, pC]
  refine tK 5 (some 36) (.pointer (some ⟨x.k, 0, none⟩)) rfl hHeld ?_
  simp only [Act.put, pA, pB, pC]
  refine tK 6 (some 37) (.pointer (some ⟨x.k, 2, none⟩)) rfl hHeld ?_
  simp only [Act.put, pA, pB, pC]
  refine tH 7 (some 38) (.int .i64 x.sz) rfl (fun w hw => by have q := hw.2.1; first | rfl | (go_simp; done) | (go_simp; rfl) | (go_simp; omega)) hHeld ?_
  simp only [Act.put, pA, pB, pC]
  refine tK 8 (some 39) (.pointer (some ⟨x.k, 0, none⟩)) rfl hHeld ?_
  simp only [Act.put, pA, pB, pC]
  refine tK 9 (some 40) (.pointer (some ⟨x.k, 0, none⟩)) rfl hHeld ?_
  simp only [Act.put, pA, pB, pC]
  refine tK 10 (some 41) (.pointer (some ⟨x.k, 3, none⟩)) rfl hHeld ?_
  simp only [Act.put, pA, pB, pC]
  refine tH 11 (some 42) (.int .i64 x.first) rfl (fun w hw => by have q := hw.2.2; first | rfl | (go_simp; done) | (go_simp; rfl) | (go_simp; omega)) hHeld ?_
  simp only [Act.put, pA, pB, pC]
  refine rdH 12 rfl (fun K hK => ?_)
  go_simp
  refine (HO.out).mono ?_
  rintro e w4 ⟨pl, v8, E, rfl, hdj, hbo⟩
  try go_wp2_with fail
  refine hK.out _ _ (⟨hdj.cells.c0, hdj.cells.c2, hdj.cells.c3⟩) (fun hH => ?_)
  clear hK K hHeld
  have hHeld := hH
  clear hH
  refine tK 13 (some 30) (.tuple #[pl, v8, .int .i64 E]) rfl hHeld ?_
  simp only [Act.put, pA, pB, pC]
  refine tK 14 (some 44) (pl) rfl hHeld ?_
  simp only [Act.put, pA, pB, pC]
  refine tK 15 (some 45) (v8) rfl hHeld ?_
  simp only [Act.put, pA, pB, pC]
  refine tK 16 (some 46) (.int .i64 E) rfl hHeld ?_
  simp only [Act.put, pA, pB, pC]
  refine tK 17 (some 7) (pl) rfl hHeld ?_
  simp only [Act.put, pA, pB, pC]
  refine tK 18 (some 8) (v8) rfl hHeld ?_
  simp only [Act.put, pA, pB, pC]
  refine tK 19 (some 9) (.int .i64 E) rfl hHeld ?_
  simp only [Act.put, pA, pB, pC]
  refine ⟨by kernel_rfl, ?_⟩
  refine NoPanic.normal ?_
  have HB4 := hide (HVB.out.trans hbo)
  have HDJ := hide hdj
  clear hdj hbo c0 c1 c2 c3 c4 c5 c6 c7 fz HO hHeld
  go_wp2
  go_loopw [7, 8, 9, 10] (fun a7 a8 a9 a10 wr => ∃ (E : Int) (j : Nat), a9 = .int .i64 E ∧ a10 = .int .i64 (j : Int) ∧ Hid (j ≤ 1 ∧ (E = 9 → j = 0)) ∧ Hid (Dj B x a7 a8 E wr) ∧ Hid (Below B w wr)) (fun _ _ a9 _ _ => if intOf a9 = 9 then 1 else 0)
  case atStart => exact ⟨E, 0, rfl, rfl, ⟨by omega, fun _ => rfl⟩, HDJ, HB4⟩
  case round =>
    clear HDJ HB4
    obtain ⟨E, j, rfl, rfl, HJ, HDJ, HBR⟩ := hrel
    have dj : decide ((j : Int) < 3) = true := decide_eq_true (by have := HJ.out.1; omega)
    obtain ⟨c0, c1, c2, c3, c4, c5, c6, c7, fz⟩ := HDJ.out.cells
    rcases HDJ.out with ⟨rfl, l', ad8, cap8, fs9, f9, g', pay, rfl, rfl, hl, hre⟩ | ⟨rfl, rfl, rfl, fs9, g', pay, hl, hre⟩ | ⟨rfl, rfl, rfl, hfg1, hak, A9, hl⟩
    · clear HDJ
      obtain ⟨V2, hV2⟩ : ∃ y, wr.drew = y := ⟨_, rfl⟩
      have hv2 := hl.same (w' := wr.drew) (Nat.le_refl _) (fun _ _ _ => rfl)
      rw [hV2] at hv2
      have hvb2 : Below B w V2 := by rw [← hV2]; exact HBR.out.drew
      obtain ⟨adv, capv, hv, hrowv, hcv⟩ := KL.form hv2.drop.drop
      have hsubq : (x.L ⟨x.cap, fs9, ⟨false, false, 0, 0, f9⟩⟩ ++ [Item.log l' x.p g', Item.sub (.slice ad8 pay.length cap8) pay])[(x.L ⟨x.cap, fs9, ⟨false, false, 0, 0, f9⟩⟩).length + 1]? = some (.sub (.slice ad8 pay.length cap8) pay) := by rw [get_tail]; rfl
      have HSUB : Hid (∀ wx, Lies B wx (x.L ⟨x.cap, fs9, ⟨false, false, 0, 0, f9⟩⟩ ++ [.log l' x.p g', .sub (.slice ad8 pay.length cap8) pay]) → RowAt wx ad8 (pay.map encStr) ∧ pay.length ≤ cap8) := fun wx hlx => by
        obtain ⟨ad, cap, he, hr, _⟩ := hlx.subAt hsubq
        cases he
        exact ⟨hr, hlx.subCap hsubq⟩
      obtain ⟨hrow8, hcap8⟩ := HSUB.out V2 hv2
      obtain ⟨m, hpay, hmore⟩ := hre.more
      have hnx := hre.nx
      have hlen : pay.length = x.acked.length + m.length := by rw [hpay, List.length_append]
      have hfewS := HS.out.few
      obtain ⟨adp, capp, hpre, hrowp⟩ := sub_pre hrow8 rfl hcap8 x.acked.length (by omega)
      have htake : pay.take x.acked.length = x.acked := by rw [hpay, List.take_left']; rfl
      have hdrop : pay.drop x.acked.length = m := by rw [hpay, List.drop_left']; rfl
      rw [htake] at hrowp
      have hcut := cut_run ad8 cap8 pay.length x.acked.length (by omega) hcap8
      have hlenm : x.acked.length ≤ maxLen := by unfold maxLen; omega
      have HTS := texts_same hv2 (cap1 := capp) (cap2 := capv) hrowp hrowv rfl hlenm
      have hkok := HX.out
      have hpl : pay.length ≤ 1000000000 := by
        obtain ⟨n0, b, pss, hk⟩ := hre.kn
        have := hk.few (A := ⟨x.cap, fs9, ⟨false, false, 0, 0, f9⟩⟩) (hv2.ok (i := 0) rfl) rfl
        omega
      have HPL := hide hpl
      obtain ⟨NX, hNX⟩ : ∃ y, g'.next = y := ⟨_, rfl⟩
      have HNX := hide hNX
      rw [hNX] at hnx
      have hle := hre.le
      rw [hNX] at hle
      have hwri : IntKind.i64.wrap NX = NX := by have a1 := hkok.f0; have a2 := hkok.f1; have a3 := hkok.m; rw [IntKind.wrap_i64]; omega
      have hnn : (NX == NX) = true := by simp
      obtain ⟨n1, hn1⟩ : ∃ y, x.acked.length = y := ⟨_, rfl⟩
      obtain ⟨P, hP⟩ : ∃ y, pay.length = y := ⟨_, rfl⟩
      have hadd : x.first + (P : Int) = NX := by rw [← hP]; exact hnx.symm
      have hlt2 : decide ((P : Int) < (n1 : Int)) = false := decide_eq_false (by omega)
      rw [hn1] at hv hpre HTS hcut hdrop hlen
      rw [hP] at hl hpre hcut HSUB hv2 HTS hlen ⊢
      have hc42 : V2.cell? ⟨x.k, 4, none⟩ = some (.slice adv n1 capv) := by rw [← hv]; exact (KX.cells hv2).c4
      have HRE := hide hre
      have HP := hide hP
      have HN1 := hide hn1
      have HTS := hide HTS
      have HV2 := hide hV2
      have HVB2 := hide hvb2
      have HDROP := hide hdrop
      have HMORE := hide hmore
      have HLEN := hide hlen
      have HXV := hide hv
      have hPn : (n1 : Int) ≤ (P : Int) := by omega
      have HSQ : Hid (∀ wx, Lies B wx (x.L ⟨x.cap, fs9, ⟨false, false, 0, 0, f9⟩⟩ ++ [.log l' x.p g', .sub (.slice ad8 P cap8) pay]) → wx.cell? ⟨x.k, 4, none⟩ = some (.slice adv n1 capv)) := fun wx hlx => by rw [← HXV.out]; exact (KX.cells hlx).c4
      clear hl hv2 hvb2 hrowv hrow8 hrowp hpay hre hnx hle hNX hn1 hP hV2 hdrop hmore hlen hlenm hpl hkok hfewS htake hv hcap8 hcv hsubq c0 c1 c2 c3 c4 c5 c6 c7 fz
      go_upto_region 17 with fail
      refine wp_region_noPanic ?_
      refine wp_region_held_drew (S := fun wx => wx.cell? ⟨x.k, 4, none⟩ = some (.slice adv n1 capv)) (by kernel_rfl) (by rw [HV2.out]; exact hc42) (fun hHeld => ?_)
      rw [HV2.out] at hHeld ⊢
      refine tK 0 (some 116) (.int .i64 0) rfl hHeld ?_
      simp only [Act.put, pA, pB, pC]
      refine tK 1 (some 117) (.bool false) rfl hHeld ?_
      simp only [Act.put, pA, pB, pC]
      refine tK 2 (some 118) (.bool false) rfl hHeld ?_
      simp only [Act.put, pA, pB, pC]
      refine tK 3 (some 119) (.pointer (some ⟨l', 0, none⟩)) rfl hHeld ?_
      simp only [Act.put, pA, pB, pC]
      refine tK 4 (some 120) (.bool false) rfl hHeld ?_
      simp only [Act.put, pA, pB, pC]
      refine tK 5 (some 121) (.bool false) rfl hHeld ?_
      simp only [Act.put, pA, pB, pC]
      refine tK 6 (some 122) (.bool false) rfl hHeld ?_
      simp only [Act.put, pA, pB, pC]
      refine tK 7 (some 123) (.slice ad8 P cap8) rfl hHeld ?_
      simp only [Act.put, pA, pB, pC]
      refine tK 8 (some 124) (.int .i64 (P : Int)) rfl hHeld ?_
      simp only [Act.put, pA, pB, pC]
      refine tK 9 (some 125) (.pointer (some ⟨x.k, 0, none⟩)) rfl hHeld ?_
      simp only [Act.put, pA, pB, pC]
      refine tK 10 (some 126) (.pointer (some ⟨x.k, 0, none⟩)) rfl hHeld ?_
      simp only [Act.put, pA, pB, pC]
      refine tK 11 (some 127) (.pointer (some ⟨x.k, 4, none⟩)) rfl hHeld ?_
      simp only [Act.put, pA, pB, pC]
      refine tH 12 (some 128) (.slice adv n1 capv) rfl (fun w hw => by have q := hw; first | rfl | (go_simp; done) | (go_simp; rfl) | (go_simp; omega)) hHeld ?_
      simp only [Act.put, pA, pB, pC]
      refine tK 13 (some 129) (.int .i64 (n1 : Int)) rfl hHeld ?_
      simp only [Act.put, pA, pB, pC]
      refine tH 14 (some 130) (.bool false) rfl (fun w hw => by have q := hlt2; first | rfl | (go_simp; done) | (go_simp; rfl) | (go_simp; omega)) hHeld ?_
      simp only [Act.put, pA, pB, pC]
      refine tK 15 (some 131) (.bool false) rfl hHeld ?_
      simp only [Act.put, pA, pB, pC]
      refine tK 16 (some 132) (.bool false) rfl hHeld ?_
      simp only [Act.put, pA, pB, pC]
      refine tK 17 (some 133) (.slice ad8 P cap8) rfl hHeld ?_
      simp only [Act.put, pA, pB, pC]
      refine tK 18 (some 134) (.pointer (some ⟨x.k, 0, none⟩)) rfl hHeld ?_
      simp only [Act.put, pA, pB, pC]
      refine tK 19 (some 135) (.pointer (some ⟨x.k, 0, none⟩)) rfl hHeld ?_
      simp only [Act.put, pA, pB, pC]
      refine tK 20 (some 136) (.pointer (some ⟨x.k, 4, none⟩)) rfl hHeld ?_
      simp only [Act.put, pA, pB, pC]
      refine tH 21 (some 137) (.slice adv n1 capv) rfl (fun w hw => by have q := hw; first | rfl | (go_simp; done) | (go_simp; rfl) | (go_simp; omega)) hHeld ?_
      simp only [Act.put, pA, pB, pC]
      refine tK 22 (some 138) (.int .i64 (n1 : Int)) rfl hHeld ?_
      simp only [Act.put, pA, pB, pC]
      refine tH 23 (some 139) (.slice adp n1 capp) rfl (fun w hw => by have q := hpre w; first | rfl | (go_simp; done) | (go_simp; rfl) | (go_simp; omega)) hHeld ?_
      simp only [Act.put, pA, pB, pC]
      refine tK 24 (some 140) (.pointer (some ⟨x.k, 0, none⟩)) rfl hHeld ?_
      simp only [Act.put, pA, pB, pC]
      refine tK 25 (some 141) (.pointer (some ⟨x.k, 0, none⟩)) rfl hHeld ?_
      simp only [Act.put, pA, pB, pC]
      refine tK 26 (some 142) (.pointer (some ⟨x.k, 4, none⟩)) rfl hHeld ?_
      simp only [Act.put, pA, pB, pC]
      refine tH 27 (some 143) (.slice adv n1 capv) rfl (fun w hw => by have q := hw; first | rfl | (go_simp; done) | (go_simp; rfl) | (go_simp; omega)) hHeld ?_
      simp only [Act.put, pA, pB, pC]
      refine rdH 28 rfl (fun K hK => ?_)
      go_simp
      refine (HTS.out).mono ?_
      rintro e w10 ⟨rfl, hl10, hb10⟩
      try go_wp2_with fail
      refine hK.out _ _ (HSQ.out w10 hl10) (fun hH => ?_)
      clear hK K hHeld
      have hHeld := hH
      clear hH
      refine tK 29 (some 145) (.bool false) rfl hHeld ?_
      simp only [Act.put, pA, pB, pC]
      refine tK 30 (some 146) (.bool false) rfl hHeld ?_
      simp only [Act.put, pA, pB, pC]
      refine ⟨by kernel_rfl, ?_⟩
      refine NoPanic.normal ?_
      have c410 := HSQ.out w10 hl10
      have HB10 := hide (HVB2.out.trans hb10)
      obtain ⟨V3, hV3⟩ : ∃ y, w10.drew = y := ⟨_, rfl⟩
      have hv3 := hl10.same (w' := w10.drew) (Nat.le_refl _) (fun _ _ _ => rfl)
      rw [hV3] at hv3
      have hbw : Below B w V3 := by rw [← hV3]; exact HB10.out.drew
      have HFT := forged_any V3 ad capf ls (HZ.out.at_ hv3.drop) HFL.out
      rw [← HFG.out, HN.out] at HFT
      have HFT := hide HFT
      obtain ⟨d0, d1, d2, d3, d4, d5, d6, d7, dz⟩ := KX.cells hv3
      obtain ⟨hrow9, hcap9⟩ := HSUB.out V3 hv3
      have hrowm := cut_row hrow9 HP.out hcap9 n1 (by omega)
      rw [HDROP.out] at hrowm
      obtain ⟨mm, hmm⟩ : ∃ y, P - n1 = y := ⟨_, rfl⟩
      have hml : m.length = mm := by have := HLEN.out; omega
      obtain ⟨adm, hadm⟩ : ∃ y, cutAd ad8 cap8 n1 = y := ⟨_, rfl⟩
      rw [hadm] at hrowm
      simp only [hadm, hmm] at hcut
      have HV3 := hide hV3
      have HL3 := hide hv3
      have HBW := hide hbw
      have HROWM := hide hrowm
      have HML := hide hml
      clear hl10 hb10 hv3 hbw hV3 hrow9 hcap9 hrowm hml hadm hmm hpre hc42 hHeld
      go_upto_region 20 with fail
      refine wp_region_noPanic ?_
      have hS3 : V3.cell? ⟨x.k, 5, none⟩ = some (.string x.u) ∧ V3.cell? ⟨x.k, 6, none⟩ = some (.bool x.way) := ⟨d5, d6⟩
      cases hfgx : x.fg with
      | true =>
        rw [hfgx] at HFT
        refine wp_region_held_drew (S := fun wx => wx.cell? ⟨x.k, 5, none⟩ = some (.string x.u) ∧ wx.cell? ⟨x.k, 6, none⟩ = some (.bool x.way)) (by kernel_rfl) (by rw [HV3.out]; exact hS3) (fun hHeld => ?_)
        rw [HV3.out] at hHeld ⊢
        refine tK 0 (some 154) (.slice ad n capf) rfl hHeld ?_
        simp only [Act.put, pA, pB, pC]
        refine rdH 1 rfl (fun K hK => ?_)
        go_simp
        refine (HFT.out).mono ?_
        rintro e w11 ⟨rfl, hw11⟩
        obtain rfl := hw11.symm
        try go_wp2_with fail
        refine hK.out _ _ (hHeld) (fun hH => ?_)
        clear hK K hHeld
        have hHeld := hH
        clear hH
        refine tK 2 (some 156) (.bool false) rfl hHeld ?_
        simp only [Act.put, pA, pB, pC]
        refine tK 3 (some 157) (.bool false) rfl hHeld ?_
        simp only [Act.put, pA, pB, pC]
        refine skH 4 (some 158) rfl hHeld ?_
        simp only [Act.put, pA, pB, pC]
        refine skH 5 (some 159) rfl hHeld ?_
        simp only [Act.put, pA, pB, pC]
        refine skH 6 (some 160) rfl hHeld ?_
        simp only [Act.put, pA, pB, pC]
        refine skH 7 (some 161) rfl hHeld ?_
        simp only [Act.put, pA, pB, pC]
        refine skH 8 (some 162) rfl hHeld ?_
        simp only [Act.put, pA, pB, pC]
        refine skH 9 (some 163) rfl hHeld ?_
        simp only [Act.put, pA, pB, pC]
        refine skH 10 (some 164) rfl hHeld ?_
        simp only [Act.put, pA, pB, pC]
        refine skH 11 (some 165) rfl hHeld ?_
        simp only [Act.put, pA, pB, pC]
        refine skH 12 (some 166) rfl hHeld ?_
        simp only [Act.put, pA, pB, pC]
        refine skH 13 (some 167) rfl hHeld ?_
        simp only [Act.put, pA, pB, pC]
        refine skH 14 (some 168) rfl hHeld ?_
        simp only [Act.put, pA, pB, pC]
        refine skH 15 (some 169) rfl hHeld ?_
        simp only [Act.put, pA, pB, pC]
        refine skH 16 (some 170) rfl hHeld ?_
        simp only [Act.put, pA, pB, pC]
        refine skH 17 (some 171) rfl hHeld ?_
        simp only [Act.put, pA, pB, pC]
        refine skH 18 (some 172) rfl hHeld ?_
        simp only [Act.put, pA, pB, pC]
        refine skH 19 (some 173) rfl hHeld ?_
        simp only [Act.put, pA, pB, pC]
        refine skH 20 (some 174) rfl hHeld ?_
        simp only [Act.put, pA, pB, pC]
        refine skH 21 (some 175) rfl hHeld ?_
        simp only [Act.put, pA, pB, pC]
        refine skH 22 (some 176) rfl hHeld ?_
        simp only [Act.put, pA, pB, pC]
        refine skH 23 (some 177) rfl hHeld ?_
        simp only [Act.put, pA, pB, pC]
        refine skH 24 (some 178) rfl hHeld ?_
        simp only [Act.put, pA, pB, pC]
        refine skH 25 (some 179) rfl hHeld ?_
        simp only [Act.put, pA, pB, pC]
        refine skH 26 (some 180) rfl hHeld ?_
        simp only [Act.put, pA, pB, pC]
        refine skH 27 (some 181) rfl hHeld ?_
        simp only [Act.put, pA, pB, pC]
        refine skH 28 (some 182) rfl hHeld ?_
        simp only [Act.put, pA, pB, pC]
        refine skH 29 (some 183) rfl hHeld ?_
        simp only [Act.put, pA, pB, pC]
        refine skH 30 (some 184) rfl hHeld ?_
        simp only [Act.put, pA, pB, pC]
        refine skH 31 (some 185) rfl hHeld ?_
        simp only [Act.put, pA, pB, pC]
        refine skH 32 (some 186) rfl hHeld ?_
        simp only [Act.put, pA, pB, pC]
        refine skH 33 (some 187) rfl hHeld ?_
        simp only [Act.put, pA, pB, pC]
        refine skH 34 (some 188) rfl hHeld ?_
        simp only [Act.put, pA, pB, pC]
        refine skH 35 (some 189) rfl hHeld ?_
        simp only [Act.put, pA, pB, pC]
        refine skH 36 (some 190) rfl hHeld ?_
        simp only [Act.put, pA, pB, pC]
        refine skH 37 (some 191) rfl hHeld ?_
        simp only [Act.put, pA, pB, pC]
        refine skH 38 (some 192) rfl hHeld ?_
        simp only [Act.put, pA, pB, pC]
        refine skH 39 (some 193) rfl hHeld ?_
        simp only [Act.put, pA, pB, pC]
        refine tK 40 (some 194) (.bool false) rfl hHeld ?_
        simp only [Act.put, pA, pB, pC]
        refine ⟨by kernel_rfl, ?_⟩
        refine NoPanic.normal ?_
        have hl30 := HL3.out
        have hbw := HBW.out
        clear hHeld d0 d1 d2 d3 d4 d5 d6 d7 dz hS3
        have hlt := pickG hl30
        obtain ⟨hl22, hb22⟩ := hlt.setAt (q := 3) (b := x.k) (cs := kcs x.p x.l x.sz x.first x.v x.u x.way x.gone) (T := 32) rfl 1 (.pointer (some ⟨l', 0, none⟩))
        have ct := hlt.cellAt (q := 3) (b := x.k) (cs := kcs x.p x.l x.sz x.first x.v x.u x.way x.gone) (T := 32) rfl 1
        have cf := hlt.frozenAt (q := 3) (b := x.k) (cs := kcs x.p x.l x.sz x.first x.v x.u x.way x.gone) (T := 32) rfl 1
        change World.cell? V3 ⟨x.k, 1, none⟩ = some (.pointer (some ⟨x.l, 0, none⟩)) at ct
        obtain ⟨W22, hW22⟩ : ∃ y, World.setCell V3 ⟨x.k, 1, none⟩ (.pointer (some ⟨l', 0, none⟩)) = y := ⟨_, rfl⟩
        rw [hW22] at hl22 hb22
        change Lies B W22 [.disk x.p ⟨x.cap, fs9, ⟨false, false, 0, 0, f9⟩⟩, .log l' x.p g', .sub (.slice ad8 P cap8) pay, .block x.k (.cells (kcs x.p l' x.sz x.first x.v x.u x.way x.gone) 32 (0, 0))] at hl22
        obtain ⟨ad3, cap3, W23, hrun, hl23, hb23⟩ := copy_sub hl22 (q := 2) rfl HPL.out 30
        have hl24 := pick5 hl23
        have c24 := hl24.cellAt (q := 3) (b := x.k) (cs := kcs x.p l' x.sz x.first x.v x.u x.way x.gone) (T := 32) rfl 4
        have f24 := hl24.frozenAt (q := 3) (b := x.k) (cs := kcs x.p l' x.sz x.first x.v x.u x.way x.gone) (T := 32) rfl 4
        change W23.cell? ⟨x.k, 4, none⟩ = some x.v at c24
        obtain ⟨hl25, hb25⟩ := KL.set4 hl24
        rw [HP.out] at hrun hl25 hb25
        obtain ⟨W24, hW24⟩ : ∃ y, W23.setCell ⟨x.k, 4, none⟩ (.slice ad3 P cap3) = y := ⟨_, rfl⟩
        rw [hW24] at hl25 hb25
        have e6 := (KL.cells hl25).c6
        have ez := (KL.cells hl25).fz
        obtain ⟨hl26, hb26⟩ := KL.set6 hl25 false
        obtain ⟨W25, hW25⟩ : ∃ y, W24.setCell ⟨x.k, 6, none⟩ (.bool false) = y := ⟨_, rfl⟩
        rw [hW25] at hl26 hb26
        have hb27 : Below B w W25 := ((((hbw.trans hb22).trans hb23).trans hb25).trans hb26)
        have hks : KS ⟨x.cap, fs9, ⟨false, false, 0, 0, f9⟩⟩ g' x.sz x.first pay x.u.data.toList false := by
          obtain ⟨n0, b, pss, hk⟩ := HRE.out.kn
          exact KS.mk' hk (hl26.ok (i := 0) rfl) rfl rfl _
        obtain ⟨V5, hV5⟩ : ∃ y, W25.drew = y := ⟨_, rfl⟩
        have hv5 := hl26.same (w' := W25.drew) (Nat.le_refl _) (fun _ _ _ => rfl)
        rw [hV5] at hv5
        have hvb5 : Below B w V5 := by rw [← hV5]; exact hb27.drew
        have HNX5 := wnext_any hv5 (j := 1) rfl
        rw [HNX.out] at HNX5
        have HNX5 := hide HNX5
        have c35 : V5.cell? ⟨x.k, 3, none⟩ = some (.int .i64 x.first) := (KL.cells hv5).c3
        have HFIN : Hid (GPost B x w V5) := ⟨hvb5, .inr ⟨l', _, g', pay, _, hv5, hks, HRE.out.le⟩⟩
        have HRUN := hide hrun
        have HV5 := hide hV5
        clear hlt hl22 hb22 hl23 hb23 hl24 hl25 hb25 hl26 hb26 hb27 hks hv5 hvb5 hV5 hrun
        go_wp2_with (at_builtin; refine wpList_appS rfl _ _ _ rfl HRUN.out ?_)
        refine wp_region_noPanic ?_
        refine wp_region_held_drew (S := fun wx => wx.cell? ⟨x.k, 3, none⟩ = some (.int .i64 x.first)) (by kernel_rfl) (by rw [HV5.out]; exact c35) (fun hHeld => ?_)
        rw [HV5.out] at hHeld ⊢
        refine tK 0 (some 207) (.pointer (some ⟨l', 0, none⟩)) rfl hHeld ?_
        simp only [Act.put, pA, pB, pC]
        refine tK 2 (some 209) (.pointer (some ⟨x.k, 0, none⟩)) rfl hHeld ?_
        simp only [Act.put, pA, pB, pC]
        refine tK 3 (some 210) (.pointer (some ⟨x.k, 0, none⟩)) rfl hHeld ?_
        simp only [Act.put, pA, pB, pC]
        refine tK 4 (some 211) (.pointer (some ⟨x.k, 3, none⟩)) rfl hHeld ?_
        simp only [Act.put, pA, pB, pC]
        refine tH 5 (some 212) (.int .i64 x.first) rfl (fun w hw => by have q := hw; first | rfl | (go_simp; done) | (go_simp; rfl) | (go_simp; omega)) hHeld ?_
        simp only [Act.put, pA, pB, pC]
        refine tK 6 (some 213) (.slice ad8 P cap8) rfl hHeld ?_
        simp only [Act.put, pA, pB, pC]
        refine tK 7 (some 214) (.int .i64 (P : Int)) rfl hHeld ?_
        simp only [Act.put, pA, pB, pC]
        refine tH 8 (some 215) (.int .i64 NX) rfl (fun w hw => by have q := hadd; have q2 := hwri; first | rfl | (go_simp; done) | (go_simp; rfl) | (go_simp; omega)) hHeld ?_
        simp only [Act.put, pA, pB, pC]
        refine rdH 1 rfl (fun K hK => ?_)
        go_simp
        refine (HNX5.out).mono ?_
        rintro e w25 ⟨rfl, hw25⟩
        obtain rfl := hw25.symm
        try go_wp2_with fail
        refine hK.out _ _ (hHeld) (fun hH => ?_)
        clear hK K hHeld
        have hHeld := hH
        clear hH
        refine tH 9 (some 216) (.bool true) rfl (fun w hw => by have q := hnn; first | rfl | (go_simp; done) | (go_simp; rfl) | (go_simp; omega)) hHeld ?_
        simp only [Act.put, pA, pB, pC]
        refine tK 10 (some 6) (.bool true) rfl hHeld ?_
        simp only [Act.put, pA, pB, pC]
        refine ⟨by kernel_rfl, ?_⟩
        refine NoPanic.normal ?_
        go_wp2
        go_ret
        exact ⟨by simp, HFIN.out⟩
      | false =>
        rw [hfgx] at HFT
        rcases HMORE.out hfgx with hm0 | ⟨p1, p2, hm1, hund, Kx, hlost⟩
        · obtain rfl : mm = 0 := by rw [← HML.out, hm0]; rfl
          refine wp_region_held_drew (S := fun wx => wx.cell? ⟨x.k, 5, none⟩ = some (.string x.u) ∧ wx.cell? ⟨x.k, 6, none⟩ = some (.bool x.way)) (by kernel_rfl) (by rw [HV3.out]; exact hS3) (fun hHeld => ?_)
          rw [HV3.out] at hHeld ⊢
          refine tK 0 (some 154) (.slice ad n capf) rfl hHeld ?_
          simp only [Act.put, pA, pB, pC]
          refine rdH 1 rfl (fun K hK => ?_)
          go_simp
          refine (HFT.out).mono ?_
          rintro e w11 ⟨rfl, hw11⟩
          obtain rfl := hw11.symm
          try go_wp2_with fail
          refine hK.out _ _ (hHeld) (fun hH => ?_)
          clear hK K hHeld
          have hHeld := hH
          clear hH
          refine tK 2 (some 156) (.bool true) rfl hHeld ?_
          simp only [Act.put, pA, pB, pC]
          refine tK 3 (some 157) (.bool true) rfl hHeld ?_
          simp only [Act.put, pA, pB, pC]
          refine tK 4 (some 158) (.slice adm 0 (cap8 - n1)) rfl hHeld ?_
          simp only [Act.put, pA, pB, pC]
          refine tK 5 (some 159) (.int .i64 0) rfl hHeld ?_
          simp only [Act.put, pA, pB, pC]
          refine tK 6 (some 160) (.bool false) rfl hHeld ?_
          simp only [Act.put, pA, pB, pC]
          refine tK 7 (some 161) (.bool false) rfl hHeld ?_
          simp only [Act.put, pA, pB, pC]
          refine tK 8 (some 162) (.slice adm 0 (cap8 - n1)) rfl hHeld ?_
          simp only [Act.put, pA, pB, pC]
          refine tK 9 (some 163) (.int .i64 0) rfl hHeld ?_
          simp only [Act.put, pA, pB, pC]
          refine tK 10 (some 164) (.bool false) rfl hHeld ?_
          simp only [Act.put, pA, pB, pC]
          refine tK 11 (some 165) (.bool false) rfl hHeld ?_
          simp only [Act.put, pA, pB, pC]
          refine skH 12 (some 166) rfl hHeld ?_
          simp only [Act.put, pA, pB, pC]
          refine skH 13 (some 167) rfl hHeld ?_
          simp only [Act.put, pA, pB, pC]
          refine skH 14 (some 168) rfl hHeld ?_
          simp only [Act.put, pA, pB, pC]
          refine skH 15 (some 169) rfl hHeld ?_
          simp only [Act.put, pA, pB, pC]
          refine skH 16 (some 170) rfl hHeld ?_
          simp only [Act.put, pA, pB, pC]
          refine skH 17 (some 171) rfl hHeld ?_
          simp only [Act.put, pA, pB, pC]
          refine skH 18 (some 172) rfl hHeld ?_
          simp only [Act.put, pA, pB, pC]
          refine skH 19 (some 173) rfl hHeld ?_
          simp only [Act.put, pA, pB, pC]
          refine skH 20 (some 174) rfl hHeld ?_
          simp only [Act.put, pA, pB, pC]
          refine skH 21 (some 175) rfl hHeld ?_
          simp only [Act.put, pA, pB, pC]
          refine skH 22 (some 176) rfl hHeld ?_
          simp only [Act.put, pA, pB, pC]
          refine skH 23 (some 177) rfl hHeld ?_
          simp only [Act.put, pA, pB, pC]
          refine skH 24 (some 178) rfl hHeld ?_
          simp only [Act.put, pA, pB, pC]
          refine skH 25 (some 179) rfl hHeld ?_
          simp only [Act.put, pA, pB, pC]
          refine skH 26 (some 180) rfl hHeld ?_
          simp only [Act.put, pA, pB, pC]
          refine skH 27 (some 181) rfl hHeld ?_
          simp only [Act.put, pA, pB, pC]
          refine skH 28 (some 182) rfl hHeld ?_
          simp only [Act.put, pA, pB, pC]
          refine skH 29 (some 183) rfl hHeld ?_
          simp only [Act.put, pA, pB, pC]
          refine skH 30 (some 184) rfl hHeld ?_
          simp only [Act.put, pA, pB, pC]
          refine skH 31 (some 185) rfl hHeld ?_
          simp only [Act.put, pA, pB, pC]
          refine skH 32 (some 186) rfl hHeld ?_
          simp only [Act.put, pA, pB, pC]
          refine skH 33 (some 187) rfl hHeld ?_
          simp only [Act.put, pA, pB, pC]
          refine skH 34 (some 188) rfl hHeld ?_
          simp only [Act.put, pA, pB, pC]
          refine skH 35 (some 189) rfl hHeld ?_
          simp only [Act.put, pA, pB, pC]
          refine skH 36 (some 190) rfl hHeld ?_
          simp only [Act.put, pA, pB, pC]
          refine skH 37 (some 191) rfl hHeld ?_
          simp only [Act.put, pA, pB, pC]
          refine tK 38 (some 192) (.bool false) rfl hHeld ?_
          simp only [Act.put, pA, pB, pC]
          refine tK 39 (some 193) (.bool false) rfl hHeld ?_
          simp only [Act.put, pA, pB, pC]
          refine tK 40 (some 194) (.bool false) rfl hHeld ?_
          simp only [Act.put, pA, pB, pC]
          refine ⟨by kernel_rfl, ?_⟩
          refine NoPanic.normal ?_
          have hl30 := HL3.out
          have hbw := HBW.out
          clear hHeld d0 d1 d2 d3 d4 d5 d6 d7 dz hS3
          have hlt := pickG hl30
          obtain ⟨hl22, hb22⟩ := hlt.setAt (q := 3) (b := x.k) (cs := kcs x.p x.l x.sz x.first x.v x.u x.way x.gone) (T := 32) rfl 1 (.pointer (some ⟨l', 0, none⟩))
          have ct := hlt.cellAt (q := 3) (b := x.k) (cs := kcs x.p x.l x.sz x.first x.v x.u x.way x.gone) (T := 32) rfl 1
          have cf := hlt.frozenAt (q := 3) (b := x.k) (cs := kcs x.p x.l x.sz x.first x.v x.u x.way x.gone) (T := 32) rfl 1
          change World.cell? V3 ⟨x.k, 1, none⟩ = some (.pointer (some ⟨x.l, 0, none⟩)) at ct
          obtain ⟨W22, hW22⟩ : ∃ y, World.setCell V3 ⟨x.k, 1, none⟩ (.pointer (some ⟨l', 0, none⟩)) = y := ⟨_, rfl⟩
          rw [hW22] at hl22 hb22
          change Lies B W22 [.disk x.p ⟨x.cap, fs9, ⟨false, false, 0, 0, f9⟩⟩, .log l' x.p g', .sub (.slice ad8 P cap8) pay, .block x.k (.cells (kcs x.p l' x.sz x.first x.v x.u x.way x.gone) 32 (0, 0))] at hl22
          obtain ⟨ad3, cap3, W23, hrun, hl23, hb23⟩ := copy_sub hl22 (q := 2) rfl HPL.out 30
          have hl24 := pick5 hl23
          have c24 := hl24.cellAt (q := 3) (b := x.k) (cs := kcs x.p l' x.sz x.first x.v x.u x.way x.gone) (T := 32) rfl 4
          have f24 := hl24.frozenAt (q := 3) (b := x.k) (cs := kcs x.p l' x.sz x.first x.v x.u x.way x.gone) (T := 32) rfl 4
          change W23.cell? ⟨x.k, 4, none⟩ = some x.v at c24
          obtain ⟨hl25, hb25⟩ := KL.set4 hl24
          rw [HP.out] at hrun hl25 hb25
          obtain ⟨W24, hW24⟩ : ∃ y, W23.setCell ⟨x.k, 4, none⟩ (.slice ad3 P cap3) = y := ⟨_, rfl⟩
          rw [hW24] at hl25 hb25
          have e6 := (KL.cells hl25).c6
          have ez := (KL.cells hl25).fz
          obtain ⟨hl26, hb26⟩ := KL.set6 hl25 false
          obtain ⟨W25, hW25⟩ : ∃ y, W24.setCell ⟨x.k, 6, none⟩ (.bool false) = y := ⟨_, rfl⟩
          rw [hW25] at hl26 hb26
          have hb27 : Below B w W25 := ((((hbw.trans hb22).trans hb23).trans hb25).trans hb26)
          have hks : KS ⟨x.cap, fs9, ⟨false, false, 0, 0, f9⟩⟩ g' x.sz x.first pay x.u.data.toList false := by
            obtain ⟨n0, b, pss, hk⟩ := HRE.out.kn
            exact KS.mk' hk (hl26.ok (i := 0) rfl) rfl rfl _
          obtain ⟨V5, hV5⟩ : ∃ y, W25.drew = y := ⟨_, rfl⟩
          have hv5 := hl26.same (w' := W25.drew) (Nat.le_refl _) (fun _ _ _ => rfl)
          rw [hV5] at hv5
          have hvb5 : Below B w V5 := by rw [← hV5]; exact hb27.drew
          have HNX5 := wnext_any hv5 (j := 1) rfl
          rw [HNX.out] at HNX5
          have HNX5 := hide HNX5
          have c35 : V5.cell? ⟨x.k, 3, none⟩ = some (.int .i64 x.first) := (KL.cells hv5).c3
          have HFIN : Hid (GPost B x w V5) := ⟨hvb5, .inr ⟨l', _, g', pay, _, hv5, hks, HRE.out.le⟩⟩
          have HRUN := hide hrun
          have HV5 := hide hV5
          clear hlt hl22 hb22 hl23 hb23 hl24 hl25 hb25 hl26 hb26 hb27 hks hv5 hvb5 hV5 hrun
          go_wp2_with (at_builtin; refine wpList_appS rfl _ _ _ rfl HRUN.out ?_)
          refine wp_region_noPanic ?_
          refine wp_region_held_drew (S := fun wx => wx.cell? ⟨x.k, 3, none⟩ = some (.int .i64 x.first)) (by kernel_rfl) (by rw [HV5.out]; exact c35) (fun hHeld => ?_)
          rw [HV5.out] at hHeld ⊢
          refine tK 0 (some 207) (.pointer (some ⟨l', 0, none⟩)) rfl hHeld ?_
          simp only [Act.put, pA, pB, pC]
          refine tK 2 (some 209) (.pointer (some ⟨x.k, 0, none⟩)) rfl hHeld ?_
          simp only [Act.put, pA, pB, pC]
          refine tK 3 (some 210) (.pointer (some ⟨x.k, 0, none⟩)) rfl hHeld ?_
          simp only [Act.put, pA, pB, pC]
          refine tK 4 (some 211) (.pointer (some ⟨x.k, 3, none⟩)) rfl hHeld ?_
          simp only [Act.put, pA, pB, pC]
          refine tH 5 (some 212) (.int .i64 x.first) rfl (fun w hw => by have q := hw; first | rfl | (go_simp; done) | (go_simp; rfl) | (go_simp; omega)) hHeld ?_
          simp only [Act.put, pA, pB, pC]
          refine tK 6 (some 213) (.slice ad8 P cap8) rfl hHeld ?_
          simp only [Act.put, pA, pB, pC]
          refine tK 7 (some 214) (.int .i64 (P : Int)) rfl hHeld ?_
          simp only [Act.put, pA, pB, pC]
          refine tH 8 (some 215) (.int .i64 NX) rfl (fun w hw => by have q := hadd; have q2 := hwri; first | rfl | (go_simp; done) | (go_simp; rfl) | (go_simp; omega)) hHeld ?_
          simp only [Act.put, pA, pB, pC]
          refine rdH 1 rfl (fun K hK => ?_)
          go_simp
          refine (HNX5.out).mono ?_
          rintro e w25 ⟨rfl, hw25⟩
          obtain rfl := hw25.symm
          try go_wp2_with fail
          refine hK.out _ _ (hHeld) (fun hH => ?_)
          clear hK K hHeld
          have hHeld := hH
          clear hH
          refine tH 9 (some 216) (.bool true) rfl (fun w hw => by have q := hnn; first | rfl | (go_simp; done) | (go_simp; rfl) | (go_simp; omega)) hHeld ?_
          simp only [Act.put, pA, pB, pC]
          refine tK 10 (some 6) (.bool true) rfl hHeld ?_
          simp only [Act.put, pA, pB, pC]
          refine ⟨by kernel_rfl, ?_⟩
          refine NoPanic.normal ?_
          go_wp2
          go_ret
          exact ⟨by simp, HFIN.out⟩
        · obtain rfl : mm = 1 := by rw [← HML.out, hm1]; rfl
          have hway : x.way = true := by
            unfold KX.und at hund
            split at hund
            · assumption
            · cases hund
          have hp2 : p2 = x.u.data.toList := by
            unfold KX.und at hund
            rw [if_pos hway] at hund
            exact (Option.some.inj hund).symm
          rw [hway] at d6 hS3
          have hcellm : ∃ b o, adm = some ⟨b, o, none⟩ ∧ b < V3.heap.size ∧ V3.cell? ⟨b, o, none⟩ = some (.string ⟨p1.toArray⟩) := by
            rcases HROWM.out with h0 | ⟨b, o, ha, hb, hc⟩
            · rw [hm1] at h0; cases h0
            · refine ⟨b, o, ha, hb, ?_⟩
              have := hc 0 (by rw [hm1]; simp)
              rw [hm1] at this
              simpa [encStr] using this
          obtain ⟨bm, om, rfl, hbm, hcm⟩ := hcellm
          obtain ⟨Q1, hQ1⟩ : ∃ y : ByteArray, (⟨p1.toArray⟩ : ByteArray) = y := ⟨_, rfl⟩
          rw [hQ1] at hcm
          have hQ1l : Q1.data.toList = p1 := by rw [← hQ1]
          have hS4 : V3.cell? ⟨x.k, 5, none⟩ = some (.string x.u) ∧ V3.cell? ⟨x.k, 6, none⟩ = some (.bool true) ∧ V3.cell? ⟨bm, om, none⟩ = some (.string Q1) := ⟨hS3.1, hS3.2, hcm⟩
          by_cases hq1 : Q1 = x.u
          · have hqq : (Q1.toList != x.u.toList) = false := by rw [hq1]; simp
            refine wp_region_held_drew (S := fun wx => wx.cell? ⟨x.k, 5, none⟩ = some (.string x.u) ∧ wx.cell? ⟨x.k, 6, none⟩ = some (.bool true) ∧ wx.cell? ⟨bm, om, none⟩ = some (.string Q1)) (by kernel_rfl) (by rw [HV3.out]; exact hS4) (fun hHeld => ?_)
            rw [HV3.out] at hHeld ⊢
            refine tK 0 (some 154) (.slice ad n capf) rfl hHeld ?_
            simp only [Act.put, pA, pB, pC]
            refine rdH 1 rfl (fun K hK => ?_)
            go_simp
            refine (HFT.out).mono ?_
            rintro e w11 ⟨rfl, hw11⟩
            obtain rfl := hw11.symm
            try go_wp2_with fail
            refine hK.out _ _ (hHeld) (fun hH => ?_)
            clear hK K hHeld
            have hHeld := hH
            clear hH
            refine tK 2 (some 156) (.bool true) rfl hHeld ?_
            simp only [Act.put, pA, pB, pC]
            refine tK 3 (some 157) (.bool true) rfl hHeld ?_
            simp only [Act.put, pA, pB, pC]
            refine tK 4 (some 158) (.slice (some ⟨bm, om, none⟩) 1 (cap8 - n1)) rfl hHeld ?_
            simp only [Act.put, pA, pB, pC]
            refine tK 5 (some 159) (.int .i64 1) rfl hHeld ?_
            simp only [Act.put, pA, pB, pC]
            refine tK 6 (some 160) (.bool false) rfl hHeld ?_
            simp only [Act.put, pA, pB, pC]
            refine tK 7 (some 161) (.bool false) rfl hHeld ?_
            simp only [Act.put, pA, pB, pC]
            refine tK 8 (some 162) (.slice (some ⟨bm, om, none⟩) 1 (cap8 - n1)) rfl hHeld ?_
            simp only [Act.put, pA, pB, pC]
            refine tK 9 (some 163) (.int .i64 1) rfl hHeld ?_
            simp only [Act.put, pA, pB, pC]
            refine tK 10 (some 164) (.bool true) rfl hHeld ?_
            simp only [Act.put, pA, pB, pC]
            refine tK 11 (some 165) (.bool true) rfl hHeld ?_
            simp only [Act.put, pA, pB, pC]
            refine tK 12 (some 166) (.pointer (some ⟨x.k, 0, none⟩)) rfl hHeld ?_
            simp only [Act.put, pA, pB, pC]
            refine tK 13 (some 167) (.pointer (some ⟨x.k, 0, none⟩)) rfl hHeld ?_
            simp only [Act.put, pA, pB, pC]
            refine tK 14 (some 168) (.pointer (some ⟨x.k, 6, none⟩)) rfl hHeld ?_
            simp only [Act.put, pA, pB, pC]
            refine tH 15 (some 169) (.bool true) rfl (fun w hw => by have q := hw.2.1; first | rfl | (go_simp; done) | (go_simp; rfl) | (go_simp; omega)) hHeld ?_
            simp only [Act.put, pA, pB, pC]
            refine tK 16 (some 170) (.bool false) rfl hHeld ?_
            simp only [Act.put, pA, pB, pC]
            refine tK 17 (some 171) (.bool false) rfl hHeld ?_
            simp only [Act.put, pA, pB, pC]
            refine tK 18 (some 172) (.slice (some ⟨bm, om, none⟩) 1 (cap8 - n1)) rfl hHeld ?_
            simp only [Act.put, pA, pB, pC]
            refine tK 19 (some 173) (.pointer (some ⟨bm, om, none⟩)) rfl hHeld ?_
            simp only [Act.put, pA, pB, pC]
            refine tH 20 (some 174) (.string Q1) rfl (fun w hw => by have q := hw.2.2; first | rfl | (go_simp; done) | (go_simp; rfl) | (go_simp; omega)) hHeld ?_
            simp only [Act.put, pA, pB, pC]
            refine tK 21 (some 175) (.pointer (some ⟨x.k, 0, none⟩)) rfl hHeld ?_
            simp only [Act.put, pA, pB, pC]
            refine tK 22 (some 176) (.pointer (some ⟨x.k, 0, none⟩)) rfl hHeld ?_
            simp only [Act.put, pA, pB, pC]
            refine tK 23 (some 177) (.pointer (some ⟨x.k, 5, none⟩)) rfl hHeld ?_
            simp only [Act.put, pA, pB, pC]
            refine tH 24 (some 178) (.string x.u) rfl (fun w hw => by have q := hw.1; first | rfl | (go_simp; done) | (go_simp; rfl) | (go_simp; omega)) hHeld ?_
            simp only [Act.put, pA, pB, pC]
            refine tH 25 (some 179) (.bool false) rfl (fun w hw => by have q := hqq; first | rfl | (go_simp; done) | (go_simp; rfl) | (go_simp; omega)) hHeld ?_
            simp only [Act.put, pA, pB, pC]
            refine tK 26 (some 180) (.bool false) rfl hHeld ?_
            simp only [Act.put, pA, pB, pC]
            refine skH 27 (some 181) rfl hHeld ?_
            simp only [Act.put, pA, pB, pC]
            refine skH 28 (some 182) rfl hHeld ?_
            simp only [Act.put, pA, pB, pC]
            refine skH 29 (some 183) rfl hHeld ?_
            simp only [Act.put, pA, pB, pC]
            refine skH 30 (some 184) rfl hHeld ?_
            simp only [Act.put, pA, pB, pC]
            refine skH 31 (some 185) rfl hHeld ?_
            simp only [Act.put, pA, pB, pC]
            refine skH 32 (some 186) rfl hHeld ?_
            simp only [Act.put, pA, pB, pC]
            refine skH 33 (some 187) rfl hHeld ?_
            simp only [Act.put, pA, pB, pC]
            refine skH 34 (some 188) rfl hHeld ?_
            simp only [Act.put, pA, pB, pC]
            refine skH 35 (some 189) rfl hHeld ?_
            simp only [Act.put, pA, pB, pC]
            refine tK 36 (some 190) (.bool false) rfl hHeld ?_
            simp only [Act.put, pA, pB, pC]
            refine tK 37 (some 191) (.bool false) rfl hHeld ?_
            simp only [Act.put, pA, pB, pC]
            refine tK 38 (some 192) (.bool false) rfl hHeld ?_
            simp only [Act.put, pA, pB, pC]
            refine tK 39 (some 193) (.bool false) rfl hHeld ?_
            simp only [Act.put, pA, pB, pC]
            refine tK 40 (some 194) (.bool false) rfl hHeld ?_
            simp only [Act.put, pA, pB, pC]
            refine ⟨by kernel_rfl, ?_⟩
            refine NoPanic.normal ?_
            have hl30 := HL3.out
            have hbw := HBW.out
            clear hHeld d0 d1 d2 d3 d4 d5 d6 d7 dz hS3
            have hlt := pickG hl30
            obtain ⟨hl22, hb22⟩ := hlt.setAt (q := 3) (b := x.k) (cs := kcs x.p x.l x.sz x.first x.v x.u x.way x.gone) (T := 32) rfl 1 (.pointer (some ⟨l', 0, none⟩))
            have ct := hlt.cellAt (q := 3) (b := x.k) (cs := kcs x.p x.l x.sz x.first x.v x.u x.way x.gone) (T := 32) rfl 1
            have cf := hlt.frozenAt (q := 3) (b := x.k) (cs := kcs x.p x.l x.sz x.first x.v x.u x.way x.gone) (T := 32) rfl 1
            change World.cell? V3 ⟨x.k, 1, none⟩ = some (.pointer (some ⟨x.l, 0, none⟩)) at ct
            obtain ⟨W22, hW22⟩ : ∃ y, World.setCell V3 ⟨x.k, 1, none⟩ (.pointer (some ⟨l', 0, none⟩)) = y := ⟨_, rfl⟩
            rw [hW22] at hl22 hb22
            change Lies B W22 [.disk x.p ⟨x.cap, fs9, ⟨false, false, 0, 0, f9⟩⟩, .log l' x.p g', .sub (.slice ad8 P cap8) pay, .block x.k (.cells (kcs x.p l' x.sz x.first x.v x.u x.way x.gone) 32 (0, 0))] at hl22
            obtain ⟨ad3, cap3, W23, hrun, hl23, hb23⟩ := copy_sub hl22 (q := 2) rfl HPL.out 30
            have hl24 := pick5 hl23
            have c24 := hl24.cellAt (q := 3) (b := x.k) (cs := kcs x.p l' x.sz x.first x.v x.u x.way x.gone) (T := 32) rfl 4
            have f24 := hl24.frozenAt (q := 3) (b := x.k) (cs := kcs x.p l' x.sz x.first x.v x.u x.way x.gone) (T := 32) rfl 4
            change W23.cell? ⟨x.k, 4, none⟩ = some x.v at c24
            obtain ⟨hl25, hb25⟩ := KL.set4 hl24
            rw [HP.out] at hrun hl25 hb25
            obtain ⟨W24, hW24⟩ : ∃ y, W23.setCell ⟨x.k, 4, none⟩ (.slice ad3 P cap3) = y := ⟨_, rfl⟩
            rw [hW24] at hl25 hb25
            have e6 := (KL.cells hl25).c6
            have ez := (KL.cells hl25).fz
            obtain ⟨hl26, hb26⟩ := KL.set6 hl25 false
            obtain ⟨W25, hW25⟩ : ∃ y, W24.setCell ⟨x.k, 6, none⟩ (.bool false) = y := ⟨_, rfl⟩
            rw [hW25] at hl26 hb26
            have hb27 : Below B w W25 := ((((hbw.trans hb22).trans hb23).trans hb25).trans hb26)
            have hks : KS ⟨x.cap, fs9, ⟨false, false, 0, 0, f9⟩⟩ g' x.sz x.first pay x.u.data.toList false := by
              obtain ⟨n0, b, pss, hk⟩ := HRE.out.kn
              exact KS.mk' hk (hl26.ok (i := 0) rfl) rfl rfl _
            obtain ⟨V5, hV5⟩ : ∃ y, W25.drew = y := ⟨_, rfl⟩
            have hv5 := hl26.same (w' := W25.drew) (Nat.le_refl _) (fun _ _ _ => rfl)
            rw [hV5] at hv5
            have hvb5 : Below B w V5 := by rw [← hV5]; exact hb27.drew
            have HNX5 := wnext_any hv5 (j := 1) rfl
            rw [HNX.out] at HNX5
            have HNX5 := hide HNX5
            have c35 : V5.cell? ⟨x.k, 3, none⟩ = some (.int .i64 x.first) := (KL.cells hv5).c3
            have HFIN : Hid (GPost B x w V5) := ⟨hvb5, .inr ⟨l', _, g', pay, _, hv5, hks, HRE.out.le⟩⟩
            have HRUN := hide hrun
            have HV5 := hide hV5
            clear hlt hl22 hb22 hl23 hb23 hl24 hl25 hb25 hl26 hb26 hb27 hks hv5 hvb5 hV5 hrun
            go_wp2_with (at_builtin; refine wpList_appS rfl _ _ _ rfl HRUN.out ?_)
            refine wp_region_noPanic ?_
            refine wp_region_held_drew (S := fun wx => wx.cell? ⟨x.k, 3, none⟩ = some (.int .i64 x.first)) (by kernel_rfl) (by rw [HV5.out]; exact c35) (fun hHeld => ?_)
            rw [HV5.out] at hHeld ⊢
            refine tK 0 (some 207) (.pointer (some ⟨l', 0, none⟩)) rfl hHeld ?_
            simp only [Act.put, pA, pB, pC]
            refine tK 2 (some 209) (.pointer (some ⟨x.k, 0, none⟩)) rfl hHeld ?_
            simp only [Act.put, pA, pB, pC]
            refine tK 3 (some 210) (.pointer (some ⟨x.k, 0, none⟩)) rfl hHeld ?_
            simp only [Act.put, pA, pB, pC]
            refine tK 4 (some 211) (.pointer (some ⟨x.k, 3, none⟩)) rfl hHeld ?_
            simp only [Act.put, pA, pB, pC]
            refine tH 5 (some 212) (.int .i64 x.first) rfl (fun w hw => by have q := hw; first | rfl | (go_simp; done) | (go_simp; rfl) | (go_simp; omega)) hHeld ?_
            simp only [Act.put, pA, pB, pC]
            refine tK 6 (some 213) (.slice ad8 P cap8) rfl hHeld ?_
            simp only [Act.put, pA, pB, pC]
            refine tK 7 (some 214) (.int .i64 (P : Int)) rfl hHeld ?_
            simp only [Act.put, pA, pB, pC]
            refine tH 8 (some 215) (.int .i64 NX) rfl (fun w hw => by have q := hadd; have q2 := hwri; first | rfl | (go_simp; done) | (go_simp; rfl) | (go_simp; omega)) hHeld ?_
            simp only [Act.put, pA, pB, pC]
            refine rdH 1 rfl (fun K hK => ?_)
            go_simp
            refine (HNX5.out).mono ?_
            rintro e w25 ⟨rfl, hw25⟩
            obtain rfl := hw25.symm
            try go_wp2_with fail
            refine hK.out _ _ (hHeld) (fun hH => ?_)
            clear hK K hHeld
            have hHeld := hH
            clear hH
            refine tH 9 (some 216) (.bool true) rfl (fun w hw => by have q := hnn; first | rfl | (go_simp; done) | (go_simp; rfl) | (go_simp; omega)) hHeld ?_
            simp only [Act.put, pA, pB, pC]
            refine tK 10 (some 6) (.bool true) rfl hHeld ?_
            simp only [Act.put, pA, pB, pC]
            refine ⟨by kernel_rfl, ?_⟩
            refine NoPanic.normal ?_
            go_wp2
            go_ret
            exact ⟨by simp, HFIN.out⟩
          · have hqq : (Q1.toList != x.u.toList) = true := by rw [bne_iff_ne, ByteArray.toList_eq, ByteArray.toList_eq]; intro e1; exact hq1 (ByteArray.ext (Array.toList_inj.1 e1))
            have hqb : (Q1.toList == x.u.toList) = false := by rw [beq_eq_false_iff_ne, ByteArray.toList_eq, ByteArray.toList_eq]; intro e1; exact hq1 (ByteArray.ext (Array.toList_inj.1 e1))
            have hsz1 : Q1.size ≤ 65536 := by
              rw [← str_len, hQ1l]
              obtain ⟨n0, b, pss, hk⟩ := HRE.out.kn
              have hmem : p1 ∈ pay := by have := HDROP.out; rw [hm1] at this; exact List.mem_of_mem_drop (by rw [this]; simp)
              rw [hk.ack] at hmem
              exact hk.fine.small p1 (List.mem_of_mem_drop hmem)
            have HKB : Hid (x.k < V3.heap.size) := block_lt_of_cell hS4.1
            have HLO := hide (lost_any V3 Q1 x.u Kx (by rw [hQ1l, ← hp2]; exact hlost) hq1 hsz1)
            refine wp_region_held_drew (S := fun wx => wx.cell? ⟨x.k, 5, none⟩ = some (.string x.u) ∧ wx.cell? ⟨x.k, 6, none⟩ = some (.bool true) ∧ wx.cell? ⟨bm, om, none⟩ = some (.string Q1)) (by kernel_rfl) (by rw [HV3.out]; exact hS4) (fun hHeld => ?_)
            rw [HV3.out] at hHeld ⊢
            refine tK 0 (some 154) (.slice ad n capf) rfl hHeld ?_
            simp only [Act.put, pA, pB, pC]
            refine rdH 1 rfl (fun K hK => ?_)
            go_simp
            refine (HFT.out).mono ?_
            rintro e w11 ⟨rfl, hw11⟩
            obtain rfl := hw11.symm
            try go_wp2_with fail
            refine hK.out _ _ (hHeld) (fun hH => ?_)
            clear hK K hHeld
            have hHeld := hH
            clear hH
            refine tK 2 (some 156) (.bool true) rfl hHeld ?_
            simp only [Act.put, pA, pB, pC]
            refine tK 3 (some 157) (.bool true) rfl hHeld ?_
            simp only [Act.put, pA, pB, pC]
            refine tK 4 (some 158) (.slice (some ⟨bm, om, none⟩) 1 (cap8 - n1)) rfl hHeld ?_
            simp only [Act.put, pA, pB, pC]
            refine tK 5 (some 159) (.int .i64 1) rfl hHeld ?_
            simp only [Act.put, pA, pB, pC]
            refine tK 6 (some 160) (.bool false) rfl hHeld ?_
            simp only [Act.put, pA, pB, pC]
            refine tK 7 (some 161) (.bool false) rfl hHeld ?_
            simp only [Act.put, pA, pB, pC]
            refine tK 8 (some 162) (.slice (some ⟨bm, om, none⟩) 1 (cap8 - n1)) rfl hHeld ?_
            simp only [Act.put, pA, pB, pC]
            refine tK 9 (some 163) (.int .i64 1) rfl hHeld ?_
            simp only [Act.put, pA, pB, pC]
            refine tK 10 (some 164) (.bool true) rfl hHeld ?_
            simp only [Act.put, pA, pB, pC]
            refine tK 11 (some 165) (.bool true) rfl hHeld ?_
            simp only [Act.put, pA, pB, pC]
            refine tK 12 (some 166) (.pointer (some ⟨x.k, 0, none⟩)) rfl hHeld ?_
            simp only [Act.put, pA, pB, pC]
            refine tK 13 (some 167) (.pointer (some ⟨x.k, 0, none⟩)) rfl hHeld ?_
            simp only [Act.put, pA, pB, pC]
            refine tK 14 (some 168) (.pointer (some ⟨x.k, 6, none⟩)) rfl hHeld ?_
            simp only [Act.put, pA, pB, pC]
            refine tH 15 (some 169) (.bool true) rfl (fun w hw => by have q := hw.2.1; first | rfl | (go_simp; done) | (go_simp; rfl) | (go_simp; omega)) hHeld ?_
            simp only [Act.put, pA, pB, pC]
            refine tK 16 (some 170) (.bool false) rfl hHeld ?_
            simp only [Act.put, pA, pB, pC]
            refine tK 17 (some 171) (.bool false) rfl hHeld ?_
            simp only [Act.put, pA, pB, pC]
            refine tK 18 (some 172) (.slice (some ⟨bm, om, none⟩) 1 (cap8 - n1)) rfl hHeld ?_
            simp only [Act.put, pA, pB, pC]
            refine tK 19 (some 173) (.pointer (some ⟨bm, om, none⟩)) rfl hHeld ?_
            simp only [Act.put, pA, pB, pC]
            refine tH 20 (some 174) (.string Q1) rfl (fun w hw => by have q := hw.2.2; first | rfl | (go_simp; done) | (go_simp; rfl) | (go_simp; omega)) hHeld ?_
            simp only [Act.put, pA, pB, pC]
            refine tK 21 (some 175) (.pointer (some ⟨x.k, 0, none⟩)) rfl hHeld ?_
            simp only [Act.put, pA, pB, pC]
            refine tK 22 (some 176) (.pointer (some ⟨x.k, 0, none⟩)) rfl hHeld ?_
            simp only [Act.put, pA, pB, pC]
            refine tK 23 (some 177) (.pointer (some ⟨x.k, 5, none⟩)) rfl hHeld ?_
            simp only [Act.put, pA, pB, pC]
            refine tH 24 (some 178) (.string x.u) rfl (fun w hw => by have q := hw.1; first | rfl | (go_simp; done) | (go_simp; rfl) | (go_simp; omega)) hHeld ?_
            simp only [Act.put, pA, pB, pC]
            refine tH 25 (some 179) (.bool true) rfl (fun w hw => by have q := hqq; have q2 := hqb; first | rfl | (go_simp; done) | (go_simp; rfl) | (go_simp; omega)) hHeld ?_
            simp only [Act.put, pA, pB, pC]
            refine tK 26 (some 180) (.bool true) rfl hHeld ?_
            simp only [Act.put, pA, pB, pC]
            refine tK 27 (some 181) (.slice (some ⟨bm, om, none⟩) 1 (cap8 - n1)) rfl hHeld ?_
            simp only [Act.put, pA, pB, pC]
            refine tK 28 (some 182) (.pointer (some ⟨bm, om, none⟩)) rfl hHeld ?_
            simp only [Act.put, pA, pB, pC]
            refine tH 29 (some 183) (.string Q1) rfl (fun w hw => by have q := hw.2.2; first | rfl | (go_simp; done) | (go_simp; rfl) | (go_simp; omega)) hHeld ?_
            simp only [Act.put, pA, pB, pC]
            refine tK 30 (some 184) (.pointer (some ⟨x.k, 0, none⟩)) rfl hHeld ?_
            simp only [Act.put, pA, pB, pC]
            refine tK 31 (some 185) (.pointer (some ⟨x.k, 0, none⟩)) rfl hHeld ?_
            simp only [Act.put, pA, pB, pC]
            refine tK 32 (some 186) (.pointer (some ⟨x.k, 5, none⟩)) rfl hHeld ?_
            simp only [Act.put, pA, pB, pC]
            refine tH 33 (some 187) (.string x.u) rfl (fun w hw => by have q := hw.1; first | rfl | (go_simp; done) | (go_simp; rfl) | (go_simp; omega)) hHeld ?_
            simp only [Act.put, pA, pB, pC]
            refine rdH 34 rfl (fun K hK => ?_)
            go_simp
            refine (HLO.out).mono ?_
            rintro e w12 ⟨rfl, hb12⟩
            try go_wp2_with fail
            refine hK.out _ _ (⟨by rw [World.cell?_of_block (hb12.block x.k HKB.out)]; exact hS4.1, by rw [World.cell?_of_block (hb12.block x.k HKB.out)]; exact hS4.2.1, by rw [World.cell?_of_block (hb12.block bm hbm)]; exact hS4.2.2⟩) (fun hH => ?_)
            clear hK K hHeld
            have hHeld := hH
            clear hH
            refine tK 35 (some 189) (.bool false) rfl hHeld ?_
            simp only [Act.put, pA, pB, pC]
            refine tK 36 (some 190) (.bool false) rfl hHeld ?_
            simp only [Act.put, pA, pB, pC]
            refine tK 37 (some 191) (.bool false) rfl hHeld ?_
            simp only [Act.put, pA, pB, pC]
            refine tK 38 (some 192) (.bool false) rfl hHeld ?_
            simp only [Act.put, pA, pB, pC]
            refine tK 39 (some 193) (.bool false) rfl hHeld ?_
            simp only [Act.put, pA, pB, pC]
            refine tK 40 (some 194) (.bool false) rfl hHeld ?_
            simp only [Act.put, pA, pB, pC]
            refine ⟨by kernel_rfl, ?_⟩
            refine NoPanic.normal ?_
            have hl30 := HL3.out.below hb12
            have hbw := HBW.out.trans (hb12.mono HL3.out.base)
            clear hHeld d0 d1 d2 d3 d4 d5 d6 d7 dz hS3
            have hlt := pickG hl30
            obtain ⟨hl22, hb22⟩ := hlt.setAt (q := 3) (b := x.k) (cs := kcs x.p x.l x.sz x.first x.v x.u x.way x.gone) (T := 32) rfl 1 (.pointer (some ⟨l', 0, none⟩))
            have ct := hlt.cellAt (q := 3) (b := x.k) (cs := kcs x.p x.l x.sz x.first x.v x.u x.way x.gone) (T := 32) rfl 1
            have cf := hlt.frozenAt (q := 3) (b := x.k) (cs := kcs x.p x.l x.sz x.first x.v x.u x.way x.gone) (T := 32) rfl 1
            change World.cell? w12 ⟨x.k, 1, none⟩ = some (.pointer (some ⟨x.l, 0, none⟩)) at ct
            obtain ⟨W22, hW22⟩ : ∃ y, World.setCell w12 ⟨x.k, 1, none⟩ (.pointer (some ⟨l', 0, none⟩)) = y := ⟨_, rfl⟩
            rw [hW22] at hl22 hb22
            change Lies B W22 [.disk x.p ⟨x.cap, fs9, ⟨false, false, 0, 0, f9⟩⟩, .log l' x.p g', .sub (.slice ad8 P cap8) pay, .block x.k (.cells (kcs x.p l' x.sz x.first x.v x.u x.way x.gone) 32 (0, 0))] at hl22
            obtain ⟨ad3, cap3, W23, hrun, hl23, hb23⟩ := copy_sub hl22 (q := 2) rfl HPL.out 30
            have hl24 := pick5 hl23
            have c24 := hl24.cellAt (q := 3) (b := x.k) (cs := kcs x.p l' x.sz x.first x.v x.u x.way x.gone) (T := 32) rfl 4
            have f24 := hl24.frozenAt (q := 3) (b := x.k) (cs := kcs x.p l' x.sz x.first x.v x.u x.way x.gone) (T := 32) rfl 4
            change W23.cell? ⟨x.k, 4, none⟩ = some x.v at c24
            obtain ⟨hl25, hb25⟩ := KL.set4 hl24
            rw [HP.out] at hrun hl25 hb25
            obtain ⟨W24, hW24⟩ : ∃ y, W23.setCell ⟨x.k, 4, none⟩ (.slice ad3 P cap3) = y := ⟨_, rfl⟩
            rw [hW24] at hl25 hb25
            have e6 := (KL.cells hl25).c6
            have ez := (KL.cells hl25).fz
            obtain ⟨hl26, hb26⟩ := KL.set6 hl25 false
            obtain ⟨W25, hW25⟩ : ∃ y, W24.setCell ⟨x.k, 6, none⟩ (.bool false) = y := ⟨_, rfl⟩
            rw [hW25] at hl26 hb26
            have hb27 : Below B w W25 := ((((hbw.trans hb22).trans hb23).trans hb25).trans hb26)
            have hks : KS ⟨x.cap, fs9, ⟨false, false, 0, 0, f9⟩⟩ g' x.sz x.first pay x.u.data.toList false := by
              obtain ⟨n0, b, pss, hk⟩ := HRE.out.kn
              exact KS.mk' hk (hl26.ok (i := 0) rfl) rfl rfl _
            obtain ⟨V5, hV5⟩ : ∃ y, W25.drew = y := ⟨_, rfl⟩
            have hv5 := hl26.same (w' := W25.drew) (Nat.le_refl _) (fun _ _ _ => rfl)
            rw [hV5] at hv5
            have hvb5 : Below B w V5 := by rw [← hV5]; exact hb27.drew
            have HNX5 := wnext_any hv5 (j := 1) rfl
            rw [HNX.out] at HNX5
            have HNX5 := hide HNX5
            have c35 : V5.cell? ⟨x.k, 3, none⟩ = some (.int .i64 x.first) := (KL.cells hv5).c3
            have HFIN : Hid (GPost B x w V5) := ⟨hvb5, .inr ⟨l', _, g', pay, _, hv5, hks, HRE.out.le⟩⟩
            have HRUN := hide hrun
            have HV5 := hide hV5
            clear hlt hl22 hb22 hl23 hb23 hl24 hl25 hb25 hl26 hb26 hb27 hks hv5 hvb5 hV5 hrun
            go_wp2_with (at_builtin; refine wpList_appS rfl _ _ _ rfl HRUN.out ?_)
            refine wp_region_noPanic ?_
            refine wp_region_held_drew (S := fun wx => wx.cell? ⟨x.k, 3, none⟩ = some (.int .i64 x.first)) (by kernel_rfl) (by rw [HV5.out]; exact c35) (fun hHeld => ?_)
            rw [HV5.out] at hHeld ⊢
            refine tK 0 (some 207) (.pointer (some ⟨l', 0, none⟩)) rfl hHeld ?_
            simp only [Act.put, pA, pB, pC]
            refine tK 2 (some 209) (.pointer (some ⟨x.k, 0, none⟩)) rfl hHeld ?_
            simp only [Act.put, pA, pB, pC]
            refine tK 3 (some 210) (.pointer (some ⟨x.k, 0, none⟩)) rfl hHeld ?_
            simp only [Act.put, pA, pB, pC]
            refine tK 4 (some 211) (.pointer (some ⟨x.k, 3, none⟩)) rfl hHeld ?_
            simp only [Act.put, pA, pB, pC]
            refine tH 5 (some 212) (.int .i64 x.first) rfl (fun w hw => by have q := hw; first | rfl | (go_simp; done) | (go_simp; rfl) | (go_simp; omega)) hHeld ?_
            simp only [Act.put, pA, pB, pC]
            refine tK 6 (some 213) (.slice ad8 P cap8) rfl hHeld ?_
            simp only [Act.put, pA, pB, pC]
            refine tK 7 (some 214) (.int .i64 (P : Int)) rfl hHeld ?_
            simp only [Act.put, pA, pB, pC]
            refine tH 8 (some 215) (.int .i64 NX) rfl (fun w hw => by have q := hadd; have q2 := hwri; first | rfl | (go_simp; done) | (go_simp; rfl) | (go_simp; omega)) hHeld ?_
            simp only [Act.put, pA, pB, pC]
            refine rdH 1 rfl (fun K hK => ?_)
            go_simp
            refine (HNX5.out).mono ?_
            rintro e w25 ⟨rfl, hw25⟩
            obtain rfl := hw25.symm
            try go_wp2_with fail
            refine hK.out _ _ (hHeld) (fun hH => ?_)
            clear hK K hHeld
            have hHeld := hH
            clear hH
            refine tH 9 (some 216) (.bool true) rfl (fun w hw => by have q := hnn; first | rfl | (go_simp; done) | (go_simp; rfl) | (go_simp; omega)) hHeld ?_
            simp only [Act.put, pA, pB, pC]
            refine tK 10 (some 6) (.bool true) rfl hHeld ?_
            simp only [Act.put, pA, pB, pC]
            refine ⟨by kernel_rfl, ?_⟩
            refine NoPanic.normal ?_
            go_wp2
            go_ret
            exact ⟨by simp, HFIN.out⟩
    · obtain rfl : j = 0 := HJ.out.2 rfl
      have HRE := hide hre
      have HC5 := hide (kc hl HZ.out HFO.out HFL.out)
      rw [HN.out] at HC5
      have hall : ∀ q ∈ fs9, ∃ t, q.2 = cl t := by obtain ⟨n0, b, pss, hk⟩ := hre.kn; exact hk.dk.all
      have HBK := hide (back_cl (A := ⟨x.cap, fs9, ⟨true, true, 0, 0, 0⟩⟩) hall (fun _ => rfl) (ls.map FT.abs))
      clear HDJ hl hre hall
      go_wp2_with fail
      refine (HC5.out).mono ?_
      rintro e w5 ⟨rfl, hl5, hb5⟩
      change Lies B w5 (x.L (AD.crash ⟨x.cap, fs9, ⟨true, true, 0, 0, 0⟩⟩ (ls.map FT.abs))) at hl5
      have HC6 := hide (s_on (i := 0) hl5 rfl)
      have HB5 := hide (HBR.out.trans hb5)
      clear c0 c1 c2 c3 c4 c5 c6 c7 fz HC5
      obtain ⟨c0, c1, c2, c3, c4, c5, c6, c7, fz⟩ := KX.cells0 hl5
      clear hl5 hb5
      go_wp2_with fail
      refine (HC6.out).mono ?_
      rintro e w6 ⟨rfl, hl6, hb6⟩
      change Lies B w6 (x.L (AD.crash ⟨x.cap, fs9, ⟨true, true, 0, 0, 0⟩⟩ (ls.map FT.abs)).on) at hl6
      rw [HBK.out] at hl6
      have HC7 := hide (s_fall (i := 0) hl6 rfl 0 (by omega))
      have HB6 := hide (HB5.out.trans hb6)
      clear c0 c1 c2 c3 c4 c5 c6 c7 fz HC6
      obtain ⟨c0, c1, c2, c3, c4, c5, c6, c7, fz⟩ := KX.cells0 hl6
      clear hl6 hb6
      go_wp2_with fail
      refine (HC7.out).mono ?_
      rintro e w7 ⟨rfl, hl7, hb7⟩
      change Lies B w7 (x.L ⟨x.cap, fs9, p0⟩) at hl7
      have HC8 := hide (s_arm (i := 0) hl7 rfl 0 0 (by omega))
      have HB7 := hide (HB6.out.trans hb7)
      clear c0 c1 c2 c3 c4 c5 c6 c7 fz HC7
      obtain ⟨c0, c1, c2, c3, c4, c5, c6, c7, fz⟩ := KX.cells0 hl7
      clear hl7 hb7
      go_wp2_with fail
      refine (HC8.out).mono ?_
      rintro e w8 ⟨rfl, hl8, hb8⟩
      change Lies B w8 (x.L (AD.armed ⟨x.cap, fs9, p0⟩ 0 0)) at hl8
      rw [show AD.armed ⟨x.cap, fs9, p0⟩ 0 0 = ⟨x.cap, fs9, p0⟩ from rfl] at hl8
      have HB8 := hide (HB7.out.trans hb8)
      clear c0 c1 c2 c3 c4 c5 c6 c7 fz HC8 hb8
      obtain ⟨V1, hV1⟩ : ∃ y, w8.drew = y := ⟨_, rfl⟩
      have hv1 := hl8.same (w' := w8.drew) (Nat.le_refl _) (fun _ _ _ => rfl)
      rw [hV1] at hv1
      have hvb1 : Below B w V1 := by rw [← hV1]; exact HB8.out.drew
      obtain ⟨c0, c1, c2, c3, c4, c5, c6, c7, fz⟩ := KX.cells0 hl8
      have HO2 := hide (open_dj2 hv1 (HENV.out.below hvb1) HX.out HRE.out)
      have HV1 := hide hV1
      have HVB1 := hide hvb1
      clear hl8 hv1 hvb1 hV1
      go_upto_region 13 with fail
      refine wp_region_noPanic ?_
      refine wp_region_held_drew (S := fun wx => wx.cell? ⟨x.k, 0, none⟩ = some (.pointer (some ⟨x.p, 0, none⟩)) ∧ wx.cell? ⟨x.k, 2, none⟩ = some (.int .i64 x.sz) ∧ wx.cell? ⟨x.k, 3, none⟩ = some (.int .i64 x.first)) (by kernel_rfl) ⟨c0, c2, c3⟩ (fun hHeld => ?_)
      rw [HV1.out] at hHeld ⊢
      refine tK 0 (some 83) (.pointer (some ⟨x.k, 0, none⟩)) rfl hHeld ?_
      simp only [Act.put, pA, pB, pC]
      refine tK 1 (some 84) (.pointer (some ⟨x.k, 0, none⟩)) rfl hHeld ?_
      simp only [Act.put, pA, pB, pC]
      refine tK 2 (some 85) (.pointer (some ⟨x.k, 0, none⟩)) rfl hHeld ?_
      simp only [Act.put, pA, pB, pC]
      refine tH 3 (some 86) (.pointer (some ⟨x.p, 0, none⟩)) rfl (fun w hw => by have q := hw.1; first | rfl | (go_simp; done) | (go_simp; rfl) | (go_simp; omega)) hHeld ?_
      simp only [Act.put, pA, pB, pC]
      refine tK 4 (some 87) (.pointer (some ⟨x.k, 0, none⟩)) rfl hHeld ?_
      simp only [Act.put, pA, pB, pC]
      refine tK 5 (some 88) (.pointer (some ⟨x.k, 0, none⟩)) rfl hHeld ?_
      simp only [Act.put, pA, pB, pC]
      refine tK 6 (some 89) (.pointer (some ⟨x.k, 2, none⟩)) rfl hHeld ?_
      simp only [Act.put, pA, pB, pC]
      refine tH 7 (some 90) (.int .i64 x.sz) rfl (fun w hw => by have q := hw.2.1; first | rfl | (go_simp; done) | (go_simp; rfl) | (go_simp; omega)) hHeld ?_
      simp only [Act.put, pA, pB, pC]
      refine tK 8 (some 91) (.pointer (some ⟨x.k, 0, none⟩)) rfl hHeld ?_
      simp only [Act.put, pA, pB, pC]
      refine tK 9 (some 92) (.pointer (some ⟨x.k, 0, none⟩)) rfl hHeld ?_
      simp only [Act.put, pA, pB, pC]
      refine tK 10 (some 93) (.pointer (some ⟨x.k, 3, none⟩)) rfl hHeld ?_
      simp only [Act.put, pA, pB, pC]
      refine tH 11 (some 94) (.int .i64 x.first) rfl (fun w hw => by have q := hw.2.2; first | rfl | (go_simp; done) | (go_simp; rfl) | (go_simp; omega)) hHeld ?_
      simp only [Act.put, pA, pB, pC]
      refine rdH 12 rfl (fun K hK => ?_)
      go_simp
      refine (HO2.out).mono ?_
      rintro e w9 ⟨pl, v8, rfl, hdj, hbo⟩
      try go_wp2_with fail
      refine hK.out _ _ (⟨hdj.cells.c0, hdj.cells.c2, hdj.cells.c3⟩) (fun hH => ?_)
      clear hK K hHeld
      have hHeld := hH
      clear hH
      refine tK 13 (some 82) (.tuple #[pl, v8, .int .i64 0]) rfl hHeld ?_
      simp only [Act.put, pA, pB, pC]
      refine tK 14 (some 96) (pl) rfl hHeld ?_
      simp only [Act.put, pA, pB, pC]
      refine tK 15 (some 97) (v8) rfl hHeld ?_
      simp only [Act.put, pA, pB, pC]
      refine tK 16 (some 98) (.int .i64 0) rfl hHeld ?_
      simp only [Act.put, pA, pB, pC]
      refine tK 17 (some 7) (pl) rfl hHeld ?_
      simp only [Act.put, pA, pB, pC]
      refine tK 18 (some 8) (v8) rfl hHeld ?_
      simp only [Act.put, pA, pB, pC]
      refine tK 19 (some 9) (.int .i64 0) rfl hHeld ?_
      simp only [Act.put, pA, pB, pC]
      refine ⟨by kernel_rfl, ?_⟩
      refine NoPanic.normal ?_
      have HB9 := hide (HVB1.out.trans hbo)
      have HDJ := hide hdj
      clear hdj hbo c0 c1 c2 c3 c4 c5 c6 c7 fz HO2 hHeld
      go_wp2
      go_roundw
      case rel => exact ⟨0, 1, rfl, by go_num, ⟨by omega, fun z => by cases z⟩, HDJ, HB9⟩
      case measure => simp [intOf]
    · clear HDJ
      have HFT := hide (forged_any wr ad capf ls (HZ.out.at_ hl) HFL.out)
      rw [← HFG.out, hfg1, HN.out] at HFT
      obtain ⟨adv, capv, hv, _, _⟩ := KL.form hl.drop
      rw [hak] at hv
      simp only [List.length_nil] at hv
      rw [hv] at c4
      obtain ⟨hl7, hb7⟩ := KL.set7 hl.drop true
      obtain ⟨W7, hW7⟩ : ∃ y, wr.setCell ⟨x.k, 7, none⟩ (.bool true) = y := ⟨_, rfl⟩
      rw [hW7] at hl7 hb7
      have HFIN : Hid (GPost B x w W7) := ⟨HBR.out.trans hb7, .inl ⟨_, hl7⟩⟩
      clear hl hl7 hb7 hak hv
      go_wp2_with fail
      refine (HFT.out).mono ?_
      rintro e w9 ⟨rfl, hw9⟩
      obtain rfl := hw9.symm
      go_wp2
      go_ret
      exact ⟨by simp, HFIN.out⟩
end
end Go.Proofs.YtdffmmiegpndkaaGreatDoor
