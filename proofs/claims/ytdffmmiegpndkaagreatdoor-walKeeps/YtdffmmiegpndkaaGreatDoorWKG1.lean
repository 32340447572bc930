import Derived.Test.YtdffmmiegpndkaaGreatDoorWKT
/-
  resets (printed by gen_resets.py).
-/
namespace Go.Proofs.YtdffmmiegpndkaaGreatDoor
open Go.RowKit Go.Maps
set_option linter.unusedVariables false
set_option linter.unusedSimpArgs false
/-- n & 1048575 % (n + 1). -/
theorem mod_of (X : Int) (n : Nat) : ∃ (z : Int) (c : Nat), bits .and .i64 X 1048575 = z ∧ z.tmod ((n : Int) + 1) = (c : Int) ∧ c ≤ n := by
  have e : bits .and .i64 X 1048575 = IntKind.i64.wrap ((BitVec.ofInt 64 X &&& BitVec.ofInt 64 1048575).toNat : Int) := rfl
  have h : (BitVec.ofInt 64 X &&& BitVec.ofInt 64 1048575).toNat < 1048576 := by
    rw [BitVec.toNat_and]
    exact Nat.lt_of_le_of_lt Nat.and_le_right (by decide)
  have hb : bits .and .i64 X 1048575 = ((BitVec.ofInt 64 X &&& BitVec.ofInt 64 1048575).toNat : Int) := by rw [e, IntKind.wrap_i64]; omega
  refine ⟨_, ((BitVec.ofInt 64 X &&& BitVec.ofInt 64 1048575).toNat % (n + 1)), hb, ?_, Nat.le_of_lt_succ (Nat.mod_lt _ (by omega))⟩
  rw [Int.tmod_eq_emod_of_nonneg (by omega), Int.natCast_emod]
  rfl
section
variable {B : Nat} {w : World} {k p l : Nat} {A : AD} {g : AL} {acked : List Key} {sz first : Int} {v : Value} {u : ByteArray} {gone : Bool}
theorem KL.form {way : Bool} (h : Lies B w (KL k p l A g acked sz first v u way gone)) : ∃ ad cap, v = .slice ad acked.length cap ∧ RowAt w ad (acked.map encStr) ∧ acked.length ≤ cap := by
  obtain ⟨ad, cap, rfl, h1, h2, h3, h4, h5⟩ := h.toSub (q := 2) rfl 0 (Nat.zero_le _)
  obtain ⟨r1, r2, r3⟩ := row_text h (q := 2) (fs := acked) rfl
  exact ⟨ad, cap, rfl, r1, h1⟩
set_option maxRecDepth 100000 in
set_option maxHeartbeats 8000000 in
theorem resets_any (h : Lies B w (KL k p l A g acked sz first v u false gone)) (he : Env B w) (hs : KS A g sz first acked u.data.toList false) (X : Int) (hm : g.next ≤ 1152921504606840000) :
    Calls Tryz.prog 9 #[.pointer (some ⟨k, 0, none⟩), .int .i64 X] w fun e w' => e = .returned (.bool true) ∧ KPost B w k p l sz gone g.next w' := by
  obtain ⟨ad, cap, rfl, hrow, hcap⟩ := KL.form h
  obtain ⟨z, c, hz, hmod, hc⟩ := mod_of X acked.length
  obtain ⟨c0, c1, c2, c3, c4, c5, c6, c7, fz⟩ := KL.cells h
  have hal := hs.alen
  have hf0 := hs.f0
  have hf1 := hs.f1
  have hfew := hs.few
  obtain ⟨R, hR⟩ : ∃ R, resetA A g (first + (c : Int)) = R := ⟨_, rfl⟩
  obtain ⟨V0, hV0⟩ : ∃ x, w.drew = x := ⟨_, rfl⟩
  have hv0 := h.same (w' := w.drew) (Nat.le_refl _) (fun _ _ _ => rfl)
  rw [hV0] at hv0
  have hvb0 : Below B w V0 := by rw [← hV0]; exact (Below.refl B w).drew
  have HRS := reset_any (i := 0) (j := 1) hv0 rfl rfl (by decide) (he.below hvb0) hs.fit (first + (c : Int)) (by omega) R hR
  obtain ⟨R1, A1, g1⟩ := R
  have HKR : Hid (∀ w', Lies B w' (KL k p l A1 g1 acked sz first (.slice ad acked.length cap) u false gone) → R1 = 0 ∧ g1.next = g.next ∧ g1.dead = false ∧ KS A1 g1 sz (first + (c : Int)) (acked.drop c) u.data.toList false) := fun w' hl => ks_reset hs hc hR (hl.ok (i := 0) rfl)
  obtain ⟨fc, hfc⟩ : ∃ x, first + (c : Int) = x := ⟨_, rfl⟩
  rw [hfc] at HRS
  have hwr : wrap64 fc = fc := by rw [← hfc]; unfold wrap64; omega
  have hwri : IntKind.i64.wrap fc = fc := by rw [IntKind.wrap_i64, ← hfc]; omega
  have hadd := hfc
  have HM := hide hm
  have HF := hide (And.intro hal (And.intro hf0 (And.intro hf1 hfew)))
  have HENV := hide he
  have HS := hide hs
  have HL := hide h
  have HCC := hide hc
  obtain ⟨n, hn⟩ : ∃ n, acked.length = n := ⟨_, rfl⟩
  rw [hn] at hmod c4 HRS HKR HL hv0
  have HN := hide hn
  have HROW := hide hrow
  have HCAP := hide hcap
  -- the first Reset answers OK
  have HSS : Hid (∀ (wx : World) (A' : AD) (g' : AL), Lies B wx (KL k p l A' g' acked sz first (.slice ad n cap) u false gone) → wx.cell? ⟨k, 1, none⟩ = some (.pointer (some ⟨l, 0, none⟩)) ∧ wx.cell? ⟨k, 3, none⟩ = some (.int .i64 first)) := fun wx A' g' hl => ⟨(KL.cells hl).c1, (KL.cells hl).c3⟩
  have HRS := hide HRS
  have HEV := hide (he.below hvb0)
  have HV0 := hide hV0
  have HVL := hide hv0
  have HVB := hide hvb0
  have hqq : ((n : Int) + 1) ≠ 0 := by omega
  have hwn : wrap64 ((n : Int) + 1) = (n : Int) + 1 := by have a1 := HF.out; unfold wrap64; omega
  clear hal hf0 hf1 hfew hfc hm hs h he hrow hcap hc hn hR hV0 hv0 hvb0
  go_enter Tryz.func9, Tryz.ntmps9
  go_upto_region 4 with fail
  refine wp_region_noPanic ?_
  refine wp_region_held_drew (S := fun wx => wx.cell? ⟨k, 1, none⟩ = some (.pointer (some ⟨l, 0, none⟩)) ∧ wx.cell? ⟨k, 3, none⟩ = some (.int .i64 first)) (by kernel_rfl) ⟨c1, c3⟩ (fun hHeld => ?_)
  rw [HV0.out] at hHeld ⊢
  refine tK 0 (some 24) (.pointer (some ⟨k, 0, none⟩)) rfl hHeld ?_
  simp only [Act.put, pA, pB, pC]
  refine tK 1 (some 25) (.pointer (some ⟨k, 0, none⟩)) rfl hHeld ?_
  simp only [Act.put, pA, pB, pC]
  refine tK 2 (some 26) (.pointer (some ⟨k, 1, none⟩)) rfl hHeld ?_
  simp only [Act.put, pA, pB, pC]
  refine tH 3 (some 27) (.pointer (some ⟨l, 0, none⟩)) rfl (fun w hw => by have hw1 := hw.1; first | rfl | (go_simp; done) | (go_simp; rfl) | (go_simp; omega)) hHeld ?_
  simp only [Act.put, pA, pB, pC]
  refine tK 4 (some 28) (.pointer (some ⟨k, 0, none⟩)) rfl hHeld ?_
  simp only [Act.put, pA, pB, pC]
  refine tK 5 (some 29) (.pointer (some ⟨k, 0, none⟩)) rfl hHeld ?_
  simp only [Act.put, pA, pB, pC]
  refine tK 6 (some 30) (.pointer (some ⟨k, 3, none⟩)) rfl hHeld ?_
  simp only [Act.put, pA, pB, pC]
  refine tH 7 (some 31) (.int .i64 first) rfl (fun w hw => by have hw2 := hw.2; first | rfl | (go_simp; done) | (go_simp; rfl) | (go_simp; omega)) hHeld ?_
  simp only [Act.put, pA, pB, pC]
  refine tK 8 (some 32) (.int .i64 (c : Int)) rfl hHeld ?_
  simp only [Act.put, pA, pB, pC]
  refine tH 9 (some 33) (.int .i64 fc) rfl (fun w hw => by have hadd := hadd; have hwri := hwri; first | rfl | (go_simp; done) | (go_simp; rfl) | (go_simp; omega)) hHeld ?_
  simp only [Act.put, pA, pB, pC]
  refine rdH 10 rfl (fun K hK => ?_)
  go_simp
  refine (HRS.out).mono ?_
  rintro e w2 ⟨rfl, hl2, hb2⟩
  try go_wp2_with fail
  refine hK.out _ _ (HSS.out w2 _ _ hl2) (fun hH => ?_)
  clear hK K hHeld
  have hHeld := hH
  clear hH
  change Lies B w2 (KL k p l A1 g1 acked sz first (.slice ad n cap) u false gone) at hl2
  obtain ⟨r0, rn, rdd, rk⟩ := HKR.out w2 hl2
  subst r0
  obtain ⟨nx, hnx⟩ : ∃ x, g1.next = x := ⟨_, rfl⟩
  have HN2 := wnext_any hl2 (j := 1) rfl
  rw [hnx] at HN2
  have HN2 := hide HN2
  have hwr2 : wrap64 (nx + 1) = nx + 1 := by
    have a1 := HF.out
    have a2 := HM.out
    unfold wrap64
    omega
  have hwri2 : IntKind.i64.wrap (nx + 1) = nx + 1 := by
    have a1 := HF.out
    have a2 := HM.out
    rw [IntKind.wrap_i64]
    omega
  have HR2 := hide (reset_any (i := 0) (j := 1) hl2 rfl rfl (by decide) (HEV.out.below hb2) rk.fit (nx + 1) (by have a1 := HF.out; have a2 := HM.out; omega) (1, A1, g1) (by rw [← hnx]; exact reset_over rdd))
  have HNXE := hide (And.intro rn hnx)
  have HRK := hide rk
  have HL2 := hide hl2
  have HB2 := hide hb2
  clear rn hnx rk rdd hl2 hb2 HKR HRS
  refine tH 11 (some 35) (.bool false) rfl (fun w hw => by have q := hHeld; first | rfl | (go_simp; done) | (go_simp; rfl) | (go_simp; omega)) hHeld ?_
  simp only [Act.put, pA, pB, pC]
  refine tK 12 (some 36) (.bool false) rfl hHeld ?_
  simp only [Act.put, pA, pB, pC]
  refine tK 13 (some 37) (.pointer (some ⟨k, 0, none⟩)) rfl hHeld ?_
  simp only [Act.put, pA, pB, pC]
  refine tK 14 (some 38) (.pointer (some ⟨k, 0, none⟩)) rfl hHeld ?_
  simp only [Act.put, pA, pB, pC]
  refine tK 15 (some 39) (.pointer (some ⟨k, 1, none⟩)) rfl hHeld ?_
  simp only [Act.put, pA, pB, pC]
  refine tH 16 (some 40) (.pointer (some ⟨l, 0, none⟩)) rfl (fun w hw => by have hw1 := hw.1; first | rfl | (go_simp; done) | (go_simp; rfl) | (go_simp; omega)) hHeld ?_
  simp only [Act.put, pA, pB, pC]
  refine tK 17 (some 41) (.pointer (some ⟨k, 0, none⟩)) rfl hHeld ?_
  simp only [Act.put, pA, pB, pC]
  refine tK 18 (some 42) (.pointer (some ⟨k, 0, none⟩)) rfl hHeld ?_
  simp only [Act.put, pA, pB, pC]
  refine tK 19 (some 43) (.pointer (some ⟨k, 1, none⟩)) rfl hHeld ?_
  simp only [Act.put, pA, pB, pC]
  refine tH 20 (some 44) (.pointer (some ⟨l, 0, none⟩)) rfl (fun w hw => by have hw1 := hw.1; first | rfl | (go_simp; done) | (go_simp; rfl) | (go_simp; omega)) hHeld ?_
  simp only [Act.put, pA, pB, pC]
  refine rdH 21 rfl (fun K hK => ?_)
  go_simp
  refine (HN2.out).mono ?_
  rintro e w3 ⟨rfl, hw3⟩
  obtain rfl := hw3.symm
  try go_wp2_with fail
  refine hK.out _ _ (hHeld) (fun hH => ?_)
  clear hK K hHeld
  have hHeld := hH
  clear hH
  refine tH 22 (some 46) (.int .i64 (nx + 1)) rfl (fun w hw => by have hwri2 := hwri2; first | rfl | (go_simp; done) | (go_simp; rfl) | (go_simp; omega)) hHeld ?_
  simp only [Act.put, pA, pB, pC]
  refine rdH 23 rfl (fun K hK => ?_)
  go_simp
  refine (HR2.out).mono ?_
  rintro e w4 ⟨rfl, hl4, hb4⟩
  try go_wp2_with fail
  refine hK.out _ _ (HSS.out w4 _ _ hl4) (fun hH => ?_)
  clear hK K hHeld
  have hHeld := hH
  clear hH
  refine tH 24 (some 48) (.bool false) rfl (fun w hw => by have q := hHeld; first | rfl | (go_simp; done) | (go_simp; rfl) | (go_simp; omega)) hHeld ?_
  simp only [Act.put, pA, pB, pC]
  refine tK 25 (some 49) (.bool false) rfl hHeld ?_
  simp only [Act.put, pA, pB, pC]
  refine ⟨by kernel_rfl, ?_⟩
  refine NoPanic.normal ?_
  change Lies B w4 (KL k p l A1 g1 acked sz first (.slice ad n cap) u false gone) at hl4
  clear c0 c1 c2 c3 c4 c5 c6 c7 fz
  obtain ⟨c0, c1, c2, c3, c4, c5, c6, c7, fz⟩ := KL.cells hl4
  obtain ⟨hl5, hb5⟩ := KL.set3 hl4 fc
  obtain ⟨W5, hW5⟩ : ∃ x, w4.setCell ⟨k, 3, none⟩ (.int .i64 fc) = x := ⟨_, rfl⟩
  rw [hW5] at hl5 hb5
  obtain ⟨d0, d1, d2, d3, d4, d5, d6, d7, dz⟩ := KL.cells hl5
  obtain ⟨ad2, cap2, hcut, hl6⟩ := cut_texts hl5 (q := 2) rfl c (by rw [HN.out]; have := HCC.out; have := HN.out; omega)
  rw [HN.out] at hcut hl6
  change Lies B W5 [.disk p A1, .log l p g1, .sub (.slice ad2 (n - c) cap2) (acked.drop c), .block k (.cells (kcs p l sz fc (.slice ad n cap) u false gone) 32 (0, 0))] at hl6
  obtain ⟨ad3, cap3, W6, hrun, hl7, hb7⟩ := copy_sub hl6 (q := 2) rfl (by rw [List.length_drop]; have a1 := HF.out; have a2 := HN.out; omega) 30
  have hl8 := pick5 hl7
  have hc8 := hl8.cellAt (q := 3) (b := k) (cs := kcs p l sz fc (.slice ad n cap) u false gone) (T := 32) rfl 4
  have hf8 := hl8.frozenAt (q := 3) (b := k) (cs := kcs p l sz fc (.slice ad n cap) u false gone) (T := 32) rfl 4
  change W6.cell? ⟨k, 4, none⟩ = some (.slice ad n cap) at hc8
  obtain ⟨hl9, hb9⟩ := KL.set4 hl8
  obtain ⟨W7, hW7⟩ : ∃ x, W6.setCell ⟨k, 4, none⟩ (.slice ad3 (acked.drop c).length cap3) = x := ⟨_, rfl⟩
  rw [hW7] at hl9 hb9
  have HFIN : Hid (KPost B w k p l sz gone g.next W7) := ⟨A1, g1, acked.drop c, fc, _, u, false, hl9, by rw [← hadd]; exact HRK.out, by have := HNXE.out; omega, ((((HVB.out.trans HB2.out).trans hb4).trans hb5).trans hb7).trans hb9⟩
  have HRUN := hide hrun
  have hcd : decide ((c : Int) ≤ (n : Int)) = true := decide_eq_true (by have a1 := HCC.out; have a2 := HN.out; omega)
  obtain ⟨n3, hn3⟩ : ∃ x, (acked.drop c).length = x := ⟨_, rfl⟩
  rw [hn3] at HRUN hW7
  clear hl4 hb4 hl5 hb5 hl6 hl7 hb7 hl8 hl9 hb9 hrun hn3
  go_wp2_with (at_builtin; refine wpList_appS rfl _ _ _ rfl HRUN.out ?_)
  go_ret
  exact ⟨by simp, HFIN.out⟩
end
end Go.Proofs.YtdffmmiegpndkaaGreatDoor
/-
  For again: its disks, its slices, its Opens.
-/
namespace Go.Proofs.YtdffmmiegpndkaaGreatDoor
open Go.RowKit Go.Maps
set_option linter.unusedVariables false
set_option linter.unusedSimpArgs false
theorem and3 (X : Int) : ∃ k : Nat, bits .and .i64 X 3 = (k : Int) ∧ k < 4 := by
  have e : bits .and .i64 X 3 = IntKind.i64.wrap ((BitVec.ofInt 64 X &&& BitVec.ofInt 64 3).toNat : Int) := rfl
  have h : (BitVec.ofInt 64 X &&& BitVec.ofInt 64 3).toNat < 4 := by
    rw [BitVec.toNat_and]
    exact Nat.lt_of_le_of_lt Nat.and_le_right (by decide)
  refine ⟨_, ?_, h⟩
  rw [e, IntKind.wrap_i64]
  omega
/-- Opened again, where nothing falls: the same. -/
theorem re_again {cap : Int} {fs9 : FList} {g' : AL} {sz first next : Int} {acked pay : List Key} {und : Option Key} {fg : Bool} (h : Re fs9 g' sz first next acked pay und fg) (hok : AD.Ok ⟨cap, fs9, p0⟩) (h1 : 64 ≤ sz) (h2 : sz ≤ 1048576) (h3 : 0 ≤ first) (h5 : next + 4000 ≤ 1152921504606846976) :
    ∃ fs10 g'', openA ⟨cap, fs9, p0⟩ nmLog sz first = ⟨some g'', pay, 0, ⟨cap, fs10, p0⟩⟩ ∧ Re fs10 g'' sz first next acked pay und fg := by
  obtain ⟨n0, b, pss, hk⟩ := h.kn
  have haf := hk.af none false
  have hle := h.le
  have hnx := h.nx
  rcases open_af (cap := cap) (f := 0) hok (Int.le_refl _) haf h1 h2 h3 hk.hi (by omega) with ⟨_, e, _⟩ | ⟨fs10, g'', pay2, hre, ho⟩
  · cases e
  · obtain ⟨m, hm, hmore⟩ := hre.more
    have hm0 : m = [] := by
      rcases hmore rfl with e | ⟨_, _, _, e, _⟩
      · exact e
      · cases e
    rw [hm0, List.append_nil] at hm
    subst hm
    rcases ho with ⟨f', a, c, ho⟩ | ⟨a, _⟩
    · have : f' = 0 := by omega
      subst this
      refine ⟨fs10, g'', ho, hre.kn, hre.nx, ?_, h.more⟩
      have := hre.nx
      omega
    · exact absurd rfl a
section
variable {B : Nat} {w : World} {L : List Item}
/-- got[k:] of texts that are only read. -/
theorem sub_cut {ad : Option Addr} {cap n : Nat} {ks : List Key} (h : RowAt w ad (ks.map encStr)) (hn : ks.length = n) (hc : n ≤ cap) (k : Nat) (hk : k ≤ n) :
    ∃ ad2 cap2, (∀ w' : World, (Instr.slice 30 (.slice ad n cap) (some (.int .i64 (k : Int))) none none).run Tryz.prog w' = .ok (.slice ad2 (n - k) cap2) w') ∧ RowAt w ad2 ((ks.drop k).map encStr) := by
  refine ⟨if cap = k then ad else ad.map (·.add k), cap - k, fun w' => ?_, ?_⟩
  · rw [run_slice_l w' 30 ad n cap undT .i64 (k : Int) (by omega) (by omega), elemT, size9t]
    simp only [sliced, Int.toNat_natCast, Nat.mul_one, Result.andThen_ok]
  · by_cases he : ks.drop k = []
    · rw [he]; exact .inl rfl
    · have hlt : k < n := by
        refine Classical.byContradiction fun hc2 => he (List.drop_eq_nil_of_le (by omega))
      rcases h with h0 | ⟨b, o, rfl, hb, hcs⟩
      · have : ks = [] := List.map_eq_nil_iff.1 h0
        rw [this] at hn; simp at hn; omega
      · rw [if_neg (by omega)]
        simp only [Option.map_some, addr_addK]
        exact RowAt.dropAt (.inr ⟨b, o, rfl, hb, hcs⟩) k
/-- got[:k]. -/
theorem sub_pre {ad : Option Addr} {cap n : Nat} {ks : List Key} (h : RowAt w ad (ks.map encStr)) (hn : ks.length = n) (hc : n ≤ cap) (k : Nat) (hk : k ≤ n) :
    ∃ ad2 cap2, (∀ w' : World, (Instr.slice 30 (.slice ad n cap) none (some (.int .i64 (k : Int))) none).run Tryz.prog w' = .ok (.slice ad2 k cap2) w') ∧ RowAt w ad2 ((ks.take k).map encStr) := by
  refine ⟨if cap = 0 then ad else ad.map (·.add 0), cap - 0, fun w' => ?_, ?_⟩
  · rw [run_slice_h w' 30 ad n cap undT .i64 (k : Int) (by omega) (by omega), elemT, size9t]
    simp only [sliced, Int.toNat_natCast, Nat.mul_one, Result.andThen_ok, Nat.sub_zero, Nat.zero_mul]
  · by_cases he : ks.take k = []
    · rw [he]; exact .inl rfl
    · rcases h with h0 | ⟨b, o, rfl, hb, hcs⟩
      · have : ks = [] := List.map_eq_nil_iff.1 h0
        rw [this] at he; simp at he
      · have e : (if cap = 0 then some (⟨b, o, none⟩ : Addr) else (some (⟨b, o, none⟩ : Addr)).map (·.add 0)) = some ⟨b, o, none⟩ := by
          split
          · rfl
          · simp only [Option.map_some, addr_addK]; rfl
        rw [e]
        refine .inr ⟨b, o, rfl, hb, fun j hj => ?_⟩
        rw [List.length_map, List.length_take] at hj
        have := hcs j (by rw [List.length_map]; omega)
        rw [this, List.getElem?_map, List.getElem?_map, List.getElem?_take, if_pos (by omega)]
/-- The fates as they lie: none, or in a block of their own. -/
def FI (Z : List Item) (ad : Option Addr) (cap : Nat) (ls : List FT) : Prop := (Z = [] ∧ ls = [] ∧ ad = none ∧ cap = 0) ∨ ∃ g cur, Z = [.block g (.cells cur 85 (0, 0))] ∧ ad = some ⟨g, 0, none⟩ ∧ ∀ q (hq : q < ls.length) t, t < 4 → cur[q * 4 + t]? = (ls[q].cs)[t]?
theorem FI.at_ {Z : List Item} {ad : Option Addr} {cap : Nat} {ls : List FT} (h : FI Z ad cap ls) (hl : Lies B w (L ++ Z)) : FatesAt w ad ls := by
  rcases h with ⟨_, e, _⟩ | ⟨g, cur, rfl, rfl, hc⟩
  · exact .inl e
  · have hb := hl.atBlock (q := L.length) (b := g) (ob := .cells cur 85 (0, 0)) (by simp)
    refine .inr ⟨g, 0, rfl, lt_of_some hb, fun q hq t ht => ?_⟩
    rw [cell_of_row w g _ _ _ (0, 0) hb, Nat.zero_add]
    exact hc q hq t ht
theorem kc {p : Nat} {A : AD} {Z : List Item} {ad : Option Addr} {cap : Nat} {ls : List FT} (h : Lies B w ((.disk p A :: L) ++ Z)) (hf : FI Z ad cap ls) (hok : ∀ x ∈ ls, x.Ok) (hl : ls.length ≤ 9223372036854775807) :
    Calls Tryz.prog 14 #[.pointer (some ⟨p, 0, none⟩), .slice ad ls.length cap] w fun e w' => e = .returned (.tuple #[]) ∧ Lies B w' ((.disk p (A.crash (ls.map FT.abs)) :: L) ++ Z) ∧ Below B w w' := by
  have hat := hf.at_ h
  rcases hf with ⟨rfl, rfl, rfl, rfl⟩ | ⟨g, cur, rfl, rfl, hc⟩
  · exact s_crash0 (i := 0) h rfl
  · have hj : ((Item.disk p A :: L) ++ [Item.block g (.cells cur 85 (0, 0))])[L.length + 1]? = some (.block g (.cells cur 85 (0, 0))) := by
      rw [List.getElem?_append_right (by simp)]; simp
    exact s_crashOwn (i := 0) (j := L.length + 1) h rfl (by omega) hj 0 ls cap hat hok hl
end
end Go.Proofs.YtdffmmiegpndkaaGreatDoor
/-
  For again: what Open may answer, in one.
-/
namespace Go.Proofs.YtdffmmiegpndkaaGreatDoor
open Go.RowKit Go.Maps
set_option linter.unusedVariables false
set_option linter.unusedSimpArgs false
structure KX where
  k : Nat
  p : Nat
  l : Nat
  g : AL
  acked : List Key
  sz : Int
  first : Int
  v : Value
  u : ByteArray
  way : Bool
  gone : Bool
  Z : List Item
  cap : Int
  fg : Bool
def KX.L (x : KX) (A : AD) : List Item := KL x.k x.p x.l A x.g x.acked x.sz x.first x.v x.u x.way x.gone ++ x.Z
def KX.und (x : KX) : Option Key := if x.way = true then some x.u.data.toList else none
def KX.Re (x : KX) (fs9 : FList) (g' : AL) (pay : List Key) : Prop := Go.Proofs.YtdffmmiegpndkaaGreatDoor.Re fs9 g' x.sz x.first x.g.next x.acked pay x.und x.fg
/-- Open's answers. -/
def Dj (B : Nat) (x : KX) (pl v8 : Value) (E : Int) (w : World) : Prop :=
  (E = 0 ∧ ∃ (l' : Nat) (ad : Option Addr) (cap' : Nat) (fs9 : FList) (f' : Int) (g' : AL) (pay : List Key), pl = .pointer (some ⟨l', 0, none⟩) ∧ v8 = .slice ad pay.length cap' ∧ Lies B w (x.L ⟨x.cap, fs9, ⟨false, false, 0, 0, f'⟩⟩ ++ [.log l' x.p g', .sub (.slice ad pay.length cap') pay]) ∧ x.Re fs9 g' pay) ∨
  (E = 9 ∧ pl = .pointer none ∧ v8 = .slice none 0 0 ∧ ∃ (fs9 : FList) (g' : AL) (pay : List Key), Lies B w (x.L ⟨x.cap, fs9, ⟨true, true, 0, 0, 0⟩⟩) ∧ x.Re fs9 g' pay) ∨
  (E = 60 ∧ pl = .pointer none ∧ v8 = .slice none 0 0 ∧ x.fg = true ∧ x.acked = [] ∧ ∃ A' : AD, Lies B w (x.L A'))
section
variable {B : Nat} {w : World} {x : KX}
theorem KX.cells {A : AD} {Y : List Item} (h : Lies B w (x.L A ++ Y)) : KCells w x.k x.p x.l x.sz x.first x.v x.u x.way x.gone := KL.cells h.drop.drop
theorem KX.cells0 {A : AD} (h : Lies B w (x.L A)) : KCells w x.k x.p x.l x.sz x.first x.v x.u x.way x.gone := KL.cells h.drop
theorem Dj.cells {pl v8 : Value} {E : Int} (h : Dj B x pl v8 E w) : KCells w x.k x.p x.l x.sz x.first x.v x.u x.way x.gone := by
  rcases h with ⟨_, l', ad, cap', fs9, f', g', pay, _, _, hl, _⟩ | ⟨_, _, _, fs9, g', pay, hl, _⟩ | ⟨_, _, _, _, _, A', hl⟩
  · exact KX.cells hl
  · exact KX.cells0 hl
  · exact KX.cells0 hl
structure KXOk (x : KX) : Prop where
  s0 : 64 ≤ x.sz
  s1 : x.sz ≤ 1048576
  f0 : 0 ≤ x.first
  f1 : x.first ≤ x.g.next
  m : x.g.next + 4000 ≤ 1152921504606846976
theorem open_dj1 {fs' : FList} {f : Int} (h : Lies B w (x.L ⟨x.cap, fs', ⟨false, false, 0, 0, f⟩⟩)) (he : Env B w) (hx : KXOk x) (hf : 0 ≤ f) (haf : Af fs' x.first x.g.next x.acked x.und x.fg) :
    Calls Tryz.prog 6 #[.pointer (some ⟨x.p, 0, none⟩), .string { data := #[108, 111, 103] }, .int .i64 x.sz, .int .i64 x.first] w fun e w' => ∃ pl v8 E, e = .returned (.tuple #[pl, v8, .int .i64 E]) ∧ Dj B x pl v8 E w' ∧ Below B w w' := by
  have hok := h.ok (i := 0) rfl
  have h1 := hx.s0
  have h2 := hx.s1
  have h3 := hx.f0
  have h4 := hx.f1
  have h5 := hx.m
  have hz : (nmLog : ByteArray).size ≤ 140737488355328 := by decide
  rcases open_af hok hf haf h1 h2 h3 h4 (by omega) with ⟨ho, hfg, hak⟩ | ⟨fs9, g', pay, hre, ⟨f', a, c, ho⟩ | ⟨a, ho⟩⟩
  · refine (open_none (i := 0) h rfl he nmLog hz x.sz x.first (by omega) (by omega) ho).mono ?_
    rintro e w' ⟨rfl, hl, hb⟩
    exact ⟨_, _, 60, rfl, .inr (.inr ⟨rfl, rfl, rfl, hfg, hak, _, hl⟩), hb⟩
  · refine (open_some (i := 0) h rfl he nmLog hz x.sz x.first (by omega) (by omega) ho).mono ?_
    rintro e w' ⟨l', ad, cap', rfl, hrow, hl, hb⟩
    exact ⟨_, _, 0, rfl, .inl ⟨rfl, l', ad, cap', fs9, f', g', pay, rfl, rfl, hl, hre⟩, hb⟩
  · refine (open_none (i := 0) h rfl he nmLog hz x.sz x.first (by omega) (by omega) ho).mono ?_
    rintro e w' ⟨rfl, hl, hb⟩
    exact ⟨_, _, 9, rfl, .inr (.inl ⟨rfl, rfl, rfl, fs9, g', pay, hl, hre⟩), hb⟩
theorem open_dj2 {fs9 : FList} {g' : AL} {pay : List Key} (h : Lies B w (x.L ⟨x.cap, fs9, p0⟩)) (he : Env B w) (hx : KXOk x) (hre : x.Re fs9 g' pay) :
    Calls Tryz.prog 6 #[.pointer (some ⟨x.p, 0, none⟩), .string { data := #[108, 111, 103] }, .int .i64 x.sz, .int .i64 x.first] w fun e w' => ∃ pl v8, e = .returned (.tuple #[pl, v8, .int .i64 0]) ∧ Dj B x pl v8 0 w' ∧ Below B w w' := by
  have hok := h.ok (i := 0) rfl
  have h1 := hx.s0
  have h2 := hx.s1
  have h3 := hx.f0
  have h4 := hx.f1
  have h5 := hx.m
  have hz : (nmLog : ByteArray).size ≤ 140737488355328 := by decide
  obtain ⟨fs10, g'', ho, hre2⟩ := re_again hre hok h1 h2 h3 h5
  refine (open_some (i := 0) h rfl he nmLog hz x.sz x.first (by omega) (by omega) ho).mono ?_
  rintro e w' ⟨l', ad, cap', rfl, hrow, hl, hb⟩
  exact ⟨_, _, rfl, .inl ⟨rfl, l', ad, cap', fs10, 0, g'', pay, rfl, rfl, hl, hre2⟩, hb⟩
end
end Go.Proofs.YtdffmmiegpndkaaGreatDoor
