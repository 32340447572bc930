/-
  MarkSafe: the walk (printed by gen_safe.py).
-/
import Derived.Test.YtlkimfmilccanaaGreatMkSafeP
namespace Go.Proofs.YtlkimfmilccanaaGreat
open Go.RowKit Go.Maps Go.WideMaps
set_option linter.unusedVariables false
set_option linter.unusedSimpArgs false
theorem Lies.pushVoid {B : Nat} {w : World} {L : List Item} (h : Lies B w L) : Lies B w (L ++ [.void]) := h.push (S' := fun _ => False) (Below.refl _ _) (fun b hb => hb) (fun b hb => hb.elim)
def ts0 : TS := ⟨-1, [], .slice none 0 0, none⟩
theorem safe0 : SafeI (AD.fresh 1000) ts0 ts0 := ⟨⟨rfl, fun k F h => by cases h⟩, .inl ⟨rfl, rfl, rfl⟩, .inl ⟨rfl, rfl, rfl⟩⟩
theorem tdiv8_rng {n : Int} (h : -9223372036854775808 ≤ n ∧ n < 9223372036854775808) : -2305843009213693952 ≤ Int.tdiv n 8 ∧ Int.tdiv n 8 ≤ 2305843009213693952 := by
  have e := Int.tdiv_eq_ediv (a := n) (b := 8)
  rw [show (8 : Int).sign = 1 from rfl] at e
  split at e <;> omega
theorem crash0_keepsM {A : AD} {k : Key} {ac : Int} {tr : List Int} {M : Option (Int × Nat)} (hok : A.Ok) (h : TI A k ac tr M) : TI (A.crash []).on k ac tr M := by
  rcases crash_on_get (A := A) [] k with e | e
  · exact h.of e
  · rcases h with ⟨h1, h2, h3⟩ | ⟨F, j, g, hF, hs, hm⟩
    · rw [h1] at e
      exact .inl ⟨e, h2, h3⟩
    · rw [hF] at e
      have e' : fget ((A.crash []).on).fs k = some (F.crash (fateOf [] k)) := e
      refine .inr ⟨_, j, g, e', hs.crash (hok.files _ (fget_mem hF)) (fateOf [] k) (fun s hs1 v hv => ?_), hm⟩
      rw [left_sec (hok.files _ (fget_mem hF)) hs.len hs.slen _ (.inr rfl)] at hv
      exact hs.af s hs1 v hv
theorem SafeI.crash0M {A : AD} {s0 s1 : TS} (h : SafeI A s0 s1) (hok : A.Ok) : SafeI (A.crash []).on s0 s1 := ⟨h.rm.crash hok [], crash0_keepsM hok h.t0, crash0_keepsM hok h.t1⟩
set_option maxRecDepth 100000 in
set_option maxHeartbeats 40000000 in
theorem safe_walk (w : World) (ad : Option Addr) (cap : Nat) (os : List MOp) (h : MRows w.heap.size w ad os) :
    Calls Tryz.prog 5 #[.slice ad os.length cap] w fun e w' => e = .returned (.bool true) ∧ Below w.heap.size w w' := by
  have hlen : os.length * 64 ≤ 140737488355328 := h.sz
  obtain ⟨B, hB⟩ : ∃ B, w.heap.size = B := ⟨_, rfl⟩
  have hl0 : Lies B w [] := Lies.nil (by rw [hB]; exact Nat.le_refl _)
  rw [hB] at h ⊢
  have HS := hide h
  have HL0 := hide hl0
  clear hB h hl0
  go_enter Tryz.func5, Tryz.ntmps5
  go_wp2_with fail
  refine (head_any w).mono ?_
  rintro e w1 ⟨rfl, hb⟩
  have HB1 := hide (hb.mono HL0.out.base)
  have hc1 := k_new (HL0.out.below hb) 1000 (by decide) (by decide)
  clear hb HL0
  go_wp2_with fail
  refine hc1.mono ?_
  rintro e w2 ⟨p, rfl, h, hb⟩
  have HB2 := hide (HB1.out.trans hb)
  obtain ⟨t0, ht0⟩ : ∃ x, w2.heap.size = x := ⟨_, rfl⟩
  obtain ⟨wA, hwA⟩ : ∃ x, w2.alloc (.cells #[.pointer none, .int .i64 (-1), .slice none 0 0] 55) = x := ⟨_, rfl⟩
  obtain ⟨hA, hbA⟩ := h.box _ _ wA hwA t0 ht0
  obtain ⟨t1, ht1⟩ : ∃ x, wA.heap.size = x := ⟨_, rfl⟩
  obtain ⟨wB, hwB⟩ : ∃ x, wA.alloc (.cells #[.pointer none, .int .i64 (-1), .slice none 0 0] 55) = x := ⟨_, rfl⟩
  obtain ⟨hB, hbB⟩ := hA.box _ _ wB hwB t1 ht1
  obtain ⟨la, hla⟩ : ∃ x, wB.heap.size = x := ⟨_, rfl⟩
  obtain ⟨wC, hwC⟩ : ∃ x, wB.alloc (.cells #[.pointer (some ⟨t0, 0, none⟩), .pointer (some ⟨t1, 0, none⟩)] 56) = x := ⟨_, rfl⟩
  obtain ⟨hC, hbC⟩ := ((hB.pushNil 2).pushNil 2).box _ _ wC hwC la hla
  have H3 : Hid (Lies B wC (SL p (AD.fresh 1000) t0 t1 la ts0 ts0 [])) := hC.pushVoid.pushVoid
  have HB3 := hide (((HB2.out.trans hbA).trans hbB).trans hbC)
  clear h hb hA hbA hB hbB hC hbC HB2 HB1 hc1
  go_wp2
  go_loopw [6] (fun i wr => ∃ (k : Nat) (A : AD) (s0 s1 : TS), k ≤ os.length ∧ i = .int .i64 (k : Int) ∧ SafeI A s0 s1 ∧ s0.tr.length ≤ k ∧ s1.tr.length ≤ k ∧ Lies B wr (SL p A t0 t1 la s0 s1 []) ∧ Below B w wr) (fun i _ => os.length - (intOf i).toNat)
  case atStart => exact ⟨0, _, ts0, ts0, by omega, rfl, safe0, Nat.le_refl _, Nat.le_refl _, H3.out, HB3.out⟩
  case round =>
    clear H3 HB3 hwA hwB hwC ht0 ht1 hla
    obtain ⟨k, A, s0, s1, hk, rfl, hsi, hq0, hq1, hlr, hbr⟩ := hrel
    by_cases hlt : k < os.length
    · have dk : decide ((k : Int) < (os.length : Int)) = true := decide_eq_true (by omega)
      have hk0 : (0 : Int) ≤ (k : Int) := by omega
      have hk1 : (k : Int) < (os.length : Int) := by omega
      have hsr := HS.out.below hbr
      obtain ⟨bb, oo, rfl, hcs⟩ := hsr.cells hlt
      obtain ⟨o, ho⟩ : ∃ x, os[k] = x := ⟨_, rfl⟩
      rw [ho] at hcs
      have hgood : o.Good B wr := hsr.good o (by rw [← ho]; exact List.getElem_mem hlt)
      have z0 : wr.cell? ⟨bb, oo + k * 5, none⟩ = some (.int .i64 o.kind) := hcs 0 (by omega)
      have z1 : wr.cell? ⟨bb, oo + k * 5 + 1, none⟩ = some (.bool o.two) := hcs 1 (by omega)
      have z2 : wr.cell? ⟨bb, oo + k * 5 + 2, none⟩ = some (.int .i64 o.n) := hcs 2 (by omega)
      have z3 : wr.cell? ⟨bb, oo + k * 5 + 3, none⟩ = some (.string o.text) := hcs 3 (by omega)
      have z4 : wr.cell? ⟨bb, oo + k * 5 + 4, none⟩ = some (.slice o.ad o.fates.length o.cap) := hcs 4 (by omega)
      obtain ⟨go, hgo⟩ : ∃ x, wr.heap.size = x := ⟨_, rfl⟩
      obtain ⟨w4, hw4⟩ : ∃ x, wr.alloc (.cells #[.int .i64 o.kind, .bool o.two, .int .i64 o.n, .string o.text, .slice o.ad o.fates.length o.cap] 59) = x := ⟨_, rfl⟩
      obtain ⟨h4, hb4⟩ := hlr.box _ _ w4 hw4 go hgo
      have H4 : Hid (Lies B w4 (SL p A t0 t1 la s0 s1 [opB o go])) := h4
      have HG := hide (show KGood B w4 [o.kind, o.n] [o.text] o.ad o.fates from KGood.below hgood hb4)
      have HB4 := hide (hbr.trans hb4)
      have HSI := hide hsi
      have HQ0 := hide hq0
      have HQ1 := hide hq1
      have HOK : Hid A.Ok := H4.out.ok (i := 0) rfl
      obtain ⟨c0, c1, c2, c4⟩ := SL.op H4.out
      obtain ⟨kd, hkd⟩ : ∃ x, o.kind = x := ⟨_, rfl⟩
      obtain ⟨tw, htw⟩ : ∃ x, o.two = x := ⟨_, rfl⟩
      rw [hkd] at c0 z0 hw4
      rw [htw] at c1 z1 hw4
      have HN := hide (HG.out.ints o.n (by simp))
      clear hlr hbr hsr hcs ho hgood h4 hb4 hsi hq0 hq1 hkd
      cases tw with
      | false =>
        by_cases k1 : kd = 1
        · have d1 : (kd == 1) = true := beq_iff_eq.2 k1
          clear k1
          have HSP : Hid (∀ (W : World) (A' : AD) (u0 u1 : TS), Lies B W (SL p A' t0 t1 la u0 u1 [opB o go]) → (W.cell? ⟨la, 0, none⟩ = some (.pointer (some ⟨t0, 0, none⟩)) ∧ W.cell? ⟨go, 1, none⟩ = some (.bool false) ∧ W.cell? ⟨go, 2, none⟩ = some (.int .i64 o.n))) := fun W A' u0 u1 hl => ⟨(SL.la hl).1, by rw [(SL.op hl).2.1, htw], (SL.op hl).2.2.1⟩
          obtain ⟨V0, hV0⟩ : ∃ x, w4.drew = x := ⟨_, rfl⟩
          have hv0 := H4.out.same (w' := w4.drew) (Nat.le_refl _) (fun _ _ _ => rfl)
          rw [hV0] at hv0
          have HVB : Hid (Below B w V0) := by rw [← hV0]; exact HB4.out.drew
          have HVL : Hid (Lies B V0 (SL p A t0 t1 la s0 s1 [opB o go])) := hv0
          have HV0 := hide hV0
          clear hv0 hV0
          try go_wp2
          refine wp_region_noPanic ?_
          refine wp_region_held_drew (S := fun wx => wx.cell? ⟨la, 0, none⟩ = some (.pointer (some ⟨t0, 0, none⟩)) ∧ wx.cell? ⟨go, 1, none⟩ = some (.bool false) ∧ wx.cell? ⟨go, 2, none⟩ = some (.int .i64 o.n)) (by kernel_rfl) (by rw [HV0.out]; exact HSP.out _ _ _ _ HVL.out) (fun hHeld => ?_)
          rw [HV0.out] at hHeld ⊢
          refine tK 0 (some 42) (.int .i64 0) rfl hHeld ?_
          simp only [Act.put, pA, pB, pC]
          refine tK 1 (some 43) (.pointer (some ⟨la, 0, none⟩)) rfl hHeld ?_
          simp only [Act.put, pA, pB, pC]
          refine tH 2 (some 44) (.pointer (some ⟨t0, 0, none⟩)) rfl (fun w hw => by obtain ⟨hw0, hw1, hw2⟩ := hw; first | rfl | (go_simp; done) | (go_simp; rfl)) hHeld ?_
          simp only [Act.put, pA, pB, pC]
          refine tK 3 (some 45) (.pointer (some ⟨p, 0, none⟩)) rfl hHeld ?_
          simp only [Act.put, pA, pB, pC]
          refine tK 4 (some 46) (.pointer (some ⟨go, 1, none⟩)) rfl hHeld ?_
          simp only [Act.put, pA, pB, pC]
          refine tH 5 (some 47) (.bool false) rfl (fun w hw => by obtain ⟨hw0, hw1, hw2⟩ := hw; first | rfl | (go_simp; done) | (go_simp; rfl)) hHeld ?_
          simp only [Act.put, pA, pB, pC]
          refine rdH 6 rfl (fun K hK => ?_)
          go_simp
          refine (name_any false _).mono ?_
          rintro e wn ⟨rfl, hwn⟩
          obtain rfl := hwn.symm
          clear hwn
          try go_wp2_with fail
          refine hK.out _ _ (HSP.out _ _ _ _ HVL.out) (fun hH => ?_)
          clear hK K hHeld
          have hHeld := hH
          clear hH
          obtain ⟨hop, hoth⟩ := HSI.out.open0 HOK.out
          have hco := topens_any HVL.out (at0 p A t0 t1 la s0 s1 [opB o go]) (by decide) (A.openM oneL) rfl hop.e1 hop.e190 (fun e => (hop.no e).1) (fun v x e => ⟨(hop.yes v x e).1, (hop.yes v x e).2.2.1, (hop.yes v x e).2.2.2.1.most⟩)
          have HOP := hide hop
          have HOTH := hide hoth
          clear hop hoth
          refine rdH 7 rfl (fun K hK => ?_)
          go_simp
          refine (show Calls Tryz.prog 20 #[.pointer (some ⟨t0, 0, none⟩), .pointer (some ⟨p, 0, none⟩), .string (nameT false)] V0 _ from hco).mono ?_
          rintro e w5 ⟨rfl, hb5, hor⟩
          have HB5 := hide (HVB.out.trans hb5)
          obtain ⟨u0, u1, A5, h5, hsi5, hl05, hl15⟩ : ∃ u0 u1 A5, Lies B w5 (SL p A5 t0 t1 la u0 u1 [opB o go]) ∧ SafeI A5 u0 u1 ∧ u0.tr = s0.tr ∧ u1.tr = s1.tr := by
            rcases hor with ⟨e, hl⟩ | ⟨g, v, x, e, hl⟩
            · rw [next0 (s0 := s0) (s' := { s0 with m := none }) rfl rfl] at hl
              exact ⟨_, _, _, hl, HOP.out.no0 HOTH.out e, rfl, rfl⟩
            · rw [next0 (s0 := s0) (s' := { s0 with m := some (g, v, x), ac := v }) rfl rfl] at hl
              exact ⟨_, _, _, hl, HOP.out.yes0 HOTH.out e, rfl, rfl⟩
          try go_wp2_with fail
          refine hK.out _ _ (HSP.out _ _ _ _ h5) (fun hH => ?_)
          clear hK K hHeld
          have hHeld := hH
          have H5 := hide (SL.dropX h5)
          have HSI5 := hide hsi5
          have HL05 : Hid (u0.tr.length ≤ k + 1) := by show _ ≤ _; rw [hl05]; have := HQ0.out; omega
          have HL15 : Hid (u1.tr.length ≤ k + 1) := by show _ ≤ _; rw [hl15]; have := HQ1.out; omega
          clear hH h5 hsi5 hl05 hl15 hor hb5 hco
          refine tK 8 (some 50) (.bool false) rfl hHeld ?_
          simp only [Act.put, pA, pB, pC]
          refine ⟨by kernel_rfl, ?_⟩
          refine NoPanic.normal ?_
          clear hHeld
          go_wp2
          go_roundw
          case rel => exact ⟨k + 1, A5, u0, u1, by omega, by go_num, HSI5.out, HL05.out, HL15.out, H5.out, HB5.out⟩
          case measure => simp [intOf]; omega
        have g1 : (kd == 1) = false := beq_eq_false_iff_ne.2 k1
        clear k1
        by_cases k2 : kd = 2
        · have d2 : (kd == 2) = true := beq_iff_eq.2 k2
          clear k2
          have HSP : Hid (∀ (W : World) (A' : AD) (u0 u1 : TS), Lies B W (SL p A' t0 t1 la u0 u1 [opB o go]) → (W.cell? ⟨la, 0, none⟩ = some (.pointer (some ⟨t0, 0, none⟩)) ∧ W.cell? ⟨go, 1, none⟩ = some (.bool false) ∧ W.cell? ⟨go, 2, none⟩ = some (.int .i64 o.n))) := fun W A' u0 u1 hl => ⟨(SL.la hl).1, by rw [(SL.op hl).2.1, htw], (SL.op hl).2.2.1⟩
          have hcr : ∀ W : World, Lies B W (SL p A t0 t1 la s0 s1 [opB o go]) → Calls Tryz.prog 22 #[.pointer (some ⟨t0, 0, none⟩), .int .i64 o.n] W fun e w' => e = .returned (.bool true) ∧ Below B W w' ∧ ∃ u0 u1 A5, Lies B w' (SL p A5 t0 t1 la u0 u1 [opB o go]) ∧ SafeI A5 u0 u1 ∧ u0.tr.length ≤ k + 1 ∧ u1.tr.length ≤ k + 1 := fun W hl => by
            have hq0 := HQ0.out
            have hq1 := HQ1.out
            have hat := at0 p A t0 t1 la s0 s1 [opB o go]
            cases hm : s0.m with
            | none =>
              refine (traises_none hl hat o.n hm).mono ?_
              rintro e w' ⟨he, hw⟩
              obtain rfl := hw.symm
              exact ⟨he, Below.refl _ _, s0, s1, A, hl, HSI.out, by omega, by omega⟩
            | some m =>
              obtain ⟨g, v, x⟩ := m
              have hti := HSI.out.t0
              unfold TS.M at hti
              rw [hm] at hti
              have hti' : TI A oneL s0.ac s0.tr (some (v, x)) := hti
              cases hnb : numB o.n with
              | false =>
                refine (traises_bad hl hat (by decide) o.n hm hti'.x1 hnb).mono ?_
                rintro e w' ⟨he, hl', hb'⟩
                exact ⟨he, hb', s0, s1, A, hl', HSI.out, by omega, by omega⟩
              | true =>
                obtain ⟨E, v', x', A', hR, h1, h2, h3, hrm, hti2⟩ := raise_math HOK.out nm_one HSI.out.rm hti' o.n hnb
                refine (traises_good hl hat (by decide) o.n hm hti'.x1 hnb (by omega) E v' x' A' hR h1 h2 h3 _ rfl).mono ?_
                rintro e w' ⟨he, hb', nv, hl'⟩
                rw [next20] at hl'
                have hoth : TI A' twoL s1.ac s1.tr s1.M := by
                  have hA : A' = (A.raiseM oneL v x o.n).2.2 := by rw [hR]
                  rw [hA]
                  exact HSI.out.t1.of (raise_get (by decide))
                exact ⟨he, hb', _, _, A', hl', ⟨hrm, hti2, hoth⟩, by rw [List.length_append]; simp; omega, by omega⟩
          have HCR := hide hcr
          clear hcr
          obtain ⟨V0, hV0⟩ : ∃ x, w4.drew = x := ⟨_, rfl⟩
          have hv0 := H4.out.same (w' := w4.drew) (Nat.le_refl _) (fun _ _ _ => rfl)
          rw [hV0] at hv0
          have HVB : Hid (Below B w V0) := by rw [← hV0]; exact HB4.out.drew
          have HVL : Hid (Lies B V0 (SL p A t0 t1 la s0 s1 [opB o go])) := hv0
          have HV0 := hide hV0
          clear hv0 hV0
          try go_wp2
          refine wp_region_noPanic ?_
          refine wp_region_held_drew (S := fun wx => wx.cell? ⟨la, 0, none⟩ = some (.pointer (some ⟨t0, 0, none⟩)) ∧ wx.cell? ⟨go, 1, none⟩ = some (.bool false) ∧ wx.cell? ⟨go, 2, none⟩ = some (.int .i64 o.n)) (by kernel_rfl) (by rw [HV0.out]; exact HSP.out _ _ _ _ HVL.out) (fun hHeld => ?_)
          rw [HV0.out] at hHeld ⊢
          refine tK 0 (some 53) (.int .i64 0) rfl hHeld ?_
          simp only [Act.put, pA, pB, pC]
          refine tK 1 (some 54) (.pointer (some ⟨la, 0, none⟩)) rfl hHeld ?_
          simp only [Act.put, pA, pB, pC]
          refine tH 2 (some 55) (.pointer (some ⟨t0, 0, none⟩)) rfl (fun w hw => by obtain ⟨hw0, hw1, hw2⟩ := hw; first | rfl | (go_simp; done) | (go_simp; rfl)) hHeld ?_
          simp only [Act.put, pA, pB, pC]
          refine tK 3 (some 56) (.pointer (some ⟨go, 2, none⟩)) rfl hHeld ?_
          simp only [Act.put, pA, pB, pC]
          refine tH 4 (some 57) (.int .i64 o.n) rfl (fun w hw => by obtain ⟨hw0, hw1, hw2⟩ := hw; first | rfl | (go_simp; done) | (go_simp; rfl)) hHeld ?_
          simp only [Act.put, pA, pB, pC]
          refine rdH 5 rfl (fun K hK => ?_)
          go_simp
          refine (HCR.out _ HVL.out).mono ?_
          rintro e w5 ⟨rfl, hb5, u0, u1, A5, h5, hsi5, hl05, hl15⟩
          have HB5 := hide (HVB.out.trans hb5)
          try go_wp2_with fail
          refine hK.out _ _ (HSP.out _ _ _ _ h5) (fun hH => ?_)
          clear hK K hHeld
          have hHeld := hH
          have H5 := hide (SL.dropX h5)
          have HSI5 := hide hsi5
          have HL05 := hide hl05
          have HL15 := hide hl15
          clear hH h5 hsi5 hl05 hl15 hb5
          refine tK 6 (some 59) (.bool false) rfl hHeld ?_
          simp only [Act.put, pA, pB, pC]
          refine ⟨by kernel_rfl, ?_⟩
          refine NoPanic.normal ?_
          clear hHeld
          go_wp2
          go_roundw
          case rel => exact ⟨k + 1, A5, u0, u1, by omega, by go_num, HSI5.out, HL05.out, HL15.out, H5.out, HB5.out⟩
          case measure => simp [intOf]; omega
        have g2 : (kd == 2) = false := beq_eq_false_iff_ne.2 k2
        clear k2
        by_cases k3 : kd = 3
        · have d3 : (kd == 3) = true := beq_iff_eq.2 k3
          clear k3
          have HSP : Hid (∀ (W : World) (A' : AD) (u0 u1 : TS), Lies B W (SL p A' t0 t1 la u0 u1 [opB o go]) → (W.cell? ⟨la, 0, none⟩ = some (.pointer (some ⟨t0, 0, none⟩)) ∧ W.cell? ⟨go, 1, none⟩ = some (.bool false) ∧ W.cell? ⟨go, 2, none⟩ = some (.int .i64 o.n))) := fun W A' u0 u1 hl => ⟨(SL.la hl).1, by rw [(SL.op hl).2.1, htw], (SL.op hl).2.2.1⟩
          obtain ⟨q1, hq1⟩ : ∃ x, leastI o.n 8 = x := ⟨_, rfl⟩
          obtain ⟨d8, hd8⟩ : ∃ x, Int.tdiv o.n 8 = x := ⟨_, rfl⟩
          obtain ⟨q2, hq2⟩ : ∃ x, leastI d8 3 = x := ⟨_, rfl⟩
          have HLE1 : Hid (∀ w : World, Calls Tryz.prog 15 #[.int .i64 o.n, .int .i64 8] w fun e w' => e = .returned (.int .i64 q1) ∧ w' = w) := fun w => by rw [← hq1]; exact least_any o.n 8 (by decide) w
          have HLE2 : Hid (∀ w : World, Calls Tryz.prog 15 #[.int .i64 d8, .int .i64 3] w fun e w' => e = .returned (.int .i64 q2) ∧ w' = w) := fun w => by rw [← hq2]; exact least_any d8 3 (by decide) w
          have hq1r := least_rng (n := o.n) (m := 8) (by decide)
          rw [hq1] at hq1r
          have HAR : Hid (∀ W : World, Lies B W (SL p A t0 t1 la s0 s1 [opB o go]) → Calls Tryz.prog 23 #[.pointer (some ⟨p, 0, none⟩), .int .i64 q1, .int .i64 q2] W fun e w' => e = .returned (.tuple #[]) ∧ Lies B w' (SL p (A.armed q1 q2) t0 t1 la s0 s1 [opB o go]) ∧ Below B W w') := fun W hl => s_arm (i := 0) hl rfl q1 q2 (by omega)
          have hd8r := tdiv8_rng HN.out
          rw [hd8] at hd8r
          have hdw : wrap64 d8 = d8 := by unfold wrap64; omega
          have hdw2 : IntKind.i64.wrap d8 = d8 := wrap_id (by omega) (by omega)
          clear hd8r
          clear hq1 hq2 hq1r
          obtain ⟨V0, hV0⟩ : ∃ x, w4.drew = x := ⟨_, rfl⟩
          have hv0 := H4.out.same (w' := w4.drew) (Nat.le_refl _) (fun _ _ _ => rfl)
          rw [hV0] at hv0
          have HVB : Hid (Below B w V0) := by rw [← hV0]; exact HB4.out.drew
          have HVL : Hid (Lies B V0 (SL p A t0 t1 la s0 s1 [opB o go])) := hv0
          have HV0 := hide hV0
          clear hv0 hV0
          try go_wp2
          refine wp_region_noPanic ?_
          refine wp_region_held_drew (S := fun wx => wx.cell? ⟨la, 0, none⟩ = some (.pointer (some ⟨t0, 0, none⟩)) ∧ wx.cell? ⟨go, 1, none⟩ = some (.bool false) ∧ wx.cell? ⟨go, 2, none⟩ = some (.int .i64 o.n)) (by kernel_rfl) (by rw [HV0.out]; exact HSP.out _ _ _ _ HVL.out) (fun hHeld => ?_)
          rw [HV0.out] at hHeld ⊢
          refine tK 0 (some 62) (.pointer (some ⟨p, 0, none⟩)) rfl hHeld ?_
          simp only [Act.put, pA, pB, pC]
          refine tK 1 (some 63) (.pointer (some ⟨go, 2, none⟩)) rfl hHeld ?_
          simp only [Act.put, pA, pB, pC]
          refine tH 2 (some 64) (.int .i64 o.n) rfl (fun w hw => by obtain ⟨hw0, hw1, hw2⟩ := hw; first | rfl | (go_simp; done) | (go_simp; rfl)) hHeld ?_
          simp only [Act.put, pA, pB, pC]
          refine tK 4 (some 66) (.pointer (some ⟨go, 2, none⟩)) rfl hHeld ?_
          simp only [Act.put, pA, pB, pC]
          refine tH 5 (some 67) (.int .i64 o.n) rfl (fun w hw => by obtain ⟨hw0, hw1, hw2⟩ := hw; first | rfl | (go_simp; done) | (go_simp; rfl)) hHeld ?_
          simp only [Act.put, pA, pB, pC]
          refine tH 6 (some 68) (.int .i64 d8) rfl (fun w hw => by skip; first | rfl | (go_simp; done) | (go_simp; rfl)) hHeld ?_
          simp only [Act.put, pA, pB, pC]
          refine rdH 3 rfl (fun K hK => ?_)
          go_simp
          refine (HLE1.out _).mono ?_
          rintro e wn ⟨rfl, hwn⟩
          obtain rfl := hwn.symm
          clear hwn
          try go_wp2_with fail
          refine hK.out _ _ (HSP.out _ _ _ _ HVL.out) (fun hH => ?_)
          clear hK K hHeld
          have hHeld := hH
          clear hH
          refine rdH 7 rfl (fun K hK => ?_)
          go_simp
          refine (HLE2.out _).mono ?_
          rintro e wn ⟨rfl, hwn⟩
          obtain rfl := hwn.symm
          clear hwn
          try go_wp2_with fail
          refine hK.out _ _ (HSP.out _ _ _ _ HVL.out) (fun hH => ?_)
          clear hK K hHeld
          have hHeld := hH
          clear hH
          refine rdH 8 rfl (fun K hK => ?_)
          go_simp
          refine (HAR.out _ HVL.out).mono ?_
          rintro e w5 ⟨rfl, h5, hb5⟩
          have HB5 := hide (HVB.out.trans hb5)
          try go_wp2_with fail
          refine hK.out _ _ (HSP.out _ _ _ _ h5) (fun hH => ?_)
          clear hK K hHeld
          have hHeld := hH
          have H5 := hide (SL.dropX h5)
          have HSI5 : Hid (SafeI (A.armed q1 q2) s0 s1) := HSI.out.same (armed_fs' A q1 q2).1 (armed_fs' A q1 q2).2
          clear hH h5 hb5
          refine ⟨by kernel_rfl, ?_⟩
          refine NoPanic.normal ?_
          clear hHeld
          go_wp2
          go_roundw
          case rel => exact ⟨k + 1, _, s0, s1, by omega, by go_num, HSI5.out, by have := HQ0.out; omega, by have := HQ1.out; omega, H5.out, HB5.out⟩
          case measure => simp [intOf]; omega
        have g3 : (kd == 3) = false := beq_eq_false_iff_ne.2 k3
        clear k3
        by_cases k4 : kd = 4
        · have d4 : (kd == 4) = true := beq_iff_eq.2 k4
          clear k4
          obtain ⟨q1, hq1⟩ : ∃ x, leastI o.n 8 = x := ⟨_, rfl⟩
          have HLE1 : Hid (∀ w : World, Calls Tryz.prog 15 #[.int .i64 o.n, .int .i64 8] w fun e w' => e = .returned (.int .i64 q1) ∧ w' = w) := fun w => by rw [← hq1]; exact least_any o.n 8 (by decide) w
          have hq1r := least_rng (n := o.n) (m := 8) (by decide)
          rw [hq1] at hq1r
          have hfa := s_fall (i := 0) H4.out rfl q1 (by omega)
          clear hq1 hq1r
          go_wp2_with fail
          refine (HLE1.out _).mono ?_
          rintro e wn ⟨rfl, hwn⟩
          obtain rfl := hwn.symm
          clear hwn
          go_wp2_with fail
          refine hfa.mono ?_
          rintro e w5 ⟨rfl, h5, hb5⟩
          have H5 : Hid (Lies B w5 (SL p (A.fallen q1) t0 t1 la s0 s1 [])) := SL.dropX (X := [opB o go]) h5
          have HB5 := hide (HB4.out.trans hb5)
          have HSI5 : Hid (SafeI (A.fallen q1) s0 s1) := HSI.out.same rfl rfl
          clear h5 hb5 hfa
          go_wp2
          go_roundw
          case rel => exact ⟨k + 1, _, s0, s1, by omega, by go_num, HSI5.out, by have := HQ0.out; omega, by have := HQ1.out; omega, H5.out, HB5.out⟩
          case measure => simp [intOf]; omega
        have g4 : (kd == 4) = false := beq_eq_false_iff_ne.2 k4
        clear k4
        by_cases k5 : kd = 5
        · have d5 : (kd == 5) = true := beq_iff_eq.2 k5
          clear k5
          have hcr := s_crash (i := 0) H4.out rfl o.ad o.fates o.cap HG.out.fates.at_ HG.out.fates.ok (by have := HG.out.fates.sz; omega) HG.out.fates.lt
          go_wp2_with fail
          refine hcr.mono ?_
          rintro e w5 ⟨rfl, h5, hb5⟩
          have HB5 := hide (HB4.out.trans hb5)
          have hon := s_on (i := 0) h5 rfl
          clear h5 hb5 hcr
          go_wp2_with fail
          refine hon.mono ?_
          rintro e w6 ⟨rfl, h6, hb6⟩
          obtain ⟨l, hl⟩ : ∃ l, o.fates.map FT.abs = l := ⟨_, rfl⟩
          have h6' : Lies B w6 (SL p (A.crash l).on t0 t1 la s0 s1 [opB o go]) := by rw [← hl]; exact h6
          have HB6 := hide (HB5.out.trans hb6)
          obtain ⟨e0, e1⟩ := SL.la h6'
          obtain ⟨_, _, _, fz0⟩ := tale_cells (a := 1) h6' rfl
          have f0 := fz0 0
          obtain ⟨d0, _, _, _⟩ := tale_cells (a := 1) h6' rfl
          obtain ⟨w7, hw7⟩ : ∃ x, w6.setCell ⟨t0, 0, none⟩ (.pointer none) = x := ⟨_, rfl⟩
          obtain ⟨h7, hb7⟩ := Lies.setBlk (j := 1) (o := 0) (.pointer none) ({ s0 with m := none } : TS).cells rfl h6' rfl
          rw [hw7] at h7 hb7
          have h7' : Lies B w7 (SL p (A.crash l).on t0 t1 la { s0 with m := none } s1 [opB o go]) := h7.voided 6
          obtain ⟨e2, e3⟩ := SL.la h7'
          obtain ⟨_, _, _, fz1⟩ := tale_cells (a := 2) h7' rfl
          have f1 := fz1 0
          obtain ⟨d1, _, _, _⟩ := tale_cells (a := 2) h7' rfl
          obtain ⟨w8, hw8⟩ : ∃ x, w7.setCell ⟨t1, 0, none⟩ (.pointer none) = x := ⟨_, rfl⟩
          obtain ⟨h8, hb8⟩ := Lies.setBlk (j := 2) (o := 0) (.pointer none) ({ s1 with m := none } : TS).cells rfl h7' rfl
          rw [hw8] at h8 hb8
          have h8' : Lies B w8 (SL p (A.crash l).on t0 t1 la { s0 with m := none } { s1 with m := none } [opB o go]) := h8.voided 7
          obtain ⟨e4, e5⟩ := SL.la h8'
          have HB8 := hide ((HB6.out.trans hb7).trans hb8)
          have hf0 := tforged_any h8' (at0 p (A.crash l).on t0 t1 la { s0 with m := none } { s1 with m := none } [opB o go]) (by decide) rfl (crash_len HOK.out HSI.out.t0 l)
          obtain ⟨b0, hb0⟩ : ∃ b, forgB (A.crash l).on oneL s0.tr = b := ⟨_, rfl⟩
          obtain ⟨b1, hb1⟩ : ∃ b, forgB (A.crash l).on twoL s1.tr = b := ⟨_, rfl⟩
          have hf0' : Calls Tryz.prog 27 #[.pointer (some ⟨t0, 0, none⟩), .pointer (some ⟨p, 0, none⟩), .string oneB] w8 fun e w' => e = .returned (.bool b0) ∧ Lies B w' (SL p (A.crash l).on t0 t1 la { s0 with m := none } { s1 with m := none } [opB o go]) ∧ Below B w8 w' := by rw [← hb0]; exact hf0
          have HSF : Hid (b0 = false → b1 = false → SafeI (A.crash l).on { s0 with m := none } { s1 with m := none }) := fun x y => HSI.out.crash HOK.out l (hb0.trans x) (hb1.trans y)
          have HF1 : Hid (∀ W : World, Lies B W (SL p (A.crash l).on t0 t1 la { s0 with m := none } { s1 with m := none } [opB o go]) → Calls Tryz.prog 27 #[.pointer (some ⟨t1, 0, none⟩), .pointer (some ⟨p, 0, none⟩), .string twoB] W fun e w' => e = .returned (.bool b1) ∧ Lies B w' (SL p (A.crash l).on t0 t1 la { s0 with m := none } { s1 with m := none } [opB o go]) ∧ Below B W w') := fun W hl => by
            have := tforged_any hl (at1 p (A.crash l).on t0 t1 la { s0 with m := none } { s1 with m := none } [opB o go]) (by decide) rfl (crash_len HOK.out HSI.out.t1 l)
            rw [← hb1]; exact this
          clear h6 hb6 h6' h7 hb7 h7' h8 hb8 h8' hon hf0 fz0 fz1 hb0 hb1 hl HB5 HB6 c1 c2
          go_wp2_with fail
          refine hf0'.mono ?_
          rintro e w9 ⟨rfl, h9, hb9⟩
          have HB9 := hide (HB8.out.trans hb9)
          obtain ⟨x0, x1⟩ := SL.la h9
          have H9 := hide h9
          clear h9 hb9 hf0'
          cases b0 with
          | true =>
            go_wp2
            go_ret
            exact ⟨rfl, HB9.out⟩
          | false =>
            have hf1 := HF1.out _ H9.out
            go_wp2_with fail
            refine hf1.mono ?_
            rintro e w10 ⟨rfl, h10, hb10⟩
            have HB10 := hide (HB9.out.trans hb10)
            have H10 := hide (SL.dropX h10)
            clear h10 hb10 hf1
            cases b1 with
            | true =>
              go_wp2
              go_ret
              exact ⟨rfl, HB10.out⟩
            | false =>
              have HSI5 := hide (HSF.out (by first | rfl | trivial) (by first | rfl | trivial))
              go_wp2
              go_roundw
              case rel => exact ⟨k + 1, _, { s0 with m := none }, { s1 with m := none }, by omega, by go_num, HSI5.out, by have := HQ0.out; show s0.tr.length ≤ k + 1; omega, by have := HQ1.out; show s1.tr.length ≤ k + 1; omega, H10.out, HB10.out⟩
              case measure => simp [intOf]; omega
        have g5 : (kd == 5) = false := beq_eq_false_iff_ne.2 k5
        clear k5
        have H5 := hide (SL.dropX H4.out)
        go_wp2
        go_roundw
        case rel => exact ⟨k + 1, A, s0, s1, by omega, by go_num, HSI.out, by have := HQ0.out; omega, by have := HQ1.out; omega, H5.out, HB4.out⟩
        case measure => simp [intOf]; omega
      | true =>
        by_cases k1 : kd = 1
        · have d1 : (kd == 1) = true := beq_iff_eq.2 k1
          clear k1
          have HSP : Hid (∀ (W : World) (A' : AD) (u0 u1 : TS), Lies B W (SL p A' t0 t1 la u0 u1 [opB o go]) → (W.cell? ⟨la, 1, none⟩ = some (.pointer (some ⟨t1, 0, none⟩)) ∧ W.cell? ⟨go, 1, none⟩ = some (.bool true) ∧ W.cell? ⟨go, 2, none⟩ = some (.int .i64 o.n))) := fun W A' u0 u1 hl => ⟨(SL.la hl).2, by rw [(SL.op hl).2.1, htw], (SL.op hl).2.2.1⟩
          obtain ⟨V0, hV0⟩ : ∃ x, w4.drew = x := ⟨_, rfl⟩
          have hv0 := H4.out.same (w' := w4.drew) (Nat.le_refl _) (fun _ _ _ => rfl)
          rw [hV0] at hv0
          have HVB : Hid (Below B w V0) := by rw [← hV0]; exact HB4.out.drew
          have HVL : Hid (Lies B V0 (SL p A t0 t1 la s0 s1 [opB o go])) := hv0
          have HV0 := hide hV0
          clear hv0 hV0
          try go_wp2
          refine wp_region_noPanic ?_
          refine wp_region_held_drew (S := fun wx => wx.cell? ⟨la, 1, none⟩ = some (.pointer (some ⟨t1, 0, none⟩)) ∧ wx.cell? ⟨go, 1, none⟩ = some (.bool true) ∧ wx.cell? ⟨go, 2, none⟩ = some (.int .i64 o.n)) (by kernel_rfl) (by rw [HV0.out]; exact HSP.out _ _ _ _ HVL.out) (fun hHeld => ?_)
          rw [HV0.out] at hHeld ⊢
          refine tK 0 (some 42) (.int .i64 1) rfl hHeld ?_
          simp only [Act.put, pA, pB, pC]
          refine tK 1 (some 43) (.pointer (some ⟨la, 1, none⟩)) rfl hHeld ?_
          simp only [Act.put, pA, pB, pC]
          refine tH 2 (some 44) (.pointer (some ⟨t1, 0, none⟩)) rfl (fun w hw => by obtain ⟨hw0, hw1, hw2⟩ := hw; first | rfl | (go_simp; done) | (go_simp; rfl)) hHeld ?_
          simp only [Act.put, pA, pB, pC]
          refine tK 3 (some 45) (.pointer (some ⟨p, 0, none⟩)) rfl hHeld ?_
          simp only [Act.put, pA, pB, pC]
          refine tK 4 (some 46) (.pointer (some ⟨go, 1, none⟩)) rfl hHeld ?_
          simp only [Act.put, pA, pB, pC]
          refine tH 5 (some 47) (.bool true) rfl (fun w hw => by obtain ⟨hw0, hw1, hw2⟩ := hw; first | rfl | (go_simp; done) | (go_simp; rfl)) hHeld ?_
          simp only [Act.put, pA, pB, pC]
          refine rdH 6 rfl (fun K hK => ?_)
          go_simp
          refine (name_any true _).mono ?_
          rintro e wn ⟨rfl, hwn⟩
          obtain rfl := hwn.symm
          clear hwn
          try go_wp2_with fail
          refine hK.out _ _ (HSP.out _ _ _ _ HVL.out) (fun hH => ?_)
          clear hK K hHeld
          have hHeld := hH
          clear hH
          obtain ⟨hop, hoth⟩ := HSI.out.open1 HOK.out
          have hco := topens_any HVL.out (at1 p A t0 t1 la s0 s1 [opB o go]) (by decide) (A.openM twoL) rfl hop.e1 hop.e190 (fun e => (hop.no e).1) (fun v x e => ⟨(hop.yes v x e).1, (hop.yes v x e).2.2.1, (hop.yes v x e).2.2.2.1.most⟩)
          have HOP := hide hop
          have HOTH := hide hoth
          clear hop hoth
          refine rdH 7 rfl (fun K hK => ?_)
          go_simp
          refine (show Calls Tryz.prog 20 #[.pointer (some ⟨t1, 0, none⟩), .pointer (some ⟨p, 0, none⟩), .string (nameT true)] V0 _ from hco).mono ?_
          rintro e w5 ⟨rfl, hb5, hor⟩
          have HB5 := hide (HVB.out.trans hb5)
          obtain ⟨u0, u1, A5, h5, hsi5, hl05, hl15⟩ : ∃ u0 u1 A5, Lies B w5 (SL p A5 t0 t1 la u0 u1 [opB o go]) ∧ SafeI A5 u0 u1 ∧ u0.tr = s0.tr ∧ u1.tr = s1.tr := by
            rcases hor with ⟨e, hl⟩ | ⟨g, v, x, e, hl⟩
            · rw [next1 (s1 := s1) (s' := { s1 with m := none }) rfl rfl] at hl
              exact ⟨_, _, _, hl, HOP.out.no1 HOTH.out e, rfl, rfl⟩
            · rw [next1 (s1 := s1) (s' := { s1 with m := some (g, v, x), ac := v }) rfl rfl] at hl
              exact ⟨_, _, _, hl, HOP.out.yes1 HOTH.out e, rfl, rfl⟩
          try go_wp2_with fail
          refine hK.out _ _ (HSP.out _ _ _ _ h5) (fun hH => ?_)
          clear hK K hHeld
          have hHeld := hH
          have H5 := hide (SL.dropX h5)
          have HSI5 := hide hsi5
          have HL05 : Hid (u0.tr.length ≤ k + 1) := by show _ ≤ _; rw [hl05]; have := HQ0.out; omega
          have HL15 : Hid (u1.tr.length ≤ k + 1) := by show _ ≤ _; rw [hl15]; have := HQ1.out; omega
          clear hH h5 hsi5 hl05 hl15 hor hb5 hco
          refine tK 8 (some 50) (.bool false) rfl hHeld ?_
          simp only [Act.put, pA, pB, pC]
          refine ⟨by kernel_rfl, ?_⟩
          refine NoPanic.normal ?_
          clear hHeld
          go_wp2
          go_roundw
          case rel => exact ⟨k + 1, A5, u0, u1, by omega, by go_num, HSI5.out, HL05.out, HL15.out, H5.out, HB5.out⟩
          case measure => simp [intOf]; omega
        have g1 : (kd == 1) = false := beq_eq_false_iff_ne.2 k1
        clear k1
        by_cases k2 : kd = 2
        · have d2 : (kd == 2) = true := beq_iff_eq.2 k2
          clear k2
          have HSP : Hid (∀ (W : World) (A' : AD) (u0 u1 : TS), Lies B W (SL p A' t0 t1 la u0 u1 [opB o go]) → (W.cell? ⟨la, 1, none⟩ = some (.pointer (some ⟨t1, 0, none⟩)) ∧ W.cell? ⟨go, 1, none⟩ = some (.bool true) ∧ W.cell? ⟨go, 2, none⟩ = some (.int .i64 o.n))) := fun W A' u0 u1 hl => ⟨(SL.la hl).2, by rw [(SL.op hl).2.1, htw], (SL.op hl).2.2.1⟩
          have hcr : ∀ W : World, Lies B W (SL p A t0 t1 la s0 s1 [opB o go]) → Calls Tryz.prog 22 #[.pointer (some ⟨t1, 0, none⟩), .int .i64 o.n] W fun e w' => e = .returned (.bool true) ∧ Below B W w' ∧ ∃ u0 u1 A5, Lies B w' (SL p A5 t0 t1 la u0 u1 [opB o go]) ∧ SafeI A5 u0 u1 ∧ u0.tr.length ≤ k + 1 ∧ u1.tr.length ≤ k + 1 := fun W hl => by
            have hq0 := HQ0.out
            have hq1 := HQ1.out
            have hat := at1 p A t0 t1 la s0 s1 [opB o go]
            cases hm : s1.m with
            | none =>
              refine (traises_none hl hat o.n hm).mono ?_
              rintro e w' ⟨he, hw⟩
              obtain rfl := hw.symm
              exact ⟨he, Below.refl _ _, s0, s1, A, hl, HSI.out, by omega, by omega⟩
            | some m =>
              obtain ⟨g, v, x⟩ := m
              have hti := HSI.out.t1
              unfold TS.M at hti
              rw [hm] at hti
              have hti' : TI A twoL s1.ac s1.tr (some (v, x)) := hti
              cases hnb : numB o.n with
              | false =>
                refine (traises_bad hl hat (by decide) o.n hm hti'.x1 hnb).mono ?_
                rintro e w' ⟨he, hl', hb'⟩
                exact ⟨he, hb', s0, s1, A, hl', HSI.out, by omega, by omega⟩
              | true =>
                obtain ⟨E, v', x', A', hR, h1, h2, h3, hrm, hti2⟩ := raise_math HOK.out nm_two HSI.out.rm hti' o.n hnb
                refine (traises_good hl hat (by decide) o.n hm hti'.x1 hnb (by omega) E v' x' A' hR h1 h2 h3 _ rfl).mono ?_
                rintro e w' ⟨he, hb', nv, hl'⟩
                rw [next21] at hl'
                have hoth : TI A' oneL s0.ac s0.tr s0.M := by
                  have hA : A' = (A.raiseM twoL v x o.n).2.2 := by rw [hR]
                  rw [hA]
                  exact HSI.out.t0.of (raise_get (by decide))
                exact ⟨he, hb', _, _, A', hl', ⟨hrm, hoth, hti2⟩, by omega, by rw [List.length_append]; simp; omega⟩
          have HCR := hide hcr
          clear hcr
          obtain ⟨V0, hV0⟩ : ∃ x, w4.drew = x := ⟨_, rfl⟩
          have hv0 := H4.out.same (w' := w4.drew) (Nat.le_refl _) (fun _ _ _ => rfl)
          rw [hV0] at hv0
          have HVB : Hid (Below B w V0) := by rw [← hV0]; exact HB4.out.drew
          have HVL : Hid (Lies B V0 (SL p A t0 t1 la s0 s1 [opB o go])) := hv0
          have HV0 := hide hV0
          clear hv0 hV0
          try go_wp2
          refine wp_region_noPanic ?_
          refine wp_region_held_drew (S := fun wx => wx.cell? ⟨la, 1, none⟩ = some (.pointer (some ⟨t1, 0, none⟩)) ∧ wx.cell? ⟨go, 1, none⟩ = some (.bool true) ∧ wx.cell? ⟨go, 2, none⟩ = some (.int .i64 o.n)) (by kernel_rfl) (by rw [HV0.out]; exact HSP.out _ _ _ _ HVL.out) (fun hHeld => ?_)
          rw [HV0.out] at hHeld ⊢
          refine tK 0 (some 53) (.int .i64 1) rfl hHeld ?_
          simp only [Act.put, pA, pB, pC]
          refine tK 1 (some 54) (.pointer (some ⟨la, 1, none⟩)) rfl hHeld ?_
          simp only [Act.put, pA, pB, pC]
          refine tH 2 (some 55) (.pointer (some ⟨t1, 0, none⟩)) rfl (fun w hw => by obtain ⟨hw0, hw1, hw2⟩ := hw; first | rfl | (go_simp; done) | (go_simp; rfl)) hHeld ?_
          simp only [Act.put, pA, pB, pC]
          refine tK 3 (some 56) (.pointer (some ⟨go, 2, none⟩)) rfl hHeld ?_
          simp only [Act.put, pA, pB, pC]
          refine tH 4 (some 57) (.int .i64 o.n) rfl (fun w hw => by obtain ⟨hw0, hw1, hw2⟩ := hw; first | rfl | (go_simp; done) | (go_simp; rfl)) hHeld ?_
          simp only [Act.put, pA, pB, pC]
          refine rdH 5 rfl (fun K hK => ?_)
          go_simp
          refine (HCR.out _ HVL.out).mono ?_
          rintro e w5 ⟨rfl, hb5, u0, u1, A5, h5, hsi5, hl05, hl15⟩
          have HB5 := hide (HVB.out.trans hb5)
          try go_wp2_with fail
          refine hK.out _ _ (HSP.out _ _ _ _ h5) (fun hH => ?_)
          clear hK K hHeld
          have hHeld := hH
          have H5 := hide (SL.dropX h5)
          have HSI5 := hide hsi5
          have HL05 := hide hl05
          have HL15 := hide hl15
          clear hH h5 hsi5 hl05 hl15 hb5
          refine tK 6 (some 59) (.bool false) rfl hHeld ?_
          simp only [Act.put, pA, pB, pC]
          refine ⟨by kernel_rfl, ?_⟩
          refine NoPanic.normal ?_
          clear hHeld
          go_wp2
          go_roundw
          case rel => exact ⟨k + 1, A5, u0, u1, by omega, by go_num, HSI5.out, HL05.out, HL15.out, H5.out, HB5.out⟩
          case measure => simp [intOf]; omega
        have g2 : (kd == 2) = false := beq_eq_false_iff_ne.2 k2
        clear k2
        by_cases k3 : kd = 3
        · have d3 : (kd == 3) = true := beq_iff_eq.2 k3
          clear k3
          have HSP : Hid (∀ (W : World) (A' : AD) (u0 u1 : TS), Lies B W (SL p A' t0 t1 la u0 u1 [opB o go]) → (W.cell? ⟨la, 1, none⟩ = some (.pointer (some ⟨t1, 0, none⟩)) ∧ W.cell? ⟨go, 1, none⟩ = some (.bool true) ∧ W.cell? ⟨go, 2, none⟩ = some (.int .i64 o.n))) := fun W A' u0 u1 hl => ⟨(SL.la hl).2, by rw [(SL.op hl).2.1, htw], (SL.op hl).2.2.1⟩
          obtain ⟨q1, hq1⟩ : ∃ x, leastI o.n 8 = x := ⟨_, rfl⟩
          obtain ⟨d8, hd8⟩ : ∃ x, Int.tdiv o.n 8 = x := ⟨_, rfl⟩
          obtain ⟨q2, hq2⟩ : ∃ x, leastI d8 3 = x := ⟨_, rfl⟩
          have HLE1 : Hid (∀ w : World, Calls Tryz.prog 15 #[.int .i64 o.n, .int .i64 8] w fun e w' => e = .returned (.int .i64 q1) ∧ w' = w) := fun w => by rw [← hq1]; exact least_any o.n 8 (by decide) w
          have HLE2 : Hid (∀ w : World, Calls Tryz.prog 15 #[.int .i64 d8, .int .i64 3] w fun e w' => e = .returned (.int .i64 q2) ∧ w' = w) := fun w => by rw [← hq2]; exact least_any d8 3 (by decide) w
          have hq1r := least_rng (n := o.n) (m := 8) (by decide)
          rw [hq1] at hq1r
          have HAR : Hid (∀ W : World, Lies B W (SL p A t0 t1 la s0 s1 [opB o go]) → Calls Tryz.prog 23 #[.pointer (some ⟨p, 0, none⟩), .int .i64 q1, .int .i64 q2] W fun e w' => e = .returned (.tuple #[]) ∧ Lies B w' (SL p (A.armed q1 q2) t0 t1 la s0 s1 [opB o go]) ∧ Below B W w') := fun W hl => s_arm (i := 0) hl rfl q1 q2 (by omega)
          have hd8r := tdiv8_rng HN.out
          rw [hd8] at hd8r
          have hdw : wrap64 d8 = d8 := by unfold wrap64; omega
          have hdw2 : IntKind.i64.wrap d8 = d8 := wrap_id (by omega) (by omega)
          clear hd8r
          clear hq1 hq2 hq1r
          obtain ⟨V0, hV0⟩ : ∃ x, w4.drew = x := ⟨_, rfl⟩
          have hv0 := H4.out.same (w' := w4.drew) (Nat.le_refl _) (fun _ _ _ => rfl)
          rw [hV0] at hv0
          have HVB : Hid (Below B w V0) := by rw [← hV0]; exact HB4.out.drew
          have HVL : Hid (Lies B V0 (SL p A t0 t1 la s0 s1 [opB o go])) := hv0
          have HV0 := hide hV0
          clear hv0 hV0
          try go_wp2
          refine wp_region_noPanic ?_
          refine wp_region_held_drew (S := fun wx => wx.cell? ⟨la, 1, none⟩ = some (.pointer (some ⟨t1, 0, none⟩)) ∧ wx.cell? ⟨go, 1, none⟩ = some (.bool true) ∧ wx.cell? ⟨go, 2, none⟩ = some (.int .i64 o.n)) (by kernel_rfl) (by rw [HV0.out]; exact HSP.out _ _ _ _ HVL.out) (fun hHeld => ?_)
          rw [HV0.out] at hHeld ⊢
          refine tK 0 (some 62) (.pointer (some ⟨p, 0, none⟩)) rfl hHeld ?_
          simp only [Act.put, pA, pB, pC]
          refine tK 1 (some 63) (.pointer (some ⟨go, 2, none⟩)) rfl hHeld ?_
          simp only [Act.put, pA, pB, pC]
          refine tH 2 (some 64) (.int .i64 o.n) rfl (fun w hw => by obtain ⟨hw0, hw1, hw2⟩ := hw; first | rfl | (go_simp; done) | (go_simp; rfl)) hHeld ?_
          simp only [Act.put, pA, pB, pC]
          refine tK 4 (some 66) (.pointer (some ⟨go, 2, none⟩)) rfl hHeld ?_
          simp only [Act.put, pA, pB, pC]
          refine tH 5 (some 67) (.int .i64 o.n) rfl (fun w hw => by obtain ⟨hw0, hw1, hw2⟩ := hw; first | rfl | (go_simp; done) | (go_simp; rfl)) hHeld ?_
          simp only [Act.put, pA, pB, pC]
          refine tH 6 (some 68) (.int .i64 d8) rfl (fun w hw => by skip; first | rfl | (go_simp; done) | (go_simp; rfl)) hHeld ?_
          simp only [Act.put, pA, pB, pC]
          refine rdH 3 rfl (fun K hK => ?_)
          go_simp
          refine (HLE1.out _).mono ?_
          rintro e wn ⟨rfl, hwn⟩
          obtain rfl := hwn.symm
          clear hwn
          try go_wp2_with fail
          refine hK.out _ _ (HSP.out _ _ _ _ HVL.out) (fun hH => ?_)
          clear hK K hHeld
          have hHeld := hH
          clear hH
          refine rdH 7 rfl (fun K hK => ?_)
          go_simp
          refine (HLE2.out _).mono ?_
          rintro e wn ⟨rfl, hwn⟩
          obtain rfl := hwn.symm
          clear hwn
          try go_wp2_with fail
          refine hK.out _ _ (HSP.out _ _ _ _ HVL.out) (fun hH => ?_)
          clear hK K hHeld
          have hHeld := hH
          clear hH
          refine rdH 8 rfl (fun K hK => ?_)
          go_simp
          refine (HAR.out _ HVL.out).mono ?_
          rintro e w5 ⟨rfl, h5, hb5⟩
          have HB5 := hide (HVB.out.trans hb5)
          try go_wp2_with fail
          refine hK.out _ _ (HSP.out _ _ _ _ h5) (fun hH => ?_)
          clear hK K hHeld
          have hHeld := hH
          have H5 := hide (SL.dropX h5)
          have HSI5 : Hid (SafeI (A.armed q1 q2) s0 s1) := HSI.out.same (armed_fs' A q1 q2).1 (armed_fs' A q1 q2).2
          clear hH h5 hb5
          refine ⟨by kernel_rfl, ?_⟩
          refine NoPanic.normal ?_
          clear hHeld
          go_wp2
          go_roundw
          case rel => exact ⟨k + 1, _, s0, s1, by omega, by go_num, HSI5.out, by have := HQ0.out; omega, by have := HQ1.out; omega, H5.out, HB5.out⟩
          case measure => simp [intOf]; omega
        have g3 : (kd == 3) = false := beq_eq_false_iff_ne.2 k3
        clear k3
        by_cases k4 : kd = 4
        · have d4 : (kd == 4) = true := beq_iff_eq.2 k4
          clear k4
          obtain ⟨q1, hq1⟩ : ∃ x, leastI o.n 8 = x := ⟨_, rfl⟩
          have HLE1 : Hid (∀ w : World, Calls Tryz.prog 15 #[.int .i64 o.n, .int .i64 8] w fun e w' => e = .returned (.int .i64 q1) ∧ w' = w) := fun w => by rw [← hq1]; exact least_any o.n 8 (by decide) w
          have hq1r := least_rng (n := o.n) (m := 8) (by decide)
          rw [hq1] at hq1r
          have hfa := s_fall (i := 0) H4.out rfl q1 (by omega)
          clear hq1 hq1r
          go_wp2_with fail
          refine (HLE1.out _).mono ?_
          rintro e wn ⟨rfl, hwn⟩
          obtain rfl := hwn.symm
          clear hwn
          go_wp2_with fail
          refine hfa.mono ?_
          rintro e w5 ⟨rfl, h5, hb5⟩
          have H5 : Hid (Lies B w5 (SL p (A.fallen q1) t0 t1 la s0 s1 [])) := SL.dropX (X := [opB o go]) h5
          have HB5 := hide (HB4.out.trans hb5)
          have HSI5 : Hid (SafeI (A.fallen q1) s0 s1) := HSI.out.same rfl rfl
          clear h5 hb5 hfa
          go_wp2
          go_roundw
          case rel => exact ⟨k + 1, _, s0, s1, by omega, by go_num, HSI5.out, by have := HQ0.out; omega, by have := HQ1.out; omega, H5.out, HB5.out⟩
          case measure => simp [intOf]; omega
        have g4 : (kd == 4) = false := beq_eq_false_iff_ne.2 k4
        clear k4
        by_cases k5 : kd = 5
        · have d5 : (kd == 5) = true := beq_iff_eq.2 k5
          clear k5
          have hcr := s_crash (i := 0) H4.out rfl o.ad o.fates o.cap HG.out.fates.at_ HG.out.fates.ok (by have := HG.out.fates.sz; omega) HG.out.fates.lt
          go_wp2_with fail
          refine hcr.mono ?_
          rintro e w5 ⟨rfl, h5, hb5⟩
          have HB5 := hide (HB4.out.trans hb5)
          have hon := s_on (i := 0) h5 rfl
          clear h5 hb5 hcr
          go_wp2_with fail
          refine hon.mono ?_
          rintro e w6 ⟨rfl, h6, hb6⟩
          obtain ⟨l, hl⟩ : ∃ l, o.fates.map FT.abs = l := ⟨_, rfl⟩
          have h6' : Lies B w6 (SL p (A.crash l).on t0 t1 la s0 s1 [opB o go]) := by rw [← hl]; exact h6
          have HB6 := hide (HB5.out.trans hb6)
          obtain ⟨e0, e1⟩ := SL.la h6'
          obtain ⟨_, _, _, fz0⟩ := tale_cells (a := 1) h6' rfl
          have f0 := fz0 0
          obtain ⟨d0, _, _, _⟩ := tale_cells (a := 1) h6' rfl
          obtain ⟨w7, hw7⟩ : ∃ x, w6.setCell ⟨t0, 0, none⟩ (.pointer none) = x := ⟨_, rfl⟩
          obtain ⟨h7, hb7⟩ := Lies.setBlk (j := 1) (o := 0) (.pointer none) ({ s0 with m := none } : TS).cells rfl h6' rfl
          rw [hw7] at h7 hb7
          have h7' : Lies B w7 (SL p (A.crash l).on t0 t1 la { s0 with m := none } s1 [opB o go]) := h7.voided 6
          obtain ⟨e2, e3⟩ := SL.la h7'
          obtain ⟨_, _, _, fz1⟩ := tale_cells (a := 2) h7' rfl
          have f1 := fz1 0
          obtain ⟨d1, _, _, _⟩ := tale_cells (a := 2) h7' rfl
          obtain ⟨w8, hw8⟩ : ∃ x, w7.setCell ⟨t1, 0, none⟩ (.pointer none) = x := ⟨_, rfl⟩
          obtain ⟨h8, hb8⟩ := Lies.setBlk (j := 2) (o := 0) (.pointer none) ({ s1 with m := none } : TS).cells rfl h7' rfl
          rw [hw8] at h8 hb8
          have h8' : Lies B w8 (SL p (A.crash l).on t0 t1 la { s0 with m := none } { s1 with m := none } [opB o go]) := h8.voided 7
          obtain ⟨e4, e5⟩ := SL.la h8'
          have HB8 := hide ((HB6.out.trans hb7).trans hb8)
          have hf0 := tforged_any h8' (at0 p (A.crash l).on t0 t1 la { s0 with m := none } { s1 with m := none } [opB o go]) (by decide) rfl (crash_len HOK.out HSI.out.t0 l)
          obtain ⟨b0, hb0⟩ : ∃ b, forgB (A.crash l).on oneL s0.tr = b := ⟨_, rfl⟩
          obtain ⟨b1, hb1⟩ : ∃ b, forgB (A.crash l).on twoL s1.tr = b := ⟨_, rfl⟩
          have hf0' : Calls Tryz.prog 27 #[.pointer (some ⟨t0, 0, none⟩), .pointer (some ⟨p, 0, none⟩), .string oneB] w8 fun e w' => e = .returned (.bool b0) ∧ Lies B w' (SL p (A.crash l).on t0 t1 la { s0 with m := none } { s1 with m := none } [opB o go]) ∧ Below B w8 w' := by rw [← hb0]; exact hf0
          have HSF : Hid (b0 = false → b1 = false → SafeI (A.crash l).on { s0 with m := none } { s1 with m := none }) := fun x y => HSI.out.crash HOK.out l (hb0.trans x) (hb1.trans y)
          have HF1 : Hid (∀ W : World, Lies B W (SL p (A.crash l).on t0 t1 la { s0 with m := none } { s1 with m := none } [opB o go]) → Calls Tryz.prog 27 #[.pointer (some ⟨t1, 0, none⟩), .pointer (some ⟨p, 0, none⟩), .string twoB] W fun e w' => e = .returned (.bool b1) ∧ Lies B w' (SL p (A.crash l).on t0 t1 la { s0 with m := none } { s1 with m := none } [opB o go]) ∧ Below B W w') := fun W hl => by
            have := tforged_any hl (at1 p (A.crash l).on t0 t1 la { s0 with m := none } { s1 with m := none } [opB o go]) (by decide) rfl (crash_len HOK.out HSI.out.t1 l)
            rw [← hb1]; exact this
          clear h6 hb6 h6' h7 hb7 h7' h8 hb8 h8' hon hf0 fz0 fz1 hb0 hb1 hl HB5 HB6 c1 c2
          go_wp2_with fail
          refine hf0'.mono ?_
          rintro e w9 ⟨rfl, h9, hb9⟩
          have HB9 := hide (HB8.out.trans hb9)
          obtain ⟨x0, x1⟩ := SL.la h9
          have H9 := hide h9
          clear h9 hb9 hf0'
          cases b0 with
          | true =>
            go_wp2
            go_ret
            exact ⟨rfl, HB9.out⟩
          | false =>
            have hf1 := HF1.out _ H9.out
            go_wp2_with fail
            refine hf1.mono ?_
            rintro e w10 ⟨rfl, h10, hb10⟩
            have HB10 := hide (HB9.out.trans hb10)
            have H10 := hide (SL.dropX h10)
            clear h10 hb10 hf1
            cases b1 with
            | true =>
              go_wp2
              go_ret
              exact ⟨rfl, HB10.out⟩
            | false =>
              have HSI5 := hide (HSF.out (by first | rfl | trivial) (by first | rfl | trivial))
              go_wp2
              go_roundw
              case rel => exact ⟨k + 1, _, { s0 with m := none }, { s1 with m := none }, by omega, by go_num, HSI5.out, by have := HQ0.out; show s0.tr.length ≤ k + 1; omega, by have := HQ1.out; show s1.tr.length ≤ k + 1; omega, H10.out, HB10.out⟩
              case measure => simp [intOf]; omega
        have g5 : (kd == 5) = false := beq_eq_false_iff_ne.2 k5
        clear k5
        have H5 := hide (SL.dropX H4.out)
        go_wp2
        go_roundw
        case rel => exact ⟨k + 1, A, s0, s1, by omega, by go_num, HSI.out, by have := HQ0.out; omega, by have := HQ1.out; omega, H5.out, HB4.out⟩
        case measure => simp [intOf]; omega
    · have hkl : k = os.length := by omega
      subst hkl
      have dk : decide ((os.length : Int) < (os.length : Int)) = false := decide_eq_false (by omega)
      have hc1 := s_arm (i := 0) hlr rfl 0 0 (by decide)
      have HBR := hide hbr
      have HSI := hide hsi
      clear hlr hbr hsi hq0 hq1
      go_wp2_with fail
      refine hc1.mono ?_
      rintro e w4 ⟨rfl, h4, hb4⟩
      have HB4 := hide (HBR.out.trans hb4)
      have hc2 := s_fall (i := 0) h4 rfl 0 (by decide)
      clear h4 hb4 hc1 HBR
      go_wp2_with fail
      refine hc2.mono ?_
      rintro e w5 ⟨rfl, h5, hb5⟩
      have HB5 := hide (HB4.out.trans hb5)
      obtain ⟨A5, hA5⟩ : ∃ x, (A.armed 0 0).fallen 0 = x := ⟨_, rfl⟩
      have h5' : Lies B w5 (SL p A5 t0 t1 la s0 s1 []) := by rw [← hA5]; exact h5
      have hsi5 : SafeI A5 s0 s1 := by rw [← hA5]; exact (HSI.out.same (armed_fs' A 0 0).1 (armed_fs' A 0 0).2 : SafeI (A.armed 0 0) s0 s1).same rfl rfl
      have harm : A5.pow.arm = 0 := by rw [← hA5]; unfold AD.armed; rfl
      have hfal : A5.pow.fall = 0 := by rw [← hA5]; rfl
      have hok5 : A5.Ok := h5'.ok (i := 0) rfl
      have hc3 := s_off (i := 0) h5' rfl
      have HFINISH : Hid (∀ (W : World) (A6 : AD) (u0 u1 : TS), Lies B W (SL p A6 t0 t1 la u0 u1 []) → SafeI A6 u0 u1 → Calm A6.pow → Calls Tryz.prog 20 #[.pointer (some ⟨t0, 0, none⟩), .pointer (some ⟨p, 0, none⟩), .string oneB] W fun e w' => e = .returned (.bool true) ∧ Below B W w' ∧ ∃ A7 g v x y0, Lies B w' (SL p A7 t0 t1 la y0 u1 []) ∧ y0.m = some (g, v, x) ∧ SafeI A7 y0 u1 ∧ Calm A7.pow) := fun W A6 u0 u1 hl hs hc => by
        obtain ⟨hop, hoth⟩ := hs.open0 (hl.ok (i := 0) rfl)
        refine (topens_any hl (at0 p A6 t0 t1 la u0 u1 []) (by decide) (A6.openM oneL) rfl hop.e1 hop.e190 (fun e => (hop.no e).1) (fun v x e => ⟨(hop.yes v x e).1, (hop.yes v x e).2.2.1, (hop.yes v x e).2.2.2.1.most⟩)).mono ?_
        rintro e w' ⟨he, hb, ⟨e0, _⟩ | ⟨g, v, x, e0, hl'⟩⟩
        · exact absurd (hop.calm hc).1 (hop.no e0).1
        · rw [next0 (s0 := u0) (s' := { u0 with m := some (g, v, x), ac := v }) rfl rfl] at hl'
          exact ⟨he, hb, _, g, v, x, _, hl', rfl, hop.yes0 hoth e0, by rw [(hop.calm hc).2]; exact hc⟩
      have HFINISH2 : Hid (∀ (W : World) (A6 : AD) (u0 u1 : TS), Lies B W (SL p A6 t0 t1 la u0 u1 []) → SafeI A6 u0 u1 → Calm A6.pow → Calls Tryz.prog 20 #[.pointer (some ⟨t1, 0, none⟩), .pointer (some ⟨p, 0, none⟩), .string twoB] W fun e w' => e = .returned (.bool true) ∧ Below B W w' ∧ ∃ A7 g v x y1, Lies B w' (SL p A7 t0 t1 la u0 y1 []) ∧ y1.m = some (g, v, x)) := fun W A6 u0 u1 hl hs hc => by
        obtain ⟨hop, hoth⟩ := hs.open1 (hl.ok (i := 0) rfl)
        refine (topens_any hl (at1 p A6 t0 t1 la u0 u1 []) (by decide) (A6.openM twoL) rfl hop.e1 hop.e190 (fun e => (hop.no e).1) (fun v x e => ⟨(hop.yes v x e).1, (hop.yes v x e).2.2.1, (hop.yes v x e).2.2.2.1.most⟩)).mono ?_
        rintro e w' ⟨he, hb, ⟨e0, _⟩ | ⟨g, v, x, e0, hl'⟩⟩
        · exact absurd (hop.calm hc).1 (hop.no e0).1
        · rw [next1 (s1 := u1) (s' := { u1 with m := some (g, v, x), ac := v }) rfl rfl] at hl'
          exact ⟨he, hb, _, g, v, x, _, hl', rfl⟩
      have H5 := hide h5'
      have HSI5 := hide hsi5
      have HOK5 := hide hok5
      have HARM := hide harm
      have HFAL := hide hfal
      obtain ⟨off, hoff⟩ : ∃ b, A5.pow.off = b := ⟨_, rfl⟩
      rw [hoff] at hc3
      have HOFF := hide hoff
      clear h5 h5' hb5 hc2 HB4 hA5 hsi5 hok5 harm hfal HSI hoff
      go_wp2_with fail
      refine hc3.mono ?_
      rintro e w6 ⟨rfl, hw⟩
      obtain rfl := hw.symm
      clear hw hc3
      cases off with
      | true =>
        have hc4 := s_crash0 (i := 0) H5.out rfl
        go_wp2_with fail
        refine hc4.mono ?_
        rintro e w7 ⟨rfl, h7, hb7⟩
        have HB7 := hide (HB5.out.trans hb7)
        have hc5 := s_on (i := 0) h7 rfl
        clear h7 hb7 hc4
        go_wp2_with fail
        refine hc5.mono ?_
        rintro e w8 ⟨rfl, h8, hb8⟩
        have HB8 := hide (HB7.out.trans hb8)
        have h8' : Lies B w8 (SL p (A5.crash []).on t0 t1 la s0 s1 []) := h8
        obtain ⟨v0, v1⟩ := SL.la h8'
        have hs8 : SafeI (A5.crash []).on s0 s1 := HSI5.out.crash0M HOK5.out
        have hcl := HFINISH.out _ _ _ _ h8' hs8 (calm_end HARM.out HFAL.out)
        clear h8 hb8 hc5 h8' hs8
        clear HFINISH
        go_wp2_with fail
        refine hcl.mono ?_
        rintro e w9 ⟨rfl, hb9, A7, g, v, x, y0, h9, hy0, hs9, hcalm9⟩
        have HB9 := hide (HB8.out.trans hb9)
        obtain ⟨v2, v3⟩ := SL.la h9
        have hcl2 := HFINISH2.out _ _ _ _ h9 hs9 hcalm9
        have HY0 := hide hy0
        clear h9 hb9 hs9 hcalm9 hy0 hcl HFINISH2
        go_wp2_with fail
        refine hcl2.mono ?_
        rintro e w10 ⟨rfl, hb10, A8, g', v', x', y1, h10, hy1⟩
        have HB10 := hide (HB9.out.trans hb10)
        obtain ⟨v4, v5⟩ := SL.la h10
        obtain ⟨q0, _, _, _⟩ := tale_cells (a := 1) h10 rfl
        rw [HY0.out] at q0
        have q0' : w10.cell? ⟨t0, 0, none⟩ = some (.pointer (some ⟨g, 0, none⟩)) := q0
        obtain ⟨q1, _, _, _⟩ := tale_cells (a := 2) h10 rfl
        rw [hy1] at q1
        have q1' : w10.cell? ⟨t1, 0, none⟩ = some (.pointer (some ⟨g', 0, none⟩)) := q1
        clear h10 hb10 hcl2 q0 q1 hy1
        go_wp2
        go_ret
        exact ⟨rfl, HB10.out⟩
      | false =>
        obtain ⟨v0, v1⟩ := SL.la H5.out
        have HB8 := HB5
        have hcl := HFINISH.out _ _ _ _ H5.out HSI5.out ⟨HOFF.out, HARM.out, HFAL.out⟩
        clear HFINISH
        go_wp2_with fail
        refine hcl.mono ?_
        rintro e w9 ⟨rfl, hb9, A7, g, v, x, y0, h9, hy0, hs9, hcalm9⟩
        have HB9 := hide (HB8.out.trans hb9)
        obtain ⟨v2, v3⟩ := SL.la h9
        have hcl2 := HFINISH2.out _ _ _ _ h9 hs9 hcalm9
        have HY0 := hide hy0
        clear h9 hb9 hs9 hcalm9 hy0 hcl HFINISH2
        go_wp2_with fail
        refine hcl2.mono ?_
        rintro e w10 ⟨rfl, hb10, A8, g', v', x', y1, h10, hy1⟩
        have HB10 := hide (HB9.out.trans hb10)
        obtain ⟨v4, v5⟩ := SL.la h10
        obtain ⟨q0, _, _, _⟩ := tale_cells (a := 1) h10 rfl
        rw [HY0.out] at q0
        have q0' : w10.cell? ⟨t0, 0, none⟩ = some (.pointer (some ⟨g, 0, none⟩)) := q0
        obtain ⟨q1, _, _, _⟩ := tale_cells (a := 2) h10 rfl
        rw [hy1] at q1
        have q1' : w10.cell? ⟨t1, 0, none⟩ = some (.pointer (some ⟨g', 0, none⟩)) := q1
        clear h10 hb10 hcl2 q0 q1 hy1
        go_wp2
        go_ret
        exact ⟨rfl, HB10.out⟩
end Go.Proofs.YtlkimfmilccanaaGreat
