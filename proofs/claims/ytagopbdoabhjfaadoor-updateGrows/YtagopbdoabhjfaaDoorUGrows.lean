/-
  UpdateGrows: the walk (printed by gen_grows.py).
-/
import Derived.Test.YtagopbdoabhjfaaDoorUGrowS
import Derived.Test.YtagopbdoabhjfaaDoorUBack
namespace Go.Proofs.YtagopbdoabhjfaaDoor
open Go.RowKit S
set_option linter.unusedVariables false
set_option linter.unusedSimpArgs false
theorem GS.lt0 {w0 wr : World} {gL : Nat} {v0 v1 : Value} {l0 l1 : List Upd} (h : GS w0 gL wr v0 v1 l0 l1) : (∀ k, v0.ownBlock = some k → k < wr.heap.size) ∧ (∀ k, v1.ownBlock = some k → k < wr.heap.size) ∧ gL < wr.heap.size := ⟨fun k hk => (h.o0.lt k hk).2, fun k hk => (h.o1.lt k hk).2, h.arr.lt⟩
theorem Has.at_u {w : World} {g : Nat} {x : Wd} (h : Has w g 43 x.v 39) : At w g 1 x.u.v 36 := fun j hj => by rw [h.cell (1 + j) (by omega), Wd.v_u x j hj]
/-- What the round's changes keep: the word, the update (whatever it is), the lists. -/
def Rnd (w : World) (gL gW gX : Nat) (v0 v1 : Value) (l0 l1 : List Upd) (x : Wd) (u : Upd) (wx : World) : Prop := Has wx gX 25 u.v 36 ∧ Has wx gW 43 x.v 39 ∧ GS w gL wx v0 v1 l0 l1
theorem Rnd.below {w wx wy : World} {gL gW gX : Nat} {v0 v1 : Value} {l0 l1 : List Upd} {x : Wd} {u : Upd} (h : Rnd w gL gW gX v0 v1 l0 l1 x u wx) (hb : Below wx.heap.size wx wy) : Rnd w gL gW gX v0 v1 l0 l1 x u wy :=
  ⟨h.1.below hb h.1.lt, h.2.1.below hb h.2.1.lt, h.2.2.below hb⟩
theorem Rnd.hash {w wx : World} {gL gW gX : Nat} {v0 v1 : Value} {l0 l1 : List Upd} {x : Wd} {u : Upd} (h : Rnd w gL gW gX v0 v1 l0 l1 x u wx) (hh : Nat → UInt8) (h1 : gL < gX) (h2 : gW < gX) (h3 : ∀ k, v0.ownBlock = some k → k < gX) (h4 : ∀ k, v1.ownBlock = some k → k < gX) :
    Rnd w gL gW gX v0 v1 l0 l1 x ⟨u.kind, u.id, u.amt, hh, u.note⟩ (wx.setRow gX (tabv (Upd.v ⟨u.kind, u.id, u.amt, hh, u.note⟩) 36)) := by
  have hb : Below gX wx (wx.setRow gX (tabv (Upd.v ⟨u.kind, u.id, u.amt, hh, u.note⟩) 36)) := below_setRow (Below.refl _ _) (Nat.le_refl _) _
  exact ⟨h.1.row _ _ rfl, h.2.1.below hb h2, h.2.2.belowC hb h1 h3 h4⟩
set_option maxRecDepth 100000 in
set_option maxHeartbeats 16000000 in
theorem grows_walk (n : Num) (ad : Option Addr) (len cap : Nat) (l : List Wd) (hl : l.length = len) (hz : len * 96 ≤ 140737488351232) (w : World) (hG : Glob n w) (hs : Words w ad l) : Calls Tryd.prog 5 #[.slice ad len cap] w fun e w' => e = .returned (.bool true) ∧ Below w.heap.size w w' := by
  have HD := hide (fun (w : World) (hG : Glob n w) => head_any n w hG)
  have HN := hide hl
  have hni : (len : Int) ≤ 140737488351232 := by omega
  clear hl hz
  go_enter Tryd.func5, Tryd.ntmps5
  go_wp2_with fail
  refine (HD.out _ hG).mono ?_
  rintro e w4 ⟨rfl, hb4⟩
  obtain ⟨w5, hW5⟩ : ∃ x, w4.alloc (.cells #[.slice none 0 0, .slice none 0 0] 41) = x := ⟨_, rfl⟩
  have gs5 : GS w w4.heap.size w5 (.slice none 0 0) (.slice none 0 0) [] [] := by
    rw [← hW5]
    exact ⟨Has.new w4 41 (pairV (.slice none 0 0) (.slice none 0 0)) 2 _ rfl, OwnU.nil _ _, OwnU.nil _ _, (fun k hk => by simp [Value.ownBlock] at hk), hb4.alloc hb4.size _, hb4.size, Sound.nil _, Sound.nil _⟩
  go_wp2
  try rw [hW5]
  clear hW5 HD
  generalize w4.heap.size = gL at gs5 ⊢
  go_loopw [4] (fun ix wr => ∃ (j : Nat) (v0 v1 : Value) (l0 l1 : List Upd), j ≤ len ∧ j ≤ 80 ∧ ix = .int .i64 (j : Int) ∧ l0.length ≤ j ∧ l1.length ≤ j ∧ GS w gL wr v0 v1 l0 l1) (fun ix _ => 80 - (intOf ix).toNat)
  case atStart => exact ⟨0, _, _, [], [], Nat.zero_le _, Nat.zero_le _, rfl, Nat.zero_le _, Nat.zero_le _, gs5⟩
  case round =>
    clear gs5 hb4
    obtain ⟨j, v0, v1, l0, l1, hj, hj80, rfl, hl0, hl1, gs⟩ := hrel
    by_cases hlt : j < len
    · have hd : decide ((j : Int) < (len : Int)) = true := decide_eq_true (by omega)
      have hd2 : decide (j < len) = true := decide_eq_true hlt
      have hk0 : (0 : Int) ≤ (j : Int) := by omega
      have hk1 : (j : Int) < (len : Int) := by omega
      by_cases h80 : j < 80
      · have hd80 : decide ((j : Int) < 80) = true := decide_eq_true (by omega)
        obtain ⟨x, hx⟩ : ∃ s, l[j]? = some s := ⟨_, List.getElem?_eq_getElem (by rw [HN.out]; exact hlt)⟩
        obtain ⟨b, o, rfl, hb1, hA⟩ := (hs.below gs.bel).get j x hx
        have HA := hide hA
        obtain ⟨ad0, c0, rfl, U0, lt0, hc0, hm0⟩ := gs.o0.upds
        obtain ⟨ad1, c1, rfl, U1, lt1, hc1, hm1⟩ := gs.o1.upds
        obtain ⟨m0, hm0e⟩ : ∃ m, l0.length = m := ⟨_, rfl⟩
        obtain ⟨m1, hm1e⟩ : ∃ m, l1.length = m := ⟨_, rfl⟩
        have HM0 := hide hm0e
        have HM1 := hide hm1e
        rw [hm0e] at gs hl0 hc0
        rw [hm1e] at gs hl1 hc1
        have hgl := gs.lt0
        obtain ⟨w6, w7, hW6, q1, hW7, r7, rb7⟩ := newW wr x
        obtain ⟨w8, w9, hW8, q2, hW9, r9, rb9⟩ := newU w7 x.u
        have Q1 := hide q1
        have Q2 := hide q2
        have R7 := hide r7
        have hbW : Below wr.heap.size wr w9 := rb7.trans (rb9.mono rb7.size)
        have rnd9 : Rnd w gL wr.heap.size w7.heap.size (.slice ad0 m0 c0) (.slice ad1 m1 c1) l0 l1 x x.u w9 := ⟨r9, r7.below rb9 r7.lt, gs.below hbW⟩
        have hWX : wr.heap.size < w7.heap.size := r7.lt
        have HLT : Hid (gL < w7.heap.size ∧ wr.heap.size < w7.heap.size ∧ (∀ k, (Value.slice ad0 m0 c0).ownBlock = some k → k < w7.heap.size) ∧ (∀ k, (Value.slice ad1 m1 c1).ownBlock = some k → k < w7.heap.size)) := ⟨by omega, hWX, fun k hk => by have := hgl.1 k hk; omega, fun k hk => by have := hgl.2.1 k hk; omega⟩
        have e0 : w7.cell? ⟨wr.heap.size, 0, none⟩ = some (.bool x.two) := r7.cell 0 (by omega)
        have RND9 := hide rnd9
        have f0 : w9.cell? ⟨wr.heap.size, 0, none⟩ = some (.bool x.two) := rnd9.2.1.cell 0 (by omega)
        have f38 : w9.cell? ⟨wr.heap.size, 38, none⟩ = some (.bool x.right) := rnd9.2.1.cell 38 (by omega)
        have fk : w9.cell? ⟨w7.heap.size, 0, none⟩ = some (.int .i64 x.u.kind) := rnd9.1.cell 0 (by omega)
        have fi : w9.cell? ⟨w7.heap.size, 1, none⟩ = some (.int .i64 x.u.id) := rnd9.1.cell 1 (by omega)
        generalize hgW : wr.heap.size = gW at Q1 R7 RND9 HLT e0 f0 f38 fk hW7
        generalize hgX : w7.heap.size = gX at Q2 RND9 HLT fk fi hW9
        have hC0 : (c0 : Int) ≤ 9223372036854775807 := by unfold maxLen at hm0; omega
        have hC1 : (c1 : Int) ≤ 9223372036854775807 := by unfold maxLen at hm1; omega
        have HC := hide (And.intro hc0 hc1)
        have HJ : Hid (m0 ≤ j ∧ m1 ≤ j ∧ j < 80 ∧ j < len) := ⟨hl0, hl1, h80, hlt⟩
        clear hx hA hb1 U0 lt0 U1 lt1 hm0e hm1e hgl q1 q2 r7 rb7 r9 rb9 hbW rnd9 hWX gs hc0 hc1 hm0 hm1 hl0 hl1 hj hj80
        cases htwo : x.two with
        | false =>
          rw [htwo] at e0 f0
          go_upto_region 12 with (first | refine wpW_load_at 43 _ rfl b (o + j * 39) (by rfl) (by rfl) _ 39 _ HA.out Tryd.underlying43 rfl infoW ?_ | refine wpList_storeW rfl _ _ rfl rfl gW x rfl rfl _ Q1.out ?_ | refine wpW_load_at 25 _ rfl gW 1 (by rfl) (by rfl) _ 36 _ (by first | exact R7.out.at_u | (rw [hW7]; exact R7.out.at_u)) Tryd.underlying25 rfl infoU ?_ | refine wpList_storeU rfl _ _ rfl rfl gX x.u rfl rfl _ Q2.out ?_ | fail)
          try rw [hW9]
          clear hW6 hW7 hW8 hW9 Q1 Q2 R7 e0
          go_cut [37] from 13 to 122 (fun s37 wx => ∃ C : Bool, s37 = .bool C ∧ wx = w9)
          case first =>
            cases k1 : (x.u.kind == 1) with
            | false =>
              go_wp2_with fail
              go_meet
              exact ⟨_, rfl, rfl⟩
            | true =>
              go_wp2_with fail
              go_meet
              exact ⟨_, rfl, rfl⟩
          case rest =>
          obtain ⟨C, rfl, hwc⟩ := hcut
          obtain rfl := hwc.symm
          clear hwc
          go_upto_if 37 with fail
          go_cut [] from 13 to 122 (fun wx => ∃ u', Rnd w gL gW gX (.slice ad0 m0 c0) (.slice ad1 m1 c1) l0 l1 x u' wx)
          case first =>
            cases C with
            | false =>
              go_wp2_with fail
              go_meet
              exact ⟨_, RND9.out⟩
            | true =>
              go_wp2_with fail
              refine (pre_any false x.u.id _).mono ?_
              rintro e wp ⟨⟨ph, rfl⟩, hbp⟩
              have rp := RND9.out.below hbp
              go_wp2_with fail
              refine (lsum_any n ph _ (hG.up rp.2.2.bel (Nat.le_refl _))).mono ?_
              rintro e wq ⟨rfl, hbq⟩
              have rq := rp.below hbq
              have RQ := hide rq
              clear rp rq hbp hbq
              go_wp2_with (first | refine wpList_storeUH rfl _ _ rfl rfl gX x.u (sumU ph) rfl rfl RQ.out.1 ?_ | fail)
              go_meet
              exact ⟨_, RQ.out.hash (sumU ph) HLT.out.1 HLT.out.2.1 HLT.out.2.2.1 HLT.out.2.2.2⟩
          case rest =>
          obtain ⟨u1, rnd1⟩ := hcut
          clear f0 f38 fk fi RND9 hgW hgX C
          generalize hwc : wc = wA at rnd1 ⊢
          clear hwc
          have f0 : wA.cell? ⟨gW, 0, none⟩ = some (.bool false) := by rw [rnd1.2.1.cell 0 (by omega), show x.v 0 = .bool x.two from rfl, htwo]
          have f38 : wA.cell? ⟨gW, 38, none⟩ = some (.bool x.right) := rnd1.2.1.cell 38 (by omega)
          have fk : wA.cell? ⟨gX, 0, none⟩ = some (.int .i64 u1.kind) := rnd1.1.cell 0 (by omega)
          have fi : wA.cell? ⟨gX, 1, none⟩ = some (.int .i64 u1.id) := rnd1.1.cell 1 (by omega)
          have RND1 := hide rnd1
          clear rnd1
          go_upto_region 14 with fail
          go_cut [51] from 13 to 122 (fun s51 wx => ∃ C : Bool, s51 = .bool C ∧ wx = wA)
          case first =>
            cases k2 : (u1.kind == 2) with
            | false =>
              go_wp2_with fail
              go_meet
              exact ⟨_, rfl, rfl⟩
            | true =>
              go_wp2_with fail
              go_meet
              exact ⟨_, rfl, rfl⟩
          case rest =>
          obtain ⟨C, rfl, hwc⟩ := hcut
          obtain rfl := hwc.symm
          clear hwc
          go_upto_if 51 with fail
          go_cut [] from 13 to 122 (fun wx => ∃ u', Rnd w gL gW gX (.slice ad0 m0 c0) (.slice ad1 m1 c1) l0 l1 x u' wx)
          case first =>
            cases C with
            | false =>
              go_wp2_with fail
              go_meet
              exact ⟨_, RND1.out⟩
            | true =>
              go_wp2_with fail
              refine (pre_any true u1.id _).mono ?_
              rintro e wp ⟨⟨ph, rfl⟩, hbp⟩
              have rp := RND1.out.below hbp
              have RQ := hide rp
              clear rp hbp
              go_wp2_with (first | refine wpList_storeUH rfl _ _ rfl rfl gX u1 ph rfl rfl RQ.out.1 ?_ | fail)
              go_meet
              exact ⟨_, RQ.out.hash ph HLT.out.1 HLT.out.2.1 HLT.out.2.2.1 HLT.out.2.2.2⟩
          case rest =>
          obtain ⟨u, rnd2⟩ := hcut
          clear f0 f38 fk fi RND1 C
          generalize hwc : wc = wB at rnd2 ⊢
          clear hwc u1 htwo
          obtain ⟨R, hR⟩ : ∃ R, x.most.tmod ((m1 : Int) + 1) = R := ⟨_, rfl⟩
          have hrr := tmod_range x.most (m1 + 1) (by omega)
          rw [show ((m1 + 1 : Nat) : Int) = (m1 : Int) + 1 by omega, hR] at hrr
          have KR : ∀ w : World, (binOp .rem 3 (.int .i64 x.most) (.int .i64 ((m1 : Int) + 1))).run Tryd.prog w = .ok (.int .i64 R) w := fun w => run_rem 3 .i64 x.most _ R (by omega) hR w
          have HTM := hide hR
          have RND2 := hide rnd2
          have hmb : (m1 : Int) ≤ 80 := by have := HJ.out; omega
          clear KR hR rnd2
          go_wp2
          refine wp_region_noPanic ?_
          refine wp_region_held_drew (S := fun wx => Below wB.heap.size wB wx) (by kernel_rfl) ((Below.refl _ _).drew) (fun hHeld => ?_)
          refine Cu.takeH 0 (some 59) (.pointer (some ⟨gW, 37, none⟩)) rfl rfl (by kernel_rfl) (by kernel_rfl) (by kernel_rfl) (fun _ _ _ h => h) (by rfl) (fun w hw => by first | rfl | (go_simp; done) | (go_simp; rfl) | (go_simp; omega)) hHeld ?_
          simp only [Act.put, List.setIfInBounds_toArray, List.set_cons_zero, List.set_cons_succ]
          refine Cu.takeH 1 (some 60) (.int .i64 x.most) rfl rfl (by kernel_rfl) (by kernel_rfl) (by kernel_rfl) (fun _ _ _ h => h) (by rfl) (fun w hw => by have c : w.cell? ⟨_, 37, none⟩ = some (.int .i64 x.most) := (RND2.out.below hw).2.1.cell 37 (by omega); first | rfl | (go_simp; done) | (go_simp; rfl) | (go_simp; omega)) hHeld ?_
          simp only [Act.put, List.setIfInBounds_toArray, List.set_cons_zero, List.set_cons_succ]
          refine Cu.takeH 2 (some 61) (.int .i64 0) rfl rfl (by kernel_rfl) (by kernel_rfl) (by kernel_rfl) (fun _ _ _ h => h) (by rfl) (fun w hw => by first | rfl | (go_simp; done) | (go_simp; rfl) | (go_simp; omega)) hHeld ?_
          simp only [Act.put, List.setIfInBounds_toArray, List.set_cons_zero, List.set_cons_succ]
          refine Cu.takeH 3 (some 62) (.int .i64 1) rfl rfl (by kernel_rfl) (by kernel_rfl) (by kernel_rfl) (fun _ _ _ h => h) (by rfl) (fun w hw => by first | rfl | (go_simp; done) | (go_simp; rfl) | (go_simp; omega)) hHeld ?_
          simp only [Act.put, List.setIfInBounds_toArray, List.set_cons_zero, List.set_cons_succ]
          refine Cu.takeH 4 (some 63) (.pointer (some ⟨gL, 1, none⟩)) rfl rfl (by kernel_rfl) (by kernel_rfl) (by kernel_rfl) (fun _ _ _ h => h) (by rfl) (fun w hw => by first | rfl | (go_simp; done) | (go_simp; rfl) | (go_simp; omega)) hHeld ?_
          simp only [Act.put, List.setIfInBounds_toArray, List.set_cons_zero, List.set_cons_succ]
          refine Cu.takeH 5 (some 64) (.slice ad1 m1 c1) rfl rfl (by kernel_rfl) (by kernel_rfl) (by kernel_rfl) (fun _ _ _ h => h) (by rfl) (fun w hw => by have c : w.cell? ⟨_, 1, none⟩ = some (.slice ad1 m1 c1) := (RND2.out.below hw).2.2.arr.cell 1 (by omega); first | rfl | (go_simp; done) | (go_simp; rfl) | (go_simp; omega)) hHeld ?_
          simp only [Act.put, List.setIfInBounds_toArray, List.set_cons_zero, List.set_cons_succ]
          refine Cu.takeH 6 (some 65) (.int .i64 (m1 : Int)) rfl rfl (by kernel_rfl) (by kernel_rfl) (by kernel_rfl) (fun _ _ _ h => h) (by rfl) (fun w hw => by first | rfl | (go_simp; done) | (go_simp; rfl) | (go_simp; omega)) hHeld ?_
          simp only [Act.put, List.setIfInBounds_toArray, List.set_cons_zero, List.set_cons_succ]
          refine Cu.takeH 7 (some 66) (.int .i64 ((m1 : Int) + 1)) rfl rfl (by kernel_rfl) (by kernel_rfl) (by kernel_rfl) (fun _ _ _ h => h) (by rfl) (fun w hw => by have z3 : IntKind.i64.wrap ((m1 : Int) + 1) = (m1 : Int) + 1 := (by rw [IntKind.wrap_i64]; omega); first | rfl | (go_simp; done) | (go_simp; rfl)) hHeld ?_
          simp only [Act.put, List.setIfInBounds_toArray, List.set_cons_zero, List.set_cons_succ]
          refine Cu.takeH 8 (some 67) (.int .i64 R) rfl rfl (by kernel_rfl) (by kernel_rfl) (by kernel_rfl) (fun _ _ _ h => h) (by rfl) (fun w hw => by have hne : ¬((m1 : Int) + 1 = 0) := (by omega); have hr := HTM.out; go_simp; first | done | (rw [if_neg hne, hr])) hHeld ?_
          simp only [Act.put, List.setIfInBounds_toArray, List.set_cons_zero, List.set_cons_succ]
          refine Cu.takeH 9 (some 8) (.int .i64 R) rfl rfl (by kernel_rfl) (by kernel_rfl) (by kernel_rfl) (fun _ _ _ h => h) (by rfl) (fun w hw => by first | rfl | (go_simp; done) | (go_simp; rfl) | (go_simp; omega)) hHeld ?_
          simp only [Act.put, List.setIfInBounds_toArray, List.set_cons_zero, List.set_cons_succ]
          refine ⟨by kernel_rfl, ?_⟩
          refine NoPanic.normal ?_
          generalize hwC : World.drew wB = wC at hHeld ⊢
          have rnd3 := RND2.out.below hHeld
          have RND3 := hide rnd3
          clear hwC hHeld RND2 rnd3
          go_upto_if 69 with fail
          go_cut [8] from 13 to 122 (fun s8 wx => (∃ q : Nat, q ≤ m1 ∧ s8 = .int .i64 (q : Int)) ∧ wx = wC)
          case first =>
            by_cases hneg : R < 0
            · have hdn : decide (R < 0) = true := decide_eq_true hneg
              obtain ⟨k, hk⟩ : ∃ k : Nat, -R = (k : Int) := Int.eq_ofNat_of_zero_le (by omega)
              have KN : Hid (∀ w : World, (Op.unary .neg (.int .i64 R)).run Tryd.prog w = .ok (.int .i64 (k : Int)) w) := fun w => run_neg .i64 R k (by rw [IntKind.wrap_i64]; omega) w
              have hkM : k ≤ m1 := by omega
              clear hneg hk hrr
              rw [hdn]
              go_wp2_with (first | refine wpW_un .neg _ _ rfl (.int .i64 R) (.int .i64 (k : Int)) (by rfl) (by rfl) (KN.out _) ?_ | fail)
              go_meet
              exact ⟨⟨k, hkM, rfl⟩, rfl⟩
            · have hdn : decide (R < 0) = false := decide_eq_false hneg
              obtain ⟨k, rfl⟩ : ∃ k : Nat, R = (k : Int) := Int.eq_ofNat_of_zero_le (by omega)
              rw [hdn]
              go_wp2_with fail
              go_meet
              exact ⟨⟨k, by omega, rfl⟩, rfl⟩
          case rest =>
          obtain ⟨⟨q, hq, rfl⟩, hwc⟩ := hcut
          obtain rfl := hwc.symm
          clear hwc hrr HTM
          have hq0 : (0 : Int) ≤ (q : Int) := by omega
          have hq1 : (q : Int) ≤ (c1 : Int) := by have := HC.out; omega
          have fo : wC.cell? ⟨gL, 1, none⟩ = some (.slice ad1 m1 c1) := RND3.out.2.2.arr.cell 1 (by omega)
          go_wp2
          have UM : Hid (∀ wx, Below wC.heap.size wC wx → Upds wx ad0 l0) := fun wx hb => by
            obtain ⟨ad', c', e, hU, _⟩ := (RND3.out.below hb).2.2.o0.upds
            cases e
            exact hU
          have UQ : Hid (∀ wx, Below wC.heap.size wC wx → Upds wx ad1 (l1.take q)) := fun wx hb => by
            obtain ⟨ad', c', e, hU, _⟩ := (RND3.out.below hb).2.2.o1.upds
            cases e
            rcases hU with h | ⟨b, o, h1, h2, h3⟩
            · rw [h]; exact .inl (List.take_nil)
            · exact .inr ⟨b, o, h1, h2, fun i s hs => h3 i s (by
                have hi : i < q := by
                  rcases Nat.lt_or_ge i q with h | h
                  · exact h
                  · rw [List.getElem?_eq_none (by rw [List.length_take]; omega)] at hs; cases hs
                rw [List.getElem?_take_of_lt hi] at hs; exact hs)⟩
          have hlq : (l1.take q).length = q := by rw [List.length_take]; have := HM1.out; omega
          have hql : q ≤ 80 := by have := HJ.out; omega
          have hml : m0 ≤ 80 := by have := HJ.out; omega
          have CN := hide (fun (wx : World) (hb : Below wC.heap.size wC wx) => next_any n ad0 ad1 m0 q c0 c1 l0 (l1.take q) HM0.out hlq (by omega) (by omega) u wx (hG.up (RND3.out.2.2.bel.trans (hb.mono RND3.out.2.2.bel.size)) (Nat.le_refl _)) (UM.out wx hb) (UQ.out wx hb))
          have CM := hide (fun (wx : World) (hb : Below wC.heap.size wC wx) => may_any n ad0 ad1 m0 q c0 c1 l0 (l1.take q) HM0.out hlq (by omega) (by omega) u wx (hG.up (RND3.out.2.2.bel.trans (hb.mono RND3.out.2.2.bel.size)) (Nat.le_refl _)) (UM.out wx hb) (UQ.out wx hb))
          have hlt48 : l0.length < 2048 := by have := HM0.out; omega
          have hcodes := next_codes (others := l1.take q) (u := u) hlt48
          have hmay := may_eq (others := l1.take q) RND3.out.2.2.s0 hlt48 u
          obtain ⟨X, hX⟩ : ∃ X, nextA l0 (l1.take q) u = X := ⟨_, rfl⟩
          have HX := hide hX
          rw [hX] at CN hcodes hmay
          rw [← hmay] at CM
          have HLT48 := hide hlt48
          clear fo hX hmay hlq hql hml hlt48 UQ
          refine wp_region_noPanic ?_
          refine wp_region_held_drew (S := fun wx => Below wC.heap.size wC wx) (by kernel_rfl) ((Below.refl _ _).drew) (fun hHeld => ?_)
          refine Cu.takeH 0 (some 78) (.int .i64 0) rfl rfl (by kernel_rfl) (by kernel_rfl) (by kernel_rfl) (fun _ _ _ h => h) (by rfl) (fun w hw => by first | rfl | (go_simp; done) | (go_simp; rfl) | (go_simp; omega)) hHeld ?_
          simp only [Act.put, List.setIfInBounds_toArray, List.set_cons_zero, List.set_cons_succ]
          refine Cu.takeH 1 (some 79) (.pointer (some ⟨gL, 0, none⟩)) rfl rfl (by kernel_rfl) (by kernel_rfl) (by kernel_rfl) (fun _ _ _ h => h) (by rfl) (fun w hw => by first | rfl | (go_simp; done) | (go_simp; rfl) | (go_simp; omega)) hHeld ?_
          simp only [Act.put, List.setIfInBounds_toArray, List.set_cons_zero, List.set_cons_succ]
          refine Cu.takeH 2 (some 80) (.slice ad0 m0 c0) rfl rfl (by kernel_rfl) (by kernel_rfl) (by kernel_rfl) (fun _ _ _ h => h) (by rfl) (fun w hw => by have c : w.cell? ⟨_, 0, none⟩ = some (.slice ad0 m0 c0) := (RND3.out.below hw).2.2.arr.cell 0 (by omega); first | rfl | (go_simp; done) | (go_simp; rfl) | (go_simp; omega)) hHeld ?_
          simp only [Act.put, List.setIfInBounds_toArray, List.set_cons_zero, List.set_cons_succ]
          refine Cu.takeH 3 (some 81) (.slice ad1 q c1) rfl rfl (by kernel_rfl) (by kernel_rfl) (by kernel_rfl) (fun _ _ _ h => h) (by rfl) (fun w hw => by first | rfl | (go_simp; done) | (go_simp; rfl) | (go_simp; omega)) hHeld ?_
          simp only [Act.put, List.setIfInBounds_toArray, List.set_cons_zero, List.set_cons_succ]
          refine Cu.takeH 4 (some 82) (.agg (tabv u.v 36)) rfl rfl (by kernel_rfl) (by kernel_rfl) (by kernel_rfl) (fun _ _ _ h => h) (by rfl) (fun w hw => run_load_at w 25 _ rfl _ 0 (by rfl) _ 36 _ ((RND3.out.below hw).1.at_ 0 (by omega) (fun i hi => by rw [Nat.zero_add])) Tryd.underlying25 rfl infoU) hHeld ?_
          simp only [Act.put, List.setIfInBounds_toArray, List.set_cons_zero, List.set_cons_succ]
          refine wpAnyH_ready (rs := [5]) (by kernel_rfl) (by simp) (AllReadyH.cons rfl (fun K hK => ?_) AllReadyH.nil)
          rw [if_pos (by rfl)]
          go_simp
          refine (CN.out _ hHeld).mono ?_
          rintro e wD ⟨rfl, hbD⟩
          try go_wp2_with fail
          refine hK.out _ _ (hHeld.trans (hbD.mono hHeld.size)) (fun hH => ?_)
          clear hK K hHeld
          have hHeld := hH
          clear hH
          refine Cu.takeH 6 (some 10) (.int .i64 X) rfl rfl (by kernel_rfl) (by kernel_rfl) (by kernel_rfl) (fun _ _ _ h => h) (by rfl) (fun w hw => by first | rfl | (go_simp; done) | (go_simp; rfl) | (go_simp; omega)) hHeld ?_
          simp only [Act.put, List.setIfInBounds_toArray, List.set_cons_zero, List.set_cons_succ]
          refine ⟨by kernel_rfl, ?_⟩
          refine NoPanic.normal ?_
          have bD := hHeld
          have HBD := hide bD
          clear hHeld hbD bD CN
          rcases hcodes with h0 | h120
          · subst h0
            go_wp2
            refine wp_region_noPanic ?_
            refine wp_region_held_drew (S := fun wx => Below wD.heap.size wD wx) (by kernel_rfl) ((Below.refl _ _).drew) (fun hHeld => ?_)
            refine Cu.takeH 0 (some 90) (.int .i64 0) rfl rfl (by kernel_rfl) (by kernel_rfl) (by kernel_rfl) (fun _ _ _ h => h) (by rfl) (fun w hw => by first | rfl | (go_simp; done) | (go_simp; rfl) | (go_simp; omega)) hHeld ?_
            simp only [Act.put, List.setIfInBounds_toArray, List.set_cons_zero, List.set_cons_succ]
            refine Cu.takeH 1 (some 91) (.bool true) rfl rfl (by kernel_rfl) (by kernel_rfl) (by kernel_rfl) (fun _ _ _ h => h) (by rfl) (fun w hw => by first | rfl | (go_simp; done) | (go_simp; rfl) | (go_simp; omega)) hHeld ?_
            simp only [Act.put, List.setIfInBounds_toArray, List.set_cons_zero, List.set_cons_succ]
            refine Cu.takeH 2 (some 92) (.int .i64 0) rfl rfl (by kernel_rfl) (by kernel_rfl) (by kernel_rfl) (fun _ _ _ h => h) (by rfl) (fun w hw => by first | rfl | (go_simp; done) | (go_simp; rfl) | (go_simp; omega)) hHeld ?_
            simp only [Act.put, List.setIfInBounds_toArray, List.set_cons_zero, List.set_cons_succ]
            refine Cu.takeH 3 (some 93) (.pointer (some ⟨gL, 0, none⟩)) rfl rfl (by kernel_rfl) (by kernel_rfl) (by kernel_rfl) (fun _ _ _ h => h) (by rfl) (fun w hw => by first | rfl | (go_simp; done) | (go_simp; rfl) | (go_simp; omega)) hHeld ?_
            simp only [Act.put, List.setIfInBounds_toArray, List.set_cons_zero, List.set_cons_succ]
            refine Cu.takeH 4 (some 94) (.slice ad0 m0 c0) rfl rfl (by kernel_rfl) (by kernel_rfl) (by kernel_rfl) (fun _ _ _ h => h) (by rfl) (fun w hw => by have c : w.cell? ⟨_, 0, none⟩ = some (.slice ad0 m0 c0) := (RND3.out.below (HBD.out.trans (hw.mono HBD.out.size))).2.2.arr.cell 0 (by omega); first | rfl | (go_simp; done) | (go_simp; rfl) | (go_simp; omega)) hHeld ?_
            simp only [Act.put, List.setIfInBounds_toArray, List.set_cons_zero, List.set_cons_succ]
            refine Cu.takeH 5 (some 95) (.slice ad1 q c1) rfl rfl (by kernel_rfl) (by kernel_rfl) (by kernel_rfl) (fun _ _ _ h => h) (by rfl) (fun w hw => by first | rfl | (go_simp; done) | (go_simp; rfl) | (go_simp; omega)) hHeld ?_
            simp only [Act.put, List.setIfInBounds_toArray, List.set_cons_zero, List.set_cons_succ]
            refine Cu.takeH 6 (some 96) (.agg (tabv u.v 36)) rfl rfl (by kernel_rfl) (by kernel_rfl) (by kernel_rfl) (fun _ _ _ h => h) (by rfl) (fun w hw => run_load_at w 25 _ rfl _ 0 (by rfl) _ 36 _ ((RND3.out.below (HBD.out.trans (hw.mono HBD.out.size))).1.at_ 0 (by omega) (fun i hi => by rw [Nat.zero_add])) Tryd.underlying25 rfl infoU) hHeld ?_
            simp only [Act.put, List.setIfInBounds_toArray, List.set_cons_zero, List.set_cons_succ]
            refine wpAnyH_ready (rs := [7]) (by kernel_rfl) (by simp) (AllReadyH.cons rfl (fun K hK => ?_) AllReadyH.nil)
            rw [if_pos (by rfl)]
            go_simp
            refine (CM.out _ (HBD.out.trans (hHeld.mono HBD.out.size))).mono ?_
            rintro e wE ⟨rfl, hbE⟩
            try go_wp2_with fail
            refine hK.out _ _ (hHeld.trans (hbE.mono hHeld.size)) (fun hH => ?_)
            clear hK K hHeld
            have hHeld := hH
            clear hH
            refine Cu.takeH 8 (some 98) (.bool false) rfl rfl (by kernel_rfl) (by kernel_rfl) (by kernel_rfl) (fun _ _ _ h => h) (by rfl) (fun w hw => by first | rfl | (go_simp; done) | (go_simp; rfl) | (go_simp; omega)) hHeld ?_
            simp only [Act.put, List.setIfInBounds_toArray, List.set_cons_zero, List.set_cons_succ]
            refine ⟨by kernel_rfl, ?_⟩
            refine NoPanic.normal ?_
            have rndE := RND3.out.below (HBD.out.trans (hHeld.mono HBD.out.size))
            have RNDE := hide rndE
            clear hHeld hbE HBD CM rndE
            obtain ⟨hvu, hfu⟩ := next_zero HLT48.out HX.out
            have hsn := sound_next (mine := l0) (others := l1) (n := q) RNDE.out.2.2.s0 hvu hfu
            have hsq : Sound l1 (l0 ++ [u]) := RNDE.out.2.2.s1.others
            obtain ⟨g, cp, w2, hr2, ho2, hgr, hg⟩ := run_appL wE.drew (gL + 1) (.slice ad0 m0 c0) l0 u 38 RNDE.out.2.2.o0 (by have := HM0.out; have := HJ.out; omega) (by show gL + 1 ≤ wE.heap.size; exact RNDE.out.2.2.arr.lt)
            rw [HM0.out] at hr2 ho2
            have HR2 := hide hr2
            have HO2 := hide ho2
            have HGR := hide hgr
            have HGG := hide hg
            have HSN := hide hsn
            have HSQ := hide hsq
            clear hvu hfu hsn hsq hr2 ho2 hgr hg
            go_wp2
            refine wp_region_noPanic ?_
            refine wp_region_T (S := fun wx => Has wx gX 25 u.v 36 ∧ Has wx gL 41 (pairV (.slice ad0 m0 c0) (.slice ad1 m1 c1)) 2) 8 (by kernel_rfl) (⟨RNDE.out.1, RNDE.out.2.2.arr⟩) (fun hHeld => ?_)
            refine takeT 0 (some 101) (.int .i64 0) rfl rfl (by kernel_rfl) (by kernel_rfl) (by kernel_rfl) (by kernel_rfl) (by decide) (fun _ _ _ h => h) (by rfl) (fun w hw => by first | rfl | (go_simp; done) | (go_simp; rfl)) hHeld ?_
            simp only [Act.put, List.setIfInBounds_toArray, List.set_cons_zero, List.set_cons_succ]
            refine takeT 1 (some 102) (.int .i64 0) rfl rfl (by kernel_rfl) (by kernel_rfl) (by kernel_rfl) (by kernel_rfl) (by decide) (fun _ _ _ h => h) (by rfl) (fun w hw => by first | rfl | (go_simp; done) | (go_simp; rfl)) hHeld ?_
            simp only [Act.put, List.setIfInBounds_toArray, List.set_cons_zero, List.set_cons_succ]
            refine takeT 2 (some 103) (.pointer (some ⟨gL, 0, none⟩)) rfl rfl (by kernel_rfl) (by kernel_rfl) (by kernel_rfl) (by kernel_rfl) (by decide) (fun _ _ _ h => h) (by rfl) (fun w hw => by first | rfl | (go_simp; done) | (go_simp; rfl)) hHeld ?_
            simp only [Act.put, List.setIfInBounds_toArray, List.set_cons_zero, List.set_cons_succ]
            refine takeT 3 (some 104) (.slice ad0 m0 c0) rfl rfl (by kernel_rfl) (by kernel_rfl) (by kernel_rfl) (by kernel_rfl) (by decide) (fun _ _ _ h => h) (by rfl) (fun w hw => by have c : w.cell? ⟨gL, 0, none⟩ = some (.slice ad0 m0 c0) := hw.2.cell 0 (by omega); first | rfl | (go_simp; done) | (go_simp; rfl)) hHeld ?_
            simp only [Act.put, List.setIfInBounds_toArray, List.set_cons_zero, List.set_cons_succ]
            refine takeT 4 (some 105) (.agg (tabv u.v 36)) rfl rfl (by kernel_rfl) (by kernel_rfl) (by kernel_rfl) (by kernel_rfl) (by decide) (fun _ _ _ h => h) (by rfl) (fun w hw => run_load_at w 25 _ rfl _ 0 (by rfl) _ 36 _ (hw.1.at_ 0 (by omega) (fun i hi => by rw [Nat.zero_add])) Tryd.underlying25 rfl infoU) hHeld ?_
            simp only [Act.put, List.setIfInBounds_toArray, List.set_cons_zero, List.set_cons_succ]
            refine readyT 5 (by kernel_rfl) rfl (by rfl) (fun K hK => ?_)
            refine wpRun (v := .slice (some ⟨wE.drew.heap.size, 0, none⟩) 1 1) (w' := wE.drew.alloc (.cells (tabv u.v 36) 25)) (by have := run_sliceU wE.drew u; simp [execOp, this, Act.eval, Result.andThen]) ?_
            simp only [Act.put, List.setIfInBounds_toArray, List.set_cons_zero, List.set_cons_succ]
            refine hK.out _ _ (fun _ => ⟨hHeld.1.old _, hHeld.2.old _⟩) (fun hH => ?_)
            clear hHeld
            have hHeld := hH (by decide)
            clear hK K hH
            have hnb : ∀ k, (Value.slice ad0 m0 c0).ownBlock = some k → gL < k ∧ k ≠ gX := fun k hk => by
              have h1 := (RNDE.out.2.2.o0.lt k hk).1
              have h2 := HLT.out.2.2.1 k hk
              exact ⟨by omega, by omega⟩
            refine readyT 6 (by kernel_rfl) rfl (by rfl) (fun K hK => ?_)
            refine wpRunS _ _ _ rfl (.slice (some ⟨g, 0, none⟩) (m0 + 1) cp) HR2.out ?_
            simp only [Act.put, List.setIfInBounds_toArray, List.set_cons_zero, List.set_cons_succ]
            have x2 : Has w2 gX 25 u.v 36 := by
              unfold Has; rw [HGR.out.block gX hHeld.1.lt (fun e => (hnb gX e.symm).2 rfl)]; exact hHeld.1
            have y2 : Has w2 gL 41 (pairV (.slice ad0 m0 c0) (.slice ad1 m1 c1)) 2 := by
              unfold Has; rw [HGR.out.block gL hHeld.2.lt (fun e => by have := (hnb gL e.symm).1; omega)]; exact hHeld.2
            refine hK.out _ _ (fun _ => ⟨x2, y2⟩) (fun hH => ?_)
            clear hHeld
            have hHeld := hH (by decide)
            clear hK K hH
            refine takeT 7 (some 108) (.pointer (some ⟨gL, 0, none⟩)) rfl rfl (by kernel_rfl) (by kernel_rfl) (by kernel_rfl) (by kernel_rfl) (by decide) (fun _ _ _ h => h) (by rfl) (fun w hw => by first | rfl | (go_simp; done) | (go_simp; rfl)) hHeld ?_
            simp only [Act.put, List.setIfInBounds_toArray, List.set_cons_zero, List.set_cons_succ]
            have cg : w2.cell? ⟨gL, 0, none⟩ = some (.slice ad0 m0 c0) := y2.cell 0 (by omega)
            have fg := y2.frozen 0
            have gsE : GS w gL wE.drew (.slice ad0 m0 c0) (.slice ad1 m1 c1) l0 l1 := RNDE.out.2.2.below ((Below.refl _ _).drew)
            have gsN := gsE.app0 HO2.out HGR.out HGG.out y2 HSN.out HSQ.out
            have GSN := hide gsN
            refine readyT 8 (by kernel_rfl) rfl (by rfl) (fun K hK => ?_)
            go_simp
            refine hK.out _ _ (fun x => absurd rfl x) (fun _ => ?_)
            clear hK K
            refine ⟨by kernel_rfl, ?_⟩
            refine NoPanic.normal ?_
            generalize hw3 : World.setCell w2 ⟨gL, 0, none⟩ (.slice (some ⟨g, 0, none⟩) (m0 + 1) cp) = w3 at gsN ⊢
            clear hw3 GSN cg fg x2 y2 hnb gsE HR2 HO2 HGR HGG HSN HSQ RNDE
            have hlen0 : (l0 ++ [u]).length = m0 + 1 := by rw [List.length_append, HM0.out]; rfl
            have hlen1 : l1.length = m1 := HM1.out
            have hJJ := HJ.out
            have UU0 : Hid (∀ wx, Below w3.heap.size w3 wx → Upds wx (some ⟨g, 0, none⟩) (l0 ++ [u])) := fun wx hb => by
              obtain ⟨ad', c', e, hU, _⟩ := (gsN.below hb).o0.upds
              simp only [Value.slice.injEq] at e
              obtain ⟨rfl, _, _⟩ := e
              exact hU
            have UU1 : Hid (∀ wx, Below w3.heap.size w3 wx → Upds wx ad1 l1) := fun wx hb => by
              obtain ⟨ad', c', e, hU, _⟩ := (gsN.below hb).o1.upds
              simp only [Value.slice.injEq] at e
              obtain ⟨rfl, _, _⟩ := e
              exact hU
            have SA := hide (fun (wx : World) (hb : Below w3.heap.size w3 wx) => sound_any n (some ⟨g, 0, none⟩) ad1 (m0 + 1) (m1) cp c1 (l0 ++ [u]) l1 hlen0 hlen1 (by omega) (by omega) wx (hG.up (gsN.below hb).bel (Nat.le_refl _)) (UU0.out wx hb) (UU1.out wx hb) gsN.s0 gsN.s1)
            have SB := hide (fun (wx : World) (hb : Below w3.heap.size w3 wx) => sound_any n ad1 (some ⟨g, 0, none⟩) (m1) (m0 + 1) c1 cp l1 (l0 ++ [u]) hlen1 hlen0 (by omega) (by omega) wx (hG.up (gsN.below hb).bel (Nat.le_refl _)) (UU1.out wx hb) (UU0.out wx hb) gsN.s1 gsN.s0)
            have GSN := hide gsN
            have i0 : w3.cell? ⟨gL, 0, none⟩ = some (.slice (some ⟨g, 0, none⟩) (m0 + 1) cp) := gsN.arr.cell 0 (by omega)
            have i1 : w3.cell? ⟨gL, 1, none⟩ = some (.slice ad1 (m1) c1) := gsN.arr.cell 1 (by omega)
            have HL0 : Hid ((l0 ++ [u]).length ≤ j + 1) := by show _ ≤ _; omega
            have HL1 : Hid (l1.length ≤ j + 1) := by show _ ≤ _; omega
            have hjb : (j : Int) ≤ 80 := by omega
            clear gsN hlen0 hlen1 hJJ UU0 UU1
            go_wp2_with fail
            refine (SA.out _ (Below.refl _ _)).mono ?_
            rintro e w10 ⟨rfl, hb10⟩
            have i0' := (hb10.cell (p := ⟨gL, 0, none⟩) GSN.out.arr.lt).trans i0
            have i1' := (hb10.cell (p := ⟨gL, 1, none⟩) GSN.out.arr.lt).trans i1
            have HB10 := hide hb10
            clear i0 i1 hb10
            go_wp2_with fail
            refine (SB.out _ HB10.out).mono ?_
            rintro e w11 ⟨rfl, hb11⟩
            have HB11 := hide (HB10.out.trans (hb11.mono HB10.out.size))
            clear i0' i1' hb11 HB10
            go_wp2
            go_roundw
            case rel => exact ⟨j + 1, _, _, (l0 ++ [u]), l1, by have := HJ.out; omega, by have := HJ.out; omega, by go_num, HL0.out, HL1.out, GSN.out.below HB11.out⟩
            case measure => have := HJ.out; simp [intOf]; omega
          · subst h120
            go_wp2
            refine wp_region_noPanic ?_
            refine wp_region_held_drew (S := fun wx => Below wD.heap.size wD wx) (by kernel_rfl) ((Below.refl _ _).drew) (fun hHeld => ?_)
            refine Cu.takeH 0 (some 90) (.int .i64 120) rfl rfl (by kernel_rfl) (by kernel_rfl) (by kernel_rfl) (fun _ _ _ h => h) (by rfl) (fun w hw => by first | rfl | (go_simp; done) | (go_simp; rfl) | (go_simp; omega)) hHeld ?_
            simp only [Act.put, List.setIfInBounds_toArray, List.set_cons_zero, List.set_cons_succ]
            refine Cu.takeH 1 (some 91) (.bool false) rfl rfl (by kernel_rfl) (by kernel_rfl) (by kernel_rfl) (fun _ _ _ h => h) (by rfl) (fun w hw => by first | rfl | (go_simp; done) | (go_simp; rfl) | (go_simp; omega)) hHeld ?_
            simp only [Act.put, List.setIfInBounds_toArray, List.set_cons_zero, List.set_cons_succ]
            refine Cu.takeH 2 (some 92) (.int .i64 0) rfl rfl (by kernel_rfl) (by kernel_rfl) (by kernel_rfl) (fun _ _ _ h => h) (by rfl) (fun w hw => by first | rfl | (go_simp; done) | (go_simp; rfl) | (go_simp; omega)) hHeld ?_
            simp only [Act.put, List.setIfInBounds_toArray, List.set_cons_zero, List.set_cons_succ]
            refine Cu.takeH 3 (some 93) (.pointer (some ⟨gL, 0, none⟩)) rfl rfl (by kernel_rfl) (by kernel_rfl) (by kernel_rfl) (fun _ _ _ h => h) (by rfl) (fun w hw => by first | rfl | (go_simp; done) | (go_simp; rfl) | (go_simp; omega)) hHeld ?_
            simp only [Act.put, List.setIfInBounds_toArray, List.set_cons_zero, List.set_cons_succ]
            refine Cu.takeH 4 (some 94) (.slice ad0 m0 c0) rfl rfl (by kernel_rfl) (by kernel_rfl) (by kernel_rfl) (fun _ _ _ h => h) (by rfl) (fun w hw => by have c : w.cell? ⟨_, 0, none⟩ = some (.slice ad0 m0 c0) := (RND3.out.below (HBD.out.trans (hw.mono HBD.out.size))).2.2.arr.cell 0 (by omega); first | rfl | (go_simp; done) | (go_simp; rfl) | (go_simp; omega)) hHeld ?_
            simp only [Act.put, List.setIfInBounds_toArray, List.set_cons_zero, List.set_cons_succ]
            refine Cu.takeH 5 (some 95) (.slice ad1 q c1) rfl rfl (by kernel_rfl) (by kernel_rfl) (by kernel_rfl) (fun _ _ _ h => h) (by rfl) (fun w hw => by first | rfl | (go_simp; done) | (go_simp; rfl) | (go_simp; omega)) hHeld ?_
            simp only [Act.put, List.setIfInBounds_toArray, List.set_cons_zero, List.set_cons_succ]
            refine Cu.takeH 6 (some 96) (.agg (tabv u.v 36)) rfl rfl (by kernel_rfl) (by kernel_rfl) (by kernel_rfl) (fun _ _ _ h => h) (by rfl) (fun w hw => run_load_at w 25 _ rfl _ 0 (by rfl) _ 36 _ ((RND3.out.below (HBD.out.trans (hw.mono HBD.out.size))).1.at_ 0 (by omega) (fun i hi => by rw [Nat.zero_add])) Tryd.underlying25 rfl infoU) hHeld ?_
            simp only [Act.put, List.setIfInBounds_toArray, List.set_cons_zero, List.set_cons_succ]
            refine wpAnyH_ready (rs := [7]) (by kernel_rfl) (by simp) (AllReadyH.cons rfl (fun K hK => ?_) AllReadyH.nil)
            rw [if_pos (by rfl)]
            go_simp
            refine (CM.out _ (HBD.out.trans (hHeld.mono HBD.out.size))).mono ?_
            rintro e wE ⟨rfl, hbE⟩
            try go_wp2_with fail
            refine hK.out _ _ (hHeld.trans (hbE.mono hHeld.size)) (fun hH => ?_)
            clear hK K hHeld
            have hHeld := hH
            clear hH
            refine Cu.takeH 8 (some 98) (.bool false) rfl rfl (by kernel_rfl) (by kernel_rfl) (by kernel_rfl) (fun _ _ _ h => h) (by rfl) (fun w hw => by first | rfl | (go_simp; done) | (go_simp; rfl) | (go_simp; omega)) hHeld ?_
            simp only [Act.put, List.setIfInBounds_toArray, List.set_cons_zero, List.set_cons_succ]
            refine ⟨by kernel_rfl, ?_⟩
            refine NoPanic.normal ?_
            have rndE := RND3.out.below (HBD.out.trans (hHeld.mono HBD.out.size))
            have RNDE := hide rndE
            clear hHeld hbE HBD CM rndE
            have gsN := RNDE.out.2.2
            generalize hw3 : wE = w3 at gsN ⊢
            clear hw3 RNDE
            have hlen0 : l0.length = m0 := HM0.out
            have hlen1 : l1.length = m1 := HM1.out
            have hJJ := HJ.out
            have UU0 : Hid (∀ wx, Below w3.heap.size w3 wx → Upds wx ad0 l0) := fun wx hb => by
              obtain ⟨ad', c', e, hU, _⟩ := (gsN.below hb).o0.upds
              simp only [Value.slice.injEq] at e
              obtain ⟨rfl, _, _⟩ := e
              exact hU
            have UU1 : Hid (∀ wx, Below w3.heap.size w3 wx → Upds wx ad1 l1) := fun wx hb => by
              obtain ⟨ad', c', e, hU, _⟩ := (gsN.below hb).o1.upds
              simp only [Value.slice.injEq] at e
              obtain ⟨rfl, _, _⟩ := e
              exact hU
            have SA := hide (fun (wx : World) (hb : Below w3.heap.size w3 wx) => sound_any n ad0 ad1 (m0) (m1) c0 c1 l0 l1 hlen0 hlen1 (by omega) (by omega) wx (hG.up (gsN.below hb).bel (Nat.le_refl _)) (UU0.out wx hb) (UU1.out wx hb) gsN.s0 gsN.s1)
            have SB := hide (fun (wx : World) (hb : Below w3.heap.size w3 wx) => sound_any n ad1 ad0 (m1) (m0) c1 c0 l1 l0 hlen1 hlen0 (by omega) (by omega) wx (hG.up (gsN.below hb).bel (Nat.le_refl _)) (UU1.out wx hb) (UU0.out wx hb) gsN.s1 gsN.s0)
            have GSN := hide gsN
            have i0 : w3.cell? ⟨gL, 0, none⟩ = some (.slice ad0 (m0) c0) := gsN.arr.cell 0 (by omega)
            have i1 : w3.cell? ⟨gL, 1, none⟩ = some (.slice ad1 (m1) c1) := gsN.arr.cell 1 (by omega)
            have HL0 : Hid (l0.length ≤ j + 1) := by show _ ≤ _; omega
            have HL1 : Hid (l1.length ≤ j + 1) := by show _ ≤ _; omega
            have hjb : (j : Int) ≤ 80 := by omega
            clear gsN hlen0 hlen1 hJJ UU0 UU1
            go_wp2_with fail
            refine (SA.out _ (Below.refl _ _)).mono ?_
            rintro e w10 ⟨rfl, hb10⟩
            have i0' := (hb10.cell (p := ⟨gL, 0, none⟩) GSN.out.arr.lt).trans i0
            have i1' := (hb10.cell (p := ⟨gL, 1, none⟩) GSN.out.arr.lt).trans i1
            have HB10 := hide hb10
            clear i0 i1 hb10
            go_wp2_with fail
            refine (SB.out _ HB10.out).mono ?_
            rintro e w11 ⟨rfl, hb11⟩
            have HB11 := hide (HB10.out.trans (hb11.mono HB10.out.size))
            clear i0' i1' hb11 HB10
            go_wp2
            go_roundw
            case rel => exact ⟨j + 1, _, _, l0, l1, by have := HJ.out; omega, by have := HJ.out; omega, by go_num, HL0.out, HL1.out, GSN.out.below HB11.out⟩
            case measure => have := HJ.out; simp [intOf]; omega
        | true =>
          rw [htwo] at e0 f0
          go_upto_region 12 with (first | refine wpW_load_at 43 _ rfl b (o + j * 39) (by rfl) (by rfl) _ 39 _ HA.out Tryd.underlying43 rfl infoW ?_ | refine wpList_storeW rfl _ _ rfl rfl gW x rfl rfl _ Q1.out ?_ | refine wpW_load_at 25 _ rfl gW 1 (by rfl) (by rfl) _ 36 _ (by first | exact R7.out.at_u | (rw [hW7]; exact R7.out.at_u)) Tryd.underlying25 rfl infoU ?_ | refine wpList_storeU rfl _ _ rfl rfl gX x.u rfl rfl _ Q2.out ?_ | fail)
          try rw [hW9]
          clear hW6 hW7 hW8 hW9 Q1 Q2 R7 e0
          go_cut [37] from 13 to 122 (fun s37 wx => ∃ C : Bool, s37 = .bool C ∧ wx = w9)
          case first =>
            cases k1 : (x.u.kind == 1) with
            | false =>
              go_wp2_with fail
              go_meet
              exact ⟨_, rfl, rfl⟩
            | true =>
              go_wp2_with fail
              go_meet
              exact ⟨_, rfl, rfl⟩
          case rest =>
          obtain ⟨C, rfl, hwc⟩ := hcut
          obtain rfl := hwc.symm
          clear hwc
          go_upto_if 37 with fail
          go_cut [] from 13 to 122 (fun wx => ∃ u', Rnd w gL gW gX (.slice ad0 m0 c0) (.slice ad1 m1 c1) l0 l1 x u' wx)
          case first =>
            cases C with
            | false =>
              go_wp2_with fail
              go_meet
              exact ⟨_, RND9.out⟩
            | true =>
              go_wp2_with fail
              refine (pre_any true x.u.id _).mono ?_
              rintro e wp ⟨⟨ph, rfl⟩, hbp⟩
              have rp := RND9.out.below hbp
              go_wp2_with fail
              refine (lsum_any n ph _ (hG.up rp.2.2.bel (Nat.le_refl _))).mono ?_
              rintro e wq ⟨rfl, hbq⟩
              have rq := rp.below hbq
              have RQ := hide rq
              clear rp rq hbp hbq
              go_wp2_with (first | refine wpList_storeUH rfl _ _ rfl rfl gX x.u (sumU ph) rfl rfl RQ.out.1 ?_ | fail)
              go_meet
              exact ⟨_, RQ.out.hash (sumU ph) HLT.out.1 HLT.out.2.1 HLT.out.2.2.1 HLT.out.2.2.2⟩
          case rest =>
          obtain ⟨u1, rnd1⟩ := hcut
          clear f0 f38 fk fi RND9 hgW hgX C
          generalize hwc : wc = wA at rnd1 ⊢
          clear hwc
          have f0 : wA.cell? ⟨gW, 0, none⟩ = some (.bool true) := by rw [rnd1.2.1.cell 0 (by omega), show x.v 0 = .bool x.two from rfl, htwo]
          have f38 : wA.cell? ⟨gW, 38, none⟩ = some (.bool x.right) := rnd1.2.1.cell 38 (by omega)
          have fk : wA.cell? ⟨gX, 0, none⟩ = some (.int .i64 u1.kind) := rnd1.1.cell 0 (by omega)
          have fi : wA.cell? ⟨gX, 1, none⟩ = some (.int .i64 u1.id) := rnd1.1.cell 1 (by omega)
          have RND1 := hide rnd1
          clear rnd1
          go_upto_region 14 with fail
          go_cut [51] from 13 to 122 (fun s51 wx => ∃ C : Bool, s51 = .bool C ∧ wx = wA)
          case first =>
            cases k2 : (u1.kind == 2) with
            | false =>
              go_wp2_with fail
              go_meet
              exact ⟨_, rfl, rfl⟩
            | true =>
              go_wp2_with fail
              go_meet
              exact ⟨_, rfl, rfl⟩
          case rest =>
          obtain ⟨C, rfl, hwc⟩ := hcut
          obtain rfl := hwc.symm
          clear hwc
          go_upto_if 51 with fail
          go_cut [] from 13 to 122 (fun wx => ∃ u', Rnd w gL gW gX (.slice ad0 m0 c0) (.slice ad1 m1 c1) l0 l1 x u' wx)
          case first =>
            cases C with
            | false =>
              go_wp2_with fail
              go_meet
              exact ⟨_, RND1.out⟩
            | true =>
              go_wp2_with fail
              refine (pre_any false u1.id _).mono ?_
              rintro e wp ⟨⟨ph, rfl⟩, hbp⟩
              have rp := RND1.out.below hbp
              have RQ := hide rp
              clear rp hbp
              go_wp2_with (first | refine wpList_storeUH rfl _ _ rfl rfl gX u1 ph rfl rfl RQ.out.1 ?_ | fail)
              go_meet
              exact ⟨_, RQ.out.hash ph HLT.out.1 HLT.out.2.1 HLT.out.2.2.1 HLT.out.2.2.2⟩
          case rest =>
          obtain ⟨u, rnd2⟩ := hcut
          clear f0 f38 fk fi RND1 C
          generalize hwc : wc = wB at rnd2 ⊢
          clear hwc u1 htwo
          obtain ⟨R, hR⟩ : ∃ R, x.most.tmod ((m0 : Int) + 1) = R := ⟨_, rfl⟩
          have hrr := tmod_range x.most (m0 + 1) (by omega)
          rw [show ((m0 + 1 : Nat) : Int) = (m0 : Int) + 1 by omega, hR] at hrr
          have KR : ∀ w : World, (binOp .rem 3 (.int .i64 x.most) (.int .i64 ((m0 : Int) + 1))).run Tryd.prog w = .ok (.int .i64 R) w := fun w => run_rem 3 .i64 x.most _ R (by omega) hR w
          have HTM := hide hR
          have RND2 := hide rnd2
          have hmb : (m0 : Int) ≤ 80 := by have := HJ.out; omega
          clear KR hR rnd2
          go_wp2
          refine wp_region_noPanic ?_
          refine wp_region_held_drew (S := fun wx => Below wB.heap.size wB wx) (by kernel_rfl) ((Below.refl _ _).drew) (fun hHeld => ?_)
          refine Cu.takeH 0 (some 59) (.pointer (some ⟨gW, 37, none⟩)) rfl rfl (by kernel_rfl) (by kernel_rfl) (by kernel_rfl) (fun _ _ _ h => h) (by rfl) (fun w hw => by first | rfl | (go_simp; done) | (go_simp; rfl) | (go_simp; omega)) hHeld ?_
          simp only [Act.put, List.setIfInBounds_toArray, List.set_cons_zero, List.set_cons_succ]
          refine Cu.takeH 1 (some 60) (.int .i64 x.most) rfl rfl (by kernel_rfl) (by kernel_rfl) (by kernel_rfl) (fun _ _ _ h => h) (by rfl) (fun w hw => by have c : w.cell? ⟨_, 37, none⟩ = some (.int .i64 x.most) := (RND2.out.below hw).2.1.cell 37 (by omega); first | rfl | (go_simp; done) | (go_simp; rfl) | (go_simp; omega)) hHeld ?_
          simp only [Act.put, List.setIfInBounds_toArray, List.set_cons_zero, List.set_cons_succ]
          refine Cu.takeH 2 (some 61) (.int .i64 1) rfl rfl (by kernel_rfl) (by kernel_rfl) (by kernel_rfl) (fun _ _ _ h => h) (by rfl) (fun w hw => by first | rfl | (go_simp; done) | (go_simp; rfl) | (go_simp; omega)) hHeld ?_
          simp only [Act.put, List.setIfInBounds_toArray, List.set_cons_zero, List.set_cons_succ]
          refine Cu.takeH 3 (some 62) (.int .i64 0) rfl rfl (by kernel_rfl) (by kernel_rfl) (by kernel_rfl) (fun _ _ _ h => h) (by rfl) (fun w hw => by first | rfl | (go_simp; done) | (go_simp; rfl) | (go_simp; omega)) hHeld ?_
          simp only [Act.put, List.setIfInBounds_toArray, List.set_cons_zero, List.set_cons_succ]
          refine Cu.takeH 4 (some 63) (.pointer (some ⟨gL, 0, none⟩)) rfl rfl (by kernel_rfl) (by kernel_rfl) (by kernel_rfl) (fun _ _ _ h => h) (by rfl) (fun w hw => by first | rfl | (go_simp; done) | (go_simp; rfl) | (go_simp; omega)) hHeld ?_
          simp only [Act.put, List.setIfInBounds_toArray, List.set_cons_zero, List.set_cons_succ]
          refine Cu.takeH 5 (some 64) (.slice ad0 m0 c0) rfl rfl (by kernel_rfl) (by kernel_rfl) (by kernel_rfl) (fun _ _ _ h => h) (by rfl) (fun w hw => by have c : w.cell? ⟨_, 0, none⟩ = some (.slice ad0 m0 c0) := (RND2.out.below hw).2.2.arr.cell 0 (by omega); first | rfl | (go_simp; done) | (go_simp; rfl) | (go_simp; omega)) hHeld ?_
          simp only [Act.put, List.setIfInBounds_toArray, List.set_cons_zero, List.set_cons_succ]
          refine Cu.takeH 6 (some 65) (.int .i64 (m0 : Int)) rfl rfl (by kernel_rfl) (by kernel_rfl) (by kernel_rfl) (fun _ _ _ h => h) (by rfl) (fun w hw => by first | rfl | (go_simp; done) | (go_simp; rfl) | (go_simp; omega)) hHeld ?_
          simp only [Act.put, List.setIfInBounds_toArray, List.set_cons_zero, List.set_cons_succ]
          refine Cu.takeH 7 (some 66) (.int .i64 ((m0 : Int) + 1)) rfl rfl (by kernel_rfl) (by kernel_rfl) (by kernel_rfl) (fun _ _ _ h => h) (by rfl) (fun w hw => by have z3 : IntKind.i64.wrap ((m0 : Int) + 1) = (m0 : Int) + 1 := (by rw [IntKind.wrap_i64]; omega); first | rfl | (go_simp; done) | (go_simp; rfl)) hHeld ?_
          simp only [Act.put, List.setIfInBounds_toArray, List.set_cons_zero, List.set_cons_succ]
          refine Cu.takeH 8 (some 67) (.int .i64 R) rfl rfl (by kernel_rfl) (by kernel_rfl) (by kernel_rfl) (fun _ _ _ h => h) (by rfl) (fun w hw => by have hne : ¬((m0 : Int) + 1 = 0) := (by omega); have hr := HTM.out; go_simp; first | done | (rw [if_neg hne, hr])) hHeld ?_
          simp only [Act.put, List.setIfInBounds_toArray, List.set_cons_zero, List.set_cons_succ]
          refine Cu.takeH 9 (some 8) (.int .i64 R) rfl rfl (by kernel_rfl) (by kernel_rfl) (by kernel_rfl) (fun _ _ _ h => h) (by rfl) (fun w hw => by first | rfl | (go_simp; done) | (go_simp; rfl) | (go_simp; omega)) hHeld ?_
          simp only [Act.put, List.setIfInBounds_toArray, List.set_cons_zero, List.set_cons_succ]
          refine ⟨by kernel_rfl, ?_⟩
          refine NoPanic.normal ?_
          generalize hwC : World.drew wB = wC at hHeld ⊢
          have rnd3 := RND2.out.below hHeld
          have RND3 := hide rnd3
          clear hwC hHeld RND2 rnd3
          go_upto_if 69 with fail
          go_cut [8] from 13 to 122 (fun s8 wx => (∃ q : Nat, q ≤ m0 ∧ s8 = .int .i64 (q : Int)) ∧ wx = wC)
          case first =>
            by_cases hneg : R < 0
            · have hdn : decide (R < 0) = true := decide_eq_true hneg
              obtain ⟨k, hk⟩ : ∃ k : Nat, -R = (k : Int) := Int.eq_ofNat_of_zero_le (by omega)
              have KN : Hid (∀ w : World, (Op.unary .neg (.int .i64 R)).run Tryd.prog w = .ok (.int .i64 (k : Int)) w) := fun w => run_neg .i64 R k (by rw [IntKind.wrap_i64]; omega) w
              have hkM : k ≤ m0 := by omega
              clear hneg hk hrr
              rw [hdn]
              go_wp2_with (first | refine wpW_un .neg _ _ rfl (.int .i64 R) (.int .i64 (k : Int)) (by rfl) (by rfl) (KN.out _) ?_ | fail)
              go_meet
              exact ⟨⟨k, hkM, rfl⟩, rfl⟩
            · have hdn : decide (R < 0) = false := decide_eq_false hneg
              obtain ⟨k, rfl⟩ : ∃ k : Nat, R = (k : Int) := Int.eq_ofNat_of_zero_le (by omega)
              rw [hdn]
              go_wp2_with fail
              go_meet
              exact ⟨⟨k, by omega, rfl⟩, rfl⟩
          case rest =>
          obtain ⟨⟨q, hq, rfl⟩, hwc⟩ := hcut
          obtain rfl := hwc.symm
          clear hwc hrr HTM
          have hq0 : (0 : Int) ≤ (q : Int) := by omega
          have hq1 : (q : Int) ≤ (c0 : Int) := by have := HC.out; omega
          have fo : wC.cell? ⟨gL, 0, none⟩ = some (.slice ad0 m0 c0) := RND3.out.2.2.arr.cell 0 (by omega)
          go_wp2
          have UM : Hid (∀ wx, Below wC.heap.size wC wx → Upds wx ad1 l1) := fun wx hb => by
            obtain ⟨ad', c', e, hU, _⟩ := (RND3.out.below hb).2.2.o1.upds
            cases e
            exact hU
          have UQ : Hid (∀ wx, Below wC.heap.size wC wx → Upds wx ad0 (l0.take q)) := fun wx hb => by
            obtain ⟨ad', c', e, hU, _⟩ := (RND3.out.below hb).2.2.o0.upds
            cases e
            rcases hU with h | ⟨b, o, h1, h2, h3⟩
            · rw [h]; exact .inl (List.take_nil)
            · exact .inr ⟨b, o, h1, h2, fun i s hs => h3 i s (by
                have hi : i < q := by
                  rcases Nat.lt_or_ge i q with h | h
                  · exact h
                  · rw [List.getElem?_eq_none (by rw [List.length_take]; omega)] at hs; cases hs
                rw [List.getElem?_take_of_lt hi] at hs; exact hs)⟩
          have hlq : (l0.take q).length = q := by rw [List.length_take]; have := HM0.out; omega
          have hql : q ≤ 80 := by have := HJ.out; omega
          have hml : m1 ≤ 80 := by have := HJ.out; omega
          have CN := hide (fun (wx : World) (hb : Below wC.heap.size wC wx) => next_any n ad1 ad0 m1 q c1 c0 l1 (l0.take q) HM1.out hlq (by omega) (by omega) u wx (hG.up (RND3.out.2.2.bel.trans (hb.mono RND3.out.2.2.bel.size)) (Nat.le_refl _)) (UM.out wx hb) (UQ.out wx hb))
          have CM := hide (fun (wx : World) (hb : Below wC.heap.size wC wx) => may_any n ad1 ad0 m1 q c1 c0 l1 (l0.take q) HM1.out hlq (by omega) (by omega) u wx (hG.up (RND3.out.2.2.bel.trans (hb.mono RND3.out.2.2.bel.size)) (Nat.le_refl _)) (UM.out wx hb) (UQ.out wx hb))
          have hlt48 : l1.length < 2048 := by have := HM1.out; omega
          have hcodes := next_codes (others := l0.take q) (u := u) hlt48
          have hmay := may_eq (others := l0.take q) RND3.out.2.2.s1 hlt48 u
          obtain ⟨X, hX⟩ : ∃ X, nextA l1 (l0.take q) u = X := ⟨_, rfl⟩
          have HX := hide hX
          rw [hX] at CN hcodes hmay
          rw [← hmay] at CM
          have HLT48 := hide hlt48
          clear fo hX hmay hlq hql hml hlt48 UQ
          refine wp_region_noPanic ?_
          refine wp_region_held_drew (S := fun wx => Below wC.heap.size wC wx) (by kernel_rfl) ((Below.refl _ _).drew) (fun hHeld => ?_)
          refine Cu.takeH 0 (some 78) (.int .i64 1) rfl rfl (by kernel_rfl) (by kernel_rfl) (by kernel_rfl) (fun _ _ _ h => h) (by rfl) (fun w hw => by first | rfl | (go_simp; done) | (go_simp; rfl) | (go_simp; omega)) hHeld ?_
          simp only [Act.put, List.setIfInBounds_toArray, List.set_cons_zero, List.set_cons_succ]
          refine Cu.takeH 1 (some 79) (.pointer (some ⟨gL, 1, none⟩)) rfl rfl (by kernel_rfl) (by kernel_rfl) (by kernel_rfl) (fun _ _ _ h => h) (by rfl) (fun w hw => by first | rfl | (go_simp; done) | (go_simp; rfl) | (go_simp; omega)) hHeld ?_
          simp only [Act.put, List.setIfInBounds_toArray, List.set_cons_zero, List.set_cons_succ]
          refine Cu.takeH 2 (some 80) (.slice ad1 m1 c1) rfl rfl (by kernel_rfl) (by kernel_rfl) (by kernel_rfl) (fun _ _ _ h => h) (by rfl) (fun w hw => by have c : w.cell? ⟨_, 1, none⟩ = some (.slice ad1 m1 c1) := (RND3.out.below hw).2.2.arr.cell 1 (by omega); first | rfl | (go_simp; done) | (go_simp; rfl) | (go_simp; omega)) hHeld ?_
          simp only [Act.put, List.setIfInBounds_toArray, List.set_cons_zero, List.set_cons_succ]
          refine Cu.takeH 3 (some 81) (.slice ad0 q c0) rfl rfl (by kernel_rfl) (by kernel_rfl) (by kernel_rfl) (fun _ _ _ h => h) (by rfl) (fun w hw => by first | rfl | (go_simp; done) | (go_simp; rfl) | (go_simp; omega)) hHeld ?_
          simp only [Act.put, List.setIfInBounds_toArray, List.set_cons_zero, List.set_cons_succ]
          refine Cu.takeH 4 (some 82) (.agg (tabv u.v 36)) rfl rfl (by kernel_rfl) (by kernel_rfl) (by kernel_rfl) (fun _ _ _ h => h) (by rfl) (fun w hw => run_load_at w 25 _ rfl _ 0 (by rfl) _ 36 _ ((RND3.out.below hw).1.at_ 0 (by omega) (fun i hi => by rw [Nat.zero_add])) Tryd.underlying25 rfl infoU) hHeld ?_
          simp only [Act.put, List.setIfInBounds_toArray, List.set_cons_zero, List.set_cons_succ]
          refine wpAnyH_ready (rs := [5]) (by kernel_rfl) (by simp) (AllReadyH.cons rfl (fun K hK => ?_) AllReadyH.nil)
          rw [if_pos (by rfl)]
          go_simp
          refine (CN.out _ hHeld).mono ?_
          rintro e wD ⟨rfl, hbD⟩
          try go_wp2_with fail
          refine hK.out _ _ (hHeld.trans (hbD.mono hHeld.size)) (fun hH => ?_)
          clear hK K hHeld
          have hHeld := hH
          clear hH
          refine Cu.takeH 6 (some 10) (.int .i64 X) rfl rfl (by kernel_rfl) (by kernel_rfl) (by kernel_rfl) (fun _ _ _ h => h) (by rfl) (fun w hw => by first | rfl | (go_simp; done) | (go_simp; rfl) | (go_simp; omega)) hHeld ?_
          simp only [Act.put, List.setIfInBounds_toArray, List.set_cons_zero, List.set_cons_succ]
          refine ⟨by kernel_rfl, ?_⟩
          refine NoPanic.normal ?_
          have bD := hHeld
          have HBD := hide bD
          clear hHeld hbD bD CN
          rcases hcodes with h0 | h120
          · subst h0
            go_wp2
            refine wp_region_noPanic ?_
            refine wp_region_held_drew (S := fun wx => Below wD.heap.size wD wx) (by kernel_rfl) ((Below.refl _ _).drew) (fun hHeld => ?_)
            refine Cu.takeH 0 (some 90) (.int .i64 0) rfl rfl (by kernel_rfl) (by kernel_rfl) (by kernel_rfl) (fun _ _ _ h => h) (by rfl) (fun w hw => by first | rfl | (go_simp; done) | (go_simp; rfl) | (go_simp; omega)) hHeld ?_
            simp only [Act.put, List.setIfInBounds_toArray, List.set_cons_zero, List.set_cons_succ]
            refine Cu.takeH 1 (some 91) (.bool true) rfl rfl (by kernel_rfl) (by kernel_rfl) (by kernel_rfl) (fun _ _ _ h => h) (by rfl) (fun w hw => by first | rfl | (go_simp; done) | (go_simp; rfl) | (go_simp; omega)) hHeld ?_
            simp only [Act.put, List.setIfInBounds_toArray, List.set_cons_zero, List.set_cons_succ]
            refine Cu.takeH 2 (some 92) (.int .i64 1) rfl rfl (by kernel_rfl) (by kernel_rfl) (by kernel_rfl) (fun _ _ _ h => h) (by rfl) (fun w hw => by first | rfl | (go_simp; done) | (go_simp; rfl) | (go_simp; omega)) hHeld ?_
            simp only [Act.put, List.setIfInBounds_toArray, List.set_cons_zero, List.set_cons_succ]
            refine Cu.takeH 3 (some 93) (.pointer (some ⟨gL, 1, none⟩)) rfl rfl (by kernel_rfl) (by kernel_rfl) (by kernel_rfl) (fun _ _ _ h => h) (by rfl) (fun w hw => by first | rfl | (go_simp; done) | (go_simp; rfl) | (go_simp; omega)) hHeld ?_
            simp only [Act.put, List.setIfInBounds_toArray, List.set_cons_zero, List.set_cons_succ]
            refine Cu.takeH 4 (some 94) (.slice ad1 m1 c1) rfl rfl (by kernel_rfl) (by kernel_rfl) (by kernel_rfl) (fun _ _ _ h => h) (by rfl) (fun w hw => by have c : w.cell? ⟨_, 1, none⟩ = some (.slice ad1 m1 c1) := (RND3.out.below (HBD.out.trans (hw.mono HBD.out.size))).2.2.arr.cell 1 (by omega); first | rfl | (go_simp; done) | (go_simp; rfl) | (go_simp; omega)) hHeld ?_
            simp only [Act.put, List.setIfInBounds_toArray, List.set_cons_zero, List.set_cons_succ]
            refine Cu.takeH 5 (some 95) (.slice ad0 q c0) rfl rfl (by kernel_rfl) (by kernel_rfl) (by kernel_rfl) (fun _ _ _ h => h) (by rfl) (fun w hw => by first | rfl | (go_simp; done) | (go_simp; rfl) | (go_simp; omega)) hHeld ?_
            simp only [Act.put, List.setIfInBounds_toArray, List.set_cons_zero, List.set_cons_succ]
            refine Cu.takeH 6 (some 96) (.agg (tabv u.v 36)) rfl rfl (by kernel_rfl) (by kernel_rfl) (by kernel_rfl) (fun _ _ _ h => h) (by rfl) (fun w hw => run_load_at w 25 _ rfl _ 0 (by rfl) _ 36 _ ((RND3.out.below (HBD.out.trans (hw.mono HBD.out.size))).1.at_ 0 (by omega) (fun i hi => by rw [Nat.zero_add])) Tryd.underlying25 rfl infoU) hHeld ?_
            simp only [Act.put, List.setIfInBounds_toArray, List.set_cons_zero, List.set_cons_succ]
            refine wpAnyH_ready (rs := [7]) (by kernel_rfl) (by simp) (AllReadyH.cons rfl (fun K hK => ?_) AllReadyH.nil)
            rw [if_pos (by rfl)]
            go_simp
            refine (CM.out _ (HBD.out.trans (hHeld.mono HBD.out.size))).mono ?_
            rintro e wE ⟨rfl, hbE⟩
            try go_wp2_with fail
            refine hK.out _ _ (hHeld.trans (hbE.mono hHeld.size)) (fun hH => ?_)
            clear hK K hHeld
            have hHeld := hH
            clear hH
            refine Cu.takeH 8 (some 98) (.bool false) rfl rfl (by kernel_rfl) (by kernel_rfl) (by kernel_rfl) (fun _ _ _ h => h) (by rfl) (fun w hw => by first | rfl | (go_simp; done) | (go_simp; rfl) | (go_simp; omega)) hHeld ?_
            simp only [Act.put, List.setIfInBounds_toArray, List.set_cons_zero, List.set_cons_succ]
            refine ⟨by kernel_rfl, ?_⟩
            refine NoPanic.normal ?_
            have rndE := RND3.out.below (HBD.out.trans (hHeld.mono HBD.out.size))
            have RNDE := hide rndE
            clear hHeld hbE HBD CM rndE
            obtain ⟨hvu, hfu⟩ := next_zero HLT48.out HX.out
            have hsn := sound_next (mine := l1) (others := l0) (n := q) RNDE.out.2.2.s1 hvu hfu
            have hsq : Sound l0 (l1 ++ [u]) := RNDE.out.2.2.s0.others
            obtain ⟨g, cp, w2, hr2, ho2, hgr, hg⟩ := run_appL wE.drew (gL + 1) (.slice ad1 m1 c1) l1 u 38 RNDE.out.2.2.o1 (by have := HM1.out; have := HJ.out; omega) (by show gL + 1 ≤ wE.heap.size; exact RNDE.out.2.2.arr.lt)
            rw [HM1.out] at hr2 ho2
            have HR2 := hide hr2
            have HO2 := hide ho2
            have HGR := hide hgr
            have HGG := hide hg
            have HSN := hide hsn
            have HSQ := hide hsq
            clear hvu hfu hsn hsq hr2 ho2 hgr hg
            go_wp2
            refine wp_region_noPanic ?_
            refine wp_region_T (S := fun wx => Has wx gX 25 u.v 36 ∧ Has wx gL 41 (pairV (.slice ad0 m0 c0) (.slice ad1 m1 c1)) 2) 8 (by kernel_rfl) (⟨RNDE.out.1, RNDE.out.2.2.arr⟩) (fun hHeld => ?_)
            refine takeT 0 (some 101) (.int .i64 1) rfl rfl (by kernel_rfl) (by kernel_rfl) (by kernel_rfl) (by kernel_rfl) (by decide) (fun _ _ _ h => h) (by rfl) (fun w hw => by first | rfl | (go_simp; done) | (go_simp; rfl)) hHeld ?_
            simp only [Act.put, List.setIfInBounds_toArray, List.set_cons_zero, List.set_cons_succ]
            refine takeT 1 (some 102) (.int .i64 1) rfl rfl (by kernel_rfl) (by kernel_rfl) (by kernel_rfl) (by kernel_rfl) (by decide) (fun _ _ _ h => h) (by rfl) (fun w hw => by first | rfl | (go_simp; done) | (go_simp; rfl)) hHeld ?_
            simp only [Act.put, List.setIfInBounds_toArray, List.set_cons_zero, List.set_cons_succ]
            refine takeT 2 (some 103) (.pointer (some ⟨gL, 1, none⟩)) rfl rfl (by kernel_rfl) (by kernel_rfl) (by kernel_rfl) (by kernel_rfl) (by decide) (fun _ _ _ h => h) (by rfl) (fun w hw => by first | rfl | (go_simp; done) | (go_simp; rfl)) hHeld ?_
            simp only [Act.put, List.setIfInBounds_toArray, List.set_cons_zero, List.set_cons_succ]
            refine takeT 3 (some 104) (.slice ad1 m1 c1) rfl rfl (by kernel_rfl) (by kernel_rfl) (by kernel_rfl) (by kernel_rfl) (by decide) (fun _ _ _ h => h) (by rfl) (fun w hw => by have c : w.cell? ⟨gL, 1, none⟩ = some (.slice ad1 m1 c1) := hw.2.cell 1 (by omega); first | rfl | (go_simp; done) | (go_simp; rfl)) hHeld ?_
            simp only [Act.put, List.setIfInBounds_toArray, List.set_cons_zero, List.set_cons_succ]
            refine takeT 4 (some 105) (.agg (tabv u.v 36)) rfl rfl (by kernel_rfl) (by kernel_rfl) (by kernel_rfl) (by kernel_rfl) (by decide) (fun _ _ _ h => h) (by rfl) (fun w hw => run_load_at w 25 _ rfl _ 0 (by rfl) _ 36 _ (hw.1.at_ 0 (by omega) (fun i hi => by rw [Nat.zero_add])) Tryd.underlying25 rfl infoU) hHeld ?_
            simp only [Act.put, List.setIfInBounds_toArray, List.set_cons_zero, List.set_cons_succ]
            refine readyT 5 (by kernel_rfl) rfl (by rfl) (fun K hK => ?_)
            refine wpRun (v := .slice (some ⟨wE.drew.heap.size, 0, none⟩) 1 1) (w' := wE.drew.alloc (.cells (tabv u.v 36) 25)) (by have := run_sliceU wE.drew u; simp [execOp, this, Act.eval, Result.andThen]) ?_
            simp only [Act.put, List.setIfInBounds_toArray, List.set_cons_zero, List.set_cons_succ]
            refine hK.out _ _ (fun _ => ⟨hHeld.1.old _, hHeld.2.old _⟩) (fun hH => ?_)
            clear hHeld
            have hHeld := hH (by decide)
            clear hK K hH
            have hnb : ∀ k, (Value.slice ad1 m1 c1).ownBlock = some k → gL < k ∧ k ≠ gX := fun k hk => by
              have h1 := (RNDE.out.2.2.o1.lt k hk).1
              have h2 := HLT.out.2.2.2 k hk
              exact ⟨by omega, by omega⟩
            refine readyT 6 (by kernel_rfl) rfl (by rfl) (fun K hK => ?_)
            refine wpRunS _ _ _ rfl (.slice (some ⟨g, 0, none⟩) (m1 + 1) cp) HR2.out ?_
            simp only [Act.put, List.setIfInBounds_toArray, List.set_cons_zero, List.set_cons_succ]
            have x2 : Has w2 gX 25 u.v 36 := by
              unfold Has; rw [HGR.out.block gX hHeld.1.lt (fun e => (hnb gX e.symm).2 rfl)]; exact hHeld.1
            have y2 : Has w2 gL 41 (pairV (.slice ad0 m0 c0) (.slice ad1 m1 c1)) 2 := by
              unfold Has; rw [HGR.out.block gL hHeld.2.lt (fun e => by have := (hnb gL e.symm).1; omega)]; exact hHeld.2
            refine hK.out _ _ (fun _ => ⟨x2, y2⟩) (fun hH => ?_)
            clear hHeld
            have hHeld := hH (by decide)
            clear hK K hH
            refine takeT 7 (some 108) (.pointer (some ⟨gL, 1, none⟩)) rfl rfl (by kernel_rfl) (by kernel_rfl) (by kernel_rfl) (by kernel_rfl) (by decide) (fun _ _ _ h => h) (by rfl) (fun w hw => by first | rfl | (go_simp; done) | (go_simp; rfl)) hHeld ?_
            simp only [Act.put, List.setIfInBounds_toArray, List.set_cons_zero, List.set_cons_succ]
            have cg : w2.cell? ⟨gL, 1, none⟩ = some (.slice ad1 m1 c1) := y2.cell 1 (by omega)
            have fg := y2.frozen 1
            have gsE : GS w gL wE.drew (.slice ad0 m0 c0) (.slice ad1 m1 c1) l0 l1 := RNDE.out.2.2.below ((Below.refl _ _).drew)
            have gsN := gsE.app1 HO2.out HGR.out HGG.out y2 HSN.out HSQ.out
            have GSN := hide gsN
            refine readyT 8 (by kernel_rfl) rfl (by rfl) (fun K hK => ?_)
            go_simp
            refine hK.out _ _ (fun x => absurd rfl x) (fun _ => ?_)
            clear hK K
            refine ⟨by kernel_rfl, ?_⟩
            refine NoPanic.normal ?_
            generalize hw3 : World.setCell w2 ⟨gL, 1, none⟩ (.slice (some ⟨g, 0, none⟩) (m1 + 1) cp) = w3 at gsN ⊢
            clear hw3 GSN cg fg x2 y2 hnb gsE HR2 HO2 HGR HGG HSN HSQ RNDE
            have hlen0 : l0.length = m0 := HM0.out
            have hlen1 : (l1 ++ [u]).length = m1 + 1 := by rw [List.length_append, HM1.out]; rfl
            have hJJ := HJ.out
            have UU0 : Hid (∀ wx, Below w3.heap.size w3 wx → Upds wx ad0 l0) := fun wx hb => by
              obtain ⟨ad', c', e, hU, _⟩ := (gsN.below hb).o0.upds
              simp only [Value.slice.injEq] at e
              obtain ⟨rfl, _, _⟩ := e
              exact hU
            have UU1 : Hid (∀ wx, Below w3.heap.size w3 wx → Upds wx (some ⟨g, 0, none⟩) (l1 ++ [u])) := fun wx hb => by
              obtain ⟨ad', c', e, hU, _⟩ := (gsN.below hb).o1.upds
              simp only [Value.slice.injEq] at e
              obtain ⟨rfl, _, _⟩ := e
              exact hU
            have SA := hide (fun (wx : World) (hb : Below w3.heap.size w3 wx) => sound_any n ad0 (some ⟨g, 0, none⟩) (m0) (m1 + 1) c0 cp l0 (l1 ++ [u]) hlen0 hlen1 (by omega) (by omega) wx (hG.up (gsN.below hb).bel (Nat.le_refl _)) (UU0.out wx hb) (UU1.out wx hb) gsN.s0 gsN.s1)
            have SB := hide (fun (wx : World) (hb : Below w3.heap.size w3 wx) => sound_any n (some ⟨g, 0, none⟩) ad0 (m1 + 1) (m0) cp c0 (l1 ++ [u]) l0 hlen1 hlen0 (by omega) (by omega) wx (hG.up (gsN.below hb).bel (Nat.le_refl _)) (UU1.out wx hb) (UU0.out wx hb) gsN.s1 gsN.s0)
            have GSN := hide gsN
            have i0 : w3.cell? ⟨gL, 0, none⟩ = some (.slice ad0 (m0) c0) := gsN.arr.cell 0 (by omega)
            have i1 : w3.cell? ⟨gL, 1, none⟩ = some (.slice (some ⟨g, 0, none⟩) (m1 + 1) cp) := gsN.arr.cell 1 (by omega)
            have HL0 : Hid (l0.length ≤ j + 1) := by show _ ≤ _; omega
            have HL1 : Hid ((l1 ++ [u]).length ≤ j + 1) := by show _ ≤ _; omega
            have hjb : (j : Int) ≤ 80 := by omega
            clear gsN hlen0 hlen1 hJJ UU0 UU1
            go_wp2_with fail
            refine (SA.out _ (Below.refl _ _)).mono ?_
            rintro e w10 ⟨rfl, hb10⟩
            have i0' := (hb10.cell (p := ⟨gL, 0, none⟩) GSN.out.arr.lt).trans i0
            have i1' := (hb10.cell (p := ⟨gL, 1, none⟩) GSN.out.arr.lt).trans i1
            have HB10 := hide hb10
            clear i0 i1 hb10
            go_wp2_with fail
            refine (SB.out _ HB10.out).mono ?_
            rintro e w11 ⟨rfl, hb11⟩
            have HB11 := hide (HB10.out.trans (hb11.mono HB10.out.size))
            clear i0' i1' hb11 HB10
            go_wp2
            go_roundw
            case rel => exact ⟨j + 1, _, _, l0, (l1 ++ [u]), by have := HJ.out; omega, by have := HJ.out; omega, by go_num, HL0.out, HL1.out, GSN.out.below HB11.out⟩
            case measure => have := HJ.out; simp [intOf]; omega
          · subst h120
            go_wp2
            refine wp_region_noPanic ?_
            refine wp_region_held_drew (S := fun wx => Below wD.heap.size wD wx) (by kernel_rfl) ((Below.refl _ _).drew) (fun hHeld => ?_)
            refine Cu.takeH 0 (some 90) (.int .i64 120) rfl rfl (by kernel_rfl) (by kernel_rfl) (by kernel_rfl) (fun _ _ _ h => h) (by rfl) (fun w hw => by first | rfl | (go_simp; done) | (go_simp; rfl) | (go_simp; omega)) hHeld ?_
            simp only [Act.put, List.setIfInBounds_toArray, List.set_cons_zero, List.set_cons_succ]
            refine Cu.takeH 1 (some 91) (.bool false) rfl rfl (by kernel_rfl) (by kernel_rfl) (by kernel_rfl) (fun _ _ _ h => h) (by rfl) (fun w hw => by first | rfl | (go_simp; done) | (go_simp; rfl) | (go_simp; omega)) hHeld ?_
            simp only [Act.put, List.setIfInBounds_toArray, List.set_cons_zero, List.set_cons_succ]
            refine Cu.takeH 2 (some 92) (.int .i64 1) rfl rfl (by kernel_rfl) (by kernel_rfl) (by kernel_rfl) (fun _ _ _ h => h) (by rfl) (fun w hw => by first | rfl | (go_simp; done) | (go_simp; rfl) | (go_simp; omega)) hHeld ?_
            simp only [Act.put, List.setIfInBounds_toArray, List.set_cons_zero, List.set_cons_succ]
            refine Cu.takeH 3 (some 93) (.pointer (some ⟨gL, 1, none⟩)) rfl rfl (by kernel_rfl) (by kernel_rfl) (by kernel_rfl) (fun _ _ _ h => h) (by rfl) (fun w hw => by first | rfl | (go_simp; done) | (go_simp; rfl) | (go_simp; omega)) hHeld ?_
            simp only [Act.put, List.setIfInBounds_toArray, List.set_cons_zero, List.set_cons_succ]
            refine Cu.takeH 4 (some 94) (.slice ad1 m1 c1) rfl rfl (by kernel_rfl) (by kernel_rfl) (by kernel_rfl) (fun _ _ _ h => h) (by rfl) (fun w hw => by have c : w.cell? ⟨_, 1, none⟩ = some (.slice ad1 m1 c1) := (RND3.out.below (HBD.out.trans (hw.mono HBD.out.size))).2.2.arr.cell 1 (by omega); first | rfl | (go_simp; done) | (go_simp; rfl) | (go_simp; omega)) hHeld ?_
            simp only [Act.put, List.setIfInBounds_toArray, List.set_cons_zero, List.set_cons_succ]
            refine Cu.takeH 5 (some 95) (.slice ad0 q c0) rfl rfl (by kernel_rfl) (by kernel_rfl) (by kernel_rfl) (fun _ _ _ h => h) (by rfl) (fun w hw => by first | rfl | (go_simp; done) | (go_simp; rfl) | (go_simp; omega)) hHeld ?_
            simp only [Act.put, List.setIfInBounds_toArray, List.set_cons_zero, List.set_cons_succ]
            refine Cu.takeH 6 (some 96) (.agg (tabv u.v 36)) rfl rfl (by kernel_rfl) (by kernel_rfl) (by kernel_rfl) (fun _ _ _ h => h) (by rfl) (fun w hw => run_load_at w 25 _ rfl _ 0 (by rfl) _ 36 _ ((RND3.out.below (HBD.out.trans (hw.mono HBD.out.size))).1.at_ 0 (by omega) (fun i hi => by rw [Nat.zero_add])) Tryd.underlying25 rfl infoU) hHeld ?_
            simp only [Act.put, List.setIfInBounds_toArray, List.set_cons_zero, List.set_cons_succ]
            refine wpAnyH_ready (rs := [7]) (by kernel_rfl) (by simp) (AllReadyH.cons rfl (fun K hK => ?_) AllReadyH.nil)
            rw [if_pos (by rfl)]
            go_simp
            refine (CM.out _ (HBD.out.trans (hHeld.mono HBD.out.size))).mono ?_
            rintro e wE ⟨rfl, hbE⟩
            try go_wp2_with fail
            refine hK.out _ _ (hHeld.trans (hbE.mono hHeld.size)) (fun hH => ?_)
            clear hK K hHeld
            have hHeld := hH
            clear hH
            refine Cu.takeH 8 (some 98) (.bool false) rfl rfl (by kernel_rfl) (by kernel_rfl) (by kernel_rfl) (fun _ _ _ h => h) (by rfl) (fun w hw => by first | rfl | (go_simp; done) | (go_simp; rfl) | (go_simp; omega)) hHeld ?_
            simp only [Act.put, List.setIfInBounds_toArray, List.set_cons_zero, List.set_cons_succ]
            refine ⟨by kernel_rfl, ?_⟩
            refine NoPanic.normal ?_
            have rndE := RND3.out.below (HBD.out.trans (hHeld.mono HBD.out.size))
            have RNDE := hide rndE
            clear hHeld hbE HBD CM rndE
            have gsN := RNDE.out.2.2
            generalize hw3 : wE = w3 at gsN ⊢
            clear hw3 RNDE
            have hlen0 : l0.length = m0 := HM0.out
            have hlen1 : l1.length = m1 := HM1.out
            have hJJ := HJ.out
            have UU0 : Hid (∀ wx, Below w3.heap.size w3 wx → Upds wx ad0 l0) := fun wx hb => by
              obtain ⟨ad', c', e, hU, _⟩ := (gsN.below hb).o0.upds
              simp only [Value.slice.injEq] at e
              obtain ⟨rfl, _, _⟩ := e
              exact hU
            have UU1 : Hid (∀ wx, Below w3.heap.size w3 wx → Upds wx ad1 l1) := fun wx hb => by
              obtain ⟨ad', c', e, hU, _⟩ := (gsN.below hb).o1.upds
              simp only [Value.slice.injEq] at e
              obtain ⟨rfl, _, _⟩ := e
              exact hU
            have SA := hide (fun (wx : World) (hb : Below w3.heap.size w3 wx) => sound_any n ad0 ad1 (m0) (m1) c0 c1 l0 l1 hlen0 hlen1 (by omega) (by omega) wx (hG.up (gsN.below hb).bel (Nat.le_refl _)) (UU0.out wx hb) (UU1.out wx hb) gsN.s0 gsN.s1)
            have SB := hide (fun (wx : World) (hb : Below w3.heap.size w3 wx) => sound_any n ad1 ad0 (m1) (m0) c1 c0 l1 l0 hlen1 hlen0 (by omega) (by omega) wx (hG.up (gsN.below hb).bel (Nat.le_refl _)) (UU1.out wx hb) (UU0.out wx hb) gsN.s1 gsN.s0)
            have GSN := hide gsN
            have i0 : w3.cell? ⟨gL, 0, none⟩ = some (.slice ad0 (m0) c0) := gsN.arr.cell 0 (by omega)
            have i1 : w3.cell? ⟨gL, 1, none⟩ = some (.slice ad1 (m1) c1) := gsN.arr.cell 1 (by omega)
            have HL0 : Hid (l0.length ≤ j + 1) := by show _ ≤ _; omega
            have HL1 : Hid (l1.length ≤ j + 1) := by show _ ≤ _; omega
            have hjb : (j : Int) ≤ 80 := by omega
            clear gsN hlen0 hlen1 hJJ UU0 UU1
            go_wp2_with fail
            refine (SA.out _ (Below.refl _ _)).mono ?_
            rintro e w10 ⟨rfl, hb10⟩
            have i0' := (hb10.cell (p := ⟨gL, 0, none⟩) GSN.out.arr.lt).trans i0
            have i1' := (hb10.cell (p := ⟨gL, 1, none⟩) GSN.out.arr.lt).trans i1
            have HB10 := hide hb10
            clear i0 i1 hb10
            go_wp2_with fail
            refine (SB.out _ HB10.out).mono ?_
            rintro e w11 ⟨rfl, hb11⟩
            have HB11 := hide (HB10.out.trans (hb11.mono HB10.out.size))
            clear i0' i1' hb11 HB10
            go_wp2
            go_roundw
            case rel => exact ⟨j + 1, _, _, l0, l1, by have := HJ.out; omega, by have := HJ.out; omega, by go_num, HL0.out, HL1.out, GSN.out.below HB11.out⟩
            case measure => have := HJ.out; simp [intOf]; omega
      · have hj8 : j = 80 := by omega
        subst hj8
        have hd80 : decide (((80 : Nat) : Int) < 80) = false := by decide
        rw [show ((80 : Nat) : Int) = 80 from rfl] at *
        go_wp2
        go_ret
        exact ⟨rfl, gs.bel⟩
    · have hjn : j = len := by omega
      subst hjn
      have hd : decide ((j : Int) < (j : Int)) = false := decide_eq_false (by omega)
      have hd2 : decide (j < j) = false := decide_eq_false (by omega)
      go_wp2
      go_ret
      exact ⟨rfl, gs.bel⟩
end Go.Proofs.YtagopbdoabhjfaaDoor
