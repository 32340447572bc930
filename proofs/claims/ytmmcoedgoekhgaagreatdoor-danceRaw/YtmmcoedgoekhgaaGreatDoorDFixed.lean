/-
  fixed of the statements (printed by gen_d21.py).
-/
import Derived.Test.YtmmcoedgoekhgaaGreatDoorDCfg
import Derived.Test.YtmmcoedgoekhgaaGreatDoorDEq
import Derived.Test.YtmmcoedgoekhgaaGreatDoorDCame
import Derived.Test.YtmmcoedgoekhgaaGreatDoorDOwText
import Derived.Test.YtmmcoedgoekhgaaGreatDoorDMsg
import Derived.Test.YtmmcoedgoekhgaaGreatDoorDStart
import Derived.Deep.CutRange
namespace Go.Proofs.YtmmcoedgoekhgaaGreatDoor
open Go.RowKit S
set_option linter.unusedVariables false
set_option linter.unusedSimpArgs false
def dl0 : Dl := ⟨1000, 700, fun _ => 0, fun _ => 0, fun _ => 0, fun _ => 0⟩
def st0 (p q : Nat → UInt8) : St := startS 0 1000 700 300 p q
def h1F : Nat → UInt8 := fun i => if i = 0 then 1 else 0
set_option maxRecDepth 100000 in
theorem builtDl : Tryz.prog.built 55 [(0, .int .i64 1000), (1, .int .i64 700)] = some (tabv dl0.v 130) := by kernel_rfl
set_option maxRecDepth 100000 in
theorem builtCZf : Tryz.prog.built 26 [] = some (tabv Cf.zero.v 164) := by kernel_rfl
theorem built32 : Tryz.prog.built 23 [] = some (tabv (bv z32) 32) := by kernel_rfl
theorem built321 : Tryz.prog.built 23 [(0, .int .u8 1)] = some (tabv (bv h1F) 32) := by kernel_rfl
theorem builtUA : Tryz.prog.built 34 [(0, .int .i64 1), (2, .int .i64 600), (3, .agg (tabv (bv h1F) 32))] = some (tabv (addU 0 600 h1F).v 36) := by kernel_rfl
set_option maxRecDepth 100000 in
theorem builtM42 : Tryz.prog.built 36 [(0, .int .i64 4), (3, .int .i64 2)] = some (tabv (Msg.v ⟨4, 0, 0, 2, 0, z32, z32, nilB⟩) 70) := by kernel_rfl
set_option maxRecDepth 100000 in
theorem builtM5 : Tryz.prog.built 36 [(0, .int .i64 5)] = some (tabv (Msg.v ⟨5, 0, 0, 0, 0, z32, z32, nilB⟩) 70) := by kernel_rfl
theorem fx1 : (startA (cfg0 dl0)) = (st0 (cfg0 dl0).p0 (cfg0 dl0).p1, 0) := by rfl
theorem fx2 : (startA Cf.zero).2 = 1 := by rfl
section
variable (p q h : Nat → UInt8)
theorem fx3 : spendA (st0 p q).bo [] [] (fxO (st0 p q)) (fxP (st0 p q)) = 700 := by first | rfl | (show spendA 700 [] [] 0 0 = 700; decide +kernel)
theorem fx4 : spendA (st0 p q).bp [] [] (fxP (st0 p q)) (fxO (st0 p q)) = 300 := by first | rfl | (show spendA 300 [] [] 0 0 = 300; decide +kernel)
theorem fx5 : (offerA (st0 p q) [] [] 701 h).2 = 130 := by
  unfold offerA
  rw [fx3]
  rfl
theorem fx6 : (offerA (st0 p q) [] [] 0 h).2 = 80 := by rfl
theorem fx7 : offerA (st0 p q) [] [] 600 h = (oursR (addU 0 600 h), 0) := by
  unfold offerA
  rw [fx3]
  rfl
theorem fx8 : (signA (st0 p q)).2 = 8 := by rfl
theorem fx9 : cameE (st0 p q) ⟨4, 0, 0, 2, 0, z32, z32, nilB⟩ = 90 := by first | rfl | (simp [cameE, st0, startS, deadB, wrap64]; done) | (simp [cameE, st0, startS, deadB]; decide)
theorem fx10 : (revokedA (st0 p q) ⟨5, 0, 0, 0, 0, z32, z32, nilB⟩ []).2 = 90 := by first | rfl | (simp [revokedA, st0, startS, deadB, wrap64]; done) | (simp [revokedA, st0, startS, deadB]; decide)
end
theorem index2C0 (a b : Cf) (w : World) : (Instr.index 57 (.agg (tabv (twoC a b) 328)) (.int .i64 0)).run Tryz.prog w = .ok (.agg (tabv a.v 164)) w := by
  have e : (tabv (twoC a b) 328).extract 0 164 = tabv a.v 164 := by
    refine tabv_ext _ _ _ (by simp [tabv_size]) fun i hi => ?_
    rw [Array.getElem?_extract, tabv_get _ _ _ (by omega), tabv_size]
    simp only [Nat.zero_add]
    unfold twoC
    rw [if_pos hi]
    simp [hi]
  have hi := infoCf
  cases hq : Tryz.prog.info? 26 with
  | none => simp [hq] at hi
  | some i =>
    have hs : i.size = 164 := by simpa [hq] using hi
    simp [Instr.index, asIntOf, run_underlying Tryz.underlying57, sizeOf, typeInfo, hq, hs, part, isAgg, run_underlying Tryz.underlying26, e]
set_option maxRecDepth 100000 in
set_option maxHeartbeats 40000000 in
theorem lfixed_any (w : World) (hG : Glob num w) : Calls Tryz.prog 9 #[] w fun e w' => e = .returned (.bool true) ∧ Below w.heap.size w w' := by
  have GB := hide (Below.refl w.heap.size w)
  have HG := hide (fun wx (hb : Below w.heap.size w wx) => hG.up hb)
  clear hG
  have HCf := hide (fun wx : World => configs_any num dl0 wx)
  obtain ⟨C0, hC0⟩ : ∃ x, cfg0 dl0 = x := ⟨_, rfl⟩
  obtain ⟨C1, hC1⟩ : ∃ x, cfg1 dl0 = x := ⟨_, rfl⟩
  have fs := fx1
  rw [hC0] at fs
  rw [hC0, hC1] at HCf
  obtain ⟨P0, hP0⟩ : ∃ x, C0.p0 = x := ⟨_, rfl⟩
  obtain ⟨P1, hP1⟩ : ∃ x, C0.p1 = x := ⟨_, rfl⟩
  rw [hP0, hP1] at fs
  have HS1 : Hid (∀ wx : World, Calls Tryz.prog 25 #[.agg (tabv C0.v 164)] wx fun e w' => e = .returned (.tuple #[.agg (tabv (st0 P0 P1).v 115), .int .i64 0]) ∧ Below wx.heap.size wx w') := fun wx => by have h := dstart_any C0 wx; rw [fs] at h; exact h
  clear hC0 hC1 fs hP0 hP1
  have HS2 : Hid (∀ wx : World, Below w.heap.size w wx → Calls Tryz.prog 25 #[.agg (tabv Cf.zero.v 164)] wx fun e w' => (∃ s : St, e = .returned (.tuple #[.agg (tabv s.v 115), .int .i64 1])) ∧ Below wx.heap.size wx w') := fun wx hb => by exact (dstart_any Cf.zero wx).mono fun e w' h => ⟨⟨(startA Cf.zero).1, by rw [h.1, fx2]⟩, h.2⟩
  have HP1 : Hid (∀ wx : World, Below w.heap.size w wx → Calls Tryz.prog 12 #[.agg (tabv (st0 P0 P1).v 115)] wx fun e w' => e = .returned (.int .i64 700) ∧ Below wx.heap.size wx w') := fun wx hb => by have h := spendable_any (st0 P0 P1) [] [] rfl rfl (show 0 ≤ _ by decide) (show 0 ≤ _ by decide) (Nat.le_refl _) (Nat.le_refl _) wx (Upds.nil _ _) (Upds.nil _ _); rw [fx3] at h; exact h
  have HP2 : Hid (∀ wx : World, Below w.heap.size w wx → Calls Tryz.prog 13 #[.agg (tabv (st0 P0 P1).v 115)] wx fun e w' => e = .returned (.int .i64 300) ∧ Below wx.heap.size wx w') := fun wx hb => by have h := peerSpendable_any (st0 P0 P1) [] [] rfl rfl (show 0 ≤ _ by decide) (show 0 ≤ _ by decide) (Nat.le_refl _) (Nat.le_refl _) wx (Upds.nil _ _) (Upds.nil _ _); rw [fx4] at h; exact h
  have HO1 : Hid (∀ wx : World, Below w.heap.size w wx → Calls Tryz.prog 14 #[.agg (tabv (st0 P0 P1).v 115), .int .i64 701, .agg (tabv (bv z32) 32)] wx fun e w' => (∃ r : Rc, e = .returned (.tuple #[.agg (tabv r.v 138), .int .i64 130])) ∧ Below wx.heap.size wx w') := fun wx hb => by have h := doffer_any (st0 P0 P1) 701 z32 [] [] rfl rfl (show 0 ≤ _ by decide) (show 0 ≤ _ by decide) (Nat.le_refl _) (Nat.le_refl _) (show _ ≤ (0 : Int) ∧ (0 : Int) ≤ _ by decide) wx (Upds.nil _ _) (Upds.nil _ _); exact h.mono fun e w' h => ⟨⟨(offerA (st0 P0 P1) [] [] 701 z32).1, by rw [h.1, fx5]⟩, h.2⟩
  have HO2 : Hid (∀ wx : World, Below w.heap.size w wx → Calls Tryz.prog 14 #[.agg (tabv (st0 P0 P1).v 115), .int .i64 0, .agg (tabv (bv z32) 32)] wx fun e w' => (∃ r : Rc, e = .returned (.tuple #[.agg (tabv r.v 138), .int .i64 80])) ∧ Below wx.heap.size wx w') := fun wx hb => by have h := doffer_any (st0 P0 P1) 0 z32 [] [] rfl rfl (show 0 ≤ _ by decide) (show 0 ≤ _ by decide) (Nat.le_refl _) (Nat.le_refl _) (show _ ≤ (0 : Int) ∧ (0 : Int) ≤ _ by decide) wx (Upds.nil _ _) (Upds.nil _ _); exact h.mono fun e w' h => ⟨⟨(offerA (st0 P0 P1) [] [] 0 z32).1, by rw [h.1, fx6]⟩, h.2⟩
  have HO3 : Hid (∀ wx : World, Below w.heap.size w wx → Calls Tryz.prog 14 #[.agg (tabv (st0 P0 P1).v 115), .int .i64 600, .agg (tabv (bv h1F) 32)] wx fun e w' => e = .returned (.tuple #[.agg (tabv (Rc.v (oursR (addU 0 600 h1F))) 138), .int .i64 0]) ∧ Below wx.heap.size wx w') := fun wx hb => by have h := doffer_any (st0 P0 P1) 600 h1F [] [] rfl rfl (show 0 ≤ _ by decide) (show 0 ≤ _ by decide) (Nat.le_refl _) (Nat.le_refl _) (show _ ≤ (0 : Int) ∧ (0 : Int) ≤ _ by decide) wx (Upds.nil _ _) (Upds.nil _ _); rw [fx7] at h; exact h
  have HSg : Hid (∀ wx : World, Below w.heap.size w wx → Calls Tryz.prog 17 #[.agg (tabv C0.v 164), .agg (tabv (st0 P0 P1).v 115)] wx fun e w' => (∃ r : Rc, e = .returned (.tuple #[.agg (tabv r.v 138), .int .i64 8])) ∧ Below wx.heap.size wx w') := fun wx hb => by exact (dsign_any C0 (st0 P0 P1) wx).mono fun e w' h => ⟨⟨(signA (st0 P0 P1)).1, by rw [h.1, fx8]⟩, h.2⟩
  have HCm : Hid (∀ wx : World, Below w.heap.size w wx → Calls Tryz.prog 20 #[.agg (tabv C0.v 164), .agg (tabv (st0 P0 P1).v 115), .agg (tabv (Msg.v ⟨4, 0, 0, 2, 0, z32, z32, nilB⟩) 70)] wx fun e w' => (∃ r : Rc, e = .returned (.tuple #[.agg (tabv r.v 138), .int .i64 90])) ∧ Below wx.heap.size wx w') := fun wx hb => by refine (came_any num C0 (st0 P0 P1) ⟨4, 0, 0, 2, 0, z32, z32, nilB⟩ [] [] rfl rfl (show 0 ≤ _ by decide) (show 0 ≤ _ by decide) (Nat.le_refl _) (Nat.le_refl _) wx (HG.out wx hb) (Upds.nil _ _) (Upds.nil _ _)).mono fun e w' h => ?_; obtain ⟨R, E, rfl, hp, hb⟩ := h; obtain ⟨_, rfl⟩ := hp.no (by rw [fx9]; decide); exact ⟨⟨R, by rw [fx9]⟩, hb⟩
  have HRv : Hid (∀ wx : World, Below w.heap.size w wx → Calls Tryz.prog 22 #[.agg (tabv (st0 P0 P1).v 115), .agg (tabv (Msg.v ⟨5, 0, 0, 0, 0, z32, z32, nilB⟩) 70)] wx fun e w' => (∃ r : Rc, e = .returned (.tuple #[.agg (tabv r.v 138), .int .i64 90])) ∧ Below wx.heap.size wx w') := fun wx hb => by exact (revoked_any (st0 P0 P1) ⟨5, 0, 0, 0, 0, z32, z32, nilB⟩ [] rfl wx (HG.out wx hb) (Slots.nil _ _)).mono fun e w' h => ⟨⟨(revokedA (st0 P0 P1) ⟨5, 0, 0, 0, 0, z32, z32, nilB⟩ []).1, by rw [h.1, fx10]⟩, h.2⟩
  have hix := index2C0 C0 C1
  have hs2 : ∀ wx g, Has wx g 32 (st0 P0 P1).v 115 → wx.cell? ⟨g, 2, none⟩ = some (.int .i64 700) ∧ wx.cell? ⟨g, 3, none⟩ = some (.int .i64 300) ∧ wx.cell? ⟨g, 114, none⟩ = some (.int .i64 (-1)) := fun wx g h => ⟨h.cell 2 (by omega), h.cell 3 (by omega), h.cell 114 (by omega)⟩
  generalize st0 P0 P1 = S0 at HS1 HP1 HP2 HO1 HO2 HO3 HSg HCm HRv hs2
  replace hs2 := hide hs2
  go_enter Tryz.func9, Tryz.ntmps9
  go_wp2_with (first | refine wpW_build (by rfl) 55 #[(0, .const (.int .i64 1000)), (1, .const (.int .i64 700))] rfl [(0, .int .i64 1000), (1, .int .i64 700)] (by first | rfl | (simp [Act.eval, Act.put]; done)) _ builtDl ?_ | fail)
  refine (HCf.out _).mono ?_
  rintro e y1 ⟨rfl, hb⟩
  have Gy1 := hide (GB.out.trans (hb.mono GB.out.size))
  clear hb
  obtain ⟨A1, B1, hA1, rA1, hB1, rB1, hb⟩ := newCf y1 C0
  have RA1 := hide rA1
  have RB1 := hide rB1
  clear rA1 rB1
  have GB1 := hide (Gy1.out.trans (hb.mono Gy1.out.size))
  clear hb
  go_wp2_with (first | (rw [hA1]) | (refine wpList_storeCf rfl _ _ rfl rfl y1.heap.size C0 rfl rfl _ RA1.out ?_; rw [hB1]) | refine wpW_load_at 26 _ rfl (y1.heap.size) (0) (by rfl) (by rfl) _ 164 _ (RB1.out.at_ 0 (by omega) (fun i hi => by rw [Nat.zero_add])) Tryz.underlying26 rfl infoCf ?_ | fail)
  refine (HS1.out _).mono ?_
  rintro e y2 ⟨rfl, hb⟩
  have Ry2_c := hide (RB1.out.below hb RB1.out.lt)
  have Gy2 := hide (GB1.out.trans (hb.mono GB1.out.size))
  clear hb
  obtain ⟨A2, B2, hA2, rA2, hB2, rB2, hb⟩ := newSt y2 S0
  have RA2 := hide rA2
  have RB2 := hide rB2
  clear rA2 rB2
  have RB2_c := hide (Ry2_c.out.below hb Ry2_c.out.lt)
  have GB2 := hide (Gy2.out.trans (hb.mono Gy2.out.size))
  clear hb
  go_wp2_with (first | (rw [hA2]) | (refine wpList_storeSt rfl _ _ rfl rfl y2.heap.size S0 rfl rfl _ RA2.out ?_; rw [hB2]) | refine wpW_build (by rfl) 26 #[] rfl [] (by first | rfl | (simp [Act.eval, Act.put]; done)) _ builtCZf ?_ | fail)
  refine (HS2.out _ GB2.out).mono ?_
  rintro e y3 ⟨⟨sz, rfl⟩, hb⟩
  have Ry3_c := hide (RB2_c.out.below hb RB2_c.out.lt)
  have Ry3_s := hide (RB2.out.below hb RB2.out.lt)
  have Gy3 := hide (GB2.out.trans (hb.mono GB2.out.size))
  clear hb
  obtain ⟨A3, B3, hA3, rA3, hB3, rB3, hb⟩ := newSt y3 sz
  have RA3 := hide rA3
  have RB3 := hide rB3
  clear rA3 rB3
  have RB3_c := hide (Ry3_c.out.below hb Ry3_c.out.lt)
  have RB3_s := hide (Ry3_s.out.below hb Ry3_s.out.lt)
  have GB3 := hide (Gy3.out.trans (hb.mono Gy3.out.size))
  clear hb
  obtain ⟨c2, c3, c4⟩ := hs2.out _ _ RB3_s.out
  go_wp2_with (first | (rw [hA3]) | (refine wpList_storeSt rfl _ _ rfl rfl y3.heap.size sz rfl rfl _ RA3.out ?_; rw [hB3]) | refine wpW_load_at 32 _ rfl (y2.heap.size) (0) (by rfl) (by rfl) _ 115 _ (RB3_s.out.at_ 0 (by omega) (fun i hi => by rw [Nat.zero_add])) Tryz.underlying32 rfl infoSt ?_ | fail)
  refine (HP1.out _ GB3.out).mono ?_
  rintro e y4 ⟨rfl, hb⟩
  have Ry4_c := hide (RB3_c.out.below hb RB3_c.out.lt)
  have Ry4_s := hide (RB3_s.out.below hb RB3_s.out.lt)
  have Ry4_z := hide (RB3.out.below hb RB3.out.lt)
  have Gy4 := hide (GB3.out.trans (hb.mono GB3.out.size))
  clear hb
  clear c2 c3 c4
  go_wp2_with (first | refine wpW_load_at 32 _ rfl (y2.heap.size) (0) (by rfl) (by rfl) _ 115 _ (Ry4_s.out.at_ 0 (by omega) (fun i hi => by rw [Nat.zero_add])) Tryz.underlying32 rfl infoSt ?_ | fail)
  refine (HP2.out _ Gy4.out).mono ?_
  rintro e y5 ⟨rfl, hb⟩
  have Ry5_c := hide (Ry4_c.out.below hb Ry4_c.out.lt)
  have Ry5_s := hide (Ry4_s.out.below hb Ry4_s.out.lt)
  have Ry5_z := hide (Ry4_z.out.below hb Ry4_z.out.lt)
  have Gy5 := hide (Gy4.out.trans (hb.mono Gy4.out.size))
  clear hb
  go_wp2_with (first | refine wpW_load_at 32 _ rfl (y2.heap.size) (0) (by rfl) (by rfl) _ 115 _ (Ry5_s.out.at_ 0 (by omega) (fun i hi => by rw [Nat.zero_add])) Tryz.underlying32 rfl infoSt ?_ | refine wpW_build (by rfl) 23 #[] rfl [] (by first | rfl | (simp [Act.eval, Act.put]; done)) _ built32 ?_ | fail)
  refine (HO1.out _ Gy5.out).mono ?_
  rintro e y6 ⟨⟨r1, rfl⟩, hb⟩
  have Ry6_c := hide (Ry5_c.out.below hb Ry5_c.out.lt)
  have Ry6_s := hide (Ry5_s.out.below hb Ry5_s.out.lt)
  have Ry6_z := hide (Ry5_z.out.below hb Ry5_z.out.lt)
  have Gy6 := hide (Gy5.out.trans (hb.mono Gy5.out.size))
  clear hb
  obtain ⟨A4, B4, hA4, rA4, hB4, rB4, hb⟩ := newRc y6 r1
  have RA4 := hide rA4
  have RB4 := hide rB4
  clear rA4 rB4
  have RB4_c := hide (Ry6_c.out.below hb Ry6_c.out.lt)
  have RB4_s := hide (Ry6_s.out.below hb Ry6_s.out.lt)
  have RB4_z := hide (Ry6_z.out.below hb Ry6_z.out.lt)
  have GB4 := hide (Gy6.out.trans (hb.mono Gy6.out.size))
  clear hb
  go_wp2_with (first | (rw [hA4]) | (refine wpList_storeRc rfl _ _ rfl rfl y6.heap.size r1 rfl rfl _ RA4.out ?_; rw [hB4]) | refine wpW_load_at 32 _ rfl (y2.heap.size) (0) (by rfl) (by rfl) _ 115 _ (RB4_s.out.at_ 0 (by omega) (fun i hi => by rw [Nat.zero_add])) Tryz.underlying32 rfl infoSt ?_ | refine wpW_build (by rfl) 23 #[] rfl [] (by first | rfl | (simp [Act.eval, Act.put]; done)) _ built32 ?_ | fail)
  refine (HO2.out _ GB4.out).mono ?_
  rintro e y7 ⟨⟨r2, rfl⟩, hb⟩
  have Ry7_c := hide (RB4_c.out.below hb RB4_c.out.lt)
  have Ry7_s := hide (RB4_s.out.below hb RB4_s.out.lt)
  have Ry7_z := hide (RB4_z.out.below hb RB4_z.out.lt)
  have Ry7_r1 := hide (RB4.out.below hb RB4.out.lt)
  have Gy7 := hide (GB4.out.trans (hb.mono GB4.out.size))
  clear hb
  obtain ⟨A5, B5, hA5, rA5, hB5, rB5, hb⟩ := newRc y7 r2
  have RA5 := hide rA5
  have RB5 := hide rB5
  clear rA5 rB5
  have RB5_c := hide (Ry7_c.out.below hb Ry7_c.out.lt)
  have RB5_s := hide (Ry7_s.out.below hb Ry7_s.out.lt)
  have RB5_z := hide (Ry7_z.out.below hb Ry7_z.out.lt)
  have RB5_r1 := hide (Ry7_r1.out.below hb Ry7_r1.out.lt)
  have GB5 := hide (Gy7.out.trans (hb.mono Gy7.out.size))
  clear hb
  obtain ⟨R3, hR3⟩ : ∃ x, oursR (addU 0 600 h1F) = x := ⟨_, rfl⟩
  rw [hR3] at HO3
  go_wp2_with (first | (rw [hA5]) | (refine wpList_storeRc rfl _ _ rfl rfl y7.heap.size r2 rfl rfl _ RA5.out ?_; rw [hB5]) | refine wpW_load_at 32 _ rfl (y2.heap.size) (0) (by rfl) (by rfl) _ 115 _ (RB5_s.out.at_ 0 (by omega) (fun i hi => by rw [Nat.zero_add])) Tryz.underlying32 rfl infoSt ?_ | refine wpW_build (by rfl) 23 #[(0, .const (.int .u8 1))] rfl [(0, .int .u8 1)] (by first | rfl | (simp [Act.eval, Act.put]; done)) _ built321 ?_ | fail)
  refine (HO3.out _ GB5.out).mono ?_
  rintro e y8 ⟨rfl, hb⟩
  have Ry8_c := hide (RB5_c.out.below hb RB5_c.out.lt)
  have Ry8_s := hide (RB5_s.out.below hb RB5_s.out.lt)
  have Ry8_z := hide (RB5_z.out.below hb RB5_z.out.lt)
  have Ry8_r1 := hide (RB5_r1.out.below hb RB5_r1.out.lt)
  have Ry8_r2 := hide (RB5.out.below hb RB5.out.lt)
  have Gy8 := hide (GB5.out.trans (hb.mono GB5.out.size))
  clear hb
  obtain ⟨A6, B6, hA6, rA6, hB6, rB6, hb⟩ := newRc y8 R3
  have RA6 := hide rA6
  have RB6 := hide rB6
  clear rA6 rB6
  have RB6_c := hide (Ry8_c.out.below hb Ry8_c.out.lt)
  have RB6_s := hide (Ry8_s.out.below hb Ry8_s.out.lt)
  have RB6_z := hide (Ry8_z.out.below hb Ry8_z.out.lt)
  have RB6_r1 := hide (Ry8_r1.out.below hb Ry8_r1.out.lt)
  have RB6_r2 := hide (Ry8_r2.out.below hb Ry8_r2.out.lt)
  have GB6 := hide (Gy8.out.trans (hb.mono Gy8.out.size))
  clear hb
  go_wp2_with (first | (rw [hA6]) | (refine wpList_storeRc rfl _ _ rfl rfl y8.heap.size R3 rfl rfl _ RA6.out ?_; rw [hB6]) | refine wpW_load_at 26 _ rfl (y1.heap.size) (0) (by rfl) (by rfl) _ 164 _ (RB6_c.out.at_ 0 (by omega) (fun i hi => by rw [Nat.zero_add])) Tryz.underlying26 rfl infoCf ?_ | refine wpW_load_at 32 _ rfl (y2.heap.size) (0) (by rfl) (by rfl) _ 115 _ (RB6_s.out.at_ 0 (by omega) (fun i hi => by rw [Nat.zero_add])) Tryz.underlying32 rfl infoSt ?_ | fail)
  refine (HSg.out _ GB6.out).mono ?_
  rintro e y9 ⟨⟨r4, rfl⟩, hb⟩
  have Ry9_c := hide (RB6_c.out.below hb RB6_c.out.lt)
  have Ry9_s := hide (RB6_s.out.below hb RB6_s.out.lt)
  have Ry9_z := hide (RB6_z.out.below hb RB6_z.out.lt)
  have Ry9_r1 := hide (RB6_r1.out.below hb RB6_r1.out.lt)
  have Ry9_r2 := hide (RB6_r2.out.below hb RB6_r2.out.lt)
  have Ry9_r3 := hide (RB6.out.below hb RB6.out.lt)
  have Gy9 := hide (GB6.out.trans (hb.mono GB6.out.size))
  clear hb
  obtain ⟨A7, B7, hA7, rA7, hB7, rB7, hb⟩ := newRc y9 r4
  have RA7 := hide rA7
  have RB7 := hide rB7
  clear rA7 rB7
  have RB7_c := hide (Ry9_c.out.below hb Ry9_c.out.lt)
  have RB7_s := hide (Ry9_s.out.below hb Ry9_s.out.lt)
  have RB7_z := hide (Ry9_z.out.below hb Ry9_z.out.lt)
  have RB7_r1 := hide (Ry9_r1.out.below hb Ry9_r1.out.lt)
  have RB7_r2 := hide (Ry9_r2.out.below hb Ry9_r2.out.lt)
  have RB7_r3 := hide (Ry9_r3.out.below hb Ry9_r3.out.lt)
  have GB7 := hide (Gy9.out.trans (hb.mono Gy9.out.size))
  clear hb
  go_wp2_with (first | (rw [hA7]) | (refine wpList_storeRc rfl _ _ rfl rfl y9.heap.size r4 rfl rfl _ RA7.out ?_; rw [hB7]) | refine wpW_load_at 26 _ rfl (y1.heap.size) (0) (by rfl) (by rfl) _ 164 _ (RB7_c.out.at_ 0 (by omega) (fun i hi => by rw [Nat.zero_add])) Tryz.underlying26 rfl infoCf ?_ | refine wpW_load_at 32 _ rfl (y2.heap.size) (0) (by rfl) (by rfl) _ 115 _ (RB7_s.out.at_ 0 (by omega) (fun i hi => by rw [Nat.zero_add])) Tryz.underlying32 rfl infoSt ?_ | refine wpW_build (by rfl) 36 #[(0, .const (.int .i64 4)), (3, .const (.int .i64 2))] rfl [(0, .int .i64 4), (3, .int .i64 2)] (by first | rfl | (simp [Act.eval, Act.put]; done)) _ builtM42 ?_ | fail)
  refine (HCm.out _ GB7.out).mono ?_
  rintro e y10 ⟨⟨r5, rfl⟩, hb⟩
  have Ry10_c := hide (RB7_c.out.below hb RB7_c.out.lt)
  have Ry10_s := hide (RB7_s.out.below hb RB7_s.out.lt)
  have Ry10_z := hide (RB7_z.out.below hb RB7_z.out.lt)
  have Ry10_r1 := hide (RB7_r1.out.below hb RB7_r1.out.lt)
  have Ry10_r2 := hide (RB7_r2.out.below hb RB7_r2.out.lt)
  have Ry10_r3 := hide (RB7_r3.out.below hb RB7_r3.out.lt)
  have Ry10_r4 := hide (RB7.out.below hb RB7.out.lt)
  have Gy10 := hide (GB7.out.trans (hb.mono GB7.out.size))
  clear hb
  obtain ⟨A8, B8, hA8, rA8, hB8, rB8, hb⟩ := newRc y10 r5
  have RA8 := hide rA8
  have RB8 := hide rB8
  clear rA8 rB8
  have RB8_c := hide (Ry10_c.out.below hb Ry10_c.out.lt)
  have RB8_s := hide (Ry10_s.out.below hb Ry10_s.out.lt)
  have RB8_z := hide (Ry10_z.out.below hb Ry10_z.out.lt)
  have RB8_r1 := hide (Ry10_r1.out.below hb Ry10_r1.out.lt)
  have RB8_r2 := hide (Ry10_r2.out.below hb Ry10_r2.out.lt)
  have RB8_r3 := hide (Ry10_r3.out.below hb Ry10_r3.out.lt)
  have RB8_r4 := hide (Ry10_r4.out.below hb Ry10_r4.out.lt)
  have GB8 := hide (Gy10.out.trans (hb.mono Gy10.out.size))
  clear hb
  go_wp2_with (first | (rw [hA8]) | (refine wpList_storeRc rfl _ _ rfl rfl y10.heap.size r5 rfl rfl _ RA8.out ?_; rw [hB8]) | refine wpW_load_at 32 _ rfl (y2.heap.size) (0) (by rfl) (by rfl) _ 115 _ (RB8_s.out.at_ 0 (by omega) (fun i hi => by rw [Nat.zero_add])) Tryz.underlying32 rfl infoSt ?_ | refine wpW_build (by rfl) 36 #[(0, .const (.int .i64 5))] rfl [(0, .int .i64 5)] (by first | rfl | (simp [Act.eval, Act.put]; done)) _ builtM5 ?_ | fail)
  refine (HRv.out _ GB8.out).mono ?_
  rintro e y11 ⟨⟨r6, rfl⟩, hb⟩
  have Ry11_c := hide (RB8_c.out.below hb RB8_c.out.lt)
  have Ry11_s := hide (RB8_s.out.below hb RB8_s.out.lt)
  have Ry11_z := hide (RB8_z.out.below hb RB8_z.out.lt)
  have Ry11_r1 := hide (RB8_r1.out.below hb RB8_r1.out.lt)
  have Ry11_r2 := hide (RB8_r2.out.below hb RB8_r2.out.lt)
  have Ry11_r3 := hide (RB8_r3.out.below hb RB8_r3.out.lt)
  have Ry11_r4 := hide (RB8_r4.out.below hb RB8_r4.out.lt)
  have Ry11_r5 := hide (RB8.out.below hb RB8.out.lt)
  have Gy11 := hide (GB8.out.trans (hb.mono GB8.out.size))
  clear hb
  obtain ⟨A9, B9, hA9, rA9, hB9, rB9, hb⟩ := newRc y11 r6
  have RA9 := hide rA9
  have RB9 := hide rB9
  clear rA9 rB9
  have RB9_c := hide (Ry11_c.out.below hb Ry11_c.out.lt)
  have RB9_s := hide (Ry11_s.out.below hb Ry11_s.out.lt)
  have RB9_z := hide (Ry11_z.out.below hb Ry11_z.out.lt)
  have RB9_r1 := hide (Ry11_r1.out.below hb Ry11_r1.out.lt)
  have RB9_r2 := hide (Ry11_r2.out.below hb Ry11_r2.out.lt)
  have RB9_r3 := hide (Ry11_r3.out.below hb Ry11_r3.out.lt)
  have RB9_r4 := hide (Ry11_r4.out.below hb Ry11_r4.out.lt)
  have RB9_r5 := hide (Ry11_r5.out.below hb Ry11_r5.out.lt)
  have GB9 := hide (Gy11.out.trans (hb.mono Gy11.out.size))
  clear hb
  have ck : B9.cell? ⟨y8.heap.size, 0, none⟩ = some (.int .i64 1) := by have h := RB9_r3.out.cell 0 (by omega); rw [← hR3] at h; exact h
  have AU := hide (show At B9 (y8.heap.size) 1 (addU 0 600 h1F).v 36 by have h := RB9_r3.out.atUpd; rw [← hR3] at h; exact h)
  go_wp2_with (first | (rw [hA9]) | (refine wpList_storeRc rfl _ _ rfl rfl y11.heap.size r6 rfl rfl _ RA9.out ?_; rw [hB9]) | refine wpW_load_at 34 _ rfl (y8.heap.size) (1) (by rfl) (by rfl) _ 36 _ AU.out Tryz.underlying34 rfl infoU ?_ | refine wpW_build (by rfl) 23 #[(0, .const (.int .u8 1))] rfl [(0, .int .u8 1)] (by first | rfl | (simp [Act.eval, Act.put]; done)) _ built321 ?_ | refine wpW_build (by rfl) 34 #[(0, .const (.int .i64 1)), (2, .const (.int .i64 600)), (3, .tmp 117)] rfl [(0, .int .i64 1), (2, .int .i64 600), (3, .agg (tabv (bv h1F) 32))] (by first | rfl | (simp [Act.eval, Act.put]; done)) _ builtUA ?_ | refine wpW_eqU rfl _ _ rfl _ _ true rfl rfl (fun wq => by rw [eqUD, eqU_refl]) ?_ | fail)
  go_ret
  exact ⟨rfl, GB9.out⟩
end Go.Proofs.YtmmcoedgoekhgaaGreatDoor
