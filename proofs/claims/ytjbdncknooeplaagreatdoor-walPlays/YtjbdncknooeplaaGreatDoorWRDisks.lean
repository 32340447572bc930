import Derived.Test.YtjbdncknooeplaaGreatDoorWRCrash
namespace Go.Proofs.YtjbdncknooeplaaGreatDoor
open Go.RowKit Go.Maps
set_option linter.unusedVariables false
set_option linter.unusedSimpArgs false
section
variable {B:Nat} {w:World} {L:List Item} {ib id ix bb pd px:Nat} {A:AD} {lp rp:Value}
set_option maxRecDepth 100000 in
set_option maxHeartbeats 8000000 in
theorem disks_any (h:Lies B w L) (hb:L[ib]?=some (.block bb (.cells #[.pointer (some ⟨pd,0,none⟩),lp,.pointer (some ⟨px,0,none⟩),rp] 58 (0,0)))) (hd:L[id]?=some (.disk pd A)) (hx:L[ix]?=some (.ref px A)) (h1:ib≠id) (h2:ib≠ix) (h3:id≠ix) (o:WOp) (ho:o.Ok) (hl:o.Lie B w) (hfz:(o.fates.length+1) * 48≤140737488355328) :
 Calls Tryz.prog 46 #[.pointer (some ⟨bb,0,none⟩),.agg o.cs] w fun e w'=>e=.returned (.bool true)∧∃A',Lies B w' ((L.set id (.disk pd A')).set ix (.ref px A'))∧Below B w w':=by
 have hok:=h.ok hd;have hdl:=(List.getElem?_eq_some_iff.1 hd).1;have hxl:=(List.getElem?_eq_some_iff.1 hx).1
 have hG0:(L.set id (.disk pd A)).set ix (.ref px A)=L:=by rw [hset_keep hd,hset_keep hx]
 obtain ⟨bo,hbo⟩:∃x,w.heap.size=x:=⟨_,rfl⟩;obtain ⟨V,hV⟩:∃x,w.alloc (.cells o.cs 31)=x:=⟨_,rfl⟩;obtain ⟨hlv,hbv⟩:=h.newCells o.cs 31;rw [hV,hbo] at hlv;rw [hV] at hbv
 have HID:Hid (∀(A1 A2:AD) (Z:List Item),((L.set id (.disk pd A1)).set ix (.ref px A2)++Z)[id]?=some (.disk pd A1)):=fun A1 A2 Z=>get_tl (by rw [List.getElem?_set_ne (fun e=>h3 e.symm)];exact List.getElem?_set_self hdl)
 have HIX:Hid (∀(A1 A2:AD) (Z:List Item),((L.set id (.disk pd A1)).set ix (.ref px A2)++Z)[ix]?=some (.ref px A2)):=fun A1 A2 Z=>get_tl (List.getElem?_set_self (by rw [List.length_set];exact hxl))
 have HSD:Hid (∀(A1 A2 A3:AD) (Z:List Item),((L.set id (.disk pd A1)).set ix (.ref px A2)++Z).set id (.disk pd A3)=(L.set id (.disk pd A3)).set ix (.ref px A2)++Z):=fun A1 A2 A3 Z=>by
  rw [set_tl (by rw [List.length_set,List.length_set];exact hdl),List.set_comm _ _ (fun e=>h3 e.symm),List.set_set]
 have HSX:Hid (∀(A1 A2 A3:AD) (Z:List Item),((L.set id (.disk pd A1)).set ix (.ref px A2)++Z).set ix (.ref px A3)=(L.set id (.disk pd A1)).set ix (.ref px A3)++Z):=fun A1 A2 A3 Z=>by
  rw [set_tl (by rw [List.length_set,List.length_set];exact hxl),List.set_set]
 have HSS:Hid (∀(wx:World) (A1 A2:AD),Lies B wx (((L.set id (.disk pd A1)).set ix (.ref px A2))++[Item.block bo (.cells o.cs 31 (0,0))])→wx.cell? ⟨bb,0,none⟩=some (.pointer (some ⟨pd,0,none⟩))∧wx.cell? ⟨bb,2,none⟩=some (.pointer (some ⟨px,0,none⟩))∧wx.cell? ⟨bo,0,none⟩=some (.int .i64 o.kind)∧wx.cell? ⟨bo,1,none⟩=some (.string o.text)∧wx.cell? ⟨bo,2,none⟩=some (.string o.name)∧wx.cell? ⟨bo,3,none⟩=some (.int .i64 o.at_)∧wx.cell? ⟨bo,4,none⟩=some (.int .i64 o.n)∧wx.cell? ⟨bo,5,none⟩=some (.int .i64 o.first)∧wx.cell? ⟨bo,6,none⟩=some (.slice o.ad o.fates.length o.cap)):=fun wx A1 A2 hl=>by
  have a:=hl.cellAt (q:=ib) (get_tl (by rw [List.getElem?_set_ne (fun e=>h2 e.symm),List.getElem?_set_ne (fun e=>h1 e.symm)];exact hb))
  have b:=hl.cellAt (q:=((L.set id (.disk pd A1)).set ix (.ref px A2)).length) get_t0;exact ⟨a 0,a 2,b 0,b 1,b 2,b 3,b 4,b 5,b 6⟩
 have HLV:Hid (Lies B V (((L.set id (.disk pd A)).set ix (.ref px A))++[Item.block bo (.cells o.cs 31 (0,0))])):=by
  show Lies _ _ _
  rw [hG0];exact hlv
 have HBV:=hide hbv;have HOK:=hide hok;have HO:=hide ho;have HV:=hide hV;have HLIE:=hide hl;have y:=HSS.out V A A HLV.out;have y0:=y.2.2.1;have hcs:o.cs=#[.int .i64 o.kind,.string o.text,.string o.name,.int .i64 o.at_,.int .i64 o.n,.int .i64 o.first,.slice o.ad o.fates.length o.cap]:=rfl;rw [hcs] at hV ⊢;clear h hb hd hx hlv hbv hG0 y hok ho hl hcs h1 h2 h3
 go_enter Tryz.func46,Tryz.ntmps46
 go_upto_region 2 with fail
 clear hV hbo
 by_cases hk4:o.kind=4
 ·have k4:(o.kind == 4)=true:=by rw [beq_iff_eq];exact hk4
  obtain ⟨V0,hV0⟩:∃x,V.drew=x:=⟨_,rfl⟩
  have hv0:=HLV.out.same (w':=V.drew) (Nat.le_refl _) (fun _ _ _=>rfl)
  rw [hV0] at hv0
  have hvb0:Below B w V0:=by rw [←hV0];exact HBV.out.drew
  have HS0:=hide (HSS.out V0 A A hv0);have HCALL:=hide (s_arm hv0 (HID.out A A _) o.n o.at_ ⟨HO.out.n0,HO.out.n1⟩);have HV0:=hide hV0;have HVB:=hide hvb0;clear hV0 hv0 hvb0;go_wp2;refine wp_region_noPanic ?_
  refine wp_region_held_drew (S:=fun wx=>wx.cell? ⟨bb,0,none⟩=some (.pointer (some ⟨pd,0,none⟩))∧wx.cell? ⟨bb,2,none⟩=some (.pointer (some ⟨px,0,none⟩))∧wx.cell? ⟨bo,0,none⟩=some (.int .i64 o.kind)∧wx.cell? ⟨bo,1,none⟩=some (.string o.text)∧wx.cell? ⟨bo,2,none⟩=some (.string o.name)∧wx.cell? ⟨bo,3,none⟩=some (.int .i64 o.at_)∧wx.cell? ⟨bo,4,none⟩=some (.int .i64 o.n)∧wx.cell? ⟨bo,5,none⟩=some (.int .i64 o.first)∧wx.cell? ⟨bo,6,none⟩=some (.slice o.ad o.fates.length o.cap)) (by kernel_rfl) (by rw [HV0.out];exact HS0.out) (fun hHeld=>?_)
  rw [HV0.out] at hHeld ⊢;refine tK 0 (some 13) (.pointer (some ⟨bb,0,none⟩)) rfl hHeld ?_;simp only [Act.put,pA,pB,pC];refine tK 1 (some 14) (.pointer (some ⟨bb,0,none⟩)) rfl hHeld ?_;simp only [Act.put,pA,pB,pC];refine tK 2 (some 15) (.pointer (some ⟨bb,0,none⟩)) rfl hHeld ?_;simp only [Act.put,pA,pB,pC]
  refine tH 3 (some 16) (.pointer (some ⟨pd,0,none⟩)) rfl (fun w hw=>by obtain ⟨hw1,hw2,hw3,hw4,hw5,hw6,hw7,hw8,hw9⟩:=hw;first | rfl | (go_simp;done) | (go_simp;rfl)) hHeld ?_
  simp only [Act.put,pA,pB,pC];refine tK 4 (some 17) (.pointer (some ⟨bo,4,none⟩)) rfl hHeld ?_;simp only [Act.put,pA,pB,pC]
  refine tH 5 (some 18) (.int .i64 o.n) rfl (fun w hw=>by obtain ⟨hw1,hw2,hw3,hw4,hw5,hw6,hw7,hw8,hw9⟩:=hw;first | rfl | (go_simp;done) | (go_simp;rfl)) hHeld ?_
  simp only [Act.put,pA,pB,pC];refine tK 6 (some 19) (.pointer (some ⟨bo,3,none⟩)) rfl hHeld ?_;simp only [Act.put,pA,pB,pC]
  refine tH 7 (some 20) (.int .i64 o.at_) rfl (fun w hw=>by obtain ⟨hw1,hw2,hw3,hw4,hw5,hw6,hw7,hw8,hw9⟩:=hw;first | rfl | (go_simp;done) | (go_simp;rfl)) hHeld ?_
  simp only [Act.put,pA,pB,pC]
  refine rdH 8 rfl (fun K hK=>?_)
  go_simp
  refine (HCALL.out).mono ?_;rintro e Wd ⟨rfl,hld,hbd⟩
  try go_wp2_with fail
  refine hK.out _ _ ((HSS.out Wd _ _ (by rw [HSD.out] at hld;exact hld))) (fun hH=>?_)
  clear hK K hHeld;have hHeld:=hH;clear hH
  refine ⟨by kernel_rfl,?_⟩
  refine NoPanic.normal ?_;rw [HSD.out] at hld;have hbdd:=HVB.out.trans hbd;clear HS0 HCALL HV0 HVB hbd hHeld;have HL1:=hide hld;have HB1:=hide hbdd;clear hld hbdd;obtain ⟨V0,hV0⟩:∃x,Wd.drew=x:=⟨_,rfl⟩
  have hv0:=HL1.out.same (w':=Wd.drew) (Nat.le_refl _) (fun _ _ _=>rfl)
  rw [hV0] at hv0
  have hvb0:Below B w V0:=by rw [←hV0];exact HB1.out.drew
  have HS0:=hide (HSS.out V0 (A.armed o.n o.at_) A hv0);have HCALL:=hide (r_arm hv0 (HIX.out _ A _) o.n o.at_);have HV0:=hide hV0;have HVB:=hide hvb0;clear hV0 hv0 hvb0;go_wp2;refine wp_region_noPanic ?_
  refine wp_region_held_drew (S:=fun wx=>wx.cell? ⟨bb,0,none⟩=some (.pointer (some ⟨pd,0,none⟩))∧wx.cell? ⟨bb,2,none⟩=some (.pointer (some ⟨px,0,none⟩))∧wx.cell? ⟨bo,0,none⟩=some (.int .i64 o.kind)∧wx.cell? ⟨bo,1,none⟩=some (.string o.text)∧wx.cell? ⟨bo,2,none⟩=some (.string o.name)∧wx.cell? ⟨bo,3,none⟩=some (.int .i64 o.at_)∧wx.cell? ⟨bo,4,none⟩=some (.int .i64 o.n)∧wx.cell? ⟨bo,5,none⟩=some (.int .i64 o.first)∧wx.cell? ⟨bo,6,none⟩=some (.slice o.ad o.fates.length o.cap)) (by kernel_rfl) (by rw [HV0.out];exact HS0.out) (fun hHeld=>?_)
  rw [HV0.out] at hHeld ⊢;refine tK 0 (some 22) (.pointer (some ⟨bb,0,none⟩)) rfl hHeld ?_;simp only [Act.put,pA,pB,pC];refine tK 1 (some 23) (.pointer (some ⟨bb,0,none⟩)) rfl hHeld ?_;simp only [Act.put,pA,pB,pC];refine tK 2 (some 24) (.pointer (some ⟨bb,2,none⟩)) rfl hHeld ?_;simp only [Act.put,pA,pB,pC]
  refine tH 3 (some 25) (.pointer (some ⟨px,0,none⟩)) rfl (fun w hw=>by obtain ⟨hw1,hw2,hw3,hw4,hw5,hw6,hw7,hw8,hw9⟩:=hw;first | rfl | (go_simp;done) | (go_simp;rfl)) hHeld ?_
  simp only [Act.put,pA,pB,pC];refine tK 4 (some 26) (.pointer (some ⟨bo,4,none⟩)) rfl hHeld ?_;simp only [Act.put,pA,pB,pC]
  refine tH 5 (some 27) (.int .i64 o.n) rfl (fun w hw=>by obtain ⟨hw1,hw2,hw3,hw4,hw5,hw6,hw7,hw8,hw9⟩:=hw;first | rfl | (go_simp;done) | (go_simp;rfl)) hHeld ?_
  simp only [Act.put,pA,pB,pC];refine tK 6 (some 28) (.pointer (some ⟨bo,3,none⟩)) rfl hHeld ?_;simp only [Act.put,pA,pB,pC]
  refine tH 7 (some 29) (.int .i64 o.at_) rfl (fun w hw=>by obtain ⟨hw1,hw2,hw3,hw4,hw5,hw6,hw7,hw8,hw9⟩:=hw;first | rfl | (go_simp;done) | (go_simp;rfl)) hHeld ?_
  simp only [Act.put,pA,pB,pC]
  refine rdH 8 rfl (fun K hK=>?_)
  go_simp
  refine (HCALL.out).mono ?_;rintro e We ⟨rfl,hld,hbd⟩
  try go_wp2_with fail
  refine hK.out _ _ ((HSS.out We _ _ (by rw [HSX.out] at hld;exact hld))) (fun hH=>?_)
  clear hK K hHeld;have hHeld:=hH;clear hH
  refine ⟨by kernel_rfl,?_⟩
  refine NoPanic.normal ?_;rw [HSX.out] at hld;have hbdd:=HVB.out.trans hbd;clear HS0 HCALL HV0 HVB hbd hHeld;have HLE:=hide hld.drop;have HBE:=hide hbdd;clear hld hbdd;go_wp2;go_ret;exact ⟨rfl,(A.armed o.n o.at_),HLE.out,HBE.out⟩
 have k4:(o.kind == 4)=false:=by rw [beq_eq_false_iff_ne];exact hk4
 by_cases hk5:o.kind=5
 ·have k5:(o.kind == 5)=true:=by rw [beq_iff_eq];exact hk5
  obtain ⟨V0,hV0⟩:∃x,V.drew=x:=⟨_,rfl⟩
  have hv0:=HLV.out.same (w':=V.drew) (Nat.le_refl _) (fun _ _ _=>rfl)
  rw [hV0] at hv0
  have hvb0:Below B w V0:=by rw [←hV0];exact HBV.out.drew
  have HS0:=hide (HSS.out V0 A A hv0);have HCALL:=hide (s_fall hv0 (HID.out A A _) o.n ⟨HO.out.n0,HO.out.n1⟩);have HV0:=hide hV0;have HVB:=hide hvb0;clear hV0 hv0 hvb0;go_wp2;refine wp_region_noPanic ?_
  refine wp_region_held_drew (S:=fun wx=>wx.cell? ⟨bb,0,none⟩=some (.pointer (some ⟨pd,0,none⟩))∧wx.cell? ⟨bb,2,none⟩=some (.pointer (some ⟨px,0,none⟩))∧wx.cell? ⟨bo,0,none⟩=some (.int .i64 o.kind)∧wx.cell? ⟨bo,1,none⟩=some (.string o.text)∧wx.cell? ⟨bo,2,none⟩=some (.string o.name)∧wx.cell? ⟨bo,3,none⟩=some (.int .i64 o.at_)∧wx.cell? ⟨bo,4,none⟩=some (.int .i64 o.n)∧wx.cell? ⟨bo,5,none⟩=some (.int .i64 o.first)∧wx.cell? ⟨bo,6,none⟩=some (.slice o.ad o.fates.length o.cap)) (by kernel_rfl) (by rw [HV0.out];exact HS0.out) (fun hHeld=>?_)
  rw [HV0.out] at hHeld ⊢;refine tK 0 (some 33) (.pointer (some ⟨bb,0,none⟩)) rfl hHeld ?_;simp only [Act.put,pA,pB,pC];refine tK 1 (some 34) (.pointer (some ⟨bb,0,none⟩)) rfl hHeld ?_;simp only [Act.put,pA,pB,pC];refine tK 2 (some 35) (.pointer (some ⟨bb,0,none⟩)) rfl hHeld ?_;simp only [Act.put,pA,pB,pC]
  refine tH 3 (some 36) (.pointer (some ⟨pd,0,none⟩)) rfl (fun w hw=>by obtain ⟨hw1,hw2,hw3,hw4,hw5,hw6,hw7,hw8,hw9⟩:=hw;first | rfl | (go_simp;done) | (go_simp;rfl)) hHeld ?_
  simp only [Act.put,pA,pB,pC];refine tK 4 (some 37) (.pointer (some ⟨bo,4,none⟩)) rfl hHeld ?_;simp only [Act.put,pA,pB,pC]
  refine tH 5 (some 38) (.int .i64 o.n) rfl (fun w hw=>by obtain ⟨hw1,hw2,hw3,hw4,hw5,hw6,hw7,hw8,hw9⟩:=hw;first | rfl | (go_simp;done) | (go_simp;rfl)) hHeld ?_
  simp only [Act.put,pA,pB,pC]
  refine rdH 6 rfl (fun K hK=>?_)
  go_simp
  refine (HCALL.out).mono ?_;rintro e Wd ⟨rfl,hld,hbd⟩
  try go_wp2_with fail
  refine hK.out _ _ ((HSS.out Wd _ _ (by rw [HSD.out] at hld;exact hld))) (fun hH=>?_)
  clear hK K hHeld;have hHeld:=hH;clear hH
  refine ⟨by kernel_rfl,?_⟩
  refine NoPanic.normal ?_;rw [HSD.out] at hld;have hbdd:=HVB.out.trans hbd;clear HS0 HCALL HV0 HVB hbd hHeld;have HL1:=hide hld;have HB1:=hide hbdd;clear hld hbdd;obtain ⟨V0,hV0⟩:∃x,Wd.drew=x:=⟨_,rfl⟩
  have hv0:=HL1.out.same (w':=Wd.drew) (Nat.le_refl _) (fun _ _ _=>rfl)
  rw [hV0] at hv0
  have hvb0:Below B w V0:=by rw [←hV0];exact HB1.out.drew
  have HS0:=hide (HSS.out V0 (A.fallen o.n) A hv0);have HCALL:=hide (r_fall hv0 (HIX.out _ A _) o.n);have HV0:=hide hV0;have HVB:=hide hvb0;clear hV0 hv0 hvb0;go_wp2;refine wp_region_noPanic ?_
  refine wp_region_held_drew (S:=fun wx=>wx.cell? ⟨bb,0,none⟩=some (.pointer (some ⟨pd,0,none⟩))∧wx.cell? ⟨bb,2,none⟩=some (.pointer (some ⟨px,0,none⟩))∧wx.cell? ⟨bo,0,none⟩=some (.int .i64 o.kind)∧wx.cell? ⟨bo,1,none⟩=some (.string o.text)∧wx.cell? ⟨bo,2,none⟩=some (.string o.name)∧wx.cell? ⟨bo,3,none⟩=some (.int .i64 o.at_)∧wx.cell? ⟨bo,4,none⟩=some (.int .i64 o.n)∧wx.cell? ⟨bo,5,none⟩=some (.int .i64 o.first)∧wx.cell? ⟨bo,6,none⟩=some (.slice o.ad o.fates.length o.cap)) (by kernel_rfl) (by rw [HV0.out];exact HS0.out) (fun hHeld=>?_)
  rw [HV0.out] at hHeld ⊢;refine tK 0 (some 40) (.pointer (some ⟨bb,0,none⟩)) rfl hHeld ?_;simp only [Act.put,pA,pB,pC];refine tK 1 (some 41) (.pointer (some ⟨bb,0,none⟩)) rfl hHeld ?_;simp only [Act.put,pA,pB,pC];refine tK 2 (some 42) (.pointer (some ⟨bb,2,none⟩)) rfl hHeld ?_;simp only [Act.put,pA,pB,pC]
  refine tH 3 (some 43) (.pointer (some ⟨px,0,none⟩)) rfl (fun w hw=>by obtain ⟨hw1,hw2,hw3,hw4,hw5,hw6,hw7,hw8,hw9⟩:=hw;first | rfl | (go_simp;done) | (go_simp;rfl)) hHeld ?_
  simp only [Act.put,pA,pB,pC];refine tK 4 (some 44) (.pointer (some ⟨bo,4,none⟩)) rfl hHeld ?_;simp only [Act.put,pA,pB,pC]
  refine tH 5 (some 45) (.int .i64 o.n) rfl (fun w hw=>by obtain ⟨hw1,hw2,hw3,hw4,hw5,hw6,hw7,hw8,hw9⟩:=hw;first | rfl | (go_simp;done) | (go_simp;rfl)) hHeld ?_
  simp only [Act.put,pA,pB,pC]
  refine rdH 6 rfl (fun K hK=>?_)
  go_simp
  refine (HCALL.out).mono ?_;rintro e We ⟨rfl,hld,hbd⟩
  try go_wp2_with fail
  refine hK.out _ _ ((HSS.out We _ _ (by rw [HSX.out] at hld;exact hld))) (fun hH=>?_)
  clear hK K hHeld;have hHeld:=hH;clear hH
  refine ⟨by kernel_rfl,?_⟩
  refine NoPanic.normal ?_;rw [HSX.out] at hld;have hbdd:=HVB.out.trans hbd;clear HS0 HCALL HV0 HVB hbd hHeld;have HLE:=hide hld.drop;have HBE:=hide hbdd;clear hld hbdd;go_wp2;go_ret;exact ⟨rfl,(A.fallen o.n),HLE.out,HBE.out⟩
 have k5:(o.kind == 5)=false:=by rw [beq_eq_false_iff_ne];exact hk5
 by_cases hk6:o.kind=6
 ·have k6:(o.kind == 6)=true:=by rw [beq_iff_eq];exact hk6
  obtain ⟨V0,hV0⟩:∃x,V.drew=x:=⟨_,rfl⟩
  have hv0:=HLV.out.same (w':=V.drew) (Nat.le_refl _) (fun _ _ _=>rfl)
  rw [hV0] at hv0
  have hvb0:Below B w V0:=by rw [←hV0];exact HBV.out.drew
  have HS0:=hide (HSS.out V0 A A hv0);have HCALL:=hide (r_crash hv0 (HIX.out A A _) HOK.out o.ad o.cap o.fates (HLIE.out.below hvb0).at_ HO.out.len);have HV0:=hide hV0;have HVB:=hide hvb0;clear hV0 hv0 hvb0;go_wp2;refine wp_region_noPanic ?_
  refine wp_region_held_drew (S:=fun wx=>wx.cell? ⟨bb,0,none⟩=some (.pointer (some ⟨pd,0,none⟩))∧wx.cell? ⟨bb,2,none⟩=some (.pointer (some ⟨px,0,none⟩))∧wx.cell? ⟨bo,0,none⟩=some (.int .i64 o.kind)∧wx.cell? ⟨bo,1,none⟩=some (.string o.text)∧wx.cell? ⟨bo,2,none⟩=some (.string o.name)∧wx.cell? ⟨bo,3,none⟩=some (.int .i64 o.at_)∧wx.cell? ⟨bo,4,none⟩=some (.int .i64 o.n)∧wx.cell? ⟨bo,5,none⟩=some (.int .i64 o.first)∧wx.cell? ⟨bo,6,none⟩=some (.slice o.ad o.fates.length o.cap)) (by kernel_rfl) (by rw [HV0.out];exact HS0.out) (fun hHeld=>?_)
  rw [HV0.out] at hHeld ⊢;refine tK 0 (some 49) (.pointer (some ⟨bb,0,none⟩)) rfl hHeld ?_;simp only [Act.put,pA,pB,pC];refine tK 1 (some 50) (.pointer (some ⟨bb,0,none⟩)) rfl hHeld ?_;simp only [Act.put,pA,pB,pC];refine tK 2 (some 51) (.pointer (some ⟨bb,2,none⟩)) rfl hHeld ?_;simp only [Act.put,pA,pB,pC]
  refine tH 3 (some 52) (.pointer (some ⟨px,0,none⟩)) rfl (fun w hw=>by obtain ⟨hw1,hw2,hw3,hw4,hw5,hw6,hw7,hw8,hw9⟩:=hw;first | rfl | (go_simp;done) | (go_simp;rfl)) hHeld ?_
  simp only [Act.put,pA,pB,pC];refine tK 4 (some 53) (.pointer (some ⟨bo,6,none⟩)) rfl hHeld ?_;simp only [Act.put,pA,pB,pC]
  refine tH 5 (some 54) (.slice o.ad o.fates.length o.cap) rfl (fun w hw=>by obtain ⟨hw1,hw2,hw3,hw4,hw5,hw6,hw7,hw8,hw9⟩:=hw;first | rfl | (go_simp;done) | (go_simp;rfl)) hHeld ?_
  simp only [Act.put,pA,pB,pC]
  refine rdH 6 rfl (fun K hK=>?_)
  go_simp
  refine (HCALL.out).mono ?_;rintro e Wd ⟨rfl,hld,hbd⟩
  try go_wp2_with fail
  refine hK.out _ _ ((HSS.out Wd _ _ (by rw [HSX.out] at hld;exact hld))) (fun hH=>?_)
  clear hK K hHeld;have hHeld:=hH;clear hH
  refine ⟨by kernel_rfl,?_⟩
  refine NoPanic.normal ?_;rw [HSX.out] at hld;have hbdd:=HVB.out.trans hbd;clear HS0 HCALL HV0 HVB hbd hHeld;have HL1:=hide hld;have HB1:=hide hbdd;clear hld hbdd;obtain ⟨V0,hV0⟩:∃x,Wd.drew=x:=⟨_,rfl⟩
  have hv0:=HL1.out.same (w':=Wd.drew) (Nat.le_refl _) (fun _ _ _=>rfl)
  rw [hV0] at hv0
  have hvb0:Below B w V0:=by rw [←hV0];exact HB1.out.drew
  have HS0:=hide (HSS.out V0 A (A.crash (o.fates.map FT.abs)) hv0);obtain ⟨ad5,n5,cap5,w5,hap,hbap,hcr⟩:=kcrash hv0 (HID.out A _ _) o.ad o.cap o.fates (HLIE.out.below hvb0).at_ HO.out.fates hfz 29;have HS5:=hide (HSS.out w5 A (A.crash (o.fates.map FT.abs)) (hv0.below hbap));have HAP:=hide hap;have HCR:=hide hcr;have HV0:=hide hV0;have HVB:=hide hvb0;clear hV0 hv0 hvb0 hap hcr hbap;go_wp2;refine wp_region_noPanic ?_
  refine wp_region_held_drew (S:=fun wx=>wx.cell? ⟨bb,0,none⟩=some (.pointer (some ⟨pd,0,none⟩))∧wx.cell? ⟨bb,2,none⟩=some (.pointer (some ⟨px,0,none⟩))∧wx.cell? ⟨bo,0,none⟩=some (.int .i64 o.kind)∧wx.cell? ⟨bo,1,none⟩=some (.string o.text)∧wx.cell? ⟨bo,2,none⟩=some (.string o.name)∧wx.cell? ⟨bo,3,none⟩=some (.int .i64 o.at_)∧wx.cell? ⟨bo,4,none⟩=some (.int .i64 o.n)∧wx.cell? ⟨bo,5,none⟩=some (.int .i64 o.first)∧wx.cell? ⟨bo,6,none⟩=some (.slice o.ad o.fates.length o.cap)) (by kernel_rfl) (by rw [HV0.out];exact HS0.out) (fun hHeld=>?_)
  rw [HV0.out] at hHeld ⊢;refine tK 0 (some 56) (.pointer (some ⟨bb,0,none⟩)) rfl hHeld ?_;simp only [Act.put,pA,pB,pC];refine tK 1 (some 57) (.pointer (some ⟨bb,0,none⟩)) rfl hHeld ?_;simp only [Act.put,pA,pB,pC];refine tK 2 (some 58) (.pointer (some ⟨bb,0,none⟩)) rfl hHeld ?_;simp only [Act.put,pA,pB,pC]
  refine tH 3 (some 59) (.pointer (some ⟨pd,0,none⟩)) rfl (fun w hw=>by obtain ⟨hw1,hw2,hw3,hw4,hw5,hw6,hw7,hw8,hw9⟩:=hw;first | rfl | (go_simp;done) | (go_simp;rfl)) hHeld ?_
  simp only [Act.put,pA,pB,pC];refine tK 4 (some 60) (.pointer (some ⟨bo,6,none⟩)) rfl hHeld ?_;simp only [Act.put,pA,pB,pC]
  refine tH 5 (some 61) (.slice o.ad o.fates.length o.cap) rfl (fun w hw=>by obtain ⟨hw1,hw2,hw3,hw4,hw5,hw6,hw7,hw8,hw9⟩:=hw;first | rfl | (go_simp;done) | (go_simp;rfl)) hHeld ?_
  simp only [Act.put,pA,pB,pC]
  refine rdH 6 rfl (fun K hK=>?_)
  refine wpRun (run_append_op _ _ _ rfl HAP.out) ?_;simp only [Act.put,pA,pB,pC]
  refine hK.out _ _ HS5.out (fun hH=>?_)
  clear hK K hHeld;have hHeld:=hH;clear hH
  refine rdH 7 rfl (fun K hK=>?_)
  go_simp
  refine (HCR.out).mono ?_;rintro e We ⟨rfl,hld,hbd⟩
  try go_wp2_with fail
  refine hK.out _ _ ((HSS.out We _ _ (by rw [HSD.out] at hld;exact hld))) (fun hH=>?_)
  clear hK K hHeld;have hHeld:=hH;clear hH
  refine ⟨by kernel_rfl,?_⟩
  refine NoPanic.normal ?_;rw [HSD.out] at hld;have hbdd:=HVB.out.trans hbd;clear hbd HAP HCR HVB HS0 HS5 HV0 hHeld;have HLE:=hide hld.drop;have HBE:=hide hbdd;clear hld hbdd;go_wp2;go_ret;exact ⟨rfl,(A.crash (o.fates.map FT.abs)),HLE.out,HBE.out⟩
 have k6:(o.kind == 6)=false:=by rw [beq_eq_false_iff_ne];exact hk6
 by_cases hk7:o.kind=7
 ·have k7:(o.kind == 7)=true:=by rw [beq_iff_eq];exact hk7
  obtain ⟨_,hy2,_⟩:=HSS.out V A A HLV.out;have hy1:=(HSS.out V A A HLV.out).1;have HC1:=hide (s_on HLV.out (HID.out A A _));go_wp2_with fail;refine (HC1.out).mono ?_;rintro e Wd ⟨rfl,hld,hbd⟩;rw [HSD.out] at hld;have hz:=(HSS.out Wd _ A hld).2.1;have HC2:=hide (r_on hld (HIX.out _ A _) HOK.out);have HB1:=hide (HBV.out.trans hbd);clear hld hbd;go_wp2_with fail;refine (HC2.out).mono ?_;rintro e We ⟨rfl,hld,hbd⟩;rw [HSX.out] at hld;have hbdd:=HB1.out.trans hbd;have HLE:=hide hld.drop;have HBE:=hide hbdd;clear hld hbdd;go_wp2;go_ret;exact ⟨rfl,A.on,HLE.out,HBE.out⟩
 have k7:(o.kind == 7)=false:=by rw [beq_eq_false_iff_ne];exact hk7
 by_cases hk8:o.kind=8
 ·have k8:(o.kind == 8)=true:=by rw [beq_iff_eq];exact hk8
  obtain ⟨V0,hV0⟩:∃x,V.drew=x:=⟨_,rfl⟩
  have hv0:=HLV.out.same (w':=V.drew) (Nat.le_refl _) (fun _ _ _=>rfl)
  rw [hV0] at hv0
  have hvb0:Below B w V0:=by rw [←hV0];exact HBV.out.drew
  have HS0:=hide (HSS.out V0 A A hv0);have HCALL:=hide (s_write hv0 (HID.out A A _) o.name HO.out.name o.at_ ⟨HO.out.a0,HO.out.a1⟩ o.text HO.out.text);have HV0:=hide hV0;have HVB:=hide hvb0;clear hV0 hv0 hvb0;go_wp2;refine wp_region_noPanic ?_
  refine wp_region_held_drew (S:=fun wx=>wx.cell? ⟨bb,0,none⟩=some (.pointer (some ⟨pd,0,none⟩))∧wx.cell? ⟨bb,2,none⟩=some (.pointer (some ⟨px,0,none⟩))∧wx.cell? ⟨bo,0,none⟩=some (.int .i64 o.kind)∧wx.cell? ⟨bo,1,none⟩=some (.string o.text)∧wx.cell? ⟨bo,2,none⟩=some (.string o.name)∧wx.cell? ⟨bo,3,none⟩=some (.int .i64 o.at_)∧wx.cell? ⟨bo,4,none⟩=some (.int .i64 o.n)∧wx.cell? ⟨bo,5,none⟩=some (.int .i64 o.first)∧wx.cell? ⟨bo,6,none⟩=some (.slice o.ad o.fates.length o.cap)) (by kernel_rfl) (by rw [HV0.out];exact HS0.out) (fun hHeld=>?_)
  rw [HV0.out] at hHeld ⊢;refine tK 0 (some 78) (.pointer (some ⟨bb,0,none⟩)) rfl hHeld ?_;simp only [Act.put,pA,pB,pC];refine tK 1 (some 79) (.pointer (some ⟨bb,0,none⟩)) rfl hHeld ?_;simp only [Act.put,pA,pB,pC];refine tK 2 (some 80) (.pointer (some ⟨bb,0,none⟩)) rfl hHeld ?_;simp only [Act.put,pA,pB,pC]
  refine tH 3 (some 81) (.pointer (some ⟨pd,0,none⟩)) rfl (fun w hw=>by obtain ⟨hw1,hw2,hw3,hw4,hw5,hw6,hw7,hw8,hw9⟩:=hw;first | rfl | (go_simp;done) | (go_simp;rfl)) hHeld ?_
  simp only [Act.put,pA,pB,pC];refine tK 4 (some 82) (.pointer (some ⟨bo,2,none⟩)) rfl hHeld ?_;simp only [Act.put,pA,pB,pC]
  refine tH 5 (some 83) (.string o.name) rfl (fun w hw=>by obtain ⟨hw1,hw2,hw3,hw4,hw5,hw6,hw7,hw8,hw9⟩:=hw;first | rfl | (go_simp;done) | (go_simp;rfl)) hHeld ?_
  simp only [Act.put,pA,pB,pC];refine tK 6 (some 84) (.pointer (some ⟨bo,3,none⟩)) rfl hHeld ?_;simp only [Act.put,pA,pB,pC]
  refine tH 7 (some 85) (.int .i64 o.at_) rfl (fun w hw=>by obtain ⟨hw1,hw2,hw3,hw4,hw5,hw6,hw7,hw8,hw9⟩:=hw;first | rfl | (go_simp;done) | (go_simp;rfl)) hHeld ?_
  simp only [Act.put,pA,pB,pC];refine tK 8 (some 86) (.pointer (some ⟨bo,1,none⟩)) rfl hHeld ?_;simp only [Act.put,pA,pB,pC]
  refine tH 9 (some 87) (.string o.text) rfl (fun w hw=>by obtain ⟨hw1,hw2,hw3,hw4,hw5,hw6,hw7,hw8,hw9⟩:=hw;first | rfl | (go_simp;done) | (go_simp;rfl)) hHeld ?_
  simp only [Act.put,pA,pB,pC]
  refine rdH 10 rfl (fun K hK=>?_)
  go_simp
  refine (HCALL.out).mono ?_;rintro e Wd ⟨rfl,hld,hbd⟩
  try go_wp2_with fail
  refine hK.out _ _ ((HSS.out Wd _ _ (by rw [HSD.out] at hld;exact hld))) (fun hH=>?_)
  clear hK K hHeld;have hHeld:=hH;clear hH;refine tK 11 (some 5) (.int .i64 (A.write o.name.data.toList o.at_ o.text.data.toList).1) rfl hHeld ?_;simp only [Act.put,pA,pB,pC]
  refine ⟨by kernel_rfl,?_⟩
  refine NoPanic.normal ?_;rw [HSD.out] at hld;have hbdd:=HVB.out.trans hbd;clear HS0 HCALL HV0 HVB hbd hHeld;obtain ⟨E,A1,hQ⟩:∃e a,A.write o.name.data.toList o.at_ o.text.data.toList=(e,a):=⟨_,_,rfl⟩;rw [hQ] at hld ⊢;have HQ:=hide hQ;have HL1:=hide hld;have HB1:=hide hbdd;clear hld hbdd hQ;obtain ⟨V0,hV0⟩:∃x,Wd.drew=x:=⟨_,rfl⟩
  have hv0:=HL1.out.same (w':=Wd.drew) (Nat.le_refl _) (fun _ _ _=>rfl)
  rw [hV0] at hv0
  have hvb0:Below B w V0:=by rw [←hV0];exact HB1.out.drew
  have HS0:=hide (HSS.out V0 A1 A hv0)
  have HCALL:=hide (by have:=r_write hv0 (HIX.out _ A _) HOK.out o.name HO.out.name o.at_ ⟨HO.out.a0,HO.out.a1⟩ o.text HO.out.text;rw [HQ.out] at this;exact this)
  have HV0:=hide hV0;have HVB:=hide hvb0;clear hV0 hv0 hvb0;go_wp2;refine wp_region_noPanic ?_
  refine wp_region_held_drew (S:=fun wx=>wx.cell? ⟨bb,0,none⟩=some (.pointer (some ⟨pd,0,none⟩))∧wx.cell? ⟨bb,2,none⟩=some (.pointer (some ⟨px,0,none⟩))∧wx.cell? ⟨bo,0,none⟩=some (.int .i64 o.kind)∧wx.cell? ⟨bo,1,none⟩=some (.string o.text)∧wx.cell? ⟨bo,2,none⟩=some (.string o.name)∧wx.cell? ⟨bo,3,none⟩=some (.int .i64 o.at_)∧wx.cell? ⟨bo,4,none⟩=some (.int .i64 o.n)∧wx.cell? ⟨bo,5,none⟩=some (.int .i64 o.first)∧wx.cell? ⟨bo,6,none⟩=some (.slice o.ad o.fates.length o.cap)) (by kernel_rfl) (by rw [HV0.out];exact HS0.out) (fun hHeld=>?_)
  rw [HV0.out] at hHeld ⊢;refine tK 0 (some 89) (.int .i64 E) rfl hHeld ?_;simp only [Act.put,pA,pB,pC];refine tK 1 (some 90) (.pointer (some ⟨bb,0,none⟩)) rfl hHeld ?_;simp only [Act.put,pA,pB,pC];refine tK 2 (some 91) (.pointer (some ⟨bb,0,none⟩)) rfl hHeld ?_;simp only [Act.put,pA,pB,pC];refine tK 3 (some 92) (.pointer (some ⟨bb,2,none⟩)) rfl hHeld ?_;simp only [Act.put,pA,pB,pC]
  refine tH 4 (some 93) (.pointer (some ⟨px,0,none⟩)) rfl (fun w hw=>by obtain ⟨hw1,hw2,hw3,hw4,hw5,hw6,hw7,hw8,hw9⟩:=hw;first | rfl | (go_simp;done) | (go_simp;rfl)) hHeld ?_
  simp only [Act.put,pA,pB,pC];refine tK 5 (some 94) (.pointer (some ⟨bo,2,none⟩)) rfl hHeld ?_;simp only [Act.put,pA,pB,pC]
  refine tH 6 (some 95) (.string o.name) rfl (fun w hw=>by obtain ⟨hw1,hw2,hw3,hw4,hw5,hw6,hw7,hw8,hw9⟩:=hw;first | rfl | (go_simp;done) | (go_simp;rfl)) hHeld ?_
  simp only [Act.put,pA,pB,pC];refine tK 7 (some 96) (.pointer (some ⟨bo,3,none⟩)) rfl hHeld ?_;simp only [Act.put,pA,pB,pC]
  refine tH 8 (some 97) (.int .i64 o.at_) rfl (fun w hw=>by obtain ⟨hw1,hw2,hw3,hw4,hw5,hw6,hw7,hw8,hw9⟩:=hw;first | rfl | (go_simp;done) | (go_simp;rfl)) hHeld ?_
  simp only [Act.put,pA,pB,pC];refine tK 9 (some 98) (.pointer (some ⟨bo,1,none⟩)) rfl hHeld ?_;simp only [Act.put,pA,pB,pC]
  refine tH 10 (some 99) (.string o.text) rfl (fun w hw=>by obtain ⟨hw1,hw2,hw3,hw4,hw5,hw6,hw7,hw8,hw9⟩:=hw;first | rfl | (go_simp;done) | (go_simp;rfl)) hHeld ?_
  simp only [Act.put,pA,pB,pC]
  refine rdH 11 rfl (fun K hK=>?_)
  go_simp
  refine (HCALL.out).mono ?_;rintro e We ⟨rfl,hld,hbd⟩
  try go_wp2_with fail
  refine hK.out _ _ ((HSS.out We _ _ (by rw [HSX.out] at hld;exact hld))) (fun hH=>?_)
  clear hK K hHeld;have hHeld:=hH;clear hH;refine tK 12 (some 101) (.bool true) rfl hHeld ?_;simp only [Act.put,pA,pB,pC];refine tK 13 (some 4) (.bool true) rfl hHeld ?_;simp only [Act.put,pA,pB,pC]
  refine ⟨by kernel_rfl,?_⟩
  refine NoPanic.normal ?_;rw [HSX.out] at hld;have hbdd:=HVB.out.trans hbd;clear HS0 HCALL HV0 HVB hbd hHeld;have HLE:=hide hld.drop;have HBE:=hide hbdd;clear hld hbdd;go_wp2;go_ret;exact ⟨rfl,A1,HLE.out,HBE.out⟩
 have k8:(o.kind == 8)=false:=by rw [beq_eq_false_iff_ne];exact hk8
 by_cases hk9:o.kind=9
 ·have k9:(o.kind == 9)=true:=by rw [beq_iff_eq];exact hk9
  obtain ⟨V0,hV0⟩:∃x,V.drew=x:=⟨_,rfl⟩
  have hv0:=HLV.out.same (w':=V.drew) (Nat.le_refl _) (fun _ _ _=>rfl)
  rw [hV0] at hv0
  have hvb0:Below B w V0:=by rw [←hV0];exact HBV.out.drew
  have HS0:=hide (HSS.out V0 A A hv0);have HCALL:=hide (s_trunc hv0 (HID.out A A _) o.name HO.out.name o.n);have HV0:=hide hV0;have HVB:=hide hvb0;clear hV0 hv0 hvb0;go_wp2;refine wp_region_noPanic ?_
  refine wp_region_held_drew (S:=fun wx=>wx.cell? ⟨bb,0,none⟩=some (.pointer (some ⟨pd,0,none⟩))∧wx.cell? ⟨bb,2,none⟩=some (.pointer (some ⟨px,0,none⟩))∧wx.cell? ⟨bo,0,none⟩=some (.int .i64 o.kind)∧wx.cell? ⟨bo,1,none⟩=some (.string o.text)∧wx.cell? ⟨bo,2,none⟩=some (.string o.name)∧wx.cell? ⟨bo,3,none⟩=some (.int .i64 o.at_)∧wx.cell? ⟨bo,4,none⟩=some (.int .i64 o.n)∧wx.cell? ⟨bo,5,none⟩=some (.int .i64 o.first)∧wx.cell? ⟨bo,6,none⟩=some (.slice o.ad o.fates.length o.cap)) (by kernel_rfl) (by rw [HV0.out];exact HS0.out) (fun hHeld=>?_)
  rw [HV0.out] at hHeld ⊢;refine tK 0 (some 104) (.pointer (some ⟨bb,0,none⟩)) rfl hHeld ?_;simp only [Act.put,pA,pB,pC];refine tK 1 (some 105) (.pointer (some ⟨bb,0,none⟩)) rfl hHeld ?_;simp only [Act.put,pA,pB,pC];refine tK 2 (some 106) (.pointer (some ⟨bb,0,none⟩)) rfl hHeld ?_;simp only [Act.put,pA,pB,pC]
  refine tH 3 (some 107) (.pointer (some ⟨pd,0,none⟩)) rfl (fun w hw=>by obtain ⟨hw1,hw2,hw3,hw4,hw5,hw6,hw7,hw8,hw9⟩:=hw;first | rfl | (go_simp;done) | (go_simp;rfl)) hHeld ?_
  simp only [Act.put,pA,pB,pC];refine tK 4 (some 108) (.pointer (some ⟨bo,2,none⟩)) rfl hHeld ?_;simp only [Act.put,pA,pB,pC]
  refine tH 5 (some 109) (.string o.name) rfl (fun w hw=>by obtain ⟨hw1,hw2,hw3,hw4,hw5,hw6,hw7,hw8,hw9⟩:=hw;first | rfl | (go_simp;done) | (go_simp;rfl)) hHeld ?_
  simp only [Act.put,pA,pB,pC];refine tK 6 (some 110) (.pointer (some ⟨bo,4,none⟩)) rfl hHeld ?_;simp only [Act.put,pA,pB,pC]
  refine tH 7 (some 111) (.int .i64 o.n) rfl (fun w hw=>by obtain ⟨hw1,hw2,hw3,hw4,hw5,hw6,hw7,hw8,hw9⟩:=hw;first | rfl | (go_simp;done) | (go_simp;rfl)) hHeld ?_
  simp only [Act.put,pA,pB,pC]
  refine rdH 8 rfl (fun K hK=>?_)
  go_simp
  refine (HCALL.out).mono ?_;rintro e Wd ⟨rfl,hld,hbd⟩
  try go_wp2_with fail
  refine hK.out _ _ ((HSS.out Wd _ _ (by rw [HSD.out] at hld;exact hld))) (fun hH=>?_)
  clear hK K hHeld;have hHeld:=hH;clear hH;refine tK 9 (some 6) (.int .i64 (A.trunc o.name.data.toList o.n).1) rfl hHeld ?_;simp only [Act.put,pA,pB,pC]
  refine ⟨by kernel_rfl,?_⟩
  refine NoPanic.normal ?_;rw [HSD.out] at hld;have hbdd:=HVB.out.trans hbd;clear HS0 HCALL HV0 HVB hbd hHeld;obtain ⟨E,A1,hQ⟩:∃e a,A.trunc o.name.data.toList o.n=(e,a):=⟨_,_,rfl⟩;rw [hQ] at hld ⊢;have HQ:=hide hQ;have HL1:=hide hld;have HB1:=hide hbdd;clear hld hbdd hQ;obtain ⟨V0,hV0⟩:∃x,Wd.drew=x:=⟨_,rfl⟩
  have hv0:=HL1.out.same (w':=Wd.drew) (Nat.le_refl _) (fun _ _ _=>rfl)
  rw [hV0] at hv0
  have hvb0:Below B w V0:=by rw [←hV0];exact HB1.out.drew
  have HS0:=hide (HSS.out V0 A1 A hv0)
  have HCALL:=hide (by have:=r_trunc hv0 (HIX.out _ A _) HOK.out o.name o.n;rw [HQ.out] at this;exact this)
  have HV0:=hide hV0;have HVB:=hide hvb0;clear hV0 hv0 hvb0;go_wp2;refine wp_region_noPanic ?_
  refine wp_region_held_drew (S:=fun wx=>wx.cell? ⟨bb,0,none⟩=some (.pointer (some ⟨pd,0,none⟩))∧wx.cell? ⟨bb,2,none⟩=some (.pointer (some ⟨px,0,none⟩))∧wx.cell? ⟨bo,0,none⟩=some (.int .i64 o.kind)∧wx.cell? ⟨bo,1,none⟩=some (.string o.text)∧wx.cell? ⟨bo,2,none⟩=some (.string o.name)∧wx.cell? ⟨bo,3,none⟩=some (.int .i64 o.at_)∧wx.cell? ⟨bo,4,none⟩=some (.int .i64 o.n)∧wx.cell? ⟨bo,5,none⟩=some (.int .i64 o.first)∧wx.cell? ⟨bo,6,none⟩=some (.slice o.ad o.fates.length o.cap)) (by kernel_rfl) (by rw [HV0.out];exact HS0.out) (fun hHeld=>?_)
  rw [HV0.out] at hHeld ⊢;refine tK 0 (some 113) (.int .i64 E) rfl hHeld ?_;simp only [Act.put,pA,pB,pC];refine tK 1 (some 114) (.pointer (some ⟨bb,0,none⟩)) rfl hHeld ?_;simp only [Act.put,pA,pB,pC];refine tK 2 (some 115) (.pointer (some ⟨bb,0,none⟩)) rfl hHeld ?_;simp only [Act.put,pA,pB,pC];refine tK 3 (some 116) (.pointer (some ⟨bb,2,none⟩)) rfl hHeld ?_;simp only [Act.put,pA,pB,pC]
  refine tH 4 (some 117) (.pointer (some ⟨px,0,none⟩)) rfl (fun w hw=>by obtain ⟨hw1,hw2,hw3,hw4,hw5,hw6,hw7,hw8,hw9⟩:=hw;first | rfl | (go_simp;done) | (go_simp;rfl)) hHeld ?_
  simp only [Act.put,pA,pB,pC];refine tK 5 (some 118) (.pointer (some ⟨bo,2,none⟩)) rfl hHeld ?_;simp only [Act.put,pA,pB,pC]
  refine tH 6 (some 119) (.string o.name) rfl (fun w hw=>by obtain ⟨hw1,hw2,hw3,hw4,hw5,hw6,hw7,hw8,hw9⟩:=hw;first | rfl | (go_simp;done) | (go_simp;rfl)) hHeld ?_
  simp only [Act.put,pA,pB,pC];refine tK 7 (some 120) (.pointer (some ⟨bo,4,none⟩)) rfl hHeld ?_;simp only [Act.put,pA,pB,pC]
  refine tH 8 (some 121) (.int .i64 o.n) rfl (fun w hw=>by obtain ⟨hw1,hw2,hw3,hw4,hw5,hw6,hw7,hw8,hw9⟩:=hw;first | rfl | (go_simp;done) | (go_simp;rfl)) hHeld ?_
  simp only [Act.put,pA,pB,pC]
  refine rdH 9 rfl (fun K hK=>?_)
  go_simp
  refine (HCALL.out).mono ?_;rintro e We ⟨rfl,hld,hbd⟩
  try go_wp2_with fail
  refine hK.out _ _ ((HSS.out We _ _ (by rw [HSX.out] at hld;exact hld))) (fun hH=>?_)
  clear hK K hHeld;have hHeld:=hH;clear hH;refine tK 10 (some 123) (.bool true) rfl hHeld ?_;simp only [Act.put,pA,pB,pC];refine tK 11 (some 4) (.bool true) rfl hHeld ?_;simp only [Act.put,pA,pB,pC]
  refine ⟨by kernel_rfl,?_⟩
  refine NoPanic.normal ?_;rw [HSX.out] at hld;have hbdd:=HVB.out.trans hbd;clear HS0 HCALL HV0 HVB hbd hHeld;have HLE:=hide hld.drop;have HBE:=hide hbdd;clear hld hbdd;go_wp2;go_ret;exact ⟨rfl,A1,HLE.out,HBE.out⟩
 have k9:(o.kind == 9)=false:=by rw [beq_eq_false_iff_ne];exact hk9
 by_cases hk10:o.kind=10
 ·have k10:(o.kind == 10)=true:=by rw [beq_iff_eq];exact hk10
  obtain ⟨V0,hV0⟩:∃x,V.drew=x:=⟨_,rfl⟩
  have hv0:=HLV.out.same (w':=V.drew) (Nat.le_refl _) (fun _ _ _=>rfl)
  rw [hV0] at hv0
  have hvb0:Below B w V0:=by rw [←hV0];exact HBV.out.drew
  have HS0:=hide (HSS.out V0 A A hv0);have HCALL:=hide (s_sync hv0 (HID.out A A _) o.name HO.out.name);have HV0:=hide hV0;have HVB:=hide hvb0;clear hV0 hv0 hvb0;go_wp2;refine wp_region_noPanic ?_
  refine wp_region_held_drew (S:=fun wx=>wx.cell? ⟨bb,0,none⟩=some (.pointer (some ⟨pd,0,none⟩))∧wx.cell? ⟨bb,2,none⟩=some (.pointer (some ⟨px,0,none⟩))∧wx.cell? ⟨bo,0,none⟩=some (.int .i64 o.kind)∧wx.cell? ⟨bo,1,none⟩=some (.string o.text)∧wx.cell? ⟨bo,2,none⟩=some (.string o.name)∧wx.cell? ⟨bo,3,none⟩=some (.int .i64 o.at_)∧wx.cell? ⟨bo,4,none⟩=some (.int .i64 o.n)∧wx.cell? ⟨bo,5,none⟩=some (.int .i64 o.first)∧wx.cell? ⟨bo,6,none⟩=some (.slice o.ad o.fates.length o.cap)) (by kernel_rfl) (by rw [HV0.out];exact HS0.out) (fun hHeld=>?_)
  rw [HV0.out] at hHeld ⊢;refine tK 0 (some 126) (.pointer (some ⟨bb,0,none⟩)) rfl hHeld ?_;simp only [Act.put,pA,pB,pC];refine tK 1 (some 127) (.pointer (some ⟨bb,0,none⟩)) rfl hHeld ?_;simp only [Act.put,pA,pB,pC];refine tK 2 (some 128) (.pointer (some ⟨bb,0,none⟩)) rfl hHeld ?_;simp only [Act.put,pA,pB,pC]
  refine tH 3 (some 129) (.pointer (some ⟨pd,0,none⟩)) rfl (fun w hw=>by obtain ⟨hw1,hw2,hw3,hw4,hw5,hw6,hw7,hw8,hw9⟩:=hw;first | rfl | (go_simp;done) | (go_simp;rfl)) hHeld ?_
  simp only [Act.put,pA,pB,pC];refine tK 4 (some 130) (.pointer (some ⟨bo,2,none⟩)) rfl hHeld ?_;simp only [Act.put,pA,pB,pC]
  refine tH 5 (some 131) (.string o.name) rfl (fun w hw=>by obtain ⟨hw1,hw2,hw3,hw4,hw5,hw6,hw7,hw8,hw9⟩:=hw;first | rfl | (go_simp;done) | (go_simp;rfl)) hHeld ?_
  simp only [Act.put,pA,pB,pC]
  refine rdH 6 rfl (fun K hK=>?_)
  go_simp
  refine (HCALL.out).mono ?_;rintro e Wd ⟨rfl,hld,hbd⟩
  try go_wp2_with fail
  refine hK.out _ _ ((HSS.out Wd _ _ (by rw [HSD.out] at hld;exact hld))) (fun hH=>?_)
  clear hK K hHeld;have hHeld:=hH;clear hH;refine tK 7 (some 7) (.int .i64 (A.sync o.name.data.toList).1) rfl hHeld ?_;simp only [Act.put,pA,pB,pC]
  refine ⟨by kernel_rfl,?_⟩
  refine NoPanic.normal ?_;rw [HSD.out] at hld;have hbdd:=HVB.out.trans hbd;clear HS0 HCALL HV0 HVB hbd hHeld;obtain ⟨E,A1,hQ⟩:∃e a,A.sync o.name.data.toList=(e,a):=⟨_,_,rfl⟩;rw [hQ] at hld ⊢;have HQ:=hide hQ;have HL1:=hide hld;have HB1:=hide hbdd;clear hld hbdd hQ;obtain ⟨V0,hV0⟩:∃x,Wd.drew=x:=⟨_,rfl⟩
  have hv0:=HL1.out.same (w':=Wd.drew) (Nat.le_refl _) (fun _ _ _=>rfl)
  rw [hV0] at hv0
  have hvb0:Below B w V0:=by rw [←hV0];exact HB1.out.drew
  have HS0:=hide (HSS.out V0 A1 A hv0)
  have HCALL:=hide (by have:=r_sync hv0 (HIX.out _ A _) HOK.out o.name;rw [HQ.out] at this;exact this)
  have HV0:=hide hV0;have HVB:=hide hvb0;clear hV0 hv0 hvb0;go_wp2;refine wp_region_noPanic ?_
  refine wp_region_held_drew (S:=fun wx=>wx.cell? ⟨bb,0,none⟩=some (.pointer (some ⟨pd,0,none⟩))∧wx.cell? ⟨bb,2,none⟩=some (.pointer (some ⟨px,0,none⟩))∧wx.cell? ⟨bo,0,none⟩=some (.int .i64 o.kind)∧wx.cell? ⟨bo,1,none⟩=some (.string o.text)∧wx.cell? ⟨bo,2,none⟩=some (.string o.name)∧wx.cell? ⟨bo,3,none⟩=some (.int .i64 o.at_)∧wx.cell? ⟨bo,4,none⟩=some (.int .i64 o.n)∧wx.cell? ⟨bo,5,none⟩=some (.int .i64 o.first)∧wx.cell? ⟨bo,6,none⟩=some (.slice o.ad o.fates.length o.cap)) (by kernel_rfl) (by rw [HV0.out];exact HS0.out) (fun hHeld=>?_)
  rw [HV0.out] at hHeld ⊢;refine tK 0 (some 133) (.int .i64 E) rfl hHeld ?_;simp only [Act.put,pA,pB,pC];refine tK 1 (some 134) (.pointer (some ⟨bb,0,none⟩)) rfl hHeld ?_;simp only [Act.put,pA,pB,pC];refine tK 2 (some 135) (.pointer (some ⟨bb,0,none⟩)) rfl hHeld ?_;simp only [Act.put,pA,pB,pC];refine tK 3 (some 136) (.pointer (some ⟨bb,2,none⟩)) rfl hHeld ?_;simp only [Act.put,pA,pB,pC]
  refine tH 4 (some 137) (.pointer (some ⟨px,0,none⟩)) rfl (fun w hw=>by obtain ⟨hw1,hw2,hw3,hw4,hw5,hw6,hw7,hw8,hw9⟩:=hw;first | rfl | (go_simp;done) | (go_simp;rfl)) hHeld ?_
  simp only [Act.put,pA,pB,pC];refine tK 5 (some 138) (.pointer (some ⟨bo,2,none⟩)) rfl hHeld ?_;simp only [Act.put,pA,pB,pC]
  refine tH 6 (some 139) (.string o.name) rfl (fun w hw=>by obtain ⟨hw1,hw2,hw3,hw4,hw5,hw6,hw7,hw8,hw9⟩:=hw;first | rfl | (go_simp;done) | (go_simp;rfl)) hHeld ?_
  simp only [Act.put,pA,pB,pC]
  refine rdH 7 rfl (fun K hK=>?_)
  go_simp
  refine (HCALL.out).mono ?_;rintro e We ⟨rfl,hld,hbd⟩
  try go_wp2_with fail
  refine hK.out _ _ ((HSS.out We _ _ (by rw [HSX.out] at hld;exact hld))) (fun hH=>?_)
  clear hK K hHeld;have hHeld:=hH;clear hH;refine tK 8 (some 141) (.bool true) rfl hHeld ?_;simp only [Act.put,pA,pB,pC];refine tK 9 (some 4) (.bool true) rfl hHeld ?_;simp only [Act.put,pA,pB,pC]
  refine ⟨by kernel_rfl,?_⟩
  refine NoPanic.normal ?_;rw [HSX.out] at hld;have hbdd:=HVB.out.trans hbd;clear HS0 HCALL HV0 HVB hbd hHeld;have HLE:=hide hld.drop;have HBE:=hide hbdd;clear hld hbdd;go_wp2;go_ret;exact ⟨rfl,A1,HLE.out,HBE.out⟩
 have k10:(o.kind == 10)=false:=by rw [beq_eq_false_iff_ne];exact hk10
 by_cases hk11:o.kind=11
 ·have k11:(o.kind == 11)=true:=by rw [beq_iff_eq];exact hk11
  obtain ⟨V0,hV0⟩:∃x,V.drew=x:=⟨_,rfl⟩
  have hv0:=HLV.out.same (w':=V.drew) (Nat.le_refl _) (fun _ _ _=>rfl)
  rw [hV0] at hv0
  have hvb0:Below B w V0:=by rw [←hV0];exact HBV.out.drew
  have HS0:=hide (HSS.out V0 A A hv0);have HCALL:=hide (s_remove hv0 (HID.out A A _) o.name HO.out.name);have HV0:=hide hV0;have HVB:=hide hvb0;clear hV0 hv0 hvb0;go_wp2;refine wp_region_noPanic ?_
  refine wp_region_held_drew (S:=fun wx=>wx.cell? ⟨bb,0,none⟩=some (.pointer (some ⟨pd,0,none⟩))∧wx.cell? ⟨bb,2,none⟩=some (.pointer (some ⟨px,0,none⟩))∧wx.cell? ⟨bo,0,none⟩=some (.int .i64 o.kind)∧wx.cell? ⟨bo,1,none⟩=some (.string o.text)∧wx.cell? ⟨bo,2,none⟩=some (.string o.name)∧wx.cell? ⟨bo,3,none⟩=some (.int .i64 o.at_)∧wx.cell? ⟨bo,4,none⟩=some (.int .i64 o.n)∧wx.cell? ⟨bo,5,none⟩=some (.int .i64 o.first)∧wx.cell? ⟨bo,6,none⟩=some (.slice o.ad o.fates.length o.cap)) (by kernel_rfl) (by rw [HV0.out];exact HS0.out) (fun hHeld=>?_)
  rw [HV0.out] at hHeld ⊢;refine tK 0 (some 144) (.pointer (some ⟨bb,0,none⟩)) rfl hHeld ?_;simp only [Act.put,pA,pB,pC];refine tK 1 (some 145) (.pointer (some ⟨bb,0,none⟩)) rfl hHeld ?_;simp only [Act.put,pA,pB,pC];refine tK 2 (some 146) (.pointer (some ⟨bb,0,none⟩)) rfl hHeld ?_;simp only [Act.put,pA,pB,pC]
  refine tH 3 (some 147) (.pointer (some ⟨pd,0,none⟩)) rfl (fun w hw=>by obtain ⟨hw1,hw2,hw3,hw4,hw5,hw6,hw7,hw8,hw9⟩:=hw;first | rfl | (go_simp;done) | (go_simp;rfl)) hHeld ?_
  simp only [Act.put,pA,pB,pC];refine tK 4 (some 148) (.pointer (some ⟨bo,2,none⟩)) rfl hHeld ?_;simp only [Act.put,pA,pB,pC]
  refine tH 5 (some 149) (.string o.name) rfl (fun w hw=>by obtain ⟨hw1,hw2,hw3,hw4,hw5,hw6,hw7,hw8,hw9⟩:=hw;first | rfl | (go_simp;done) | (go_simp;rfl)) hHeld ?_
  simp only [Act.put,pA,pB,pC]
  refine rdH 6 rfl (fun K hK=>?_)
  go_simp
  refine (HCALL.out).mono ?_;rintro e Wd ⟨rfl,hld,hbd⟩
  try go_wp2_with fail
  refine hK.out _ _ ((HSS.out Wd _ _ (by rw [HSD.out] at hld;exact hld))) (fun hH=>?_)
  clear hK K hHeld;have hHeld:=hH;clear hH;refine tK 7 (some 8) (.int .i64 (A.remove o.name.data.toList).1) rfl hHeld ?_;simp only [Act.put,pA,pB,pC]
  refine ⟨by kernel_rfl,?_⟩
  refine NoPanic.normal ?_;rw [HSD.out] at hld;have hbdd:=HVB.out.trans hbd;clear HS0 HCALL HV0 HVB hbd hHeld;obtain ⟨E,A1,hQ⟩:∃e a,A.remove o.name.data.toList=(e,a):=⟨_,_,rfl⟩;rw [hQ] at hld ⊢;have HQ:=hide hQ;have HL1:=hide hld;have HB1:=hide hbdd;clear hld hbdd hQ;obtain ⟨V0,hV0⟩:∃x,Wd.drew=x:=⟨_,rfl⟩
  have hv0:=HL1.out.same (w':=Wd.drew) (Nat.le_refl _) (fun _ _ _=>rfl)
  rw [hV0] at hv0
  have hvb0:Below B w V0:=by rw [←hV0];exact HB1.out.drew
  have HS0:=hide (HSS.out V0 A1 A hv0)
  have HCALL:=hide (by have:=r_remove hv0 (HIX.out _ A _) HOK.out o.name;rw [HQ.out] at this;exact this)
  have HV0:=hide hV0;have HVB:=hide hvb0;clear hV0 hv0 hvb0;go_wp2;refine wp_region_noPanic ?_
  refine wp_region_held_drew (S:=fun wx=>wx.cell? ⟨bb,0,none⟩=some (.pointer (some ⟨pd,0,none⟩))∧wx.cell? ⟨bb,2,none⟩=some (.pointer (some ⟨px,0,none⟩))∧wx.cell? ⟨bo,0,none⟩=some (.int .i64 o.kind)∧wx.cell? ⟨bo,1,none⟩=some (.string o.text)∧wx.cell? ⟨bo,2,none⟩=some (.string o.name)∧wx.cell? ⟨bo,3,none⟩=some (.int .i64 o.at_)∧wx.cell? ⟨bo,4,none⟩=some (.int .i64 o.n)∧wx.cell? ⟨bo,5,none⟩=some (.int .i64 o.first)∧wx.cell? ⟨bo,6,none⟩=some (.slice o.ad o.fates.length o.cap)) (by kernel_rfl) (by rw [HV0.out];exact HS0.out) (fun hHeld=>?_)
  rw [HV0.out] at hHeld ⊢;refine tK 0 (some 151) (.int .i64 E) rfl hHeld ?_;simp only [Act.put,pA,pB,pC];refine tK 1 (some 152) (.pointer (some ⟨bb,0,none⟩)) rfl hHeld ?_;simp only [Act.put,pA,pB,pC];refine tK 2 (some 153) (.pointer (some ⟨bb,0,none⟩)) rfl hHeld ?_;simp only [Act.put,pA,pB,pC];refine tK 3 (some 154) (.pointer (some ⟨bb,2,none⟩)) rfl hHeld ?_;simp only [Act.put,pA,pB,pC]
  refine tH 4 (some 155) (.pointer (some ⟨px,0,none⟩)) rfl (fun w hw=>by obtain ⟨hw1,hw2,hw3,hw4,hw5,hw6,hw7,hw8,hw9⟩:=hw;first | rfl | (go_simp;done) | (go_simp;rfl)) hHeld ?_
  simp only [Act.put,pA,pB,pC];refine tK 5 (some 156) (.pointer (some ⟨bo,2,none⟩)) rfl hHeld ?_;simp only [Act.put,pA,pB,pC]
  refine tH 6 (some 157) (.string o.name) rfl (fun w hw=>by obtain ⟨hw1,hw2,hw3,hw4,hw5,hw6,hw7,hw8,hw9⟩:=hw;first | rfl | (go_simp;done) | (go_simp;rfl)) hHeld ?_
  simp only [Act.put,pA,pB,pC]
  refine rdH 7 rfl (fun K hK=>?_)
  go_simp
  refine (HCALL.out).mono ?_;rintro e We ⟨rfl,hld,hbd⟩
  try go_wp2_with fail
  refine hK.out _ _ ((HSS.out We _ _ (by rw [HSX.out] at hld;exact hld))) (fun hH=>?_)
  clear hK K hHeld;have hHeld:=hH;clear hH;refine tK 8 (some 159) (.bool true) rfl hHeld ?_;simp only [Act.put,pA,pB,pC];refine tK 9 (some 4) (.bool true) rfl hHeld ?_;simp only [Act.put,pA,pB,pC]
  refine ⟨by kernel_rfl,?_⟩
  refine NoPanic.normal ?_;rw [HSX.out] at hld;have hbdd:=HVB.out.trans hbd;clear HS0 HCALL HV0 HVB hbd hHeld;have HLE:=hide hld.drop;have HBE:=hide hbdd;clear hld hbdd;go_wp2;go_ret;exact ⟨rfl,A1,HLE.out,HBE.out⟩
 have k11:(o.kind == 11)=false:=by rw [beq_eq_false_iff_ne];exact hk11
 have HLE:=hide HLV.out.drop;go_wp2;go_ret;exact ⟨rfl,A,HLE.out,HBV.out⟩
end
end Go.Proofs.YtjbdncknooeplaaGreatDoor
