import Derived.Test.YtjbdncknooeplaaGreatDoorWROpen
import Derived.Test.YtjbdncknooeplaaGreatDoorWRFit2
import Derived.Test.YtjbdncknooeplaaGreatDoorWRNumM
import Derived.Test.YtjbdncknooeplaaGreatDoorWROpenK
import Derived.Deep.AppendLies
namespace Go.Proofs.YtjbdncknooeplaaGreatDoor
open Go.RowKit Go.Maps
set_option linter.unusedVariables false
set_option linter.unusedSimpArgs false
def LS1 (bb pd px l m:Nat) (A:AD) (g g':AL):List Item:=[Item.block bb (.cells #[.pointer (some ⟨pd,0,none⟩),.pointer (some ⟨l,0,none⟩),.pointer (some ⟨px,0,none⟩),.pointer (some ⟨m,0,none⟩)] 58 (0,0)),Item.disk pd A,Item.ref px A,Item.log l pd g,Item.rlog m px g']
section
variable {B:Nat} {w:World} {X:List Item} {bb pd px:Nat} {A:AD} {lp rp:Value}
theorem two_logs {a b c d e f h d':Item} (hl:Lies B w ([a,b,c]++X++[d]++[e,f]++[h,d'])):Lies B w [a,b,c,e,h]:=by
 refine hl.pick (fun q=>if q<3 then q else if q=3 then X.length+4 else X.length+6) (fun x y hx hy e=>?_) (fun q x hq=>?_)
 ·simp at hx hy
  (repeat' split at e)<;>omega
 ·have hlt:=(List.getElem?_eq_some_iff.1 hq).1
  simp at hlt
  have hlen:([a,b,c]++X).length=X.length+3:=by simp<;>omega
  match q,hlt with
  | 0,_=>simpa using hq
  | 1,_=>simpa using hq
  | 2,_=>simpa using hq
  | 3,_=>
   rw [if_neg (show ¬(3<3) by omega),if_pos rfl]
   rw [List.append_assoc,List.append_assoc,List.getElem?_append_right (by omega),hlen,show X.length+4 - (X.length+3)=1 by omega]
   simpa using hq
  | 4,_=>
   rw [if_neg (show ¬(4<3) by omega),if_neg (show ¬(4=3) by omega)]
   rw [List.append_assoc,List.append_assoc,List.getElem?_append_right (by omega),hlen,show X.length+6 - (X.length+3)=3 by omega]
   simpa using hq
set_option maxRecDepth 100000 in
set_option maxHeartbeats 8000000 in
theorem opens_any (h:Lies B w ([Item.block bb (.cells #[.pointer (some ⟨pd,0,none⟩),lp,.pointer (some ⟨px,0,none⟩),rp] 58 (0,0)),Item.disk pd A,Item.ref px A]++X)) (he:Env B w) (o:WOp) (ho:o.Ok) (hnz:o.name.size≤140737488355328) :
 Calls Tryz.prog 45 #[.pointer (some ⟨bb,0,none⟩),.agg o.cs] w fun e w'=>e=.returned (.bool true)∧((∃A',Lies B w' ([Item.block bb (.cells #[.pointer (some ⟨pd,0,none⟩),lp,.pointer (some ⟨px,0,none⟩),rp] 58 (0,0)),Item.disk pd A',Item.ref px A']++X))∨(∃l m A' g g',Lies B w' (LS1 bb pd px l m A' g g')∧g.Good∧LogEq g g'))∧Below B w w':=by
 have hok:=h.ok (i:=1) (p:=pd) (A:=A) rfl;obtain ⟨bo,hbo⟩:∃x,w.heap.size=x:=⟨_,rfl⟩;obtain ⟨V,hV⟩:∃x,w.alloc (.cells o.cs 31)=x:=⟨_,rfl⟩;obtain ⟨hlv,hbv⟩:=h.newCells o.cs 31;rw [hV,hbo] at hlv;rw [hV] at hbv
 have HSS:Hid (∀(wx:World) (A1 A2:AD) (Z:List Item),Lies B wx (([Item.block bb (.cells #[.pointer (some ⟨pd,0,none⟩),lp,.pointer (some ⟨px,0,none⟩),rp] 58 (0,0)),Item.disk pd A1,Item.ref px A2]++X++[Item.block bo (.cells o.cs 31 (0,0))])++Z)→wx.cell? ⟨bb,0,none⟩=some (.pointer (some ⟨pd,0,none⟩))∧wx.cell? ⟨bb,2,none⟩=some (.pointer (some ⟨px,0,none⟩))∧wx.cell? ⟨bo,0,none⟩=some (.int .i64 o.kind)∧wx.cell? ⟨bo,1,none⟩=some (.string o.text)∧wx.cell? ⟨bo,2,none⟩=some (.string o.name)∧wx.cell? ⟨bo,3,none⟩=some (.int .i64 o.at_)∧wx.cell? ⟨bo,4,none⟩=some (.int .i64 o.n)∧wx.cell? ⟨bo,5,none⟩=some (.int .i64 o.first)∧wx.cell? ⟨bo,6,none⟩=some (.slice o.ad o.fates.length o.cap)):=fun wx A1 A2 Z hl=>by
  have hl:=hl.drop;have a:=hl.cellAt (q:=0) (b:=bb) rfl;have b:=hl.cellAt (q:=([Item.block bb (.cells #[.pointer (some ⟨pd,0,none⟩),lp,.pointer (some ⟨px,0,none⟩),rp] 58 (0,0)),Item.disk pd A1,Item.ref px A2]++X).length) (b:=bo) (cs:=o.cs) get_t0;exact ⟨a 0,a 2,b 0,b 1,b 2,b 3,b 4,b 5,b 6⟩
 obtain ⟨R,hR⟩:∃R,openA A o.name o.n o.first=R:=⟨_,rfl⟩;obtain ⟨R',hR'⟩:∃R,dOpenA A o.name o.n o.first=R:=⟨_,rfl⟩;have hOE:=open_eq A o.name o.n o.first;rw [hR,hR'] at hOE
 have HGOOD:Hid (∀g,R.log=some g→g.Good):=fun g hg=>open_good hok (by rw [hR];exact hg)
 have HOK:=hide hok;have HO:=hide ho;have HLV:=hide hlv;have HBV:=hide hbv;have HR:=hide hR;have HR':=hide hR';have HENV:=hide he;have hcs:o.cs=#[.int .i64 o.kind,.string o.text,.string o.name,.int .i64 o.at_,.int .i64 o.n,.int .i64 o.first,.slice o.ad o.fates.length o.cap]:=rfl;rw [hcs] at hV ⊢;clear h hlv hbv hok ho hcs hR hR' he
 rcases hOE with ⟨herr,hdisk,hpay,hlog⟩
 rcases hlog with ⟨hn1,hn2⟩ | ⟨g,g',hs1,hs2,hge⟩
 ·obtain ⟨E,hE⟩:∃E,R.err=E:=⟨_,rfl⟩
  obtain ⟨D,hD⟩:∃D,R.disk=D:=⟨_,rfl⟩;rw [hE] at herr;rw [hD] at hdisk;have HN1:=hide hn1;have HN2:=hide hn2;have HE:=hide hE;have HD:=hide hD;have HE':=hide herr.symm;have HD':=hide hdisk.symm;clear hn1 hn2 hE hD herr hdisk hpay HGOOD
  go_enter Tryz.func45,Tryz.ntmps45
  obtain ⟨V0,hV0⟩:∃x,V.drew=x:=⟨_,rfl⟩
  have hv0:=HLV.out.same (w':=V.drew) (Nat.le_refl _) (fun _ _ _=>rfl)
  rw [hV0] at hv0
  have hvb0:Below B w V0:=by rw [←hV0];exact HBV.out.drew
  have HS0:=hide (HSS.out V0 A A _ (by simpa using hv0))
  have hcall:=open_any (i:=1) (p:=pd) (A:=A) hv0 rfl (HENV.out.below hvb0) o.name hnz o.n o.first ⟨HO.out.n0,by have:=HO.out.n1;omega⟩ ⟨HO.out.f0,by have:=HO.out.f1;omega⟩ R HR.out
  unfold OpenPost at hcall;rw [HN1.out,HE.out,HD.out] at hcall;simp only at hcall;have HCALL:=hide hcall;have HV0:=hide hV0;have HVB:=hide hvb0;clear hV0 hv0 hvb0 hcall;go_wp2;refine wp_region_noPanic ?_
  refine wp_region_held_drew (S:=fun wx=>wx.cell? ⟨bb,0,none⟩=some (.pointer (some ⟨pd,0,none⟩))∧wx.cell? ⟨bb,2,none⟩=some (.pointer (some ⟨px,0,none⟩))∧wx.cell? ⟨bo,0,none⟩=some (.int .i64 o.kind)∧wx.cell? ⟨bo,1,none⟩=some (.string o.text)∧wx.cell? ⟨bo,2,none⟩=some (.string o.name)∧wx.cell? ⟨bo,3,none⟩=some (.int .i64 o.at_)∧wx.cell? ⟨bo,4,none⟩=some (.int .i64 o.n)∧wx.cell? ⟨bo,5,none⟩=some (.int .i64 o.first)∧wx.cell? ⟨bo,6,none⟩=some (.slice o.ad o.fates.length o.cap)) (by kernel_rfl) (by rw [HV0.out];exact HS0.out) (fun hHeld=>?_)
  rw [HV0.out] at hHeld ⊢;refine tK 0 (some 12) (.pointer (some ⟨bb,0,none⟩)) rfl hHeld ?_;simp only [Act.put,pA,pB,pC];refine tK 1 (some 13) (.pointer (some ⟨bb,0,none⟩)) rfl hHeld ?_;simp only [Act.put,pA,pB,pC];refine tK 2 (some 14) (.pointer (some ⟨bb,0,none⟩)) rfl hHeld ?_;simp only [Act.put,pA,pB,pC]
  refine tH 3 (some 15) (.pointer (some ⟨pd,0,none⟩)) rfl (fun w hw=>by obtain ⟨hw1,hw2,hw3,hw4,hw5,hw6,hw7,hw8,hw9⟩:=hw;first | rfl | (go_simp;done) | (go_simp;rfl)) hHeld ?_
  simp only [Act.put,pA,pB,pC];refine tK 4 (some 16) (.pointer (some ⟨bo,2,none⟩)) rfl hHeld ?_;simp only [Act.put,pA,pB,pC]
  refine tH 5 (some 17) (.string o.name) rfl (fun w hw=>by obtain ⟨hw1,hw2,hw3,hw4,hw5,hw6,hw7,hw8,hw9⟩:=hw;first | rfl | (go_simp;done) | (go_simp;rfl)) hHeld ?_
  simp only [Act.put,pA,pB,pC];refine tK 6 (some 18) (.pointer (some ⟨bo,4,none⟩)) rfl hHeld ?_;simp only [Act.put,pA,pB,pC]
  refine tH 7 (some 19) (.int .i64 o.n) rfl (fun w hw=>by obtain ⟨hw1,hw2,hw3,hw4,hw5,hw6,hw7,hw8,hw9⟩:=hw;first | rfl | (go_simp;done) | (go_simp;rfl)) hHeld ?_
  simp only [Act.put,pA,pB,pC];refine tK 8 (some 20) (.pointer (some ⟨bo,5,none⟩)) rfl hHeld ?_;simp only [Act.put,pA,pB,pC]
  refine tH 9 (some 21) (.int .i64 o.first) rfl (fun w hw=>by obtain ⟨hw1,hw2,hw3,hw4,hw5,hw6,hw7,hw8,hw9⟩:=hw;first | rfl | (go_simp;done) | (go_simp;rfl)) hHeld ?_
  simp only [Act.put,pA,pB,pC]
  refine rdH 10 rfl (fun K hK=>?_)
  go_simp
  refine (HCALL.out).mono ?_;rintro e Wd ⟨⟨rfl,hld⟩,hbd⟩
  try go_wp2_with fail
  refine hK.out _ _ ((HSS.out Wd D A [] (by simpa using hld))) (fun hH=>?_)
  clear hK K hHeld;have hHeld:=hH;clear hH;refine tK 11 (some 11) (.tuple #[.pointer none,.slice none 0 0,.int .i64 E]) rfl hHeld ?_;simp only [Act.put,pA,pB,pC];refine tK 12 (some 23) (.pointer none) rfl hHeld ?_;simp only [Act.put,pA,pB,pC];refine tK 13 (some 24) (.slice none 0 0) rfl hHeld ?_;simp only [Act.put,pA,pB,pC];refine tK 14 (some 25) (.int .i64 E) rfl hHeld ?_;simp only [Act.put,pA,pB,pC];refine tK 15 (some 5) (.pointer none) rfl hHeld ?_;simp only [Act.put,pA,pB,pC];refine tK 16 (some 6) (.slice none 0 0) rfl hHeld ?_;simp only [Act.put,pA,pB,pC];refine tK 17 (some 7) (.int .i64 E) rfl hHeld ?_;simp only [Act.put,pA,pB,pC]
  refine ⟨by kernel_rfl,?_⟩
  refine NoPanic.normal ?_;have HL1:Hid (Lies B Wd ([Item.block bb (.cells #[.pointer (some ⟨pd,0,none⟩),lp,.pointer (some ⟨px,0,none⟩),rp] 58 (0,0)),Item.disk pd D,Item.ref px A]++X++[Item.block bo (.cells o.cs 31 (0,0))])):=hld;have HB1:=hide (HVB.out.trans hbd);clear hld hbd HS0 HCALL HV0 HVB hHeld HLV HBV;obtain ⟨V0,hV0⟩:∃x,Wd.drew=x:=⟨_,rfl⟩
  have hv0:=HL1.out.same (w':=Wd.drew) (Nat.le_refl _) (fun _ _ _=>rfl)
  rw [hV0] at hv0
  have hvb0:Below B w V0:=by rw [←hV0];exact HB1.out.drew
  have HS0:=hide (HSS.out V0 D A _ (by simpa using hv0))
  have hcall:=ropen_any (i:=2) (p:=px) (A:=A) hv0 rfl HOK.out (HENV.out.below hvb0) o.name hnz o.n o.first ⟨HO.out.n0,by have:=HO.out.n1;omega⟩ ⟨HO.out.f0,by have:=HO.out.f1;omega⟩ R' HR'.out
  unfold ROpenPost at hcall;rw [HN2.out,HE'.out,HD'.out] at hcall;simp only at hcall;have HCALL:=hide hcall;have HV0:=hide hV0;have HVB:=hide hvb0;clear hV0 hv0 hvb0 hcall;go_wp2;refine wp_region_noPanic ?_
  refine wp_region_held_drew (S:=fun wx=>wx.cell? ⟨bb,0,none⟩=some (.pointer (some ⟨pd,0,none⟩))∧wx.cell? ⟨bb,2,none⟩=some (.pointer (some ⟨px,0,none⟩))∧wx.cell? ⟨bo,0,none⟩=some (.int .i64 o.kind)∧wx.cell? ⟨bo,1,none⟩=some (.string o.text)∧wx.cell? ⟨bo,2,none⟩=some (.string o.name)∧wx.cell? ⟨bo,3,none⟩=some (.int .i64 o.at_)∧wx.cell? ⟨bo,4,none⟩=some (.int .i64 o.n)∧wx.cell? ⟨bo,5,none⟩=some (.int .i64 o.first)∧wx.cell? ⟨bo,6,none⟩=some (.slice o.ad o.fates.length o.cap)) (by kernel_rfl) (by rw [HV0.out];exact HS0.out) (fun hHeld=>?_)
  rw [HV0.out] at hHeld ⊢;refine tK 0 (some 27) (.pointer (some ⟨bb,0,none⟩)) rfl hHeld ?_;simp only [Act.put,pA,pB,pC];refine tK 1 (some 28) (.pointer (some ⟨bb,0,none⟩)) rfl hHeld ?_;simp only [Act.put,pA,pB,pC];refine tK 2 (some 29) (.pointer (some ⟨bb,2,none⟩)) rfl hHeld ?_;simp only [Act.put,pA,pB,pC]
  refine tH 3 (some 30) (.pointer (some ⟨px,0,none⟩)) rfl (fun w hw=>by obtain ⟨hw1,hw2,hw3,hw4,hw5,hw6,hw7,hw8,hw9⟩:=hw;first | rfl | (go_simp;done) | (go_simp;rfl)) hHeld ?_
  simp only [Act.put,pA,pB,pC];refine tK 4 (some 31) (.pointer (some ⟨bo,2,none⟩)) rfl hHeld ?_;simp only [Act.put,pA,pB,pC]
  refine tH 5 (some 32) (.string o.name) rfl (fun w hw=>by obtain ⟨hw1,hw2,hw3,hw4,hw5,hw6,hw7,hw8,hw9⟩:=hw;first | rfl | (go_simp;done) | (go_simp;rfl)) hHeld ?_
  simp only [Act.put,pA,pB,pC];refine tK 6 (some 33) (.pointer (some ⟨bo,4,none⟩)) rfl hHeld ?_;simp only [Act.put,pA,pB,pC]
  refine tH 7 (some 34) (.int .i64 o.n) rfl (fun w hw=>by obtain ⟨hw1,hw2,hw3,hw4,hw5,hw6,hw7,hw8,hw9⟩:=hw;first | rfl | (go_simp;done) | (go_simp;rfl)) hHeld ?_
  simp only [Act.put,pA,pB,pC];refine tK 8 (some 35) (.pointer (some ⟨bo,5,none⟩)) rfl hHeld ?_;simp only [Act.put,pA,pB,pC]
  refine tH 9 (some 36) (.int .i64 o.first) rfl (fun w hw=>by obtain ⟨hw1,hw2,hw3,hw4,hw5,hw6,hw7,hw8,hw9⟩:=hw;first | rfl | (go_simp;done) | (go_simp;rfl)) hHeld ?_
  simp only [Act.put,pA,pB,pC]
  refine rdH 10 rfl (fun K hK=>?_)
  go_simp
  refine (HCALL.out).mono ?_;rintro e We ⟨⟨rfl,hld⟩,hbd⟩
  try go_wp2_with fail
  refine hK.out _ _ ((HSS.out We D D [] (by simpa using hld))) (fun hH=>?_)
  clear hK K hHeld;have hHeld:=hH;clear hH;refine tK 11 (some 26) (.tuple #[.pointer none,.slice none 0 0,.int .i64 E]) rfl hHeld ?_;simp only [Act.put,pA,pB,pC];refine tK 12 (some 38) (.pointer none) rfl hHeld ?_;simp only [Act.put,pA,pB,pC];refine tK 13 (some 39) (.slice none 0 0) rfl hHeld ?_;simp only [Act.put,pA,pB,pC];refine tK 14 (some 40) (.int .i64 E) rfl hHeld ?_;simp only [Act.put,pA,pB,pC];refine tK 15 (some 8) (.pointer none) rfl hHeld ?_;simp only [Act.put,pA,pB,pC];refine tK 16 (some 9) (.slice none 0 0) rfl hHeld ?_;simp only [Act.put,pA,pB,pC];refine tK 17 (some 10) (.int .i64 E) rfl hHeld ?_;simp only [Act.put,pA,pB,pC]
  refine ⟨by kernel_rfl,?_⟩
  refine NoPanic.normal ?_;have hl2:Lies B We ([Item.block bb (.cells #[.pointer (some ⟨pd,0,none⟩),lp,.pointer (some ⟨px,0,none⟩),rp] 58 (0,0)),Item.disk pd D,Item.ref px D]++X++[Item.block bo (.cells o.cs 31 (0,0))]):=hld;have hb2:=HVB.out.trans hbd
  have HTS:=hide (texts_same hl2 (ad1:=none) (ad2:=none) (cap1:=0) (cap2:=0) (n:=0) (ks:=[]) (.inl rfl) (.inl rfl) rfl (by decide))
  have HB2:=hide hb2;clear hld hbd HS0 HCALL HV0 HVB hHeld HL1 HB1 hl2 hb2;go_wp2_with fail;refine (HTS.out).mono ?_;rintro e Wf ⟨rfl,hl3,hb3⟩;have HL3:=hide hl3.drop;have HB3:=hide (HB2.out.trans hb3);clear hl3 hb3;go_wp2;go_ret;exact ⟨rfl,.inl ⟨D,HL3.out⟩,HB3.out⟩
 ·obtain ⟨D,hD⟩:∃D,R.disk=D:=⟨_,rfl⟩
  obtain ⟨PAY,hPAY⟩:∃x,R.pay=x:=⟨_,rfl⟩;rw [hD] at hdisk;rw [hPAY] at hpay;have HGD:=hide (HGOOD.out g hs1);have HN1:=hide hs1;have HN2:=hide hs2;have HD:=hide hD;have HD':=hide hdisk.symm;have HP:=hide hPAY;have HP':=hide hpay.symm;have HGE:=hide hge;clear hs1 hs2 hD hdisk hPAY hpay hge herr HGOOD
  go_enter Tryz.func45,Tryz.ntmps45
  obtain ⟨V0,hV0⟩:∃x,V.drew=x:=⟨_,rfl⟩
  have hv0:=HLV.out.same (w':=V.drew) (Nat.le_refl _) (fun _ _ _=>rfl)
  rw [hV0] at hv0
  have hvb0:Below B w V0:=by rw [←hV0];exact HBV.out.drew
  have HS0:=hide (HSS.out V0 A A _ (by simpa using hv0))
  have hcall:=open_any (i:=1) (p:=pd) (A:=A) hv0 rfl (HENV.out.below hvb0) o.name hnz o.n o.first ⟨HO.out.n0,by have:=HO.out.n1;omega⟩ ⟨HO.out.f0,by have:=HO.out.f1;omega⟩ R HR.out
  unfold OpenPost at hcall;rw [HN1.out,HD.out,HP.out] at hcall;simp only at hcall;have HCALL:=hide hcall;have HV0:=hide hV0;have HVB:=hide hvb0;clear hV0 hv0 hvb0 hcall;go_wp2;refine wp_region_noPanic ?_
  refine wp_region_held_drew (S:=fun wx=>wx.cell? ⟨bb,0,none⟩=some (.pointer (some ⟨pd,0,none⟩))∧wx.cell? ⟨bb,2,none⟩=some (.pointer (some ⟨px,0,none⟩))∧wx.cell? ⟨bo,0,none⟩=some (.int .i64 o.kind)∧wx.cell? ⟨bo,1,none⟩=some (.string o.text)∧wx.cell? ⟨bo,2,none⟩=some (.string o.name)∧wx.cell? ⟨bo,3,none⟩=some (.int .i64 o.at_)∧wx.cell? ⟨bo,4,none⟩=some (.int .i64 o.n)∧wx.cell? ⟨bo,5,none⟩=some (.int .i64 o.first)∧wx.cell? ⟨bo,6,none⟩=some (.slice o.ad o.fates.length o.cap)) (by kernel_rfl) (by rw [HV0.out];exact HS0.out) (fun hHeld=>?_)
  rw [HV0.out] at hHeld ⊢;refine tK 0 (some 12) (.pointer (some ⟨bb,0,none⟩)) rfl hHeld ?_;simp only [Act.put,pA,pB,pC];refine tK 1 (some 13) (.pointer (some ⟨bb,0,none⟩)) rfl hHeld ?_;simp only [Act.put,pA,pB,pC];refine tK 2 (some 14) (.pointer (some ⟨bb,0,none⟩)) rfl hHeld ?_;simp only [Act.put,pA,pB,pC]
  refine tH 3 (some 15) (.pointer (some ⟨pd,0,none⟩)) rfl (fun w hw=>by obtain ⟨hw1,hw2,hw3,hw4,hw5,hw6,hw7,hw8,hw9⟩:=hw;first | rfl | (go_simp;done) | (go_simp;rfl)) hHeld ?_
  simp only [Act.put,pA,pB,pC];refine tK 4 (some 16) (.pointer (some ⟨bo,2,none⟩)) rfl hHeld ?_;simp only [Act.put,pA,pB,pC]
  refine tH 5 (some 17) (.string o.name) rfl (fun w hw=>by obtain ⟨hw1,hw2,hw3,hw4,hw5,hw6,hw7,hw8,hw9⟩:=hw;first | rfl | (go_simp;done) | (go_simp;rfl)) hHeld ?_
  simp only [Act.put,pA,pB,pC];refine tK 6 (some 18) (.pointer (some ⟨bo,4,none⟩)) rfl hHeld ?_;simp only [Act.put,pA,pB,pC]
  refine tH 7 (some 19) (.int .i64 o.n) rfl (fun w hw=>by obtain ⟨hw1,hw2,hw3,hw4,hw5,hw6,hw7,hw8,hw9⟩:=hw;first | rfl | (go_simp;done) | (go_simp;rfl)) hHeld ?_
  simp only [Act.put,pA,pB,pC];refine tK 8 (some 20) (.pointer (some ⟨bo,5,none⟩)) rfl hHeld ?_;simp only [Act.put,pA,pB,pC]
  refine tH 9 (some 21) (.int .i64 o.first) rfl (fun w hw=>by obtain ⟨hw1,hw2,hw3,hw4,hw5,hw6,hw7,hw8,hw9⟩:=hw;first | rfl | (go_simp;done) | (go_simp;rfl)) hHeld ?_
  simp only [Act.put,pA,pB,pC]
  refine rdH 10 rfl (fun K hK=>?_)
  go_simp
  refine (HCALL.out).mono ?_;rintro e Wd ⟨⟨l,v,rfl,hld⟩,hbd⟩
  try go_wp2_with fail
  refine hK.out _ _ ((HSS.out Wd D A _ hld)) (fun hH=>?_)
  clear hK K hHeld;have hHeld:=hH;clear hH;refine tK 11 (some 11) (.tuple #[.pointer (some ⟨l,0,none⟩),v,.int .i64 0]) rfl hHeld ?_;simp only [Act.put,pA,pB,pC];refine tK 12 (some 23) (.pointer (some ⟨l,0,none⟩)) rfl hHeld ?_;simp only [Act.put,pA,pB,pC];refine tK 13 (some 24) (v) rfl hHeld ?_;simp only [Act.put,pA,pB,pC];refine tK 14 (some 25) (.int .i64 0) rfl hHeld ?_;simp only [Act.put,pA,pB,pC];refine tK 15 (some 5) (.pointer (some ⟨l,0,none⟩)) rfl hHeld ?_;simp only [Act.put,pA,pB,pC];refine tK 16 (some 6) (v) rfl hHeld ?_;simp only [Act.put,pA,pB,pC];refine tK 17 (some 7) (.int .i64 0) rfl hHeld ?_;simp only [Act.put,pA,pB,pC]
  refine ⟨by kernel_rfl,?_⟩
  refine NoPanic.normal ?_;have HL1:Hid (Lies B Wd (([Item.block bb (.cells #[.pointer (some ⟨pd,0,none⟩),lp,.pointer (some ⟨px,0,none⟩),rp] 58 (0,0)),Item.disk pd D,Item.ref px A]++X++[Item.block bo (.cells o.cs 31 (0,0))])++[.log l pd g,.sub v PAY])):=hld;have HB1:=hide (HVB.out.trans hbd);clear hld hbd HS0 HCALL HV0 HVB hHeld HLV HBV;obtain ⟨V0,hV0⟩:∃x,Wd.drew=x:=⟨_,rfl⟩
  have hv0:=HL1.out.same (w':=Wd.drew) (Nat.le_refl _) (fun _ _ _=>rfl)
  rw [hV0] at hv0
  have hvb0:Below B w V0:=by rw [←hV0];exact HB1.out.drew
  have HS0:=hide (HSS.out V0 D A _ (by simpa using hv0))
  have hcall:=ropen_any (i:=2) (p:=px) (A:=A) hv0 rfl HOK.out (HENV.out.below hvb0) o.name hnz o.n o.first ⟨HO.out.n0,by have:=HO.out.n1;omega⟩ ⟨HO.out.f0,by have:=HO.out.f1;omega⟩ R' HR'.out
  unfold ROpenPost at hcall;rw [HN2.out,HD'.out,HP'.out] at hcall;simp only at hcall;have HCALL:=hide hcall;have HV0:=hide hV0;have HVB:=hide hvb0;clear hV0 hv0 hvb0 hcall;go_wp2;refine wp_region_noPanic ?_
  refine wp_region_held_drew (S:=fun wx=>wx.cell? ⟨bb,0,none⟩=some (.pointer (some ⟨pd,0,none⟩))∧wx.cell? ⟨bb,2,none⟩=some (.pointer (some ⟨px,0,none⟩))∧wx.cell? ⟨bo,0,none⟩=some (.int .i64 o.kind)∧wx.cell? ⟨bo,1,none⟩=some (.string o.text)∧wx.cell? ⟨bo,2,none⟩=some (.string o.name)∧wx.cell? ⟨bo,3,none⟩=some (.int .i64 o.at_)∧wx.cell? ⟨bo,4,none⟩=some (.int .i64 o.n)∧wx.cell? ⟨bo,5,none⟩=some (.int .i64 o.first)∧wx.cell? ⟨bo,6,none⟩=some (.slice o.ad o.fates.length o.cap)) (by kernel_rfl) (by rw [HV0.out];exact HS0.out) (fun hHeld=>?_)
  rw [HV0.out] at hHeld ⊢;refine tK 0 (some 27) (.pointer (some ⟨bb,0,none⟩)) rfl hHeld ?_;simp only [Act.put,pA,pB,pC];refine tK 1 (some 28) (.pointer (some ⟨bb,0,none⟩)) rfl hHeld ?_;simp only [Act.put,pA,pB,pC];refine tK 2 (some 29) (.pointer (some ⟨bb,2,none⟩)) rfl hHeld ?_;simp only [Act.put,pA,pB,pC]
  refine tH 3 (some 30) (.pointer (some ⟨px,0,none⟩)) rfl (fun w hw=>by obtain ⟨hw1,hw2,hw3,hw4,hw5,hw6,hw7,hw8,hw9⟩:=hw;first | rfl | (go_simp;done) | (go_simp;rfl)) hHeld ?_
  simp only [Act.put,pA,pB,pC];refine tK 4 (some 31) (.pointer (some ⟨bo,2,none⟩)) rfl hHeld ?_;simp only [Act.put,pA,pB,pC]
  refine tH 5 (some 32) (.string o.name) rfl (fun w hw=>by obtain ⟨hw1,hw2,hw3,hw4,hw5,hw6,hw7,hw8,hw9⟩:=hw;first | rfl | (go_simp;done) | (go_simp;rfl)) hHeld ?_
  simp only [Act.put,pA,pB,pC];refine tK 6 (some 33) (.pointer (some ⟨bo,4,none⟩)) rfl hHeld ?_;simp only [Act.put,pA,pB,pC]
  refine tH 7 (some 34) (.int .i64 o.n) rfl (fun w hw=>by obtain ⟨hw1,hw2,hw3,hw4,hw5,hw6,hw7,hw8,hw9⟩:=hw;first | rfl | (go_simp;done) | (go_simp;rfl)) hHeld ?_
  simp only [Act.put,pA,pB,pC];refine tK 8 (some 35) (.pointer (some ⟨bo,5,none⟩)) rfl hHeld ?_;simp only [Act.put,pA,pB,pC]
  refine tH 9 (some 36) (.int .i64 o.first) rfl (fun w hw=>by obtain ⟨hw1,hw2,hw3,hw4,hw5,hw6,hw7,hw8,hw9⟩:=hw;first | rfl | (go_simp;done) | (go_simp;rfl)) hHeld ?_
  simp only [Act.put,pA,pB,pC]
  refine rdH 10 rfl (fun K hK=>?_)
  go_simp
  refine (HCALL.out).mono ?_;rintro e We ⟨⟨m,v2,rfl,hld⟩,hbd⟩
  try go_wp2_with fail
  refine hK.out _ _ ((HSS.out We D D ([.log l pd g,.sub v PAY]++[.rlog m px g',.row 9 v2 (PAY.map encStr)]) (by rw [←List.append_assoc];exact hld))) (fun hH=>?_)
  clear hK K hHeld;have hHeld:=hH;clear hH;refine tK 11 (some 26) (.tuple #[.pointer (some ⟨m,0,none⟩),v2,.int .i64 0]) rfl hHeld ?_;simp only [Act.put,pA,pB,pC];refine tK 12 (some 38) (.pointer (some ⟨m,0,none⟩)) rfl hHeld ?_;simp only [Act.put,pA,pB,pC];refine tK 13 (some 39) (v2) rfl hHeld ?_;simp only [Act.put,pA,pB,pC];refine tK 14 (some 40) (.int .i64 0) rfl hHeld ?_;simp only [Act.put,pA,pB,pC];refine tK 15 (some 8) (.pointer (some ⟨m,0,none⟩)) rfl hHeld ?_;simp only [Act.put,pA,pB,pC];refine tK 16 (some 9) (v2) rfl hHeld ?_;simp only [Act.put,pA,pB,pC];refine tK 17 (some 10) (.int .i64 0) rfl hHeld ?_;simp only [Act.put,pA,pB,pC]
  refine ⟨by kernel_rfl,?_⟩
  refine NoPanic.normal ?_;have hl2:Lies B We (([Item.block bb (.cells #[.pointer (some ⟨pd,0,none⟩),lp,.pointer (some ⟨px,0,none⟩),rp] 58 (0,0)),Item.disk pd D,Item.ref px D]++X++[Item.block bo (.cells o.cs 31 (0,0))])++[.log l pd g,.sub v PAY]++[.rlog m px g',.row 9 v2 (PAY.map encStr)]):=hld;have hb2:=HVB.out.trans hbd
  obtain ⟨adv,capv,hvv,hrv,hmx⟩:=hl2.subAt (q:=([Item.block bb (.cells #[.pointer (some ⟨pd,0,none⟩),lp,.pointer (some ⟨px,0,none⟩),rp] 58 (0,0)),Item.disk pd D,Item.ref px D]++X++[Item.block bo (.cells o.cs 31 (0,0))]).length+1) (v:=v) (ks:=PAY) (by rw [List.append_assoc];exact get_t1)
  obtain ⟨ad2,cap2,hv2,hr2,_⟩:=row_at (hl2.rowOf (i:=(([Item.block bb (.cells #[.pointer (some ⟨pd,0,none⟩),lp,.pointer (some ⟨px,0,none⟩),rp] 58 (0,0)),Item.disk pd D,Item.ref px D]++X++[Item.block bo (.cells o.cs 31 (0,0))])++[Item.log l pd g,.sub v PAY]).length+1) (v:=v2) get_t1);rw [List.length_map] at hv2;subst hvv hv2;have HTS:=hide (texts_same hl2 (cap1:=capv) (cap2:=cap2) hrv hr2 rfl hmx);have HB2:=hide hb2;obtain ⟨pn,hpn⟩:∃n,PAY.length=n:=⟨_,rfl⟩;rw [hpn] at HTS ⊢;clear hld hbd HS0 HCALL HV0 HVB hHeld HL1 HB1 hl2 hb2 hrv hr2 hmx;go_wp2_with fail;refine (HTS.out).mono ?_;rintro e Wf ⟨rfl,hl3,hb3⟩;have hl4:=two_logs hl3;have z1:=hl4.cellAt (q:=0) (b:=bb) rfl 1;have z3:=hl4.cellAt (q:=0) (b:=bb) rfl 3;have zf1:=hl4.frozenAt (q:=0) (b:=bb) rfl 1;obtain ⟨hl5,hb5⟩:=hl4.setAt (q:=0) (b:=bb) rfl 1 (.pointer (some ⟨l,0,none⟩));obtain ⟨Wg,hWg⟩:∃x,Wf.setCell ⟨bb,1,none⟩ (.pointer (some ⟨l,0,none⟩))=x:=⟨_,rfl⟩;rw [hWg] at hl5 hb5;have y3:=hl5.cellAt (q:=0) (b:=bb) rfl 3;have yf3:=hl5.frozenAt (q:=0) (b:=bb) rfl 3;obtain ⟨hl6,hb6⟩:=hl5.setAt (q:=0) (b:=bb) rfl 3 (.pointer (some ⟨m,0,none⟩));have HL6:Hid (Lies B (Wg.setCell ⟨bb,3,none⟩ (.pointer (some ⟨m,0,none⟩))) (LS1 bb pd px l m D g g')):=hl6;have HB6:=hide (((HB2.out.trans hb3).trans hb5).trans hb6);have z1':Wf.cell? ⟨bb,1,none⟩=some lp:=z1;have y3':Wg.cell? ⟨bb,3,none⟩=some rp:=y3;clear hl3 hb3 hl4 hl5 hb5 hl6 hb6 z1 y3 z3 HTS HB2 hpn;go_wp2;go_ret;exact ⟨rfl,.inr ⟨l,m,D,g,g',HL6.out,HGD.out,HGE.out⟩,HB6.out⟩
end
end Go.Proofs.YtjbdncknooeplaaGreatDoor
namespace Go.Proofs.YtjbdncknooeplaaGreatDoor
open Go.RowKit Go.Maps
set_option linter.unusedVariables false
def kcellsT:List FT→List Value
 | []=>[]
 | x :: r=>x.cs.toList++kcellsT r
theorem kcellsT_length:∀xs:List FT,(kcellsT xs).length=xs.length * 4
 | []=>rfl
 | x :: r=>by
  show (x.cs.toList++kcellsT r).length=_
  rw [List.length_append,kcellsT_length r,List.length_cons]
  show 4+_=_
  omega
theorem kcellsT_get:∀(xs:List FT) (k:Nat) (h:k<xs.length) (j:Nat),j<4→(kcellsT xs)[k * 4+j]?=(xs[k].cs)[j]?
 | [],k,h,_,_=>by simp at h
 | x :: r,0,_,j,hj=>by
  show (x.cs.toList++kcellsT r)[0 * 4+j]?=x.cs[j]?
  rw [List.getElem?_append_left (by show _<4;omega),Array.getElem?_toList]
  congr 1
  omega
 | x :: r,k+1,h,j,hj=>by
  show (x.cs.toList++kcellsT r)[(k+1) * 4+j]?=_
  rw [List.getElem?_append_right (by show 4≤_;omega)]
  show (kcellsT r)[(k+1) * 4+j - 4]?=_
  rw [show (k+1) * 4+j - 4=k * 4+j by omega,kcellsT_get r k (by simp at h;omega) j hj]
  rfl
theorem kone_fates:∀xs:List FT,∀u∈kcellsT xs,u.oneCell'=true
 | [],u,hu=>by simp [kcellsT] at hu
 | x :: r,u,hu=>by
  rcases List.mem_append.1 hu with h | h
  ·simp only [FT.cs,List.mem_cons,List.not_mem_nil,or_false] at h
   rcases h with rfl | rfl | rfl | rfl<;>rfl
  ·exact kone_fates r u h
theorem kinfoT:(Tryz.prog.info? 129).map (fun i=>(i.zero,i.size,i.bytes))=some (some (.agg #[.string ⟨#[]⟩,.int .i64 0,.int .i64 0,.string ⟨#[]⟩]),4,48):=by kernel_rfl
theorem kapp_fates (w:World) (ad:Option Addr) (cap:Nat) (ls:List FT) (hfa:FatesAt w ad ls) (hsz:ls.length * 48≤140737488355328) (ty:TypeId) :
 ∃v w',(Builtin.append_ #[29,29] ty #[.slice none 0 0,.slice ad ls.length cap]).run Tryz.prog w=.ok v w'∧w'.ownsRow w.heap.size 129 4 v ls.length (kcellsT ls)∧Below w.heap.size w w':=by
 obtain ⟨i,hi,hz0,hz1,hz2⟩:=info_parts kinfoT
 by_cases he:ls=[]
 ·subst he
  have hs:Src Tryz.prog i.size 29 (.slice ad 0 cap) 0 [] w:=by
   cases ad with
   | none=>exact Src.ofNil w Tryz.underlying29 cap
   | some a=>exact Src.ofSlice w Tryz.underlying29 a 0 cap [] (by simp) (fun j u hu=>by simp at hu) (by simp)
  exact ⟨_,_,run_append_nothing (P:=Tryz.prog) w _ _ ty _ i Tryz.underlying29 hi none 0 0 (Nat.le_refl _) _ hs,World.ownsRow_nil _ _ _ _,Below.refl _ _⟩
 ·rcases hfa with h | ⟨b,o,rfl,hl,hc⟩
  ·exact absurd h he
  have hpos:0<ls.length:=List.length_pos_iff.2 he
  obtain ⟨g,c,w',hr,h2,h3,h4,h5⟩:=run_append_lies (P:=Tryz.prog) w 29 ty w.heap.size 129 i _ 4 48 Tryz.underlying29 hi hz0 hz1 hz2 rfl (by decide) (.slice none 0 0) 0 [] (World.ownsRow_nil _ _ _ _) ⟨b,o,none⟩ ls.length cap (kcellsT ls) (kcellsT_length ls) (fun j u hu=>by
   have hj:=(List.getElem?_eq_some_iff.1 hu).1;rw [kcellsT_length] at hj
   have e:=kcellsT_get ls (j / 4) (by omega) (j % 4) (by omega)
   rw [show j / 4 * 4+j % 4=j by omega,hu] at e
   rw [show (⟨b,o,none⟩:Addr).add j=⟨b,o+j,none⟩ by unfold Addr.add;split<;>simp_all]
   have:=hc (j / 4) (by omega) (j % 4) (by omega)
   rw [show o+j / 4 * 4+j % 4=o+j by omega] at this
   rw [this,e]) (kone_fates ls) hpos (by unfold maxLen;omega) (by omega) (Nat.le_refl _) _ rfl
  refine ⟨_,w',hr,?_,⟨h3.os,h3.tape,h3.output,h3.size,fun b hb=>h3.block b hb (by simp [Value.ownBlock])⟩⟩
  simp only [Nat.zero_add,List.nil_append] at h2;rw [Nat.zero_add];exact h2
section
variable {B:Nat} {w:World} {L:List Item} {i p:Nat} {A:AD}
theorem kset_push {α:Type} {L M:List α} {i:Nat} {y x:α} (h:L[i]?=some y):(L++M).set i x=L.set i x++M:=List.set_append_left _ _ (List.getElem?_eq_some_iff.1 h).1
theorem kget_push {α:Type} {L M:List α} {i:Nat} {x:α} (h:L[i]?=some x):(L++M)[i]?=some x:=by
 rw [List.getElem?_append_left (List.getElem?_eq_some_iff.1 h).1];exact h
theorem kget_last {α:Type} (L:List α) (x:α):(L++[x])[L.length]?=some x:=by simp
theorem kcrash (h:Lies B w L) (hi:L[i]?=some (.disk p A)) (ad:Option Addr) (cap:Nat) (ls:List FT) (hat:FatesAt w ad ls) (hokf:∀x∈ls,x.Ok) (hsz:(ls.length+1) * 48≤140737488355328) (ty:TypeId) :
 ∃ad' n' cap' w',(Builtin.append_ #[29,29] ty #[.slice none 0 0,.slice ad ls.length cap]).run Tryz.prog w=.ok (.slice ad' n' cap') w'∧Below w.heap.size w w'∧Calls Tryz.prog 13 #[.pointer (some ⟨p,0,none⟩),.slice ad' n' cap'] w' fun e w''=>e=.returned (.tuple #[])∧Lies B w'' (L.set i (.disk p (A.crash (ls.map FT.abs))))∧Below B w w'':=by
 obtain ⟨v,w',hr,ho,hb⟩:=kapp_fates w ad cap ls hat (by omega) ty
 have hb':=hb.mono h.base;obtain ⟨hol,hov⟩:=ho
 rcases hov with ⟨rfl,hn⟩ | ⟨g,c,cur,rfl,hgb,hkg,hnc,hcm,hcs,htk⟩
 ·have he:ls=[]:=List.length_eq_zero_iff.1 hn
  subst he;refine ⟨none,0,0,w',hr,hb,(s_crash0 (h.below hb) hi).mono ?_⟩;rintro e w'' ⟨he,h1,h2⟩;exact ⟨he,h1,hb'.trans h2⟩
 ·have h1:Lies B w' (L++[.block g (.cells cur 129 (0,0))]):=h.push (S':=fun b=>b=g) hb ⟨hkg,fun _=>Iff.rfl⟩ (fun b hb=>by rw [hb];exact hgb)
  have hcur:∀q v,(kcellsT ls)[q]?=some v→cur[q]?=some v:=fun q v hv=>by
   rw [←htk] at hv;rw [List.getElem?_take] at hv
   split at hv
   ·rw [←Array.getElem?_toList];exact hv
   ·cases hv
  have hfa:FatesAt w' (some ⟨g,0,none⟩) ls:=.inr ⟨g,0,rfl,lt_of_some hkg,fun q hq t ht=>by
   rw [cell_of_row w' g _ _ _ (0,0) hkg,Nat.zero_add];have e:=kcellsT_get ls q hq t ht
   obtain ⟨v,hv⟩:∃v,(ls[q].cs)[t]?=some v:=⟨_,Array.getElem?_eq_getElem (show t<4 from ht)⟩
   rw [hv] at e ⊢
   exact hcur _ _ e⟩
  refine ⟨some ⟨g,0,none⟩,ls.length,c,w',hr,hb,(s_crashOwn (i:=i) (j:=L.length) h1 (kget_push hi) (by have:=(List.getElem?_eq_some_iff.1 hi).1;omega) (kget_last _ _) 0 ls c hfa hokf (by omega)).mono ?_⟩
  rintro e w'' ⟨he,h2,h3⟩;rw [kset_push hi] at h2;exact ⟨he,h2.drop,hb'.trans h3⟩
end
end Go.Proofs.YtjbdncknooeplaaGreatDoor
