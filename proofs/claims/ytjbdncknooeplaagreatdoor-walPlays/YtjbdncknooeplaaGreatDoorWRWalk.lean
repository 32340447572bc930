import Derived.Test.YtjbdncknooeplaaGreatDoorCurBase
import Derived.Test.YtjbdncknooeplaaGreatDoorWRPlays
import Derived.Test.YtjbdncknooeplaaGreatDoorWRNumM
import Derived.Test.YtjbdncknooeplaaGreatDoorWFirst
namespace Go.Proofs.YtjbdncknooeplaaGreatDoor
open Go.RowKit Go.Maps Go.WideMaps
set_option linter.unusedVariables false
theorem krowOf {B:Nat} {w:World} {L:List Item} {i:Nat} {e:TypeId} {v:Value} {xs:List Value} (h:Lies B w L) (hi:L[i]?=some (.row e v xs)):w.ownsRow 0 e 1 v xs.length xs:=by
 obtain ⟨S,hp,_⟩:=h.get hi;exact hp.1
section
variable {B:Nat} {w:World} {L:List Item} {i j p r:Nat} {A:AD}
set_option maxRecDepth 100000 in
set_option maxHeartbeats 8000000 in
theorem sameDisk_any (h:Lies B w L) (hi:L[i]?=some (.disk p A)) (hj:L[j]?=some (.ref r A)) :
 Calls Tryz.prog 25 #[.pointer (some ⟨p,0,none⟩),.pointer (some ⟨r,0,none⟩)] w fun e w'=>e=.returned (.bool true)∧Lies B w' L∧Below B w w':=by
 have hok:=h.ok hi;have hll:=list_len hok;have hc:=r_list h hj hok
 have hnm:∀k∈A.list,k.length≤32:=fun k hk=>by
  unfold AD.list at hk
  split at hk
  ·simp at hk
  ·obtain ⟨q,hq,rfl⟩:=List.mem_map.1 hk
   have:=hok.names q hq
   rw [nameOk_eq,Bool.and_eq_true,Bool.and_eq_true,decide_eq_true_iff,decide_eq_true_iff] at this;exact this.1.2
 obtain ⟨ks,hks⟩:∃ks,A.list=ks:=⟨_,rfl⟩;rw [hks] at hc hll hnm
 have db:(ks == ks)=true:=by simp
 have hlk:(ks.map encStr).length=ks.length:=List.length_map ..;have HI:=hide hi;have HJ:=hide hj;have HOK:=hide hok;have HKS:=hide hks;have HLL:=hide hll;have HNM:=hide hnm;unfold maxLen at hll;obtain ⟨US,hus⟩:∃u:Int,(fused A.fs:Int)=u:=⟨_,rfl⟩;have HUS:=hide hus;obtain ⟨off,hoff⟩:∃b,A.pow.off=b:=⟨_,rfl⟩;have HOFF:=hide hoff;clear h hi hj hok hks hnm hus hoff
 go_enter Tryz.func25,Tryz.ntmps25
 go_wp2_with fail;refine hc.mono ?_;rintro e w1 ⟨v1,rfl,hr,h,hb⟩;rw [hlk] at hr;obtain ⟨ad1,cap1,e1,hr1,_,_⟩:=row_at hr;subst e1;have HB1:=hide hb;have hc2:=s_list h (get_push HI.out);rw [HKS.out] at hc2;clear h hb hr hc hr1;go_wp2_with fail;refine hc2.mono ?_;rintro e w2 ⟨v2,rfl,hr,h,hb⟩;rw [hlk] at hr;obtain ⟨ad2,cap2,e2,hr2,_,_⟩:=row_at hr;subst e2;have hr1:=krowOf h (get_push (get_last L _));rw [hlk] at hr1;obtain ⟨_,_,en,hr1',_,_⟩:=row_at hr1;cases en;have HB2:=hide (HB1.out.trans hb);have hc3:=sameTexts_any w2 ad2 ad1 cap2 cap1 ks ks hr2 hr1' HLL.out HLL.out;rw [db] at hc3;have H2:=hide h.drop;clear h hb hr hr1 hr1' hr2 hc2 HB1;go_wp2_with fail;refine hc3.mono ?_;rintro e w3 ⟨rfl,hb⟩;have h3:=H2.out.below hb;have HB3:=hide (HB2.out.trans (hb.mono H2.out.base));have H3:=hide h3;have hc4:=s_off h3 (get_push HI.out);have hc5:=r_off h3 (get_push HJ.out);rw [HOFF.out] at hc4 hc5;clear hb h3 hc3 H2 HB2;go_wp2_with fail;refine hc4.mono ?_;rintro e w4 ⟨rfl,hw⟩;obtain rfl:=hw.symm;clear hw hc4;go_wp2_with fail;refine hc5.mono ?_;rintro e w5 ⟨rfl,hw⟩;obtain rfl:=hw.symm;clear hw hc5;have hc6:=s_used H3.out (get_push HI.out);rw [HUS.out] at hc6;go_wp2_with fail;refine hc6.mono ?_;rintro e w6 ⟨rfl,h,hb⟩;have HB6:=hide (HB3.out.trans hb);have H6:=hide h;have hc7:=r_used h (get_push HJ.out) HOK.out;rw [HUS.out] at hc7;clear h hb hc6 H3 HB3;go_wp2_with fail;refine hc7.mono ?_;rintro e w7 ⟨rfl,hw⟩;obtain rfl:=hw.symm;clear hw hc7;go_wp2
 go_loopw [6] (fun i wr=>∃k:Nat,k≤ks.length∧i=.int .i64 (k:Int)∧Lies B wr (L++[.row 9 (.slice ad1 ks.length cap1) (ks.map encStr)])∧Below B w wr) (fun i _=>ks.length - (intOf i).toNat)
 case atStart=>exact ⟨0,by omega,rfl,H6.out,HB6.out⟩
 case round=>
  clear H6 HB6;obtain ⟨k,hk,rfl,hlr,hbr⟩:=hrel
  by_cases hlt:k<ks.length
  ·have dk:decide ((k:Int)<(ks.length:Int))=true:=decide_eq_true (by omega)
   have hk0:(0:Int)≤(k:Int):=by omega
   have hk1:(k:Int)<(ks.length:Int):=by omega
   have cellOf:∀w',Lies B w' (L++[.row 9 (.slice ad1 ks.length cap1) (ks.map encStr)])→∃b o,ad1=some ⟨b,o,none⟩∧w'.cell? ⟨b,o+k,none⟩=some (.string ⟨ks[k].toArray⟩):=fun w' h=>by
    have hr:=krowOf h (get_last L _);rw [hlk] at hr;obtain ⟨ad',cap',en,hr',_,_⟩:=row_at hr;cases en
    rcases hr' with h0 | ⟨b,o,e,hbl,hcs⟩
    ·rw [List.map_eq_nil_iff.1 h0] at hlt;exact absurd hlt (by simp)
    ·exact ⟨b,o,e,by rw [hcs k (by simpa using hlt),List.getElem?_map,List.getElem?_eq_getElem hlt];rfl⟩
   have hxs:ks[k].length≤32:=HNM.out _ (List.getElem_mem hlt);obtain ⟨x,hx⟩:∃x:ByteArray,x=⟨ks[k].toArray⟩:=⟨_,rfl⟩
   have hxz:x.size≤maxLen:=by rw [←str_len,hx];show ks[k].length≤_;unfold maxLen;omega
   rw [←hx] at cellOf;have HXZ:=hide hxz;obtain ⟨b,o,ead,f0⟩:=cellOf wr hlr;subst ead
   have HCO:Hid (∀w',Lies B w' (L++[.row 9 (.slice (some ⟨b,o,none⟩) ks.length cap1) (ks.map encStr)])→w'.cell? ⟨b,o+k,none⟩=some (.string x)):=fun w' h=>by
    obtain ⟨b',o',e,hc⟩:=cellOf w' h;cases e;exact hc
   clear cellOf hx hxs hxz;obtain ⟨T1,hT1⟩:∃x':ByteArray,(⟨(A.read x.data.toList 0 1048576).1.toArray⟩:ByteArray)=x':=⟨_,rfl⟩;obtain ⟨E1,hE1⟩:∃x',(A.read x.data.toList 0 1048576).2=x':=⟨_,rfl⟩;have hc8:=s_read hlr (get_push HI.out) x HXZ.out 0 1048576;rw [hT1,hE1] at hc8;have HT1:=hide hT1;have HE1:=hide hE1;have HBR:=hide hbr;clear hlr hbr hT1 hE1;go_wp2_with fail;refine hc8.mono ?_;rintro e w8 ⟨rfl,h,hb⟩;have HB8:=hide (HBR.out.trans hb);have H8:=hide h;have f1:=HCO.out w8 h;have hc9:=r_read h (get_push HJ.out) HOK.out x 0 1048576;rw [HT1.out,HE1.out] at hc9;clear h hb hc8 f0 HBR;go_wp2_with fail;refine hc9.mono ?_;rintro e w9 ⟨rfl,hw⟩;obtain rfl:=hw.symm;clear hw hc9;obtain ⟨dl,hdl⟩:∃x',A.dirtyI x.data.toList=x':=⟨_,rfl⟩;have HDL:=hide hdl;have hld:(dl.map (Value.int .i64)).length=dl.length:=List.length_map ..
   have hdm:dl.length≤maxLen:=by rw [←hdl];exact dirty_len HOK.out _
   have dd:(dl == dl)=true:=by simp
   have HDM:=hide hdm;clear hdl hdm
   have H8d:Hid (Lies B w8.drew (L++[.row 9 (.slice (some ⟨b,o,none⟩) ks.length cap1) (ks.map encStr)])):=H8.out.same (Nat.le_refl _) (fun _ _ _=>rfl)
   have HB8d:Hid (Below B w w8.drew):=HB8.out.drew;have hcd:w8.drew.cell? ⟨b,o+k,none⟩=some (.string x):=HCO.out _ H8d.out;go_wp2;refine wp_region_noPanic ?_
   refine wp_region_held_drew (S:=fun wx=>wx.cell? ⟨b,o+k,none⟩=some (.string x)) (by kernel_rfl) (hcd) (fun hHeld=>?_)
   refine tK 0 (some 56) (.string T1) rfl hHeld ?_;simp only [Act.put,pA,pB,pC];refine tK 1 (some 57) (.string T1) rfl hHeld ?_;simp only [Act.put,pA,pB,pC];refine tK 2 (some 58) (.bool false) rfl hHeld ?_;simp only [Act.put,pA,pB,pC];refine tK 3 (some 59) (.bool false) rfl hHeld ?_;simp only [Act.put,pA,pB,pC];refine tK 4 (some 60) (.int .i64 E1) rfl hHeld ?_;simp only [Act.put,pA,pB,pC];refine tK 5 (some 61) (.int .i64 E1) rfl hHeld ?_;simp only [Act.put,pA,pB,pC];refine tK 6 (some 62) (.bool false) rfl hHeld ?_;simp only [Act.put,pA,pB,pC];refine tK 7 (some 63) (.bool false) rfl hHeld ?_;simp only [Act.put,pA,pB,pC];refine tK 8 (some 64) (.bool false) rfl hHeld ?_;simp only [Act.put,pA,pB,pC];refine tK 9 (some 65) (.pointer (some ⟨p,0,none⟩)) rfl hHeld ?_;simp only [Act.put,pA,pB,pC];refine tK 10 (some 66) (.slice (some ⟨b,o,none⟩) ks.length cap1) rfl hHeld ?_;simp only [Act.put,pA,pB,pC];refine tK 11 (some 67) (.int .i64 (k:Int)) rfl hHeld ?_;simp only [Act.put,pA,pB,pC];refine tK 12 (some 68) (.pointer (some ⟨b,o+k,none⟩)) rfl hHeld ?_;simp only [Act.put,pA,pB,pC]
   refine tH 13 (some 69) (.string x) rfl (fun w hw=>by have hw1:=hw;first | rfl | (go_simp;done) | (go_simp;rfl)) hHeld ?_
   simp only [Act.put,pA,pB,pC];refine tK 15 (some 71) (.pointer (some ⟨r,0,none⟩)) rfl hHeld ?_;simp only [Act.put,pA,pB,pC];refine tK 16 (some 72) (.slice (some ⟨b,o,none⟩) ks.length cap1) rfl hHeld ?_;simp only [Act.put,pA,pB,pC];refine tK 17 (some 73) (.int .i64 (k:Int)) rfl hHeld ?_;simp only [Act.put,pA,pB,pC];refine tK 18 (some 74) (.pointer (some ⟨b,o+k,none⟩)) rfl hHeld ?_;simp only [Act.put,pA,pB,pC]
   refine tH 19 (some 75) (.string x) rfl (fun w hw=>by have hw1:=hw;first | rfl | (go_simp;done) | (go_simp;rfl)) hHeld ?_
   simp only [Act.put,pA,pB,pC];have hc10:=s_dirty H8d.out (get_push HI.out) x HXZ.out;rw [HDL.out] at hc10;have HC10:=hide hc10;clear hc10
   refine rdH 14 rfl (fun K hK=>?_)
   go_simp
   refine (HC10.out).mono ?_;rintro e w10 ⟨v10,rfl,hr10,h10,hb10⟩;rw [hld] at hr10;obtain ⟨ad10,cap10,e10,_,_,_⟩:=row_at hr10;subst e10;have HB10:=hide (HB8d.out.trans hb10);have H10:=hide h10;have hcd10:=HCO.out _ h10.drop;clear h10 hb10 hr10 HC10
   try go_wp2_with fail
   refine hK.out _ _ (hcd10) (fun hH=>?_)
   clear hK K hHeld;have hHeld:=hH;clear hH;have hc11:=r_dirty H10.out (get_push (get_push HJ.out)) HOK.out x;rw [HDL.out] at hc11;have HC11:=hide hc11;clear hc11
   refine rdH 20 rfl (fun K hK=>?_)
   go_simp
   refine (HC11.out).mono ?_;rintro e w11 ⟨v11,rfl,hr11,h11,hb11⟩;rw [hld] at hr11;obtain ⟨ad11,cap11,e11,hr11',_,_⟩:=row_at hr11;subst e11;have hr10:=krowOf h11 (get_push (get_last _ _));rw [hld] at hr10;obtain ⟨_,_,en,hr10',_,_⟩:=row_at hr10;cases en;have HB11:=hide (HB10.out.trans hb11);have H11:=hide h11.drop.drop;have HR10:=hide hr10';have HR11:=hide hr11';have hcd11:=HCO.out _ h11.drop.drop;clear h11 hb11 hr11 hr10 hr10' hr11' HC11
   try go_wp2_with fail
   refine hK.out _ _ (hcd11) (fun hH=>?_)
   clear hK K hHeld;have hHeld:=hH;clear hH;have hc12:=sameInts_any w11 ad10 ad11 cap10 cap11 dl dl HR10.out HR11.out HDM.out HDM.out;rw [dd] at hc12;have HC12:=hide hc12;clear hc12
   refine rdH 21 rfl (fun K hK=>?_)
   go_simp
   refine (HC12.out).mono ?_;rintro e w12 ⟨rfl,hb12⟩;have h12:=H11.out.below hb12;have HB12:=hide (HB11.out.trans (hb12.mono H11.out.base));have H12:=hide h12;have hcd12:=HCO.out _ h12;clear h12 hb12 HC12
   try go_wp2_with fail
   refine hK.out _ _ (hcd12) (fun hH=>?_)
   clear hK K hHeld;have hHeld:=hH;clear hH;refine tK 22 (some 78) (.bool false) rfl hHeld ?_;simp only [Act.put,pA,pB,pC];refine tK 23 (some 79) (.bool false) rfl hHeld ?_;simp only [Act.put,pA,pB,pC]
   refine ⟨by kernel_rfl,?_⟩
   refine NoPanic.normal ?_;clear H8 HB8 H8d HB8d H10 HB10 H11 HB11 HR10 HR11 f1 hcd hcd10 hcd11 hcd12 hHeld;go_wp2;go_roundw
   case rel=>exact ⟨k+1,by omega,by go_num,H12.out,HB12.out⟩
   case measure=>simp [intOf];omega
  ·have hkl:k=ks.length:=by omega
   subst hkl
   have dk:decide ((ks.length:Int)<(ks.length:Int))=false:=decide_eq_false (by omega)
   have HLR:=hide hlr.drop;have HBR:=hide hbr;clear hlr hbr;go_wp2;go_ret;exact ⟨rfl,HLR.out,HBR.out⟩
end
end Go.Proofs.YtjbdncknooeplaaGreatDoor
namespace Go.Proofs.YtjbdncknooeplaaGreatDoor
open Go.RowKit Go.Maps
set_option linter.unusedVariables false
set_option linter.unusedSimpArgs false
theorem wrn_good {B:Nat} {w:World} {L:List Item} (h:Lies B w L) (cap:Int) (h0:0≤cap) (h1:cap≤16777216):Calls Tryz.prog 23 #[.int .i64 cap] w fun e w'=>∃r,e=.returned (.tuple #[.pointer (some ⟨r,0,none⟩),.int .i64 0])∧Lies B w' (L++[.ref r (AD.fresh cap)])∧Below B w w':=by
 refine (rNew_good w cap h0 h1).mono ?_;rintro e w' ⟨rfl,⟨s,hr,hrel⟩,hb⟩
 exact ⟨_,rfl,h.push (it:=.ref w.heap.size (AD.fresh cap)) (S':=fun b=>b=w.heap.size) hb ⟨s,[],hr,hrel⟩ (fun b hb'=>by rw [hb'];exact Nat.le_refl _),hb.mono h.base⟩
set_option maxRecDepth 100000 in
set_option maxHeartbeats 8000000 in
theorem plays_walk {B:Nat} (w:World) (he0:Env B w) (hB:B≤w.heap.size) (cp:Int) (hcp:-9223372036854775808≤cp∧cp<9223372036854775808) (ad:Option Addr) (cap:Nat) (os:List WOp) (h:WScript w.heap.size w ad os) (hsz:∀o∈os,o.Sz) :
 Calls Tryz.prog 5 #[.int .i64 cp,.slice ad os.length cap] w fun e w'=>e=.returned (.bool true)∧Below w.heap.size w w':=by
 have he:Env w.heap.size w:=⟨he0.tab,he0.syn,he0.rng,Nat.le_trans he0.low hB⟩;obtain ⟨b,hb⟩:∃b,w.heap.size=b:=⟨_,rfl⟩;rw [hb] at he h ⊢;have hl0:Lies b w []:=Lies.nil (Nat.le_of_eq hb.symm);have HENV:=hide he;have HSC:=hide h;have HSZ:=hide hsz;have HL0:=hide hl0
 have hlen:os.length≤9223372036854775807:=by have:=h.len;unfold maxLen at this;omega
 clear he0 hB hb he h hl0 hsz hcp
 by_cases hbad:cp<0∨16777216<cp
 ·have hc1:=new_bad w cp hbad
  have hc2:=rNew_bad w cp hbad
  have HF:=hide (fun W (hbW:Below b w W)=>wfirst_any W (HENV.out.below hbW) (Nat.le_trans HL0.out.base hbW.size))
  clear hbad
  go_enter Tryz.func5,Tryz.ntmps5
  go_wp2_with fail;refine hc1.mono ?_;rintro e w1 ⟨rfl,hw⟩;obtain rfl:w=w1:=hw.symm;clear hw hc1;go_wp2_with fail;refine hc2.mono ?_;rintro e w2 ⟨rfl,hw⟩;obtain rfl:w=w2:=hw.symm;clear hw hc2;go_wp2_with fail;refine (HF.out w (Below.refl _ _)).mono ?_;rintro e w3 ⟨rfl,hb3⟩;have HB3:=hide (hb3.mono HL0.out.base);clear hb3;go_wp2;go_ret;exact ⟨rfl,HB3.out⟩
 have hc1:=n_new HL0.out cp (by omega) (by omega)
 have HCP:Hid (0≤cp∧cp≤16777216):=⟨by omega,by omega⟩
 clear hbad
 go_enter Tryz.func5,Tryz.ntmps5
 go_wp2_with fail;refine hc1.mono ?_;rintro e w1 ⟨pd,rfl,hl1,hb1⟩;have hc2:=wrn_good hl1 cp HCP.out.1 HCP.out.2;have HB1:=hide hb1;clear hb1 hl1 hc1;go_wp2_with fail;refine hc2.mono ?_;rintro e w2 ⟨px,rfl,hl2,hb2⟩;have hb12:=HB1.out.trans hb2;have hc3:=wfirst_any w2 (HENV.out.below hb12) hl2.base;have HB2:=hide hb12;have HL2:=hide hl2;clear hb2 hl2 hc2 hb12 HB1;go_wp2_with fail;refine hc3.mono ?_;rintro e w3 ⟨rfl,hb3⟩;have hl3:=HL2.out.below hb3;have hb13:=HB2.out.trans (hb3.mono HL2.out.base);obtain ⟨bb,hbb⟩:∃x,w3.heap.size=x:=⟨_,rfl⟩;obtain ⟨w4,hw4⟩:∃x,w3.alloc (.cells #[.pointer (some ⟨pd,0,none⟩),.pointer none,.pointer (some ⟨px,0,none⟩),.pointer none] 58)=x:=⟨_,rfl⟩;obtain ⟨hl4,hb4⟩:=hl3.newCells #[.pointer (some ⟨pd,0,none⟩),.pointer none,.pointer (some ⟨px,0,none⟩),.pointer none] 58;rw [hw4,hbb] at hl4;rw [hw4] at hb4
 have HST:Hid (PSt b w4 bb pd px):=.inl ⟨AD.fresh cp,hl4.pick (fun q=>if q=0 then 2 else q - 1) (fun x y hx hy e=>by
  unfold LS0 at hx hy;simp at hx hy
  (repeat' split at e)<;>omega) (fun q x hq=>by
  unfold LS0 at hq;have hlt:=(List.getElem?_eq_some_iff.1 hq).1;simp at hlt
  match q,hlt with
  | 0,_=>exact hq
  | 1,_=>exact hq
  | 2,_=>exact hq)⟩
 have HB4:=hide (hb13.trans hb4);clear hl3 hb13 hl4 hb4 hb3 hc3 HB2 HL2;go_wp2;clear hw4 hbb
 go_loopw [10] (fun ix wr=>∃k:Nat,k≤os.length∧ix=.int .i64 (k:Int)∧PSt b wr bb pd px∧Below b w wr) (fun ix _=>os.length - (intOf ix).toNat)
 case atStart=>exact ⟨0,by omega,rfl,HST.out,HB4.out⟩
 case round=>
  obtain ⟨k,hk,rfl,hst,hbr⟩:=hrel
  by_cases hlt:k<os.length
  ·obtain ⟨bs,ofs,rfl,f0,f1,f2,f3,f4,f5,f6⟩:=(HSC.out.below hbr).cells k hlt
   obtain ⟨o,ho⟩:∃o,os[k]=o:=⟨_,rfl⟩;rw [ho] at f0 f1 f2 f3 f4 f5 f6
   have hom:o∈os:=by rw [←ho];exact List.getElem_mem hlt
   have hPL:Calls Tryz.prog 24 #[.pointer (some ⟨bb,0,none⟩),.agg o.cs] wr fun e w'=>e=.returned (.bool true)∧PSt b w' bb pd px∧Below b wr w':=by
    rcases hst with ⟨A,hl⟩ | ⟨l,m,A,g,g',hl,hgd,hge⟩
    ·exact plays0_any hl (HENV.out.below hbr) o (HSC.out.ok o hom) ((HSC.out.lie o hom).below hbr) (HSZ.out o hom)
    ·exact plays1_any hl hgd hge (HENV.out.below hbr) o (HSC.out.ok o hom) ((HSC.out.lie o hom).below hbr) (HSZ.out o hom)
   have hcs:o.cs=#[.int .i64 o.kind,.string o.text,.string o.name,.int .i64 o.at_,.int .i64 o.n,.int .i64 o.first,.slice o.ad o.fates.length o.cap]:=rfl;rw [hcs] at hPL;have HPL:=hide hPL;have HBR:=hide hbr
   have dk:decide ((k:Int)<(os.length:Int))=true:=decide_eq_true (by omega)
   have dk':decide (k<os.length)=true:=decide_eq_true hlt
   have hk0:(0:Int)≤(k:Int):=by omega
   have hk1:(k:Int)<(os.length:Int):=by omega
   clear hst hbr hPL hcs ho hom;go_wp2_with fail;refine (HPL.out).mono ?_;rintro e W1 ⟨rfl,hst1,hb1⟩;have HB1:=hide (HBR.out.trans hb1);clear hb1 f0 f1 f2 f3 f4 f5 f6 HPL HBR
   rcases hst1 with ⟨A,hl⟩ | ⟨l,m,A,g,g',hl,hgd,hge⟩
   ·have HSD:=hide (sameDisk_any (i:=1) (j:=2) (A:=A) hl rfl rfl)
    clear hl;go_wp2_with fail;refine (HSD.out).mono ?_;rintro e W2 ⟨rfl,hl2,hb2⟩;have y1:W2.cell? ⟨bb,1,none⟩=some (.pointer none):=hl2.cellAt (q:=0) (b:=bb) rfl 1;have HL2:=hide hl2;have HB2:=hide (HB1.out.trans hb2);clear hl2 hb2;go_wp2
    go_quiet (fail)
    go_wp2;go_roundw
    case rel=>exact ⟨k+1,by omega,by go_num,.inl ⟨A,HL2.out.same (Nat.le_refl _) (fun _ _ _=>rfl)⟩,⟨HB2.out.os,HB2.out.tape,HB2.out.output,HB2.out.size,HB2.out.block⟩⟩
    case measure=>simp [intOf];omega
   ·have HSD:=hide (sameDisk_any (i:=1) (j:=2) (A:=A) hl rfl rfl)
    have HGD:=hide hgd;have HGE:=hide hge;clear hl hgd hge;go_wp2_with fail;refine (HSD.out).mono ?_;rintro e W2 ⟨rfl,hl2,hb2⟩;have HL2:=hide hl2;have HB2:=hide (HB1.out.trans hb2);clear hl2 hb2
    have HSS:Hid (∀(wx:World) (Z:List Item),Lies b wx (LS1 bb pd px l m A g g'++Z)→wx.cell? ⟨bb,1,none⟩=some (.pointer (some ⟨l,0,none⟩))∧wx.cell? ⟨bb,3,none⟩=some (.pointer (some ⟨m,0,none⟩))):=fun wx Z hl=>by
     have a:=hl.drop.cellAt (q:=0) (b:=bb) rfl;exact ⟨a 1,a 3⟩
    obtain ⟨V0,hV0⟩:∃x,W2.drew=x:=⟨_,rfl⟩
    have hv0:=HL2.out.same (w':=W2.drew) (Nat.le_refl _) (fun _ _ _=>rfl)
    rw [hV0] at hv0
    have hvb0:Below b w V0:=by rw [←hV0];exact HB2.out.drew
    have HL0':=hide hv0;have HVB:=hide hvb0;have HV0:=hide hV0
    have HS0:=hide (HSS.out V0 [] (by rw [List.append_nil];exact hv0))
    obtain ⟨fs,hfs⟩:∃x,g.files=x:=⟨_,rfl⟩;obtain ⟨fn,hfn⟩:∃x,fs.length=x:=⟨_,rfl⟩;have HN1:=hide (wnext_any (j:=3) (l:=l) (p:=pd) (g:=g) hv0 rfl);have HN2:=hide (rnext_log (j:=4) (l:=m) (p:=px) (g:=g') hv0 rfl);have HM1:=hide (names_at (j:=3) (l:=l) (p:=pd) (g:=g) hv0 rfl HGD.out.ok (HENV.out.below hvb0) hfs hfn)
    have HM2:Hid (∀(W:World) (Z:List Item),Lies b W (LS1 bb pd px l m A g g'++Z)→Below b w W→Calls Tryz.prog 27 #[.pointer (some ⟨m,0,none⟩)] W fun e w'=>∃v,e=.returned v∧Lies b w' ((LS1 bb pd px l m A g g'++Z)++[.row 9 v (fs.map encStr)])∧Below b W w'):=fun W Z hl hb=>by
     have:=rNames_any (j:=4) (l:=m) (p:=px) (g:=g') hl rfl (HGD.out.eq HGE.out).ok (HENV.out.below hb)
     rw [←HGE.out.files,hfs] at this;exact this
    have HNX:Hid (g'.next=g.next):=HGE.out.next.symm;rw [HNX.out] at HN2;have HFN:=hide hfn;clear hV0 hv0 hvb0 hfs hfn;go_wp2;refine wp_region_noPanic ?_
    refine wp_region_held_drew (S:=fun wx=>wx.cell? ⟨bb,1,none⟩=some (.pointer (some ⟨l,0,none⟩))∧wx.cell? ⟨bb,3,none⟩=some (.pointer (some ⟨m,0,none⟩))) (by kernel_rfl) (by rw [HV0.out];exact HS0.out) (fun hHeld=>?_)
    rw [HV0.out] at hHeld ⊢;refine tK 0 (some 64) (.pointer (some ⟨bb,0,none⟩)) rfl hHeld ?_;simp only [Act.put,pA,pB,pC];refine tK 1 (some 65) (.pointer (some ⟨bb,0,none⟩)) rfl hHeld ?_;simp only [Act.put,pA,pB,pC];refine tK 2 (some 66) (.pointer (some ⟨bb,1,none⟩)) rfl hHeld ?_;simp only [Act.put,pA,pB,pC]
    refine tH 3 (some 67) (.pointer (some ⟨l,0,none⟩)) rfl (fun w hw=>by obtain ⟨hw1,hw2⟩:=hw;first | rfl | (go_simp;done) | (go_simp;rfl)) hHeld ?_
    simp only [Act.put,pA,pB,pC];refine tK 4 (some 68) (.bool true) rfl hHeld ?_;simp only [Act.put,pA,pB,pC];refine tK 5 (some 69) (.bool true) rfl hHeld ?_;simp only [Act.put,pA,pB,pC];refine tK 6 (some 70) (.pointer (some ⟨bb,0,none⟩)) rfl hHeld ?_;simp only [Act.put,pA,pB,pC];refine tK 7 (some 71) (.pointer (some ⟨bb,0,none⟩)) rfl hHeld ?_;simp only [Act.put,pA,pB,pC];refine tK 8 (some 72) (.pointer (some ⟨bb,3,none⟩)) rfl hHeld ?_;simp only [Act.put,pA,pB,pC]
    refine tH 9 (some 73) (.pointer (some ⟨m,0,none⟩)) rfl (fun w hw=>by obtain ⟨hw1,hw2⟩:=hw;first | rfl | (go_simp;done) | (go_simp;rfl)) hHeld ?_
    simp only [Act.put,pA,pB,pC];refine tK 10 (some 74) (.bool true) rfl hHeld ?_;simp only [Act.put,pA,pB,pC];refine tK 11 (some 75) (.bool true) rfl hHeld ?_;simp only [Act.put,pA,pB,pC];refine tK 12 (some 76) (.bool true) rfl hHeld ?_;simp only [Act.put,pA,pB,pC];refine tK 13 (some 77) (.pointer (some ⟨bb,0,none⟩)) rfl hHeld ?_;simp only [Act.put,pA,pB,pC];refine tK 14 (some 78) (.pointer (some ⟨bb,0,none⟩)) rfl hHeld ?_;simp only [Act.put,pA,pB,pC];refine tK 15 (some 79) (.pointer (some ⟨bb,1,none⟩)) rfl hHeld ?_;simp only [Act.put,pA,pB,pC]
    refine tH 16 (some 80) (.pointer (some ⟨l,0,none⟩)) rfl (fun w hw=>by obtain ⟨hw1,hw2⟩:=hw;first | rfl | (go_simp;done) | (go_simp;rfl)) hHeld ?_
    simp only [Act.put,pA,pB,pC];refine tK 18 (some 82) (.pointer (some ⟨bb,0,none⟩)) rfl hHeld ?_;simp only [Act.put,pA,pB,pC];refine tK 19 (some 83) (.pointer (some ⟨bb,0,none⟩)) rfl hHeld ?_;simp only [Act.put,pA,pB,pC];refine tK 20 (some 84) (.pointer (some ⟨bb,3,none⟩)) rfl hHeld ?_;simp only [Act.put,pA,pB,pC]
    refine tH 21 (some 85) (.pointer (some ⟨m,0,none⟩)) rfl (fun w hw=>by obtain ⟨hw1,hw2⟩:=hw;first | rfl | (go_simp;done) | (go_simp;rfl)) hHeld ?_
    simp only [Act.put,pA,pB,pC]
    refine rdH 17 rfl (fun K hK=>?_)
    go_simp
    refine (HN1.out).mono ?_;rintro e Wa ⟨rfl,hwa⟩
    try go_wp2_with fail
    obtain rfl:V0=Wa:=hwa.symm
    refine hK.out _ _ (HS0.out) (fun hH=>?_)
    clear hK K hHeld;have hHeld:=hH;clear hH
    refine rdH 22 rfl (fun K hK=>?_)
    go_simp
    refine (HN2.out).mono ?_;rintro e Wb ⟨rfl,hwb⟩
    try go_wp2_with fail
    obtain rfl:V0=Wb:=hwb.symm
    refine hK.out _ _ (HS0.out) (fun hH=>?_)
    clear hK K hHeld;have hHeld:=hH;clear hH;refine tK 23 (some 87) (.bool false) rfl hHeld ?_;simp only [Act.put,pA,pB,pC];refine tK 24 (some 88) (.bool false) rfl hHeld ?_;simp only [Act.put,pA,pB,pC];refine tK 25 (some 89) (.pointer (some ⟨bb,0,none⟩)) rfl hHeld ?_;simp only [Act.put,pA,pB,pC];refine tK 26 (some 90) (.pointer (some ⟨bb,0,none⟩)) rfl hHeld ?_;simp only [Act.put,pA,pB,pC];refine tK 27 (some 91) (.pointer (some ⟨bb,1,none⟩)) rfl hHeld ?_;simp only [Act.put,pA,pB,pC]
    refine tH 28 (some 92) (.pointer (some ⟨l,0,none⟩)) rfl (fun w hw=>by obtain ⟨hw1,hw2⟩:=hw;first | rfl | (go_simp;done) | (go_simp;rfl)) hHeld ?_
    simp only [Act.put,pA,pB,pC];refine tK 30 (some 94) (.pointer (some ⟨bb,0,none⟩)) rfl hHeld ?_;simp only [Act.put,pA,pB,pC];refine tK 31 (some 95) (.pointer (some ⟨bb,0,none⟩)) rfl hHeld ?_;simp only [Act.put,pA,pB,pC];refine tK 32 (some 96) (.pointer (some ⟨bb,3,none⟩)) rfl hHeld ?_;simp only [Act.put,pA,pB,pC]
    refine tH 33 (some 97) (.pointer (some ⟨m,0,none⟩)) rfl (fun w hw=>by obtain ⟨hw1,hw2⟩:=hw;first | rfl | (go_simp;done) | (go_simp;rfl)) hHeld ?_
    simp only [Act.put,pA,pB,pC]
    refine rdH 29 rfl (fun K hK=>?_)
    go_simp
    refine (HM1.out).mono ?_;rintro e Wc ⟨ad1,cap1,rfl,hlc,hbc⟩
    try go_wp2_with fail
    refine hK.out _ _ ((HSS.out Wc _ hlc)) (fun hH=>?_)
    clear hK K hHeld;have hHeld:=hH;clear hH;have HBC:=hide (HVB.out.trans hbc);have HLC:=hide hlc;clear hlc hbc
    refine rdH 34 rfl (fun K hK=>?_)
    go_simp
    refine (HM2.out Wc _ HLC.out HBC.out).mono ?_;rintro e Wd ⟨v2,rfl,hld,hbd⟩
    try go_wp2_with fail
    refine hK.out _ _ ((HSS.out Wd _ (by rw [←List.append_assoc];exact hld))) (fun hH=>?_)
    clear hK K hHeld;have hHeld:=hH;clear hH;have HBD:=hide (HBC.out.trans hbd);obtain ⟨ad2,cap2,hv2,hr2,_⟩:=row_at (hld.rowOf (i:=(LS1 bb pd px l m A g g'++[Item.row 9 (.slice ad1 fn cap1) (fs.map encStr)]).length) get_t0);rw [List.length_map,HFN.out] at hv2;subst hv2;obtain ⟨hr1,_,hmx⟩:=row_text (q:=5) (ad:=ad1) (n:=fn) (cap:=cap1) (fs:=fs) hld rfl;have HTS:=hide (texts_same hld (cap1:=cap1) (cap2:=cap2) hr1 hr2 HFN.out hmx);clear hld hbd hr1 hr2 hmx
    refine rdH 35 rfl (fun K hK=>?_)
    go_simp
    refine (HTS.out).mono ?_;rintro e We ⟨rfl,hle,hbe⟩
    try go_wp2_with fail
    refine hK.out _ _ ((HSS.out We _ (by rw [←List.append_assoc];exact hle))) (fun hH=>?_)
    clear hK K hHeld;have hHeld:=hH;clear hH;have HLF:Hid (Lies b We (LS1 bb pd px l m A g g')):=hle.drop.drop;have HBF:=hide (HBD.out.trans hbe);clear hle hbe;refine tK 36 (some 100) (.bool false) rfl hHeld ?_;simp only [Act.put,pA,pB,pC];refine tK 37 (some 101) (.bool false) rfl hHeld ?_;simp only [Act.put,pA,pB,pC];refine tK 38 (some 102) (.bool false) rfl hHeld ?_;simp only [Act.put,pA,pB,pC]
    refine ⟨by kernel_rfl,?_⟩
    refine NoPanic.normal ?_;go_wp2;go_roundw
    case rel=>exact ⟨k+1,by omega,by go_num,.inr ⟨l,m,A,g,g',HLF.out,HGD.out,HGE.out⟩,HBF.out⟩
    case measure=>simp [intOf];omega
  ·have dk:decide ((k:Int)<(os.length:Int))=false:=decide_eq_false (by omega)
   have HBR:=hide hbr;clear hst hbr;go_wp2;go_ret;exact ⟨rfl,HBR.out⟩
end Go.Proofs.YtjbdncknooeplaaGreatDoor
