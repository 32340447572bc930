import Derived.Test.YtjbdncknooeplaaGreatDoorWRAppM
import Derived.Test.YtjbdncknooeplaaGreatDoorWROpenK
import Derived.Test.YtjbdncknooeplaaGreatDoorRScan
namespace Go.Proofs.YtjbdncknooeplaaGreatDoor
open Go.RowKit Go.Maps
set_option linter.unusedVariables false
set_option linter.unusedSimpArgs false
section
variable {B:Nat} {w:World} {L:List Item} {i j l p:Nat} {A:AD} {g:AL}
set_option maxRecDepth 100000 in
set_option maxHeartbeats 8000000 in
theorem rappend_any (h:Lies B w L) (hi:L[i]?=some (.ref p A)) (hok:A.Ok) (hj:L[j]?=some (.rlog l p g)) (hij:i≠j) (he:Env B w) (hg:g.Fit) (hnx:0≤g.next) (t:ByteArray) (R:Int×AD×AL) (hR:appA A g t=R) :
 Calls Tryz.prog 47 #[.pointer (some ⟨l,0,none⟩),.string t] w fun e w'=>e=.returned (.int .i64 R.1)∧Lies B w' ((L.set i (.ref p R.2.1)).set j (.rlog l p R.2.2))∧Below B w w':=by
 obtain ⟨v0,r0,hat0,hBl⟩:=h.rlogAt hj;have c5:=hat0.c5;have c4:=hat0.c4
 have hK:Lies B w ((L.set i (.ref p A)).set j (.rlog l p g)):=by rw [hset_keep hi,hset_keep hj];exact h
 cases hd:g.dead with
 | true=>
  have hRR:R=(60,A,g):=by rw [←hR];unfold appA;rw [if_pos hd]
  rw [hd] at c5;have HL:=hide hK;have HRR:=hide hRR;clear h hat0 hR hd hK hRR hg
  go_enter Tryz.func47,Tryz.ntmps47
  go_wp2;go_ret;rw [HRR.out];exact ⟨rfl,HL.out,Below.refl _ _⟩
 | false=>
  rw [hd] at c5
  by_cases hlong:65536<t.size
  ·have hfe:Fr.frameE g.next t=3:=by unfold Fr.frameE;rw [if_neg (by omega),if_pos hlong]
   have hRR:R=(3,A,g):=by rw [←hR];unfold appA;rw [if_neg (by rw [hd];decide),if_pos (by rw [hfe];decide),hfe]
   have HL:=hide hK;have HRR:=hide hRR
   have q1:decide ((65536:Int)<(t.size:Int))=true:=decide_eq_true (by omega)
   clear h hat0 hR hd hK hRR hg hfe
   go_enter Tryz.func47,Tryz.ntmps47
   go_wp2;go_ret;rw [HRR.out];exact ⟨rfl,HL.out,Below.refl _ _⟩
  have q1:decide ((65536:Int)<(t.size:Int))=false:=decide_eq_false (by omega)
  have hfe:Fr.frameE g.next t=0:=by unfold Fr.frameE;rw [if_neg (by omega),if_neg hlong]
  have hfr:=Fr.rframe_any g.next t w (by have:=hg.next.2;omega)
  have hXz:=frameS_size hfe;obtain ⟨X,hX⟩:∃X,Fr.frameS g.next t=X:=⟨_,rfl⟩;rw [hfe,hX] at hfr;rw [hX] at hXz;obtain ⟨PS,hPS⟩:∃x,placeA g X.size=x:=⟨_,rfl⟩
  have hR2:R=if 1152921504606846976≤g.next∨9999999<PS.1.num then (6,A,g) else (let r:=dlayA A g.name.data.toList PS.1 PS.2 false X.data.toList;if r.1≠0 then (r.1,r.2.1,{ g with dead:=r.2.2 }) else (0,r.2.1,{ g with dead:=r.2.2,next:=g.next+1,segs:=keepA g ⟨PS.1.num,PS.1.size+X.size,g.next+1⟩ PS.2 })):=by
   rw [←hR];unfold appA
   rw [if_neg (by rw [hd];decide),if_neg (by rw [hfe];decide)]
   simp only;rw [hX,hPS,←dlay_eq,hd]
  have hpb:=place_bound (n:=X.size) hg;rw [hPS] at hpb;have HR:=hide hR2;have HPB:=hide hpb;have HFR:=hide hfr;have HL:=hide h;have HI:=hide hi;have HJ:=hide hj;have HIJ:=hide hij;have HOK:=hide hok;have HG:=hide hg;have HD:=hide hd;have HK:=hide hK;have HXZ:=hide hXz;have HPS:=hide hPS;have hnx1:=hg.next.2;have hlw:l<w.heap.size:=lt_of_some hat0.cells;clear hR hR2 hpb hfr h hi hj hij hok hg hd hK hXz hPS hfe hlong hX hat0
  go_enter Tryz.func47,Tryz.ntmps47
  go_wp2_with fail;refine (HFR.out).mono ?_;rintro e w1 ⟨rfl,hb1⟩;have hl1:=HL.out.below hb1;have hbb1:=hb1.mono HL.out.base;obtain ⟨b0,hb0⟩:∃x,w1.heap.size=x:=⟨_,rfl⟩;obtain ⟨V,hV⟩:∃x,w1.alloc (.cells #[.int .i64 0,.int .i64 0,.int .i64 g.next] 105)=x:=⟨_,rfl⟩;obtain ⟨hlv,hbv⟩:=hl1.newCells #[.int .i64 0,.int .i64 0,.int .i64 g.next] 105;rw [hV,hb0] at hlv;rw [hV] at hbv;obtain ⟨v1,r1,hat1,_⟩:=hl1.rlogAt HJ.out;have y4:=hat1.c4;obtain ⟨v2,r2,hat2,_⟩:=hlv.rlogAt (get_tl HJ.out);have y3:=hat2.c3;have HLV:=hide hlv;have HBV:=hide (hbb1.trans hbv);have HV:=hide hV;clear hl1 hbb1 hb1 hlv hbv hat1
  rcases hsg:g.segs with _ | ⟨s0,gs0⟩
  case' nil=>
   have hv2:v2=.slice none 0 0∨∃ad cap,v2=.slice ad 0 cap:=by
    obtain ⟨ad,cap,hv,_⟩:=hat2.row;rw [hsg] at hv;exact .inr ⟨ad,cap,hv⟩
   obtain ⟨ad2,cap2,rfl⟩:∃ad cap,v2=.slice ad 0 cap:=by
    obtain ⟨ad,cap,hv,_⟩:=hat2.row;rw [hsg] at hv;exact ⟨ad,cap,hv⟩
   have hPE:PS=(⟨0,0,0⟩,true):=by rw [←HPS.out];unfold placeA;rw [hsg];rfl
   have HPE:=hide hPE;clear hPE;clear hv2
   have hsg2:g.segs.length=0:=by rw [hsg];rfl
   go_upto_region 14 with fail
   obtain ⟨sn,hsn⟩:∃x:Int,0=x:=⟨_,rfl⟩;obtain ⟨ss,hss⟩:∃x:Int,0=x:=⟨_,rfl⟩;obtain ⟨sf,hsf⟩:∃x:Int,g.next=x:=⟨_,rfl⟩
   have HPQ:Hid (PS.1.num=sn∧PS.1.size=ss∧PS.2=true∧0≤sn∧0≤ss∧ss≤1048576):=⟨by rw [HPE.out];exact hsn,by rw [HPE.out];exact hss,by rw [HPE.out],by omega,by omega,by omega⟩
   have HLC:Hid (Lies B V (L++[Item.block b0 (.cells #[.int .i64 sn,.int .i64 ss,.int .i64 sf] 105 (0,0))])):=by
    show Lies _ _ _
    rw [←hsn,←hss,←hsf];exact HLV.out
   have HBC:=HBV;clear hsn hss hsf HLV HBV y3 y4 hat2;have hsn0:0≤sn:=HPQ.out.2.2.2.1;have hss0:0≤ss:=HPQ.out.2.2.2.2.1;have hss1:ss≤1048576:=HPQ.out.2.2.2.2.2
   by_cases hf1:9999999<sn
   ·have k1:decide ((9999999:Int)<sn)=true:=decide_eq_true hf1
    have HRR:Hid (R=(6,A,g)):=by show _=_;rw [HR.out,if_pos (.inr (by rw [HPQ.out.1];exact hf1))]
    obtain ⟨⟨z0,z1,z2⟩,_⟩:=HLC.out.get3 (q:=L.length) get_t0
    have HKR:Hid (Lies B V ((L.set i (.ref p A)).set j (.rlog l p g))):=by
     show Lies _ _ _
     rw [hset_keep HI.out,hset_keep HJ.out];exact HLC.out.drop
    clear HLC;go_wp2;go_ret;rw [HRR.out];exact ⟨rfl,HKR.out,HBC.out⟩
   have k1:decide ((9999999:Int)<sn)=false:=decide_eq_false hf1;obtain ⟨v7,r7,hat7,_⟩:=HLC.out.rlogAt (get_tl HJ.out);have y4c:=hat7.c4;obtain ⟨⟨z0,z1,z2⟩,_⟩:=HLC.out.get3 (q:=L.length) get_t0
   by_cases hf2:1152921504606846976≤g.next
   ·have k2:decide ((1152921504606846976:Int)≤g.next)=true:=decide_eq_true hf2
    have HRR:Hid (R=(6,A,g)):=by show _=_;rw [HR.out,if_pos (.inl hf2)]
    have HKR:Hid (Lies B V ((L.set i (.ref p A)).set j (.rlog l p g))):=by
     show Lies _ _ _
     rw [hset_keep HI.out,hset_keep HJ.out];exact HLC.out.drop
    clear HLC hat7;go_wp2;go_ret;rw [HRR.out];exact ⟨rfl,HKR.out,HBC.out⟩
   have k2:decide ((1152921504606846976:Int)≤g.next)=false:=decide_eq_false hf2
   have HR3:Hid (R=(let r:=dlayA A g.name.data.toList PS.1 PS.2 false X.data.toList;if r.1≠0 then (r.1,r.2.1,{ g with dead:=r.2.2 }) else (0,r.2.1,{ g with dead:=r.2.2,next:=g.next+1,segs:=keepA g ⟨PS.1.num,PS.1.size+X.size,g.next+1⟩ PS.2 }))):=by
    show _=_
    rw [HR.out,if_neg (by rintro (hc | hc);exact hf2 hc;rw [HPQ.out.1] at hc;exact hf1 hc)]
   have HSS:Hid (∀(wx:World) (A':AD),Lies B wx (L.set i (.ref p A')++[Item.block b0 (.cells #[.int .i64 sn,.int .i64 ss,.int .i64 sf] 105 (0,0))])→(wx.cell? ⟨l,0,none⟩=some (.pointer (some ⟨p,0,none⟩))∧wx.cell? ⟨b0,0,none⟩=some (.int .i64 sn)∧wx.cell? ⟨b0,1,none⟩=some (.int .i64 ss))∧wx.cell? ⟨l,1,none⟩=some (.string g.name)∧l<wx.heap.size∧b0<wx.heap.size):=fun wx A' hl=>by
    obtain ⟨v8,r8,hat8,_⟩:=hl.rlogAt (get_tl (by rw [List.getElem?_set_ne HIJ.out];exact HJ.out))
    obtain ⟨⟨a0,a1,a2⟩,_⟩:=hl.get3 (q:=(L.set i (.ref p A')).length) get_t0;exact ⟨⟨hat8.c0,a0,a1⟩,hat8.c1,lt_of_some hat8.cells,lt_of_some (hl.atBlock (q:=(L.set i (.ref p A')).length) get_t0)⟩
   obtain ⟨FK,hFB⟩:∃FK,(fileB g.name sn).data.toList=FK:=⟨_,rfl⟩
   have HFK:Hid (fileL g.name.data.toList sn=FK):=by show _=_;rw [←hFB];rfl
   have hfz:=fileB_size (b:=g.name) HG.out.name hsn0 (by omega)
   have HFZ:Hid ((fileB g.name sn).size≤maxLen):=by show _≤_;unfold maxLen;omega
   have HLC2:Hid (Lies B V (L.set i (.ref p A)++[Item.block b0 (.cells #[.int .i64 sn,.int .i64 ss,.int .i64 sf] 105 (0,0))])):=by
    show Lies _ _ _
    rw [hset_keep HI.out];exact HLC.out
   have HIR:Hid (∀(A':AD) (Z:List Item),(L.set i (.ref p A')++Z)[i]?=some (.ref p A')):=fun A' Z=>get_tl (List.getElem?_set_self (List.getElem?_eq_some_iff.1 HI.out).1)
   clear hat7 hfz HLC;obtain ⟨V0,hV0⟩:∃x,V.drew=x:=⟨_,rfl⟩
   have hv0:=HLC2.out.same (w':=V.drew) (Nat.le_refl _) (fun _ _ _=>rfl)
  case' cons=>
   obtain ⟨ad2,cap2,b2,off2,hv2,had2⟩:=rform_of hat2;subst hv2
   have hn0:0<g.segs.length:=by rw [hsg];simp
   obtain rfl:=had2 hn0
   obtain ⟨m,hm⟩:∃m,g.segs.length=m+1:=⟨g.segs.length - 1,by omega⟩
   have hml:m+1≤10000000:=by rw [←hm];exact HG.out.len
   obtain ⟨sl,hsl⟩:∃sl,g.segs[m]?=some sl:=⟨_,List.getElem?_eq_getElem (by omega)⟩
   obtain ⟨hbl2,_,⟨d0,d1,d2⟩,_⟩:=rseg3 hat2 m hsl
   have hlast:g.segs.getLast?=some sl:=by rw [List.getLast?_eq_getElem?,hm,Nat.add_sub_cancel];exact hsl
   have hsb:=HG.out.segs sl (List.mem_of_getElem? hsl)
   have hPE:PS=if 0<sl.size∧g.room<sl.size+X.size then (⟨sl.num+1,0,0⟩,true) else (sl,false):=by
    rw [←HPS.out];unfold placeA;rw [hlast]
   have HPE:=hide hPE;have HNE:=hide hn0;have HSB:=hide hsb;rw [hm] at y3
   have q0:decide ((0:Int)<((m+1:Nat):Int))=true:=decide_eq_true (by omega)
   obtain ⟨V0,hV0⟩:∃x,V.drew=x:=⟨_,rfl⟩
   have hv0:=HLV.out.same (w':=V.drew) (Nat.le_refl _) (fun _ _ _=>rfl)
   rw [hV0] at hv0
   have hvb0:Below B w V0:=by rw [←hV0];exact HBV.out.drew
   obtain ⟨⟨e0,e1,e2⟩,ef⟩:=hv0.get3 (q:=L.length) get_t0;have ef0:=ef 0;have ef1:=ef 1;have ef2:=ef 2;obtain ⟨V2,hV2⟩:∃x,((V0.setCell ⟨b0,0,none⟩ (.int .i64 sl.num)).setCell ⟨b0,1,none⟩ (.int .i64 sl.size)).setCell ⟨b0,2,none⟩ (.int .i64 sl.fin)=x:=⟨_,rfl⟩;obtain ⟨hl2,hb2⟩:=hv0.set3 (q:=L.length) get_t0 _ _ _ hV2;rw [set_t0] at hl2
   have h30:V0.cell? ⟨l,3,none⟩=some (.slice (some ⟨b2,off2,none⟩) (m+1) cap2):=by rw [←hV0];exact y3
   have d00:V0.cell? ⟨b2,off2+m * 3,none⟩=some (.int .i64 sl.num):=by rw [←hV0];exact d0
   have d10:V0.cell? ⟨b2,off2+m * 3+1,none⟩=some (.int .i64 sl.size):=by rw [←hV0];exact d1
   have d20:V0.cell? ⟨b2,off2+m * 3+2,none⟩=some (.int .i64 sl.fin):=by rw [←hV0];exact d2
   obtain ⟨⟨f0,f1,f2⟩,ff⟩:=hl2.get3 (q:=L.length) get_t0;have ff0:=ff 0;have ff1:=ff 1;have ff2:=ff 2;obtain ⟨v6,r6,hat6,_⟩:=hl2.rlogAt (get_tl HJ.out);have y2:=hat6.c2;have HL2:=hide hl2;have HB2':=hide (hvb0.trans hb2);have HV0:=hide hV0
   have q3:((m+1:Nat):Int) - 1=(m:Int):=by omega
   have q2:IntKind.i64.wrap (m:Int)=(m:Int):=by rw [IntKind.wrap_i64];omega
   clear hV0 hv0 hvb0 hl2 hb2 hat2 hat6 had2 hm hsl hlast hsb hPE hn0 d0 d1 d2 ef ff hsg;go_wp2;clear y3;refine wp_region_noPanic ?_
   refine wp_region_T (S:=fun wx=>wx.cell? ⟨l,3,none⟩=some (.slice (some ⟨b2,off2,none⟩) (m+1) cap2)∧wx.cell? ⟨b2,off2+m * 3,none⟩=some (.int .i64 sl.num)∧wx.cell? ⟨b2,off2+m * 3+1,none⟩=some (.int .i64 sl.size)∧wx.cell? ⟨b2,off2+m * 3+2,none⟩=some (.int .i64 sl.fin)) 12 (by kernel_rfl) (by rw [HV0.out];exact ⟨h30,d00,d10,d20⟩) (fun hHeld=>?_)
   rw [HV0.out] at hHeld ⊢;refine tT 0 (some 38) (.pointer (some ⟨l,0,none⟩)) rfl hHeld ?_;simp only [Act.put,pA,pB,pC];refine tT 1 (some 39) (.pointer (some ⟨l,0,none⟩)) rfl hHeld ?_;simp only [Act.put,pA,pB,pC];refine tT 2 (some 40) (.pointer (some ⟨l,3,none⟩)) rfl hHeld ?_;simp only [Act.put,pA,pB,pC]
   refine tU 3 (some 41) (.slice (some ⟨b2,off2,none⟩) (m+1) cap2) rfl (fun w hw=>by obtain ⟨hw1,hw2,hw3,hw4⟩:=hw;first | rfl | (go_simp;done) | (go_simp;rfl)) hHeld ?_
   simp only [Act.put,pA,pB,pC];refine tT 4 (some 42) (.pointer (some ⟨l,0,none⟩)) rfl hHeld ?_;simp only [Act.put,pA,pB,pC];refine tT 5 (some 43) (.pointer (some ⟨l,0,none⟩)) rfl hHeld ?_;simp only [Act.put,pA,pB,pC];refine tT 6 (some 44) (.pointer (some ⟨l,3,none⟩)) rfl hHeld ?_;simp only [Act.put,pA,pB,pC]
   refine tU 7 (some 45) (.slice (some ⟨b2,off2,none⟩) (m+1) cap2) rfl (fun w hw=>by obtain ⟨hw1,hw2,hw3,hw4⟩:=hw;first | rfl | (go_simp;done) | (go_simp;rfl)) hHeld ?_
   simp only [Act.put,pA,pB,pC];refine tT 8 (some 46) (.int .i64 ((m+1:Nat):Int)) rfl hHeld ?_;simp only [Act.put,pA,pB,pC]
   refine tU 9 (some 47) (.int .i64 (m:Int)) rfl (fun w hw=>by first | rfl | (go_simp;done) | (go_simp;rfl) | (go_simp;exact q2)) hHeld ?_
   simp only [Act.put,pA,pB,pC]
   refine tU 10 (some 48) (.pointer (some ⟨b2,off2+m * 3,none⟩)) rfl (fun w hw=>by first | rfl | (go_simp;done) | (go_simp;rfl) | (go_simp;intro hbad;exfalso;omega)) hHeld ?_
   simp only [Act.put,pA,pB,pC]
   refine tU 11 (some 49) (.agg #[.int .i64 sl.num,.int .i64 sl.size,.int .i64 sl.fin]) rfl (fun w hw=>by obtain ⟨hw1,hw2,hw3,hw4⟩:=hw;first | rfl | (go_simp;done) | (go_simp;rfl)) hHeld ?_
   simp only [Act.put,pA,pB,pC]
   refine readyT 12 (by kernel_rfl) rfl (by rfl) (fun K hK=>?_)
   go_simp
   try rw [hV2]
   refine hK.out _ _ (fun x=>absurd rfl x) (fun _=>?_)
   clear hK K hHeld
   refine ⟨by kernel_rfl,?_⟩
   refine NoPanic.normal ?_;clear hV2 e0 e1 e2 ef0 ef1 ef2 h30 d00 d10 d20;obtain ⟨FB,hFB⟩:∃x:Bool,(decide (0<sl.size) && decide (g.room<sl.size+(X.size:Int)))=x:=⟨_,rfl⟩;have HFB:=hide hFB;clear hFB;have hsz0:0≤sl.size:=HSB.out.1.1;have hsz1:sl.size≤1048576:=HSB.out.1.2;have hxz0:=HXZ.out
   go_upto_region 11 with fail
   go_cut [64] from 50 to 63 (fun c wx=>c=.bool FB∧Lies B wx (L++[Item.block b0 (.cells #[.int .i64 sl.num,.int .i64 sl.size,.int .i64 sl.fin] 105 (0,0))])∧Below B w wx)
   case first=>
    by_cases hs1:0<sl.size
    ·have k1:decide (0<sl.size)=true:=decide_eq_true hs1
     by_cases hr1:g.room<sl.size+(X.size:Int)
     ·have k2:decide (g.room<sl.size+(X.size:Int))=true:=decide_eq_true hr1
      have hFT:FB=true:=by rw [←HFB.out,k1,k2];rfl
      subst hFT
      go_quiet (fail)
      go_wp2
      go_meet
      case rel=>exact ⟨rfl,HL2.out.same (Nat.le_refl _) (fun _ _ _=>rfl),⟨HB2'.out.os,HB2'.out.tape,HB2'.out.output,HB2'.out.size,HB2'.out.block⟩⟩
     ·have k2:decide (g.room<sl.size+(X.size:Int))=false:=decide_eq_false hr1
      have hFT:FB=false:=by rw [←HFB.out,k1,k2];rfl
      subst hFT
      go_quiet (fail)
      go_wp2
      go_meet
      case rel=>exact ⟨rfl,HL2.out.same (Nat.le_refl _) (fun _ _ _=>rfl),⟨HB2'.out.os,HB2'.out.tape,HB2'.out.output,HB2'.out.size,HB2'.out.block⟩⟩
    ·have k1:decide (0<sl.size)=false:=decide_eq_false hs1
     have hFT:FB=false:=by rw [←HFB.out,k1];rfl
     subst hFT
     go_quiet (fail)
     go_wp2
     go_meet
     case rel=>exact ⟨rfl,HL2.out.same (Nat.le_refl _) (fun _ _ _=>rfl),⟨HB2'.out.os,HB2'.out.tape,HB2'.out.output,HB2'.out.size,HB2'.out.block⟩⟩
   case' rest=>
    obtain ⟨rfl,hlx,hbx⟩:=hcut;have HLX:=hide hlx;have HBX:=hide hbx;clear hlx hbx f0 f1 f2 ff0 ff1 ff2 y2 HL2 HB2' hsz0 hsz1;cases FB
    case false=>
     have hno:¬(0<sl.size∧g.room<sl.size+X.size):=fun hc=>by
      have:=HFB.out
      rw [decide_eq_true hc.1,decide_eq_true hc.2] at this;cases this
     have hPS2:PS=(sl,false):=by rw [HPE.out,if_neg hno]
     obtain ⟨sn,hsn⟩:∃x,sl.num=x:=⟨_,rfl⟩;obtain ⟨ss,hss⟩:∃x,sl.size=x:=⟨_,rfl⟩;obtain ⟨sf,hsf⟩:∃x,sl.fin=x:=⟨_,rfl⟩
     have HPQ:Hid (PS.1.num=sn∧PS.1.size=ss∧PS.2=false∧0≤sn∧0≤ss∧ss≤1048576):=by
      show _∧_
      rw [hPS2,←hsn,←hss];exact ⟨rfl,rfl,rfl,HSB.out.2.1,HSB.out.1.1,HSB.out.1.2⟩
     have HLC:Hid (Lies B wc (L++[Item.block b0 (.cells #[.int .i64 sn,.int .i64 ss,.int .i64 sf] 105 (0,0))])):=by
      show Lies _ _ _
      rw [←hsn,←hss,←hsf];exact HLX.out
     have HBC:=HBX;clear hsn hss hsf hPS2 hno HLX HBX HPE HSB HFB;have hsn0:0≤sn:=HPQ.out.2.2.2.1;have hss0:0≤ss:=HPQ.out.2.2.2.2.1;have hss1:ss≤1048576:=HPQ.out.2.2.2.2.2
     by_cases hf1:9999999<sn
     ·have k1:decide ((9999999:Int)<sn)=true:=decide_eq_true hf1
      have HRR:Hid (R=(6,A,g)):=by show _=_;rw [HR.out,if_pos (.inr (by rw [HPQ.out.1];exact hf1))]
      obtain ⟨⟨z0,z1,z2⟩,_⟩:=HLC.out.get3 (q:=L.length) get_t0
      have HKR:Hid (Lies B wc ((L.set i (.ref p A)).set j (.rlog l p g))):=by
       show Lies _ _ _
       rw [hset_keep HI.out,hset_keep HJ.out];exact HLC.out.drop
      clear HLC;go_wp2;go_ret;rw [HRR.out];exact ⟨rfl,HKR.out,HBC.out⟩
     have k1:decide ((9999999:Int)<sn)=false:=decide_eq_false hf1;obtain ⟨v7,r7,hat7,_⟩:=HLC.out.rlogAt (get_tl HJ.out);have y4c:=hat7.c4;obtain ⟨⟨z0,z1,z2⟩,_⟩:=HLC.out.get3 (q:=L.length) get_t0
     by_cases hf2:1152921504606846976≤g.next
     ·have k2:decide ((1152921504606846976:Int)≤g.next)=true:=decide_eq_true hf2
      have HRR:Hid (R=(6,A,g)):=by show _=_;rw [HR.out,if_pos (.inl hf2)]
      have HKR:Hid (Lies B wc ((L.set i (.ref p A)).set j (.rlog l p g))):=by
       show Lies _ _ _
       rw [hset_keep HI.out,hset_keep HJ.out];exact HLC.out.drop
      clear HLC hat7;go_wp2;go_ret;rw [HRR.out];exact ⟨rfl,HKR.out,HBC.out⟩
     have k2:decide ((1152921504606846976:Int)≤g.next)=false:=decide_eq_false hf2
     have HR3:Hid (R=(let r:=dlayA A g.name.data.toList PS.1 PS.2 false X.data.toList;if r.1≠0 then (r.1,r.2.1,{ g with dead:=r.2.2 }) else (0,r.2.1,{ g with dead:=r.2.2,next:=g.next+1,segs:=keepA g ⟨PS.1.num,PS.1.size+X.size,g.next+1⟩ PS.2 }))):=by
      show _=_
      rw [HR.out,if_neg (by rintro (hc | hc);exact hf2 hc;rw [HPQ.out.1] at hc;exact hf1 hc)]
     have HSS:Hid (∀(wx:World) (A':AD),Lies B wx (L.set i (.ref p A')++[Item.block b0 (.cells #[.int .i64 sn,.int .i64 ss,.int .i64 sf] 105 (0,0))])→(wx.cell? ⟨l,0,none⟩=some (.pointer (some ⟨p,0,none⟩))∧wx.cell? ⟨b0,0,none⟩=some (.int .i64 sn)∧wx.cell? ⟨b0,1,none⟩=some (.int .i64 ss))∧wx.cell? ⟨l,1,none⟩=some (.string g.name)∧l<wx.heap.size∧b0<wx.heap.size):=fun wx A' hl=>by
      obtain ⟨v8,r8,hat8,_⟩:=hl.rlogAt (get_tl (by rw [List.getElem?_set_ne HIJ.out];exact HJ.out))
      obtain ⟨⟨a0,a1,a2⟩,_⟩:=hl.get3 (q:=(L.set i (.ref p A')).length) get_t0;exact ⟨⟨hat8.c0,a0,a1⟩,hat8.c1,lt_of_some hat8.cells,lt_of_some (hl.atBlock (q:=(L.set i (.ref p A')).length) get_t0)⟩
     obtain ⟨FK,hFB⟩:∃FK,(fileB g.name sn).data.toList=FK:=⟨_,rfl⟩
     have HFK:Hid (fileL g.name.data.toList sn=FK):=by show _=_;rw [←hFB];rfl
     have hfz:=fileB_size (b:=g.name) HG.out.name hsn0 (by omega)
     have HFZ:Hid ((fileB g.name sn).size≤maxLen):=by show _≤_;unfold maxLen;omega
     have HLC2:Hid (Lies B wc (L.set i (.ref p A)++[Item.block b0 (.cells #[.int .i64 sn,.int .i64 ss,.int .i64 sf] 105 (0,0))])):=by
      show Lies _ _ _
      rw [hset_keep HI.out];exact HLC.out
     have HIR:Hid (∀(A':AD) (Z:List Item),(L.set i (.ref p A')++Z)[i]?=some (.ref p A')):=fun A' Z=>get_tl (List.getElem?_set_self (List.getElem?_eq_some_iff.1 HI.out).1)
     clear hat7 hfz HLC;obtain ⟨V0,hV0⟩:∃x,wc.drew=x:=⟨_,rfl⟩
     have hv0:=HLC2.out.same (w':=wc.drew) (Nat.le_refl _) (fun _ _ _=>rfl)
     rw [hV0] at hv0
     have hvb0:Below B w V0:=by rw [←hV0];exact HBC.out.drew
     obtain ⟨hS0,hS1,hS2,hS3⟩:=HSS.out V0 A hv0
     have HFILE:=hide (rfile_any (B:=B) l sn g.name V0 hS1 hS2 HG.out.name hsn0 (by omega) (he.below hvb0) hv0.base)
     have HV0:=hide hV0;have HL0:=hide hv0;have HVB:=hide hvb0;have HS0:=hide hS0;have HS2:=hide hS2;have HS3:=hide hS3;clear hV0 hv0 hvb0 hS0 hS1 hS2 hS3;go_wp2;refine wp_region_noPanic ?_
     refine wp_region_held_drew (S:=fun wx=>wx.cell? ⟨l,0,none⟩=some (.pointer (some ⟨p,0,none⟩))∧wx.cell? ⟨b0,0,none⟩=some (.int .i64 sn)∧wx.cell? ⟨b0,1,none⟩=some (.int .i64 ss)) (by kernel_rfl) (by rw [HV0.out];exact HS0.out) (fun hHeld=>?_)
     rw [HV0.out] at hHeld ⊢;refine tK 0 (some 79) (.pointer (some ⟨l,0,none⟩)) rfl hHeld ?_;simp only [Act.put,pA,pB,pC];refine tK 1 (some 80) (.pointer (some ⟨l,0,none⟩)) rfl hHeld ?_;simp only [Act.put,pA,pB,pC];refine tK 2 (some 81) (.pointer (some ⟨l,0,none⟩)) rfl hHeld ?_;simp only [Act.put,pA,pB,pC]
     refine tH 3 (some 82) (.pointer (some ⟨p,0,none⟩)) rfl (fun w hw=>by obtain ⟨hw1,hw2,hw3⟩:=hw;first | rfl | (go_simp;done) | (go_simp;rfl)) hHeld ?_
     simp only [Act.put,pA,pB,pC];refine tK 4 (some 83) (.pointer (some ⟨l,0,none⟩)) rfl hHeld ?_;simp only [Act.put,pA,pB,pC];refine tK 5 (some 84) (.pointer (some ⟨b0,0,none⟩)) rfl hHeld ?_;simp only [Act.put,pA,pB,pC]
     refine tH 6 (some 85) (.int .i64 sn) rfl (fun w hw=>by obtain ⟨hw1,hw2,hw3⟩:=hw;first | rfl | (go_simp;done) | (go_simp;rfl)) hHeld ?_
     simp only [Act.put,pA,pB,pC];refine tK 8 (some 87) (.pointer (some ⟨b0,1,none⟩)) rfl hHeld ?_;simp only [Act.put,pA,pB,pC]
     refine tH 9 (some 88) (.int .i64 ss) rfl (fun w hw=>by obtain ⟨hw1,hw2,hw3⟩:=hw;first | rfl | (go_simp;done) | (go_simp;rfl)) hHeld ?_
     simp only [Act.put,pA,pB,pC];refine tK 10 (some 89) (.string X) rfl hHeld ?_;simp only [Act.put,pA,pB,pC]
     refine rdH 7 rfl (fun K hK=>?_)
     go_simp
     refine (HFILE.out).mono ?_;rintro e W2 ⟨rfl,hb2⟩
     try go_wp2_with fail
     refine hK.out _ _ (⟨(World.cell?_of_block (hb2.block l HS2.out)).trans HS0.out.1,(World.cell?_of_block (hb2.block b0 HS3.out)).trans HS0.out.2.1,(World.cell?_of_block (hb2.block b0 HS3.out)).trans HS0.out.2.2⟩) (fun hH=>?_)
     clear hK K hHeld;have hHeld:=hH;clear hH;have hl2:=HL0.out.below hb2;have HBC:=hide (HVB.out.trans (hb2.mono HL0.out.base))
     have HCALL:=hide (r_write hl2 (HIR.out A _) HOK.out (fileB g.name sn) HFZ.out ss (by omega) X (by have:=HXZ.out;omega))
     clear hl2 hb2
     refine rdH 11 rfl (fun K hK=>?_)
     go_simp
     refine (HCALL.out).mono ?_;rintro e Wd ⟨rfl,hld,hbd⟩
     try go_wp2_with fail
     refine hK.out _ _ ((HSS.out Wd _ (by rw [set_tl (by rw [List.length_set];exact (List.getElem?_eq_some_iff.1 HI.out).1),List.set_set] at hld;exact hld)).1) (fun hH=>?_)
     clear hK K hHeld;have hHeld:=hH;clear hH;refine tK 12 (some 9) (.int .i64 (A.write (fileB g.name sn).data.toList ss X.data.toList).1) rfl hHeld ?_;simp only [Act.put,pA,pB,pC]
     refine ⟨by kernel_rfl,?_⟩
     refine NoPanic.normal ?_
     rw [set_tl (by rw [List.length_set];exact (List.getElem?_eq_some_iff.1 HI.out).1),List.set_set] at hld
     have hbdd:=HBC.out.trans hbd;rw [hFB] at hld ⊢;obtain ⟨E1,A1,hE1⟩:∃e a,A.write FK ss X.data.toList=(e,a):=⟨_,_,rfl⟩;rw [hE1] at hld ⊢;clear HBC HCALL HFILE HV0 HL0 HVB HS0 HS2 HS3 hbd hHeld;have HLD1:=hide hld;have HBD1:=hide hbdd;have HE1:=hide hE1
     have HOK1:Hid (A1.Ok):=by have:=ok_write (d:=FK) (t:=X.data.toList) (a:=ss) HOK.out;rw [hE1] at this;exact this
     clear hld hbdd hE1 HLC2
     by_cases hz1:E1=0
     ·subst hz1
      obtain ⟨V0,hV0⟩:∃x,Wd.drew=x:=⟨_,rfl⟩
      have hv0:=HLD1.out.same (w':=Wd.drew) (Nat.le_refl _) (fun _ _ _=>rfl)
      rw [hV0] at hv0
      have hvb0:Below B w V0:=by rw [←hV0];exact HBD1.out.drew
      obtain ⟨hS0,hS1,hS2,hS3⟩:=HSS.out V0 A1 hv0
      have HFILE:=hide (rfile_any (B:=B) l sn g.name V0 hS1 hS2 HG.out.name hsn0 (by omega) (he.below hvb0) hv0.base)
      have HV0:=hide hV0;have HL0:=hide hv0;have HVB:=hide hvb0;have HS0:=hide hS0;have HS2:=hide hS2;have HS3:=hide hS3;clear hV0 hv0 hvb0 hS0 hS1 hS2 hS3;go_wp2;refine wp_region_noPanic ?_
      refine wp_region_held_drew (S:=fun wx=>wx.cell? ⟨l,0,none⟩=some (.pointer (some ⟨p,0,none⟩))∧wx.cell? ⟨b0,0,none⟩=some (.int .i64 sn)∧wx.cell? ⟨b0,1,none⟩=some (.int .i64 ss)) (by kernel_rfl) (by rw [HV0.out];exact HS0.out) (fun hHeld=>?_)
      rw [HV0.out] at hHeld ⊢;refine tK 0 (some 99) (.pointer (some ⟨l,0,none⟩)) rfl hHeld ?_;simp only [Act.put,pA,pB,pC];refine tK 1 (some 100) (.pointer (some ⟨l,0,none⟩)) rfl hHeld ?_;simp only [Act.put,pA,pB,pC];refine tK 2 (some 101) (.pointer (some ⟨l,0,none⟩)) rfl hHeld ?_;simp only [Act.put,pA,pB,pC]
      refine tH 3 (some 102) (.pointer (some ⟨p,0,none⟩)) rfl (fun w hw=>by obtain ⟨hw1,hw2,hw3⟩:=hw;first | rfl | (go_simp;done) | (go_simp;rfl)) hHeld ?_
      simp only [Act.put,pA,pB,pC];refine tK 4 (some 103) (.pointer (some ⟨l,0,none⟩)) rfl hHeld ?_;simp only [Act.put,pA,pB,pC];refine tK 5 (some 104) (.pointer (some ⟨b0,0,none⟩)) rfl hHeld ?_;simp only [Act.put,pA,pB,pC]
      refine tH 6 (some 105) (.int .i64 sn) rfl (fun w hw=>by obtain ⟨hw1,hw2,hw3⟩:=hw;first | rfl | (go_simp;done) | (go_simp;rfl)) hHeld ?_
      simp only [Act.put,pA,pB,pC]
      refine rdH 7 rfl (fun K hK=>?_)
      go_simp
      refine (HFILE.out).mono ?_;rintro e W2 ⟨rfl,hb2⟩
      try go_wp2_with fail
      refine hK.out _ _ (⟨(World.cell?_of_block (hb2.block l HS2.out)).trans HS0.out.1,(World.cell?_of_block (hb2.block b0 HS3.out)).trans HS0.out.2.1,(World.cell?_of_block (hb2.block b0 HS3.out)).trans HS0.out.2.2⟩) (fun hH=>?_)
      clear hK K hHeld;have hHeld:=hH;clear hH;have hl2:=HL0.out.below hb2;have HBC:=hide (HVB.out.trans (hb2.mono HL0.out.base));have HCALL:=hide (r_sync hl2 (HIR.out A1 _) HOK1.out (fileB g.name sn));clear hl2 hb2
      refine rdH 8 rfl (fun K hK=>?_)
      go_simp
      refine (HCALL.out).mono ?_;rintro e W2d ⟨rfl,hld,hbd⟩
      try go_wp2_with fail
      refine hK.out _ _ ((HSS.out W2d _ (by rw [set_tl (by rw [List.length_set];exact (List.getElem?_eq_some_iff.1 HI.out).1),List.set_set] at hld;exact hld)).1) (fun hH=>?_)
      clear hK K hHeld;have hHeld:=hH;clear hH;refine tK 9 (some 9) (.int .i64 (A1.sync (fileB g.name sn).data.toList).1) rfl hHeld ?_;simp only [Act.put,pA,pB,pC]
      refine ⟨by kernel_rfl,?_⟩
      refine NoPanic.normal ?_
      rw [set_tl (by rw [List.length_set];exact (List.getElem?_eq_some_iff.1 HI.out).1),List.set_set] at hld
      have hbdd:=HBC.out.trans hbd;rw [hFB] at hld ⊢;obtain ⟨E2,A2,hE2⟩:∃e a,A1.sync FK=(e,a):=⟨_,_,rfl⟩;rw [hE2] at hld ⊢;clear HBC HCALL HFILE HV0 HL0 HVB HS0 HS2 HS3 hbd hHeld;have HLD2:=hide hld;have HBD2:=hide hbdd;have HE2:=hide hE2
      have HOK2:Hid (A2.Ok):=by have:=ok_sync (d:=FK) HOK1.out;rw [hE2] at this;exact this
      clear hld hbdd hE2 HLD1 HBD1
      by_cases hz2:E2=0
      ·subst hz2
       have hxz:=HXZ.out;obtain ⟨sz,hsz⟩:∃x:Int,ss+(X.size:Int)=x:=⟨_,rfl⟩;obtain ⟨nn,hnn⟩:∃x:Int,g.next+1=x:=⟨_,rfl⟩
       have HRR:Hid (R=(0,A2,{ g with dead:=g.dead,next:=nn,segs:=keepA g ⟨sn,sz,nn⟩ false })):=by
        show _=_
        have hdl:=dlay_ok (dead:=false) (fresh:=PS.2) (s:=PS.1) (by rw [HPQ.out.1];exact HFK.out) HPQ.out.2.1 HE1.out HE2.out
        rw [HR3.out]
        try simp only
        rw [hdl]
        try simp only
        rw [if_neg (by simp),HPQ.out.1,HPQ.out.2.1,HPQ.out.2.2.1,hsz,hnn,HD.out]
       have hjI:∀Z:List Item,(L.set i (.ref p A2)++Z)[j]?=some (.rlog l p g):=fun Z=>get_tl (by rw [List.getElem?_set_ne HIJ.out];exact HJ.out)
       have hjl:j<(L.set i (.ref p A2)).length:=by rw [List.length_set];exact (List.getElem?_eq_some_iff.1 HJ.out).1
       obtain ⟨v9,r9,hat9,_⟩:=HLD2.out.rlogAt (hjI _);have x4:=hat9.c4;have x4f:=hat9.fz 4
       obtain ⟨hl3,hb3⟩:=HLD2.out.setRLog (i:=j) (g:=g) (hjI _) 4 (.int .i64 (g.next+1)) (g':={ g with next:=g.next+1 }) (fun v=>rfl) rfl
       rw [set_tl hjl] at hl3;obtain ⟨W7,hW7⟩:∃x,W2d.setCell ⟨l,4,none⟩ (.int .i64 (g.next+1))=x:=⟨_,rfl⟩;rw [hW7] at hl3 hb3
       obtain ⟨M7,hM7⟩:∃x:List Item,((L.set i (.ref p A2)).set j (.rlog l p { g with next:=g.next+1 }))=x:=⟨_,rfl⟩
       have hM7j:M7[j]?=some (.rlog l p { g with next:=g.next+1 }):=by rw [←hM7];exact List.getElem?_set_self hjl
       rw [hM7] at hl3;obtain ⟨⟨z0',z1',z2'⟩,zf'⟩:=hl3.get3 (q:=M7.length) get_t0;have zf1:=zf' 1;obtain ⟨hl4,hb4⟩:=hl3.setAt (q:=M7.length) get_t0 1 (.int .i64 sz);rw [set_t0] at hl4;obtain ⟨W8,hW8⟩:∃x,W7.setCell ⟨b0,1,none⟩ (.int .i64 sz)=x:=⟨_,rfl⟩;rw [hW8] at hl4 hb4;obtain ⟨v10,r10,hat10,_⟩:=hl4.rlogAt (get_tl hM7j);have y4':=hat10.c4;have hl4':Lies B W8 (M7++[Item.block b0 (.cells #[.int .i64 sn,.int .i64 sz,.int .i64 sf] 105 (0,0))]):=hl4;obtain ⟨⟨a0,a1,a2⟩,af⟩:=hl4'.get3 (q:=M7.length) get_t0;have af2:=af 2;obtain ⟨hl5,hb5⟩:=hl4'.setAt (q:=M7.length) get_t0 2 (.int .i64 nn);rw [set_t0] at hl5;obtain ⟨W9,hW9⟩:∃x,W8.setCell ⟨b0,2,none⟩ (.int .i64 nn)=x:=⟨_,rfl⟩;rw [hW9] at hl5 hb5;have hl5':Lies B W9 (M7++[Item.block b0 (.cells #[.int .i64 sn,.int .i64 sz,.int .i64 nn] 105 (0,0))]):=hl5;have HW7:=hide hW7;have HW8:=hide hW8;have HW9:=hide hW9;have hbb:=((HBD2.out.trans hb3).trans hb4).trans hb5;obtain ⟨V0,hV0⟩:∃x,W9.drew=x:=⟨_,rfl⟩
       have hv0:=hl5'.same (w':=W9.drew) (Nat.le_refl _) (fun _ _ _=>rfl)
       rw [hV0] at hv0
       have hvb0:Below B w V0:=by rw [←hV0];exact hbb.drew
       have hX0:(M7++[Item.block b0 (.cells #[.int .i64 sn,.int .i64 sz,.int .i64 nn] 105 (0,0))])[M7.length]?=some (Item.block b0 (.cells #[.int .i64 sn,.int .i64 sz,.int .i64 nn] 105 (0,0))):=get_t0;obtain ⟨⟨b0a,b1a,b2a⟩,_⟩:=hv0.get3 hX0;have HV0:=hide hV0;have HB0:Hid (b0<V0.heap.size):=lt_of_some (hv0.atBlock hX0)
       have HM7:Hid (∀g':AL,M7.set j (.rlog l p g')=(L.set i (.ref p A2)).set j (.rlog l p g')):=fun g'=>by rw [←hM7,List.set_set]
       have HNN:=hide hnn;have HSZ:=hide hsz;clear hV0 hl3 hl4 hl4' hl5 hl5' hbb hb3 hb4 hb5 hat9 hat10 zf' af hM7 z0' z2' a0 a1 hW7 hW8 hW9;obtain ⟨v5,hp⟩:=hv0.rpin (get_tl hM7j)
       have hjM:j<(M7++[Item.block b0 (.cells #[.int .i64 sn,.int .i64 sz,.int .i64 nn] 105 (0,0))]).length:=by rw [List.length_append];have:=(List.getElem?_eq_some_iff.1 hM7j).1;omega
       obtain ⟨r5,hat5,_⟩:=hp.rlogv (List.getElem?_set_self hjM);obtain ⟨ad,cap,b,off,hv,had⟩:=rform_of hat5;subst hv;have hn0:0<g.segs.length:=HNE.out;obtain rfl:=had hn0
       obtain ⟨m,hm⟩:∃m,g.segs.length=m+1:=⟨g.segs.length - 1,by omega⟩
       have hml:m+1≤10000000:=by rw [←hm];exact HG.out.len
       obtain ⟨sl,hsl⟩:∃sl,g.segs[m]?=some sl:=⟨_,List.getElem?_eq_getElem (by omega)⟩
       obtain ⟨hbl,_,⟨d0,d1,d2⟩,df⟩:=rseg3 hat5 m hsl;have df0:=df (off+m * 3);have df1:=df (off+m * 3+1);have df2:=df (off+m * 3+2);have c3:=hat5.c3;obtain ⟨V1,hV1⟩:∃x,((V0.setCell ⟨b,off+m * 3,none⟩ (.int .i64 sn)).setCell ⟨b,off+m * 3+1,none⟩ (.int .i64 sz)).setCell ⟨b,off+m * 3+2,none⟩ (.int .i64 nn)=x:=⟨_,rfl⟩
       obtain ⟨hl2,hb2⟩:=hp.rsetSeg3 (List.getElem?_set_self hjM) m (by show m<g.segs.length;omega) ⟨sn,sz,nn⟩ hV1
       rw [List.set_set] at hl2;have hl3:=hl2.runpin (List.getElem?_set_self hjM);rw [List.set_set,set_tl (List.getElem?_eq_some_iff.1 hM7j).1,HM7.out] at hl3
       have HL3:Hid (Lies B V1 ((L.set i (.ref p R.2.1)).set j (.rlog l p R.2.2))):=by
        show Lies _ _ _
        rw [HRR.out]
        have e:keepA g ⟨sn,sz,nn⟩ false=g.segs.set m ⟨sn,sz,nn⟩:=by unfold keepA;rw [hm,Nat.add_sub_cancel];rfl
        rw [e,←HNN.out];rw [←HNN.out] at hl3;exact hl3.drop
       have HB3:=hide (hvb0.trans hb2)
       have hxs:=hl2.get3 (q:=M7.length) (by rw [List.getElem?_set_ne (by have:=(List.getElem?_eq_some_iff.1 hM7j).1;omega)];exact hX0)
       obtain ⟨⟨xx0,xx1,xx2⟩,_⟩:=hxs;obtain ⟨r6,hat6,_⟩:=hl2.rlogv (List.getElem?_set_self hjM);have x3:=hat6.c3;simp only at c3 x3;rw [hm] at c3 x3
       have q3:((m+1:Nat):Int) - 1=(m:Int):=by omega
       have q2:IntKind.i64.wrap (m:Int)=(m:Int):=by rw [IntKind.wrap_i64];omega
       have HV1:=hide hV1
       have hnnB:-9223372036854775807≤nn∧nn≤1152921504606846976:=by have:=HNN.out;omega
       clear hv0 hvb0 hat5 hat6 hl2 hl3 hb2 hp df had hm hn0 hsl hV1 hX0 hjI hM7j hjM;have hsz':=HSZ.out;have hnn':=HNN.out;have hW7:=HW7.out;have hW8:=HW8.out;have hW9:=HW9.out;rw [hnn'] at hW7 y4'
       go_upto_region 33 with fail
       clear hW7 hW8 hW9 hsz' hnn' x4 x4f zf1 y4' af2 z1';refine wp_region_noPanic ?_
       refine wp_region_held_drew (S:=fun wx=>wx.cell? ⟨l,3,none⟩=some (.slice (some ⟨b,off,none⟩) (m+1) cap)∧wx.cell? ⟨b0,0,none⟩=some (.int .i64 sn)∧wx.cell? ⟨b0,1,none⟩=some (.int .i64 sz)∧wx.cell? ⟨b0,2,none⟩=some (.int .i64 nn)) (by kernel_rfl) (by rw [HV0.out];exact ⟨c3,b0a,b1a,b2a⟩) (fun hHeld=>?_)
       rw [HV0.out] at hHeld ⊢;refine tK 0 (some 171) (.pointer (some ⟨l,0,none⟩)) rfl hHeld ?_;simp only [Act.put,pA,pB,pC];refine tK 1 (some 172) (.pointer (some ⟨l,0,none⟩)) rfl hHeld ?_;simp only [Act.put,pA,pB,pC];refine tK 2 (some 173) (.pointer (some ⟨l,3,none⟩)) rfl hHeld ?_;simp only [Act.put,pA,pB,pC]
       refine tH 3 (some 174) (.slice (some ⟨b,off,none⟩) (m+1) cap) rfl (fun w hw=>by obtain ⟨hw1,hw2,hw3,hw4⟩:=hw;first | rfl | (go_simp;done) | (go_simp;rfl)) hHeld ?_
       simp only [Act.put,pA,pB,pC];refine tK 4 (some 175) (.pointer (some ⟨l,0,none⟩)) rfl hHeld ?_;simp only [Act.put,pA,pB,pC];refine tK 5 (some 176) (.pointer (some ⟨l,0,none⟩)) rfl hHeld ?_;simp only [Act.put,pA,pB,pC];refine tK 6 (some 177) (.pointer (some ⟨l,3,none⟩)) rfl hHeld ?_;simp only [Act.put,pA,pB,pC]
       refine tH 7 (some 178) (.slice (some ⟨b,off,none⟩) (m+1) cap) rfl (fun w hw=>by obtain ⟨hw1,hw2,hw3,hw4⟩:=hw;first | rfl | (go_simp;done) | (go_simp;rfl)) hHeld ?_
       simp only [Act.put,pA,pB,pC];refine tK 8 (some 179) (.int .i64 ((m+1:Nat):Int)) rfl hHeld ?_;simp only [Act.put,pA,pB,pC]
       refine tH 9 (some 180) (.int .i64 (m:Int)) rfl (fun w hw=>by first | rfl | (go_simp;done) | (go_simp;rfl) | (go_simp;exact q2)) hHeld ?_
       simp only [Act.put,pA,pB,pC]
       refine tH 10 (some 181) (.agg #[.int .i64 sn,.int .i64 sz,.int .i64 nn]) rfl (fun w hw=>by obtain ⟨hw1,hw2,hw3,hw4⟩:=hw;first | rfl | (go_simp;done) | (go_simp;rfl)) hHeld ?_
       simp only [Act.put,pA,pB,pC]
       refine tH 11 (some 182) (.pointer (some ⟨b,off+m * 3,none⟩)) rfl (fun w hw=>by first | rfl | (go_simp;done) | (go_simp;rfl) | (go_simp;intro hbad;exfalso;omega)) hHeld ?_
       simp only [Act.put,pA,pB,pC]
       refine rdH 12 rfl (fun K hK=>?_)
       go_simp
       try rw [HV1.out]
       refine hK.out _ _ ⟨x3,xx0,xx1,xx2⟩ (fun hH=>?_)
       clear hK K hHeld;have hHeld:=hH;clear hH
       refine ⟨by kernel_rfl,?_⟩
       refine NoPanic.normal ?_
       have hR1:R.1=0:=by rw [HRR.out]
       have HR1:=hide hR1;clear hR1;go_wp2;go_ret
       exact ⟨by rw [HR1.out];rfl,HL3.out,HB3.out⟩
      ·have q9:(E2 != 0)=true:=by simpa using hz2
       obtain ⟨V0,hV0⟩:∃x,W2d.drew=x:=⟨_,rfl⟩
       have hv0:=HLD2.out.same (w':=W2d.drew) (Nat.le_refl _) (fun _ _ _=>rfl)
       rw [hV0] at hv0
       have hvb0:Below B w V0:=by rw [←hV0];exact HBD2.out.drew
       obtain ⟨hS0,hS1,hS2,hS3⟩:=HSS.out V0 A2 hv0
       have HFILE:=hide (rfile_any (B:=B) l sn g.name V0 hS1 hS2 HG.out.name hsn0 (by omega) (he.below hvb0) hv0.base)
       have HV0:=hide hV0;have HL0:=hide hv0;have HVB:=hide hvb0;have HS0:=hide hS0;have HS2:=hide hS2;have HS3:=hide hS3;clear hV0 hv0 hvb0 hS0 hS1 hS2 hS3;go_wp2;refine wp_region_noPanic ?_
       refine wp_region_held_drew (S:=fun wx=>wx.cell? ⟨l,0,none⟩=some (.pointer (some ⟨p,0,none⟩))∧wx.cell? ⟨b0,0,none⟩=some (.int .i64 sn)∧wx.cell? ⟨b0,1,none⟩=some (.int .i64 ss)) (by kernel_rfl) (by rw [HV0.out];exact HS0.out) (fun hHeld=>?_)
       rw [HV0.out] at hHeld ⊢;refine tK 0 (some 120) (.pointer (some ⟨l,0,none⟩)) rfl hHeld ?_;simp only [Act.put,pA,pB,pC];refine tK 1 (some 121) (.pointer (some ⟨l,0,none⟩)) rfl hHeld ?_;simp only [Act.put,pA,pB,pC];refine tK 2 (some 122) (.pointer (some ⟨l,0,none⟩)) rfl hHeld ?_;simp only [Act.put,pA,pB,pC]
       refine tH 3 (some 123) (.pointer (some ⟨p,0,none⟩)) rfl (fun w hw=>by obtain ⟨hw1,hw2,hw3⟩:=hw;first | rfl | (go_simp;done) | (go_simp;rfl)) hHeld ?_
       simp only [Act.put,pA,pB,pC];refine tK 4 (some 124) (.pointer (some ⟨l,0,none⟩)) rfl hHeld ?_;simp only [Act.put,pA,pB,pC];refine tK 5 (some 125) (.pointer (some ⟨b0,0,none⟩)) rfl hHeld ?_;simp only [Act.put,pA,pB,pC]
       refine tH 6 (some 126) (.int .i64 sn) rfl (fun w hw=>by obtain ⟨hw1,hw2,hw3⟩:=hw;first | rfl | (go_simp;done) | (go_simp;rfl)) hHeld ?_
       simp only [Act.put,pA,pB,pC];refine tK 8 (some 128) (.pointer (some ⟨b0,1,none⟩)) rfl hHeld ?_;simp only [Act.put,pA,pB,pC]
       refine tH 9 (some 129) (.int .i64 ss) rfl (fun w hw=>by obtain ⟨hw1,hw2,hw3⟩:=hw;first | rfl | (go_simp;done) | (go_simp;rfl)) hHeld ?_
       simp only [Act.put,pA,pB,pC]
       refine rdH 7 rfl (fun K hK=>?_)
       go_simp
       refine (HFILE.out).mono ?_;rintro e W2 ⟨rfl,hb2⟩
       try go_wp2_with fail
       refine hK.out _ _ (⟨(World.cell?_of_block (hb2.block l HS2.out)).trans HS0.out.1,(World.cell?_of_block (hb2.block b0 HS3.out)).trans HS0.out.2.1,(World.cell?_of_block (hb2.block b0 HS3.out)).trans HS0.out.2.2⟩) (fun hH=>?_)
       clear hK K hHeld;have hHeld:=hH;clear hH;have hl2:=HL0.out.below hb2;have HBC:=hide (HVB.out.trans (hb2.mono HL0.out.base));have HCALL:=hide (r_trunc hl2 (HIR.out A2 _) HOK2.out (fileB g.name sn) ss);clear hl2 hb2
       refine rdH 10 rfl (fun K hK=>?_)
       go_simp
       refine (HCALL.out).mono ?_;rintro e W3d ⟨rfl,hld,hbd⟩
       try go_wp2_with fail
       refine hK.out _ _ ((HSS.out W3d _ (by rw [set_tl (by rw [List.length_set];exact (List.getElem?_eq_some_iff.1 HI.out).1),List.set_set] at hld;exact hld)).1) (fun hH=>?_)
       clear hK K hHeld;have hHeld:=hH;clear hH;refine tK 11 (some 10) (.int .i64 (A2.trunc (fileB g.name sn).data.toList ss).1) rfl hHeld ?_;simp only [Act.put,pA,pB,pC]
       refine ⟨by kernel_rfl,?_⟩
       refine NoPanic.normal ?_
       rw [set_tl (by rw [List.length_set];exact (List.getElem?_eq_some_iff.1 HI.out).1),List.set_set] at hld
       have hbdd:=HBC.out.trans hbd;rw [hFB] at hld ⊢;obtain ⟨U,A3,hU⟩:∃e a,A2.trunc FK ss=(e,a):=⟨_,_,rfl⟩;rw [hU] at hld ⊢;clear HBC HCALL HFILE HV0 HL0 HVB HS0 HS2 HS3 hbd hHeld
       obtain ⟨DB,hDB⟩:∃x:Bool,(E2 == 9 || U != 0)=x:=⟨_,rfl⟩
       have HRR:Hid (R=(E2,A3,{ g with dead:=DB })):=by
        show _=_
        have huu:(if PS.2=true then A2.remove FK else A2.trunc FK ss)=(U,A3):=by rw [HPQ.out.2.2.1];rw [if_neg (by decide)];exact hU
        have hdl:=dlay_back (dead:=false) (fresh:=PS.2) (s:=PS.1) (by rw [HPQ.out.1];exact HFK.out) HPQ.out.2.1 HE1.out HE2.out hz2 huu
        rw [hDB] at hdl;rw [HR3.out]
        try simp only
        rw [hdl]
        try simp only
        rw [if_pos hz2]
       obtain ⟨v9,r9,hat9,_⟩:=hld.rlogAt (get_tl (by rw [List.getElem?_set_ne HIJ.out];exact HJ.out))
       have x5:=hat9.c5;have x5f:=hat9.fz 5
       obtain ⟨hl9,hb9⟩:=hld.setRLog (i:=j) (g:=g) (get_tl (by rw [List.getElem?_set_ne HIJ.out];exact HJ.out)) 5 (.bool DB) (g':={ g with dead:=DB }) (fun v=>rfl) rfl
       rw [set_tl (by rw [List.length_set];exact (List.getElem?_eq_some_iff.1 HJ.out).1)] at hl9
       have HL9:=hide hl9.drop;have HB9:=hide (hbdd.trans hb9);clear hld hbdd hat9 hl9 hb9 hU
       by_cases h9:E2=9
       ·have k9:(E2 == 9)=true:=by simpa using h9
        have hDT:DB=true:=by rw [←hDB,k9];rfl
        subst hDT;clear hDB h9;go_wp2;go_ret;rw [HRR.out];exact ⟨rfl,HL9.out,HB9.out⟩
       ·have k9:(E2 == 9)=false:=by simpa using h9
        have hDT:(U != 0)=DB:=by rw [←hDB,k9];rfl
        clear hDB h9;go_wp2;go_ret;rw [HRR.out];exact ⟨rfl,HL9.out,HB9.out⟩
     ·have q9:(E1 != 0)=true:=by simpa using hz1
      obtain ⟨DB,hDB⟩:∃x:Bool,(E1 == 9)=x:=⟨_,rfl⟩
      have HRR:Hid (R=(E1,A1,{ g with dead:=DB })):=by
       show _=_
       have hdl:=dlay_bad (dead:=false) (fresh:=PS.2) (s:=PS.1) (by rw [HPQ.out.1];exact HFK.out) HPQ.out.2.1 HE1.out hz1
       rw [hDB] at hdl;rw [HR3.out]
       try simp only
       rw [hdl]
       try simp only
       rw [if_pos hz1]
      obtain ⟨v9,r9,hat9,_⟩:=HLD1.out.rlogAt (get_tl (by rw [List.getElem?_set_ne HIJ.out];exact HJ.out))
      have x5:=hat9.c5;have x5f:=hat9.fz 5
      obtain ⟨hl9,hb9⟩:=HLD1.out.setRLog (i:=j) (g:=g) (get_tl (by rw [List.getElem?_set_ne HIJ.out];exact HJ.out)) 5 (.bool DB) (g':={ g with dead:=DB }) (fun v=>rfl) rfl
      rw [set_tl (by rw [List.length_set];exact (List.getElem?_eq_some_iff.1 HJ.out).1)] at hl9
      have HL9:=hide hl9.drop;have HB9:=hide (HBD1.out.trans hb9);clear hat9 hl9 hb9;go_wp2;go_ret;rw [HRR.out];exact ⟨rfl,HL9.out,HB9.out⟩
    case' true=>
     have hyes:0<sl.size∧g.room<sl.size+X.size:=by
      have:=HFB.out
      rw [Bool.and_eq_true] at this;exact ⟨of_decide_eq_true this.1,of_decide_eq_true this.2⟩
     have hPS2:PS=(⟨sl.num+1,0,0⟩,true):=by rw [HPE.out,if_pos hyes]
     have hsb2:=HSB.out.2;have hnum0:=hsb2.1;have hnum1:=hsb2.2;obtain ⟨⟨e0,e1,e2⟩,ef⟩:=HLX.out.get3 (q:=L.length) get_t0;have ef0:=ef 0;have ef1:=ef 1;have ef2:=ef 2;obtain ⟨V3,hV3⟩:∃x,((wc.setCell ⟨b0,0,none⟩ (.int .i64 (sl.num+1))).setCell ⟨b0,1,none⟩ (.int .i64 0)).setCell ⟨b0,2,none⟩ (.int .i64 0)=x:=⟨_,rfl⟩;obtain ⟨hl3,hb3⟩:=HLX.out.set3 (q:=L.length) get_t0 _ _ _ hV3;rw [set_t0] at hl3;have HL3x:=hide hl3;have HB3x:=hide (HBX.out.trans hb3);clear hl3 hb3 ef hsb2 hyes HLX HBX
     go_upto_region 14 with fail
     clear e0 e1 e2 ef0 ef1 ef2 hV3;obtain ⟨sn,hsn⟩:∃x,sl.num+1=x:=⟨_,rfl⟩;obtain ⟨ss,hss⟩:∃x:Int,0=x:=⟨_,rfl⟩;obtain ⟨sf,hsf⟩:∃x:Int,0=x:=⟨_,rfl⟩
     have HPQ:Hid (PS.1.num=sn∧PS.1.size=ss∧PS.2=true∧0≤sn∧0≤ss∧ss≤1048576):=by
      show _∧_
      rw [hPS2]
      exact ⟨hsn,hss,rfl,by omega,by omega,by omega⟩
     have HLC:Hid (Lies B V3 (L++[Item.block b0 (.cells #[.int .i64 sn,.int .i64 ss,.int .i64 sf] 105 (0,0))])):=by
      show Lies _ _ _
      rw [←hsn,←hss,←hsf];exact HL3x.out
     have HBC:=HB3x;clear hsn hss hsf hPS2 HPE HSB HFB HL3x HB3x hnum0 hnum1;have hsn0:0≤sn:=HPQ.out.2.2.2.1;have hss0:0≤ss:=HPQ.out.2.2.2.2.1;have hss1:ss≤1048576:=HPQ.out.2.2.2.2.2
     by_cases hf1:9999999<sn
     ·have k1:decide ((9999999:Int)<sn)=true:=decide_eq_true hf1
      have HRR:Hid (R=(6,A,g)):=by show _=_;rw [HR.out,if_pos (.inr (by rw [HPQ.out.1];exact hf1))]
      obtain ⟨⟨z0,z1,z2⟩,_⟩:=HLC.out.get3 (q:=L.length) get_t0
      have HKR:Hid (Lies B V3 ((L.set i (.ref p A)).set j (.rlog l p g))):=by
       show Lies _ _ _
       rw [hset_keep HI.out,hset_keep HJ.out];exact HLC.out.drop
      clear HLC;go_wp2;go_ret;rw [HRR.out];exact ⟨rfl,HKR.out,HBC.out⟩
     have k1:decide ((9999999:Int)<sn)=false:=decide_eq_false hf1;obtain ⟨v7,r7,hat7,_⟩:=HLC.out.rlogAt (get_tl HJ.out);have y4c:=hat7.c4;obtain ⟨⟨z0,z1,z2⟩,_⟩:=HLC.out.get3 (q:=L.length) get_t0
     by_cases hf2:1152921504606846976≤g.next
     ·have k2:decide ((1152921504606846976:Int)≤g.next)=true:=decide_eq_true hf2
      have HRR:Hid (R=(6,A,g)):=by show _=_;rw [HR.out,if_pos (.inl hf2)]
      have HKR:Hid (Lies B V3 ((L.set i (.ref p A)).set j (.rlog l p g))):=by
       show Lies _ _ _
       rw [hset_keep HI.out,hset_keep HJ.out];exact HLC.out.drop
      clear HLC hat7;go_wp2;go_ret;rw [HRR.out];exact ⟨rfl,HKR.out,HBC.out⟩
     have k2:decide ((1152921504606846976:Int)≤g.next)=false:=decide_eq_false hf2
     have HR3:Hid (R=(let r:=dlayA A g.name.data.toList PS.1 PS.2 false X.data.toList;if r.1≠0 then (r.1,r.2.1,{ g with dead:=r.2.2 }) else (0,r.2.1,{ g with dead:=r.2.2,next:=g.next+1,segs:=keepA g ⟨PS.1.num,PS.1.size+X.size,g.next+1⟩ PS.2 }))):=by
      show _=_
      rw [HR.out,if_neg (by rintro (hc | hc);exact hf2 hc;rw [HPQ.out.1] at hc;exact hf1 hc)]
     have HSS:Hid (∀(wx:World) (A':AD),Lies B wx (L.set i (.ref p A')++[Item.block b0 (.cells #[.int .i64 sn,.int .i64 ss,.int .i64 sf] 105 (0,0))])→(wx.cell? ⟨l,0,none⟩=some (.pointer (some ⟨p,0,none⟩))∧wx.cell? ⟨b0,0,none⟩=some (.int .i64 sn)∧wx.cell? ⟨b0,1,none⟩=some (.int .i64 ss))∧wx.cell? ⟨l,1,none⟩=some (.string g.name)∧l<wx.heap.size∧b0<wx.heap.size):=fun wx A' hl=>by
      obtain ⟨v8,r8,hat8,_⟩:=hl.rlogAt (get_tl (by rw [List.getElem?_set_ne HIJ.out];exact HJ.out))
      obtain ⟨⟨a0,a1,a2⟩,_⟩:=hl.get3 (q:=(L.set i (.ref p A')).length) get_t0;exact ⟨⟨hat8.c0,a0,a1⟩,hat8.c1,lt_of_some hat8.cells,lt_of_some (hl.atBlock (q:=(L.set i (.ref p A')).length) get_t0)⟩
     obtain ⟨FK,hFB⟩:∃FK,(fileB g.name sn).data.toList=FK:=⟨_,rfl⟩
     have HFK:Hid (fileL g.name.data.toList sn=FK):=by show _=_;rw [←hFB];rfl
     have hfz:=fileB_size (b:=g.name) HG.out.name hsn0 (by omega)
     have HFZ:Hid ((fileB g.name sn).size≤maxLen):=by show _≤_;unfold maxLen;omega
     have HLC2:Hid (Lies B V3 (L.set i (.ref p A)++[Item.block b0 (.cells #[.int .i64 sn,.int .i64 ss,.int .i64 sf] 105 (0,0))])):=by
      show Lies _ _ _
      rw [hset_keep HI.out];exact HLC.out
     have HIR:Hid (∀(A':AD) (Z:List Item),(L.set i (.ref p A')++Z)[i]?=some (.ref p A')):=fun A' Z=>get_tl (List.getElem?_set_self (List.getElem?_eq_some_iff.1 HI.out).1)
     clear hat7 hfz HLC;obtain ⟨V0,hV0⟩:∃x,V3.drew=x:=⟨_,rfl⟩
     have hv0:=HLC2.out.same (w':=V3.drew) (Nat.le_refl _) (fun _ _ _=>rfl)
  all_goals
   rw [hV0] at hv0
   have hvb0:Below B w V0:=by rw [←hV0];exact HBC.out.drew
   obtain ⟨hS0,hS1,hS2,hS3⟩:=HSS.out V0 A hv0
   have HFILE:=hide (rfile_any (B:=B) l sn g.name V0 hS1 hS2 HG.out.name hsn0 (by omega) (he.below hvb0) hv0.base)
   have HV0:=hide hV0;have HL0:=hide hv0;have HVB:=hide hvb0;have HS0:=hide hS0;have HS2:=hide hS2;have HS3:=hide hS3;clear hV0 hv0 hvb0 hS0 hS1 hS2 hS3;go_wp2;refine wp_region_noPanic ?_
   refine wp_region_held_drew (S:=fun wx=>wx.cell? ⟨l,0,none⟩=some (.pointer (some ⟨p,0,none⟩))∧wx.cell? ⟨b0,0,none⟩=some (.int .i64 sn)∧wx.cell? ⟨b0,1,none⟩=some (.int .i64 ss)) (by kernel_rfl) (by rw [HV0.out];exact HS0.out) (fun hHeld=>?_)
   rw [HV0.out] at hHeld ⊢;refine tK 0 (some 79) (.pointer (some ⟨l,0,none⟩)) rfl hHeld ?_;simp only [Act.put,pA,pB,pC];refine tK 1 (some 80) (.pointer (some ⟨l,0,none⟩)) rfl hHeld ?_;simp only [Act.put,pA,pB,pC];refine tK 2 (some 81) (.pointer (some ⟨l,0,none⟩)) rfl hHeld ?_;simp only [Act.put,pA,pB,pC]
   refine tH 3 (some 82) (.pointer (some ⟨p,0,none⟩)) rfl (fun w hw=>by obtain ⟨hw1,hw2,hw3⟩:=hw;first | rfl | (go_simp;done) | (go_simp;rfl)) hHeld ?_
   simp only [Act.put,pA,pB,pC];refine tK 4 (some 83) (.pointer (some ⟨l,0,none⟩)) rfl hHeld ?_;simp only [Act.put,pA,pB,pC];refine tK 5 (some 84) (.pointer (some ⟨b0,0,none⟩)) rfl hHeld ?_;simp only [Act.put,pA,pB,pC]
   refine tH 6 (some 85) (.int .i64 sn) rfl (fun w hw=>by obtain ⟨hw1,hw2,hw3⟩:=hw;first | rfl | (go_simp;done) | (go_simp;rfl)) hHeld ?_
   simp only [Act.put,pA,pB,pC];refine tK 8 (some 87) (.pointer (some ⟨b0,1,none⟩)) rfl hHeld ?_;simp only [Act.put,pA,pB,pC]
   refine tH 9 (some 88) (.int .i64 ss) rfl (fun w hw=>by obtain ⟨hw1,hw2,hw3⟩:=hw;first | rfl | (go_simp;done) | (go_simp;rfl)) hHeld ?_
   simp only [Act.put,pA,pB,pC];refine tK 10 (some 89) (.string X) rfl hHeld ?_;simp only [Act.put,pA,pB,pC]
   refine rdH 7 rfl (fun K hK=>?_)
   go_simp
   refine (HFILE.out).mono ?_;rintro e W2 ⟨rfl,hb2⟩
   try go_wp2_with fail
   refine hK.out _ _ (⟨(World.cell?_of_block (hb2.block l HS2.out)).trans HS0.out.1,(World.cell?_of_block (hb2.block b0 HS3.out)).trans HS0.out.2.1,(World.cell?_of_block (hb2.block b0 HS3.out)).trans HS0.out.2.2⟩) (fun hH=>?_)
   clear hK K hHeld;have hHeld:=hH;clear hH;have hl2:=HL0.out.below hb2;have HBC:=hide (HVB.out.trans (hb2.mono HL0.out.base))
   have HCALL:=hide (r_write hl2 (HIR.out A _) HOK.out (fileB g.name sn) HFZ.out ss (by omega) X (by have:=HXZ.out;omega))
   clear hl2 hb2
   refine rdH 11 rfl (fun K hK=>?_)
   go_simp
   refine (HCALL.out).mono ?_;rintro e Wd ⟨rfl,hld,hbd⟩
   try go_wp2_with fail
   refine hK.out _ _ ((HSS.out Wd _ (by rw [set_tl (by rw [List.length_set];exact (List.getElem?_eq_some_iff.1 HI.out).1),List.set_set] at hld;exact hld)).1) (fun hH=>?_)
   clear hK K hHeld;have hHeld:=hH;clear hH;refine tK 12 (some 9) (.int .i64 (A.write (fileB g.name sn).data.toList ss X.data.toList).1) rfl hHeld ?_;simp only [Act.put,pA,pB,pC]
   refine ⟨by kernel_rfl,?_⟩
   refine NoPanic.normal ?_
   rw [set_tl (by rw [List.length_set];exact (List.getElem?_eq_some_iff.1 HI.out).1),List.set_set] at hld
   have hbdd:=HBC.out.trans hbd;rw [hFB] at hld ⊢;obtain ⟨E1,A1,hE1⟩:∃e a,A.write FK ss X.data.toList=(e,a):=⟨_,_,rfl⟩;rw [hE1] at hld ⊢;clear HBC HCALL HFILE HV0 HL0 HVB HS0 HS2 HS3 hbd hHeld;have HLD1:=hide hld;have HBD1:=hide hbdd;have HE1:=hide hE1
   have HOK1:Hid (A1.Ok):=by have:=ok_write (d:=FK) (t:=X.data.toList) (a:=ss) HOK.out;rw [hE1] at this;exact this
   clear hld hbdd hE1 HLC2
   by_cases hz1:E1=0
   ·subst hz1
    obtain ⟨V0,hV0⟩:∃x,Wd.drew=x:=⟨_,rfl⟩
    have hv0:=HLD1.out.same (w':=Wd.drew) (Nat.le_refl _) (fun _ _ _=>rfl)
    rw [hV0] at hv0
    have hvb0:Below B w V0:=by rw [←hV0];exact HBD1.out.drew
    obtain ⟨hS0,hS1,hS2,hS3⟩:=HSS.out V0 A1 hv0
    have HFILE:=hide (rfile_any (B:=B) l sn g.name V0 hS1 hS2 HG.out.name hsn0 (by omega) (he.below hvb0) hv0.base)
    have HV0:=hide hV0;have HL0:=hide hv0;have HVB:=hide hvb0;have HS0:=hide hS0;have HS2:=hide hS2;have HS3:=hide hS3;clear hV0 hv0 hvb0 hS0 hS1 hS2 hS3;go_wp2;refine wp_region_noPanic ?_
    refine wp_region_held_drew (S:=fun wx=>wx.cell? ⟨l,0,none⟩=some (.pointer (some ⟨p,0,none⟩))∧wx.cell? ⟨b0,0,none⟩=some (.int .i64 sn)∧wx.cell? ⟨b0,1,none⟩=some (.int .i64 ss)) (by kernel_rfl) (by rw [HV0.out];exact HS0.out) (fun hHeld=>?_)
    rw [HV0.out] at hHeld ⊢;refine tK 0 (some 99) (.pointer (some ⟨l,0,none⟩)) rfl hHeld ?_;simp only [Act.put,pA,pB,pC];refine tK 1 (some 100) (.pointer (some ⟨l,0,none⟩)) rfl hHeld ?_;simp only [Act.put,pA,pB,pC];refine tK 2 (some 101) (.pointer (some ⟨l,0,none⟩)) rfl hHeld ?_;simp only [Act.put,pA,pB,pC]
    refine tH 3 (some 102) (.pointer (some ⟨p,0,none⟩)) rfl (fun w hw=>by obtain ⟨hw1,hw2,hw3⟩:=hw;first | rfl | (go_simp;done) | (go_simp;rfl)) hHeld ?_
    simp only [Act.put,pA,pB,pC];refine tK 4 (some 103) (.pointer (some ⟨l,0,none⟩)) rfl hHeld ?_;simp only [Act.put,pA,pB,pC];refine tK 5 (some 104) (.pointer (some ⟨b0,0,none⟩)) rfl hHeld ?_;simp only [Act.put,pA,pB,pC]
    refine tH 6 (some 105) (.int .i64 sn) rfl (fun w hw=>by obtain ⟨hw1,hw2,hw3⟩:=hw;first | rfl | (go_simp;done) | (go_simp;rfl)) hHeld ?_
    simp only [Act.put,pA,pB,pC]
    refine rdH 7 rfl (fun K hK=>?_)
    go_simp
    refine (HFILE.out).mono ?_;rintro e W2 ⟨rfl,hb2⟩
    try go_wp2_with fail
    refine hK.out _ _ (⟨(World.cell?_of_block (hb2.block l HS2.out)).trans HS0.out.1,(World.cell?_of_block (hb2.block b0 HS3.out)).trans HS0.out.2.1,(World.cell?_of_block (hb2.block b0 HS3.out)).trans HS0.out.2.2⟩) (fun hH=>?_)
    clear hK K hHeld;have hHeld:=hH;clear hH;have hl2:=HL0.out.below hb2;have HBC:=hide (HVB.out.trans (hb2.mono HL0.out.base));have HCALL:=hide (r_sync hl2 (HIR.out A1 _) HOK1.out (fileB g.name sn));clear hl2 hb2
    refine rdH 8 rfl (fun K hK=>?_)
    go_simp
    refine (HCALL.out).mono ?_;rintro e W2d ⟨rfl,hld,hbd⟩
    try go_wp2_with fail
    refine hK.out _ _ ((HSS.out W2d _ (by rw [set_tl (by rw [List.length_set];exact (List.getElem?_eq_some_iff.1 HI.out).1),List.set_set] at hld;exact hld)).1) (fun hH=>?_)
    clear hK K hHeld;have hHeld:=hH;clear hH;refine tK 9 (some 9) (.int .i64 (A1.sync (fileB g.name sn).data.toList).1) rfl hHeld ?_;simp only [Act.put,pA,pB,pC]
    refine ⟨by kernel_rfl,?_⟩
    refine NoPanic.normal ?_
    rw [set_tl (by rw [List.length_set];exact (List.getElem?_eq_some_iff.1 HI.out).1),List.set_set] at hld
    have hbdd:=HBC.out.trans hbd;rw [hFB] at hld ⊢;obtain ⟨E2,A2,hE2⟩:∃e a,A1.sync FK=(e,a):=⟨_,_,rfl⟩;rw [hE2] at hld ⊢;clear HBC HCALL HFILE HV0 HL0 HVB HS0 HS2 HS3 hbd hHeld;have HLD2:=hide hld;have HBD2:=hide hbdd;have HE2:=hide hE2
    have HOK2:Hid (A2.Ok):=by have:=ok_sync (d:=FK) HOK1.out;rw [hE2] at this;exact this
    clear hld hbdd hE2 HLD1 HBD1
    by_cases hz2:E2=0
    ·subst hz2
     have hxz:=HXZ.out;obtain ⟨sz,hsz⟩:∃x:Int,ss+(X.size:Int)=x:=⟨_,rfl⟩;obtain ⟨nn,hnn⟩:∃x:Int,g.next+1=x:=⟨_,rfl⟩
     have HRR:Hid (R=(0,A2,{ g with dead:=g.dead,next:=nn,segs:=keepA g ⟨sn,sz,nn⟩ true })):=by
      show _=_
      have hdl:=dlay_ok (dead:=false) (fresh:=PS.2) (s:=PS.1) (by rw [HPQ.out.1];exact HFK.out) HPQ.out.2.1 HE1.out HE2.out
      rw [HR3.out]
      try simp only
      rw [hdl]
      try simp only
      rw [if_neg (by simp),HPQ.out.1,HPQ.out.2.1,HPQ.out.2.2.1,hsz,hnn,HD.out]
     have hjI:∀Z:List Item,(L.set i (.ref p A2)++Z)[j]?=some (.rlog l p g):=fun Z=>get_tl (by rw [List.getElem?_set_ne HIJ.out];exact HJ.out)
     have hjl:j<(L.set i (.ref p A2)).length:=by rw [List.length_set];exact (List.getElem?_eq_some_iff.1 HJ.out).1
     obtain ⟨v9,r9,hat9,_⟩:=HLD2.out.rlogAt (hjI _);have x4:=hat9.c4;have x4f:=hat9.fz 4
     obtain ⟨hl3,hb3⟩:=HLD2.out.setRLog (i:=j) (g:=g) (hjI _) 4 (.int .i64 (g.next+1)) (g':={ g with next:=g.next+1 }) (fun v=>rfl) rfl
     rw [set_tl hjl] at hl3;obtain ⟨W7,hW7⟩:∃x,W2d.setCell ⟨l,4,none⟩ (.int .i64 (g.next+1))=x:=⟨_,rfl⟩;rw [hW7] at hl3 hb3
     obtain ⟨M7,hM7⟩:∃x:List Item,((L.set i (.ref p A2)).set j (.rlog l p { g with next:=g.next+1 }))=x:=⟨_,rfl⟩
     have hM7j:M7[j]?=some (.rlog l p { g with next:=g.next+1 }):=by rw [←hM7];exact List.getElem?_set_self hjl
     rw [hM7] at hl3;obtain ⟨⟨z0',z1',z2'⟩,zf'⟩:=hl3.get3 (q:=M7.length) get_t0;have zf1:=zf' 1;obtain ⟨hl4,hb4⟩:=hl3.setAt (q:=M7.length) get_t0 1 (.int .i64 sz);rw [set_t0] at hl4;obtain ⟨W8,hW8⟩:∃x,W7.setCell ⟨b0,1,none⟩ (.int .i64 sz)=x:=⟨_,rfl⟩;rw [hW8] at hl4 hb4;obtain ⟨v10,r10,hat10,_⟩:=hl4.rlogAt (get_tl hM7j);have y4':=hat10.c4;have hl4':Lies B W8 (M7++[Item.block b0 (.cells #[.int .i64 sn,.int .i64 sz,.int .i64 sf] 105 (0,0))]):=hl4;obtain ⟨⟨a0,a1,a2⟩,af⟩:=hl4'.get3 (q:=M7.length) get_t0;have af2:=af 2;obtain ⟨hl5,hb5⟩:=hl4'.setAt (q:=M7.length) get_t0 2 (.int .i64 nn);rw [set_t0] at hl5;obtain ⟨W9,hW9⟩:∃x,W8.setCell ⟨b0,2,none⟩ (.int .i64 nn)=x:=⟨_,rfl⟩;rw [hW9] at hl5 hb5;have hl5':Lies B W9 (M7++[Item.block b0 (.cells #[.int .i64 sn,.int .i64 sz,.int .i64 nn] 105 (0,0))]):=hl5;have HW7:=hide hW7;have HW8:=hide hW8;have HW9:=hide hW9;have hbb:=((HBD2.out.trans hb3).trans hb4).trans hb5;obtain ⟨V0,hV0⟩:∃x,W9.drew=x:=⟨_,rfl⟩
     have hv0:=hl5'.same (w':=W9.drew) (Nat.le_refl _) (fun _ _ _=>rfl)
     rw [hV0] at hv0
     have hvb0:Below B w V0:=by rw [←hV0];exact hbb.drew
     have hX0:(M7++[Item.block b0 (.cells #[.int .i64 sn,.int .i64 sz,.int .i64 nn] 105 (0,0))])[M7.length]?=some (Item.block b0 (.cells #[.int .i64 sn,.int .i64 sz,.int .i64 nn] 105 (0,0))):=get_t0;obtain ⟨⟨b0a,b1a,b2a⟩,_⟩:=hv0.get3 hX0;have HV0:=hide hV0;have HB0:Hid (b0<V0.heap.size):=lt_of_some (hv0.atBlock hX0)
     have HM7:Hid (∀g':AL,M7.set j (.rlog l p g')=(L.set i (.ref p A2)).set j (.rlog l p g')):=fun g'=>by rw [←hM7,List.set_set]
     have HNN:=hide hnn;have HSZ:=hide hsz;clear hV0 hl3 hl4 hl4' hl5 hl5' hbb hb3 hb4 hb5 hat9 hat10 zf' af hM7 z0' z2' a0 a1 hW7 hW8 hW9;obtain ⟨v5,r5,hat5,_,hnew,_⟩:=hv0.rnewSegs (get_tl hM7j)
     have hgne:r5≠some b0:=hv0.rlogApart (get_tl hM7j) hX0 (by have:=(List.getElem?_eq_some_iff.1 hM7j).1;omega) hat5
     have c3:=hat5.c3;obtain ⟨g2,hg2⟩:∃x,V0.heap.size=x:=⟨_,rfl⟩;obtain ⟨V1,hV1⟩:∃x,V0.alloc (.cells (⟨sn,sz,nn⟩:ASeg).cs.toArray 105)=x:=⟨_,rfl⟩;obtain ⟨v6,r6,V2,hap,hrow6,ht6,hown6⟩:=rapp_seg hat5.row HG.out.len ⟨sn,sz,nn⟩ 100 hV1 hg2;obtain ⟨hc3,hf3,hL3,hb3⟩:=hnew V2 v6 r6 _ hrow6 ht6 hown6;obtain ⟨ad4,cap4,hv4,_⟩:=hrow6;obtain ⟨ad5,cap5,hv5,_⟩:=hat5.row;obtain ⟨n4,hn4⟩:∃n,(g.segs++[(⟨sn,sz,nn⟩:ASeg)]).length=n:=⟨_,rfl⟩;obtain ⟨n5,hn5⟩:∃n,g.segs.length=n:=⟨_,rfl⟩;simp only at hv4 hv5;rw [hn4] at hv4;rw [hn5] at hv5;subst hv4 hv5;rw [set_tl (List.getElem?_eq_some_iff.1 hM7j).1,HM7.out] at hL3;have hV1':V0.alloc (.cells #[.int .i64 sn,.int .i64 sz,.int .i64 nn] 105)=V1:=hV1
     have hbV1:Below V0.heap.size V0 V1:=by rw [←hV1];exact (Below.refl _ _).alloc (Nat.le_refl _) _
     have x3:=(World.cell?_of_block (a:=⟨l,3,none⟩) (hbV1.block l (lt_of_some hat5.cells))).trans c3;have xx0:=(World.cell?_of_block (a:=⟨b0,0,none⟩) (hbV1.block b0 HB0.out)).trans b0a;have xx1:=(World.cell?_of_block (a:=⟨b0,1,none⟩) (hbV1.block b0 HB0.out)).trans b1a;have xx2:=(World.cell?_of_block (a:=⟨b0,2,none⟩) (hbV1.block b0 HB0.out)).trans b2a
     have HY:Hid (V2.cell? ⟨b0,0,none⟩=some (.int .i64 sn)∧V2.cell? ⟨b0,1,none⟩=some (.int .i64 sz)∧V2.cell? ⟨b0,2,none⟩=some (.int .i64 nn)):=by
      have hb:V2.heap[b0]?=V0.heap[b0]?:=ht6.block b0 (by rw [hg2];have:=HB0.out;omega) (fun hc=>hgne hc)
      exact ⟨(World.cell?_of_block (a:=⟨b0,0,none⟩) hb).trans b0a,(World.cell?_of_block (a:=⟨b0,1,none⟩) hb).trans b1a,(World.cell?_of_block (a:=⟨b0,2,none⟩) hb).trans b2a⟩
     obtain ⟨V3,hV3⟩:∃x,V2.setCell ⟨l,3,none⟩ (.slice ad4 n4 cap4)=x:=⟨_,rfl⟩;rw [hV3] at hL3 hb3
     have HL3:Hid (Lies B V3 ((L.set i (.ref p R.2.1)).set j (.rlog l p R.2.2))):=by
      show Lies _ _ _
      rw [HRR.out];have e:keepA g ⟨sn,sz,nn⟩ true=g.segs++[⟨sn,sz,nn⟩]:=rfl;rw [e,←HNN.out];rw [←HNN.out] at hL3;exact hL3.drop
     have HB3:=hide (hvb0.trans hb3);have HAP:=hide hap;have HV1:=hide hV1'
     have hnnB:-9223372036854775807≤nn∧nn≤1152921504606846976:=by have:=HNN.out;omega
     clear hv0 hvb0 hat5 hnew hV1 hL3 hb3 hn4 hn5 ht6 hown6 hap hbV1 hV1' hX0 hgne hjI hM7j;have hsz':=HSZ.out;have hnn':=HNN.out;have hW7:=HW7.out;have hW8:=HW8.out;have hW9:=HW9.out;rw [hnn'] at hW7 y4'
     go_upto_region 32 with fail
     clear hW7 hW8 hW9 hsz' hnn' x4 x4f zf1 y4' af2 z1';refine wp_region_noPanic ?_
     refine wp_region_T (S:=fun wx=>wx.cell? ⟨l,3,none⟩=some (.slice ad5 n5 cap5)∧wx.cell? ⟨b0,0,none⟩=some (.int .i64 sn)∧wx.cell? ⟨b0,1,none⟩=some (.int .i64 sz)∧wx.cell? ⟨b0,2,none⟩=some (.int .i64 nn)) 10 (by kernel_rfl) (by rw [HV0.out];exact ⟨c3,b0a,b1a,b2a⟩) (fun hHeld=>?_)
     rw [HV0.out] at hHeld ⊢;refine tT 0 (some 161) (.pointer (some ⟨l,0,none⟩)) rfl hHeld ?_;simp only [Act.put,pA,pB,pC];refine tT 1 (some 162) (.pointer (some ⟨l,0,none⟩)) rfl hHeld ?_;simp only [Act.put,pA,pB,pC];refine tT 2 (some 163) (.pointer (some ⟨l,0,none⟩)) rfl hHeld ?_;simp only [Act.put,pA,pB,pC];refine tT 3 (some 164) (.pointer (some ⟨l,3,none⟩)) rfl hHeld ?_;simp only [Act.put,pA,pB,pC]
     refine tU 4 (some 165) (.slice ad5 n5 cap5) rfl (fun w hw=>by obtain ⟨hw1,hw2,hw3,hw4⟩:=hw;first | rfl | (go_simp;done) | (go_simp;rfl)) hHeld ?_
     simp only [Act.put,pA,pB,pC]
     refine tU 5 (some 166) (.agg #[.int .i64 sn,.int .i64 sz,.int .i64 nn]) rfl (fun w hw=>by obtain ⟨hw1,hw2,hw3,hw4⟩:=hw;first | rfl | (go_simp;done) | (go_simp;rfl)) hHeld ?_
     simp only [Act.put,pA,pB,pC]
     refine readyT 6 (by kernel_rfl) rfl (by rfl) (fun K hK=>?_)
     go_simp
     rw [HV1.out]
     refine hK.out _ _ (fun _=>⟨x3,xx0,xx1,xx2⟩) (fun hH=>?_)
     clear hHeld
     have hHeld:=hH (by decide)
     clear hK K hH
     refine readyT 7 (by kernel_rfl) rfl (by rfl) (fun K hK=>?_)
     refine wpRun (run_append_op _ _ _ rfl HAP.out) ?_;simp only [Act.put,pA,pB,pC]
     refine hK.out _ _ (fun _=>⟨hc3,HY.out⟩) (fun hH=>?_)
     clear hHeld
     have hHeld:=hH (by decide)
     clear hK K hH
     refine readyT 8 (by kernel_rfl) rfl (by rfl) (fun K hK=>?_)
     go_simp
     refine hK.out _ _ (fun _=>hHeld) (fun hH=>?_)
     clear hHeld
     have hHeld:=hH (by decide)
     clear hK K hH
     refine readyT 9 (by kernel_rfl) rfl (by rfl) (fun K hK=>?_)
     go_simp
     refine hK.out _ _ (fun _=>hHeld) (fun hH=>?_)
     clear hHeld
     have hHeld:=hH (by decide)
     clear hK K hH
     refine readyT 10 (by kernel_rfl) rfl (by rfl) (fun K hK=>?_)
     go_simp
     try rw [hV3]
     refine hK.out _ _ (fun x=>absurd rfl x) (fun _=>?_)
     clear hK K hHeld
     refine ⟨by kernel_rfl,?_⟩
     refine NoPanic.normal ?_
     have hR1:R.1=0:=by rw [HRR.out]
     have HR1:=hide hR1;clear hR1;go_wp2;go_ret
     exact ⟨by rw [HR1.out];rfl,HL3.out,HB3.out⟩
    ·have q9:(E2 != 0)=true:=by simpa using hz2
     obtain ⟨V0,hV0⟩:∃x,W2d.drew=x:=⟨_,rfl⟩
     have hv0:=HLD2.out.same (w':=W2d.drew) (Nat.le_refl _) (fun _ _ _=>rfl)
     rw [hV0] at hv0
     have hvb0:Below B w V0:=by rw [←hV0];exact HBD2.out.drew
     obtain ⟨hS0,hS1,hS2,hS3⟩:=HSS.out V0 A2 hv0
     have HFILE:=hide (rfile_any (B:=B) l sn g.name V0 hS1 hS2 HG.out.name hsn0 (by omega) (he.below hvb0) hv0.base)
     have HV0:=hide hV0;have HL0:=hide hv0;have HVB:=hide hvb0;have HS0:=hide hS0;have HS2:=hide hS2;have HS3:=hide hS3;clear hV0 hv0 hvb0 hS0 hS1 hS2 hS3;go_wp2;refine wp_region_noPanic ?_
     refine wp_region_held_drew (S:=fun wx=>wx.cell? ⟨l,0,none⟩=some (.pointer (some ⟨p,0,none⟩))∧wx.cell? ⟨b0,0,none⟩=some (.int .i64 sn)∧wx.cell? ⟨b0,1,none⟩=some (.int .i64 ss)) (by kernel_rfl) (by rw [HV0.out];exact HS0.out) (fun hHeld=>?_)
     rw [HV0.out] at hHeld ⊢;refine tK 0 (some 111) (.pointer (some ⟨l,0,none⟩)) rfl hHeld ?_;simp only [Act.put,pA,pB,pC];refine tK 1 (some 112) (.pointer (some ⟨l,0,none⟩)) rfl hHeld ?_;simp only [Act.put,pA,pB,pC];refine tK 2 (some 113) (.pointer (some ⟨l,0,none⟩)) rfl hHeld ?_;simp only [Act.put,pA,pB,pC]
     refine tH 3 (some 114) (.pointer (some ⟨p,0,none⟩)) rfl (fun w hw=>by obtain ⟨hw1,hw2,hw3⟩:=hw;first | rfl | (go_simp;done) | (go_simp;rfl)) hHeld ?_
     simp only [Act.put,pA,pB,pC];refine tK 4 (some 115) (.pointer (some ⟨l,0,none⟩)) rfl hHeld ?_;simp only [Act.put,pA,pB,pC];refine tK 5 (some 116) (.pointer (some ⟨b0,0,none⟩)) rfl hHeld ?_;simp only [Act.put,pA,pB,pC]
     refine tH 6 (some 117) (.int .i64 sn) rfl (fun w hw=>by obtain ⟨hw1,hw2,hw3⟩:=hw;first | rfl | (go_simp;done) | (go_simp;rfl)) hHeld ?_
     simp only [Act.put,pA,pB,pC]
     refine rdH 7 rfl (fun K hK=>?_)
     go_simp
     refine (HFILE.out).mono ?_;rintro e W2 ⟨rfl,hb2⟩
     try go_wp2_with fail
     refine hK.out _ _ (⟨(World.cell?_of_block (hb2.block l HS2.out)).trans HS0.out.1,(World.cell?_of_block (hb2.block b0 HS3.out)).trans HS0.out.2.1,(World.cell?_of_block (hb2.block b0 HS3.out)).trans HS0.out.2.2⟩) (fun hH=>?_)
     clear hK K hHeld;have hHeld:=hH;clear hH;have hl2:=HL0.out.below hb2;have HBC:=hide (HVB.out.trans (hb2.mono HL0.out.base));have HCALL:=hide (r_remove hl2 (HIR.out A2 _) HOK2.out (fileB g.name sn));clear hl2 hb2
     refine rdH 8 rfl (fun K hK=>?_)
     go_simp
     refine (HCALL.out).mono ?_;rintro e W3d ⟨rfl,hld,hbd⟩
     try go_wp2_with fail
     refine hK.out _ _ ((HSS.out W3d _ (by rw [set_tl (by rw [List.length_set];exact (List.getElem?_eq_some_iff.1 HI.out).1),List.set_set] at hld;exact hld)).1) (fun hH=>?_)
     clear hK K hHeld;have hHeld:=hH;clear hH;refine tK 9 (some 10) (.int .i64 (A2.remove (fileB g.name sn).data.toList).1) rfl hHeld ?_;simp only [Act.put,pA,pB,pC]
     refine ⟨by kernel_rfl,?_⟩
     refine NoPanic.normal ?_
     rw [set_tl (by rw [List.length_set];exact (List.getElem?_eq_some_iff.1 HI.out).1),List.set_set] at hld
     have hbdd:=HBC.out.trans hbd;rw [hFB] at hld ⊢;obtain ⟨U,A3,hU⟩:∃e a,A2.remove FK=(e,a):=⟨_,_,rfl⟩;rw [hU] at hld ⊢;clear HBC HCALL HFILE HV0 HL0 HVB HS0 HS2 HS3 hbd hHeld
     obtain ⟨DB,hDB⟩:∃x:Bool,(E2 == 9 || U != 0)=x:=⟨_,rfl⟩
     have HRR:Hid (R=(E2,A3,{ g with dead:=DB })):=by
      show _=_
      have huu:(if PS.2=true then A2.remove FK else A2.trunc FK ss)=(U,A3):=by rw [HPQ.out.2.2.1];rw [if_pos rfl];exact hU
      have hdl:=dlay_back (dead:=false) (fresh:=PS.2) (s:=PS.1) (by rw [HPQ.out.1];exact HFK.out) HPQ.out.2.1 HE1.out HE2.out hz2 huu
      rw [hDB] at hdl;rw [HR3.out]
      try simp only
      rw [hdl]
      try simp only
      rw [if_pos hz2]
     obtain ⟨v9,r9,hat9,_⟩:=hld.rlogAt (get_tl (by rw [List.getElem?_set_ne HIJ.out];exact HJ.out))
     have x5:=hat9.c5;have x5f:=hat9.fz 5
     obtain ⟨hl9,hb9⟩:=hld.setRLog (i:=j) (g:=g) (get_tl (by rw [List.getElem?_set_ne HIJ.out];exact HJ.out)) 5 (.bool DB) (g':={ g with dead:=DB }) (fun v=>rfl) rfl
     rw [set_tl (by rw [List.length_set];exact (List.getElem?_eq_some_iff.1 HJ.out).1)] at hl9
     have HL9:=hide hl9.drop;have HB9:=hide (hbdd.trans hb9);clear hld hbdd hat9 hl9 hb9 hU
     by_cases h9:E2=9
     ·have k9:(E2 == 9)=true:=by simpa using h9
      have hDT:DB=true:=by rw [←hDB,k9];rfl
      subst hDT;clear hDB h9;go_wp2;go_ret;rw [HRR.out];exact ⟨rfl,HL9.out,HB9.out⟩
     ·have k9:(E2 == 9)=false:=by simpa using h9
      have hDT:(U != 0)=DB:=by rw [←hDB,k9];rfl
      clear hDB h9;go_wp2;go_ret;rw [HRR.out];exact ⟨rfl,HL9.out,HB9.out⟩
   ·have q9:(E1 != 0)=true:=by simpa using hz1
    obtain ⟨DB,hDB⟩:∃x:Bool,(E1 == 9)=x:=⟨_,rfl⟩
    have HRR:Hid (R=(E1,A1,{ g with dead:=DB })):=by
     show _=_
     have hdl:=dlay_bad (dead:=false) (fresh:=PS.2) (s:=PS.1) (by rw [HPQ.out.1];exact HFK.out) HPQ.out.2.1 HE1.out hz1
     rw [hDB] at hdl;rw [HR3.out]
     try simp only
     rw [hdl]
     try simp only
     rw [if_pos hz1]
    obtain ⟨v9,r9,hat9,_⟩:=HLD1.out.rlogAt (get_tl (by rw [List.getElem?_set_ne HIJ.out];exact HJ.out))
    have x5:=hat9.c5;have x5f:=hat9.fz 5
    obtain ⟨hl9,hb9⟩:=HLD1.out.setRLog (i:=j) (g:=g) (get_tl (by rw [List.getElem?_set_ne HIJ.out];exact HJ.out)) 5 (.bool DB) (g':={ g with dead:=DB }) (fun v=>rfl) rfl
    rw [set_tl (by rw [List.length_set];exact (List.getElem?_eq_some_iff.1 HJ.out).1)] at hl9
    have HL9:=hide hl9.drop;have HB9:=hide (HBD1.out.trans hb9);clear hat9 hl9 hb9;go_wp2;go_ret;rw [HRR.out];exact ⟨rfl,HL9.out,HB9.out⟩
end
end Go.Proofs.YtjbdncknooeplaaGreatDoor
