import Derived.Test.YtjbdncknooeplaaGreatDoorWROpenK
import Derived.Test.YtjbdncknooeplaaGreatDoorWRNumM
import Derived.Test.YtjbdncknooeplaaGreatDoorWRCrash
import Derived.Test.YtjbdncknooeplaaGreatDoorWRDisks
import Derived.Test.YtjbdncknooeplaaGreatDoorWRApp
namespace Go.Proofs.YtjbdncknooeplaaGreatDoor
open Go.RowKit Go.Maps
set_option linter.unusedVariables false
set_option linter.unusedSimpArgs false
section
variable {B:Nat} {w:World} {L:List Item} {i j l p:Nat} {A:AD} {g:AL}
set_option maxRecDepth 100000 in
set_option maxHeartbeats 4000000 in
theorem rreset_any (h:Lies B w L) (hi:L[i]?=some (.ref p A)) (hok:A.Ok) (hj:L[j]?=some (.rlog l p g)) (hij:i≠j) (he:Env B w) (hg:g.Fit) (n:Int) (hn:-9223372036854775808≤n∧n≤9223372036854775807) (R:Int×AD×AL) (hR:resetA A g n=R) :
 Calls Tryz.prog 48 #[.pointer (some ⟨l,0,none⟩),.int .i64 n] w fun e w'=>e=.returned (.int .i64 R.1)∧Lies B w' ((L.set i (.ref p R.2.1)).set j (.rlog l p R.2.2))∧Below B w w':=by
 obtain ⟨v0,r0,hat0,hBl⟩:=h.rlogAt hj;have c5:=hat0.c5;have c4:=hat0.c4
 have hK:Lies B w ((L.set i (.ref p A)).set j (.rlog l p g)):=by rw [hset_keep hi,hset_keep hj];exact h
 have HL:=hide hK
 cases hd:g.dead with
 | true=>
  have hRR:R=(60,A,g):=by rw [←hR];unfold resetA;rw [if_pos hd]
  rw [hd] at c5;clear h hat0 hR hd hK
  go_enter Tryz.func48,Tryz.ntmps48
  go_wp2;go_ret
  try rw [hRR]
  exact ⟨rfl,HL.out,Below.refl _ _⟩
 | false=>
  rw [hd] at c5
  by_cases hbad:n<0∨g.next<n
  ·have hRR:R=(1,A,g):=by rw [←hR];unfold resetA;rw [if_neg (by rw [hd];decide),if_pos hbad]
   clear h hat0 hR hd hK
   by_cases hb1:n<0
   ·have k1:decide (n<0)=true:=decide_eq_true hb1
    clear hbad
    go_enter Tryz.func48,Tryz.ntmps48
    go_wp2;go_ret
    try rw [hRR]
    exact ⟨rfl,HL.out,Below.refl _ _⟩
   ·have k1:decide (n<0)=false:=decide_eq_false hb1
    have k2:decide (g.next<n)=true:=decide_eq_true (hbad.resolve_left hb1);clear hbad
    go_enter Tryz.func48,Tryz.ntmps48
    go_wp2;go_ret
    try rw [hRR]
    exact ⟨rfl,HL.out,Below.refl _ _⟩
  ·have k1:decide (n<0)=false:=decide_eq_false (fun hc=>hbad (.inl hc))
   have k2:decide (g.next<n)=false:=decide_eq_false (fun hc=>hbad (.inr hc))
   obtain ⟨RL,hRL⟩:∃x,resetL g.name.data.toList n A g.segs=x:=⟨_,rfl⟩
   have hRR:R=(RL.1,RL.2.1,{ g with segs:=RL.2.2.1,dead:=RL.2.2.2 }):=by
    rw [←hR];unfold resetA;rw [if_neg (by rw [hd];decide),if_neg hbad];simp only;rw [hRL]
   have HRR:=hide hRR;have HRL:=hide hRL;have HD:=hide hd;have HI:=hide hi;have HJ:=hide hj;have HIJ:=hide hij;have HENV:=hide he;have HG:=hide hg;clear h hat0 hR hd hK hbad hRL hRR hi hj hij he hg
   go_enter Tryz.func48,Tryz.ntmps48
   go_wp2
   go_loopw [5] (fun x wr=>∃(gs:List ASeg) (Ak:AD),Ak.Ok∧gs.length≤10000000∧(∀s∈gs,s∈g.segs)∧resetL g.name.data.toList n Ak gs=RL∧Lies B wr ((L.set i (.ref p Ak)).set j (.rlog l p { g with segs:=gs }))∧Below B w wr) (fun x wr=>lenAt l wr)
   case atStart=>exact ⟨g.segs,A,hok,HG.out.len,fun s h=>h,HRL.out,HL.out,Below.refl _ _⟩
   case round=>
    obtain ⟨gs,Ak,hokk,hgl,hin,hq,hLr,hbr⟩:=hrel;have HOKK:=hide hokk;clear hokk;have hil:=(List.getElem?_eq_some_iff.1 HI.out).1;have hjl:=(List.getElem?_eq_some_iff.1 HJ.out).1
    have hjr:((L.set i (.ref p Ak)).set j (.rlog l p { g with segs:=gs }))[j]?=some (.rlog l p { g with segs:=gs }):=List.getElem?_set_self (by rw [List.length_set];exact hjl)
    have hir:((L.set i (.ref p Ak)).set j (.rlog l p { g with segs:=gs }))[i]?=some (.ref p Ak):=by rw [List.getElem?_set_ne (fun e=>HIJ.out e.symm)];exact List.getElem?_set_self hil
    obtain ⟨v,hp⟩:=hLr.rpin hjr
    obtain ⟨LP,hLP⟩:∃x,((L.set i (.ref p Ak)).set j (.rlog l p { g with segs:=gs })).set j (.rlogv l p { g with segs:=gs } v)=x:=⟨_,rfl⟩
    rw [hLP] at hp
    have hPi:LP[i]?=some (.ref p Ak):=by rw [←hLP,List.getElem?_set_ne (fun e=>HIJ.out e.symm)];exact hir
    have hPj:LP[j]?=some (.rlogv l p { g with segs:=gs } v):=by rw [←hLP];exact List.getElem?_set_self (by rw [List.length_set,List.length_set];exact hjl)
    have HLIST:Hid (∀(A':AD) (Z:Item),(LP.set i (.ref p A')).set j Z=(L.set i (.ref p A')).set j Z):=fun A' Z=>by
     rw [←hLP,List.set_set,List.set_comm _ _ (fun e=>HIJ.out e.symm),List.set_set,List.set_set]
    have HPJ:Hid (∀(A':AD),(LP.set i (.ref p A'))[j]?=some (.rlogv l p { g with segs:=gs } v)):=fun A'=>by rw [List.getElem?_set_ne HIJ.out];exact hPj
    obtain ⟨r,hat,_⟩:=hp.rlogv hPj;have c3:=hat.c3;have c0:=hat.c0
    cases gs with
    | nil=>
     obtain ⟨ad,cap,hv,_⟩:=hat.row;subst hv
     have hRL0:RL=(0,Ak,[],false):=by rw [←hq];rfl
     have HLr:Hid (Lies B wr ((L.set i (.ref p R.2.1)).set j (.rlog l p R.2.2))):=by
      show Lies _ _ _
      rw [HRR.out,hRL0,←HD.out];exact hLr
     have hR1:R.1=0:=by rw [HRR.out,hRL0]
     have HBR:=hide hbr;clear hat hp hLr hbr hq hjr hir hin hPi hPj hLP HLIST HPJ;simp only [List.length_nil] at c3;go_wp2;go_ret
     try rw [hR1]
     exact ⟨rfl,HLr.out,HBR.out⟩
    | cons s gs=>
     obtain ⟨ad,cap,b,off,hv,had⟩:=rform_of hat;subst hv
     obtain rfl:=had (by simp)
     obtain ⟨m,hm⟩:∃m,gs.length=m:=⟨_,rfl⟩
     have c3':wr.cell? ⟨l,3,none⟩=some (.slice (some ⟨b,off,none⟩) (m+1) cap):=by rw [←hm];exact c3
     obtain ⟨hbl,_,⟨d0,d1,d2⟩,df⟩:=rseg3 hat 0 (s:=s) rfl;simp only [Nat.zero_mul,Nat.add_zero] at d0 d1 d2;have hsf:=HG.out.segs s (hin s (List.mem_cons_self))
     have q1:decide ((0:Int)<((m+1:Nat):Int))=true:=decide_eq_true (by omega)
     cases hbel:belowA s n with
     | false=>
      have hRL0:RL=(0,Ak,s :: gs,false):=by rw [←hq];unfold resetL;rw [if_neg (by rw [hbel];decide)]
      have HLr:Hid (Lies B wr ((L.set i (.ref p R.2.1)).set j (.rlog l p R.2.2))):=by
       show Lies _ _ _
       rw [HRR.out,hRL0,←HD.out];exact hLr
      have hR1:R.1=0:=by rw [HRR.out,hRL0]
      have hz1:(s.size == 0)=false:=by unfold belowA at hbel;exact (Bool.or_eq_false_iff.1 hbel).1
      have hz2:decide (s.fin≤n)=false:=by unfold belowA at hbel;exact (Bool.or_eq_false_iff.1 hbel).2
      have HL2:=HLr;have HB2:=hide hbr;clear hat hp hbr hq hjr hir hin had c3 hm df hPi hPj hLP HLIST HPJ hLr hbel;go_wp2;go_ret
      try rw [hR1]
      exact ⟨rfl,HL2.out,HB2.out⟩
     | true=>
      by_cases hz:s.size=0
      case' pos=>
       have hz1:(s.size == 0)=true:=by simpa using hz
      case' neg=>
       have hz1:(s.size == 0)=false:=by simpa using hz
       have hz2:decide (s.fin≤n)=true:=by unfold belowA at hbel;rw [hz1,Bool.false_or] at hbel;exact hbel
      all_goals
       clear hz;have HGL:=hide hgl;have HBR:=hide hbr;have HLR:=hide hp;have HJR:=hide hPj;have HIR:=hide hPi
       have HSS:Hid (∀(W:World) (it:Item),Lies B W (LP.set i it)→(W.cell? ⟨l,0,none⟩=some (.pointer (some ⟨p,0,none⟩))∧W.cell? ⟨l,3,none⟩=some (.slice (some ⟨b,off,none⟩) (m+1) cap)∧W.cell? ⟨b,off,none⟩=some (.int .i64 s.num)∧W.cell? ⟨b,off+1,none⟩=some (.int .i64 s.size)∧W.cell? ⟨b,off+2,none⟩=some (.int .i64 s.fin))):=fun W it hl=>by
        obtain ⟨r2,hat2,_⟩:=hl.rlogv (by rw [List.getElem?_set_ne HIJ.out];exact hPj)
        obtain ⟨_,_,⟨a0,a1,a2⟩,_⟩:=rseg3 hat2 0 (s:=s) rfl;simp only [Nat.zero_mul,Nat.add_zero] at a0 a1 a2;refine ⟨hat2.c0,?_,a0,a1,a2⟩
        rw [←hm];exact hat2.c3
       have HIN:=hide hin;have HQ:=hide hq;have HSF:=hide hsf;have HBEL:=hide hbel;have HM:=hide hm;have HBL:=hide hbl;have hlw:l<wr.heap.size:=lt_of_some hat.cells;have HLW:=hide hlw
       have HLEN:Hid (lenAt l wr=m+1):=by show _=_;unfold lenAt;rw [c3']
       clear hat hp hbr hq hjr hir hin had c3 df hLr hsf hbel hm hbl hlw hPi hPj hLP;have hl2:=HLR.out;have hbb2:=HBR.out;have hb2:=Below.refl wr.heap.size wr;obtain ⟨V0,hV0⟩:∃x,wr.drew=x:=⟨_,rfl⟩
       have hv0:=hl2.same (w':=wr.drew) (Nat.le_refl _) (fun _ _ _=>rfl)
       rw [hV0] at hv0
       have hvb0:Below B w V0:=by rw [←hV0];exact hbb2.drew
       have HC0:Hid (∀(q k:Nat),q<wr.heap.size→V0.cell? ⟨q,k,none⟩=wr.cell? ⟨q,k,none⟩):=fun q k hq=>by rw [←hV0];exact World.cell?_of_block (hb2.block q hq)
       have e0:=(HC0.out l 0 HLW.out).trans c0;have e3:=(HC0.out l 3 HLW.out).trans c3';have f0:=(HC0.out b off HBL.out).trans d0;have f1:=(HC0.out b (off+1) HBL.out).trans d1;have f2:=(HC0.out b (off+2) HBL.out).trans d2;obtain ⟨r4,hat4,_⟩:=hv0.rlogv HJR.out
       have hFz:(fileB g.name s.num).size≤maxLen:=by have:=fileB_size (b:=g.name) HG.out.name HSF.out.2.1 (by have:=HSF.out.2.2;omega);unfold maxLen;omega
       have hfile:=rfile_any (B:=B) l s.num g.name V0 hat4.c1 (lt_of_some hat4.cells) HG.out.name HSF.out.2.1 (by have:=HSF.out.2.2;omega) (HENV.out.below hvb0) hv0.base
       have HFILE:=hide hfile;have HFZ:=hide hFz;have HV0:=hide hV0;have HL0:=hide hv0;have HVB:=hide hvb0
       have hvs:l<V0.heap.size∧b<V0.heap.size:=⟨lt_of_some hat4.cells,by
        have:=hb2.size;have h3:=HBL.out;rw [←hV0];show b<wr.heap.size;omega⟩
       have HVS:=hide hvs;clear hl2 hbb2 hb2 hv0 hvb0 hV0 hat4 hfile hFz c0 hvs;go_wp2;clear c3' d0 d1 d2;refine wp_region_noPanic ?_
       refine wp_region_held_drew (S:=fun wx=>wx.cell? ⟨l,0,none⟩=some (.pointer (some ⟨p,0,none⟩))∧wx.cell? ⟨l,3,none⟩=some (.slice (some ⟨b,off,none⟩) (m+1) cap)∧wx.cell? ⟨b,off,none⟩=some (.int .i64 s.num)∧wx.cell? ⟨b,off+1,none⟩=some (.int .i64 s.size)∧wx.cell? ⟨b,off+2,none⟩=some (.int .i64 s.fin)) (by kernel_rfl) (by rw [HV0.out];exact ⟨e0,e3,f0,f1,f2⟩) (fun hHeld=>?_)
       rw [HV0.out] at hHeld ⊢;refine tK 0 (some 47) (.pointer (some ⟨l,0,none⟩)) rfl hHeld ?_;simp only [Act.put,pA,pB,pC];refine tK 1 (some 48) (.pointer (some ⟨l,0,none⟩)) rfl hHeld ?_;simp only [Act.put,pA,pB,pC];refine tK 2 (some 49) (.pointer (some ⟨l,0,none⟩)) rfl hHeld ?_;simp only [Act.put,pA,pB,pC]
       refine tH 3 (some 50) (.pointer (some ⟨p,0,none⟩)) rfl (fun w hw=>by obtain ⟨hw1,hw2,hw3,hw4,hw5⟩:=hw;first | rfl | (go_simp;done) | (go_simp;rfl)) hHeld ?_
       simp only [Act.put,pA,pB,pC];refine tK 4 (some 51) (.pointer (some ⟨l,0,none⟩)) rfl hHeld ?_;simp only [Act.put,pA,pB,pC];refine tK 5 (some 52) (.pointer (some ⟨l,0,none⟩)) rfl hHeld ?_;simp only [Act.put,pA,pB,pC];refine tK 6 (some 53) (.pointer (some ⟨l,0,none⟩)) rfl hHeld ?_;simp only [Act.put,pA,pB,pC];refine tK 7 (some 54) (.pointer (some ⟨l,3,none⟩)) rfl hHeld ?_;simp only [Act.put,pA,pB,pC]
       refine tH 8 (some 55) (.slice (some ⟨b,off,none⟩) (m+1) cap) rfl (fun w hw=>by obtain ⟨hw1,hw2,hw3,hw4,hw5⟩:=hw;first | rfl | (go_simp;done) | (go_simp;rfl)) hHeld ?_
       simp only [Act.put,pA,pB,pC]
       refine tH 9 (some 56) (.pointer (some ⟨b,off,none⟩)) rfl (fun w hw=>by first | rfl | (go_simp;done) | (go_simp;rfl) | (go_simp;intro hbad;exfalso;omega)) hHeld ?_
       simp only [Act.put,pA,pB,pC];refine tK 10 (some 57) (.pointer (some ⟨b,off,none⟩)) rfl hHeld ?_;simp only [Act.put,pA,pB,pC]
       refine tH 11 (some 58) (.int .i64 s.num) rfl (fun w hw=>by obtain ⟨hw1,hw2,hw3,hw4,hw5⟩:=hw;first | rfl | (go_simp;done) | (go_simp;rfl)) hHeld ?_
       simp only [Act.put,pA,pB,pC]
       refine rdH 12 rfl (fun K hK=>?_)
       go_simp
       refine (HFILE.out).mono ?_;rintro e W2 ⟨rfl,hb2⟩
       try go_wp2_with fail
       refine hK.out _ _ (⟨(World.cell?_of_block (hb2.block l HVS.out.1)).trans e0,(World.cell?_of_block (hb2.block l HVS.out.1)).trans e3,(World.cell?_of_block (hb2.block b HVS.out.2)).trans f0,(World.cell?_of_block (hb2.block b HVS.out.2)).trans f1,(World.cell?_of_block (hb2.block b HVS.out.2)).trans f2⟩) (fun hH=>?_)
       clear hK K hHeld;have hHeld:=hH;clear hH
       refine rdH 13 rfl (fun K hK=>?_)
       go_simp
       refine (r_remove (HL0.out.below hb2) HIR.out HOKK.out (fileB g.name s.num)).mono ?_;rintro e W3 ⟨rfl,hl3,hb3⟩
       try go_wp2_with fail
       refine hK.out _ _ (HSS.out W3 _ hl3) (fun hH=>?_)
       clear hK K hHeld;have hHeld:=hH;clear hH;refine tK 14 (some 5) (.int .i64 (Ak.remove (fileB g.name s.num).data.toList).1) rfl hHeld ?_;simp only [Act.put,pA,pB,pC]
       refine ⟨by kernel_rfl,?_⟩
       refine NoPanic.normal ?_;have hbb3:=HVB.out.trans ((hb2.mono HL0.out.base).trans hb3);obtain ⟨E,A',hQ⟩:∃e a,Ak.remove (fileB g.name s.num).data.toList=(e,a):=⟨_,_,rfl⟩;rw [hQ] at hl3 ⊢;have hQ':Ak.remove (fileL g.name.data.toList s.num)=(E,A'):=hQ;have hu:=hl3.runpin (HPJ.out A');rw [HLIST.out] at hu
       have hju:((L.set i (.ref p A')).set j (.rlog l p { g with segs:=s :: gs }))[j]?=some (.rlog l p { g with segs:=s :: gs }):=List.getElem?_set_self (by rw [List.length_set];exact hjl)
       have hcs:=HSS.out _ _ hl3
       by_cases hE:E=0
       ·subst hE
        have hq2:resetL g.name.data.toList n A' gs=RL:=by
         rw [←HQ.out];conv=>rhs;unfold resetL
         rw [if_pos HBEL.out,hQ'];simp only
         rw [if_neg (by simp)]
        obtain ⟨v9,r9,hat9,_,hnew,_⟩:=hu.rnewSegs hju
        have hv9:v9=.slice (some ⟨b,off,none⟩) (m+1) cap:=by have a:=hat9.c3;rw [hcs.2.1] at a;cases a;rfl
        subst hv9
        obtain ⟨cp,hcp⟩:∃cp,cap=cp+1:=by
         obtain ⟨_,_,hv,hle,_⟩:=hat9.row;cases hv;simp only [List.length_cons] at hle
         exact ⟨cap - 1,by omega⟩
        subst hcp;have hrow9:=hat9.row.tail
        obtain ⟨v10,r10,W4,hap,hrow10,hbel4,hown4⟩:=copy_segs hrow9 (by have:=HGL.out;simp only [List.length_cons] at this;omega) 100
        have hrow10':=hrow10;obtain ⟨ad10,cap10,hv10,_⟩:=hrow10';rw [HM.out] at hv10;have hcut:=cut_one b off m cp
        have HOK9:Hid (A'.Ok):=by
         have:=ok_remove (d:=fileL g.name.data.toList s.num) HOKK.out
         rw [hQ'] at this;exact this
        obtain ⟨hc3,hf3,hL4,hb4⟩:=hnew W4 v10 r10 gs hrow10 (Turn.of_below hbel4 _) (fun b hb=>.inr (hown4 b hb))
        subst hv10;have h3w:=hcs.2.1;rw [List.set_set] at hL4;have HL4:=hide hL4;have HB4:=hide (hbb3.trans hb4);have HQ2:=hide hq2;clear hl3 hb3 hb2 hbb3 hQ hQ' hu hju hcs hq2 hat9 hnew hL4 hb4 hHeld
        have HLT:=hide (lenAt_set (w:=W4) (l:=l) (v:=.slice ad10 m cap10) (by rw [hc3];rfl))
        have HAP:=hide hap;clear hap hrow9 hrow10 hown4 hbel4
        go_wp2_with (at_builtin;refine wpList_appS rfl _ _ _ rfl HAP.out ?_)
        first
        | (go_roundw
           case rel=>exact ⟨gs,A',HOK9.out,by have:=HGL.out;simp only [List.length_cons] at this;omega,fun x hx=>HIN.out x (List.mem_cons_of_mem _ hx),HQ2.out,HL4.out,HB4.out⟩
           case measure=>rw [HLT.out,HLEN.out];exact Nat.lt_succ_self m)
        | exact ⟨⟨gs,A',HOK9.out,by have:=HGL.out;simp only [List.length_cons] at this;omega,fun x hx=>HIN.out x (List.mem_cons_of_mem _ hx),HQ2.out,HL4.out,HB4.out⟩,by rw [HLT.out,HLEN.out];exact Nat.lt_succ_self m⟩
       ·have hRL0:RL=(E,A',s :: gs,true):=by
         rw [←HQ.out];unfold resetL
         rw [if_pos HBEL.out,hQ'];simp only
         rw [if_pos hE]
        obtain ⟨v9,r9,hat9,_⟩:=hu.rlogAt hju;have x5:=hat9.c5;have x5f:=hat9.fz 5
        obtain ⟨hL4,hb4⟩:=hu.setRLog hju 5 (.bool true) (g':={ g with segs:=s :: gs,dead:=true }) (fun v=>rfl) rfl
        rw [List.set_set] at hL4
        have HL4:Hid (Lies B (W3.setCell ⟨l,5,none⟩ (.bool true)) ((L.set i (.ref p R.2.1)).set j (.rlog l p R.2.2))):=by
         show Lies _ _ _
         rw [HRR.out,hRL0];exact hL4
        have hR1:R.1=E:=by rw [HRR.out,hRL0]
        have HR1:=hide hR1;have HB4:=hide (hbb3.trans hb4)
        have q9:(E != 0)=true:=by simpa using hE
        clear hl3 hb3 hb2 hbb3 hQ hQ' hu hju hcs hat9 hL4 hb4 hHeld hRL0 hR1;go_wp2;go_ret;rw [HR1.out];exact ⟨rfl,HL4.out,HB4.out⟩
end
end Go.Proofs.YtjbdncknooeplaaGreatDoor
namespace Go.Proofs.YtjbdncknooeplaaGreatDoor
open Go.RowKit Go.Maps
set_option linter.unusedVariables false
set_option linter.unusedSimpArgs false
structure WOp.Sz (o:WOp):Prop where
 name:o.name.size≤140737488355328
 fates:(o.fates.length+1) * 48≤140737488355328
def LS0 (bb pd px:Nat) (A:AD):List Item:=[Item.block bb (.cells #[.pointer (some ⟨pd,0,none⟩),.pointer none,.pointer (some ⟨px,0,none⟩),.pointer none] 58 (0,0)),Item.disk pd A,Item.ref px A]
def PSt (B:Nat) (w:World) (bb pd px:Nat):Prop:=(∃A,Lies B w (LS0 bb pd px A))∨(∃l m A g g',Lies B w (LS1 bb pd px l m A g g')∧g.Good∧LogEq g g')
section
variable {B:Nat} {w:World} {bb pd px l m:Nat} {A:AD} {g g':AL}
set_option maxRecDepth 100000 in
set_option maxHeartbeats 8000000 in
theorem plays0_any (h:Lies B w (LS0 bb pd px A)) (he:Env B w) (o:WOp) (ho:o.Ok) (hl:o.Lie B w) (hz:o.Sz) :
 Calls Tryz.prog 24 #[.pointer (some ⟨bb,0,none⟩),.agg o.cs] w fun e w'=>e=.returned (.bool true)∧PSt B w' bb pd px∧Below B w w':=by
 obtain ⟨bo,hbo⟩:∃x,w.heap.size=x:=⟨_,rfl⟩;obtain ⟨V,hV⟩:∃x,w.alloc (.cells o.cs 31)=x:=⟨_,rfl⟩;obtain ⟨hlv,hbv⟩:=h.newCells o.cs 31;rw [hV,hbo] at hlv;rw [hV] at hbv;have hlV:=hlv.drop;have b:=hlv.cellAt (q:=(LS0 bb pd px A).length) (b:=bo) (cs:=o.cs) get_t0;have z0:V.cell? ⟨bo,0,none⟩=some (.int .i64 o.kind):=b 0;have z1:V.cell? ⟨bo,1,none⟩=some (.string o.text):=b 1;have z2:V.cell? ⟨bo,2,none⟩=some (.string o.name):=b 2;have z3:V.cell? ⟨bo,3,none⟩=some (.int .i64 o.at_):=b 3;have z4:V.cell? ⟨bo,4,none⟩=some (.int .i64 o.n):=b 4;have z5:V.cell? ⟨bo,5,none⟩=some (.int .i64 o.first):=b 5;have z6:V.cell? ⟨bo,6,none⟩=some (.slice o.ad o.fates.length o.cap):=b 6;have y1:V.cell? ⟨bb,1,none⟩=some (.pointer none):=hlV.cellAt (q:=0) (b:=bb) rfl 1;have hcs:o.cs=#[.int .i64 o.kind,.string o.text,.string o.name,.int .i64 o.at_,.int .i64 o.n,.int .i64 o.first,.slice o.ad o.fates.length o.cap]:=rfl;have HOP:=hide (opens_any (X:=[]) (w:=V) (A:=A) (lp:=.pointer none) (rp:=.pointer none) hlV (he.below hbv) o ho hz.name)
 have HDK:=hide (disks_any (ib:=0) (id:=1) (ix:=2) (A:=A) (w:=V) hlV rfl rfl rfl (by omega) (by omega) (by omega) o ho (hl.below hbv) hz.fates)
 have HBV:=hide hbv;rw [hcs] at hV HOP HDK ⊢;clear h hlv hbv hlV b hcs hl hz ho
 by_cases hk:o.kind=3
 ·have k3:(o.kind == 3)=true:=by rw [beq_iff_eq];exact hk
  clear hk
  go_enter Tryz.func24,Tryz.ntmps24
  go_wp2_with fail;refine (HOP.out).mono ?_;rintro e Wd ⟨rfl,hst,hb⟩
  have HST:Hid (PSt B Wd bb pd px):=by
   rcases hst with ⟨A',hl⟩ | hst
   ·exact .inl ⟨A',hl⟩
   ·exact .inr hst
  have HB:=hide (HBV.out.trans hb);clear hst hb HOP HDK;go_wp2;go_ret;exact ⟨rfl,HST.out,HB.out⟩
 ·have k3:(o.kind == 3)=false:=by rw [beq_eq_false_iff_ne];exact hk
  clear hk
  go_enter Tryz.func24,Tryz.ntmps24
  go_wp2_with fail;refine (HDK.out).mono ?_;rintro e Wd ⟨rfl,⟨A',hst,hb⟩⟩;have HST:Hid (PSt B Wd bb pd px):=.inl ⟨A',hst⟩;have HB:=hide (HBV.out.trans hb);clear hst hb HOP HDK;go_wp2;go_ret;exact ⟨rfl,HST.out,HB.out⟩
set_option maxRecDepth 100000 in
set_option maxHeartbeats 8000000 in
theorem plays1_any (h:Lies B w (LS1 bb pd px l m A g g')) (hgd:g.Good) (hge:LogEq g g') (he:Env B w) (o:WOp) (ho:o.Ok) (hl:o.Lie B w) (hz:o.Sz) :
 Calls Tryz.prog 24 #[.pointer (some ⟨bb,0,none⟩),.agg o.cs] w fun e w'=>e=.returned (.bool true)∧PSt B w' bb pd px∧Below B w w':=by
 have hok:=h.ok (i:=1) (p:=pd) (A:=A) rfl;obtain ⟨bo,hbo⟩:∃x,w.heap.size=x:=⟨_,rfl⟩;obtain ⟨V,hV⟩:∃x,w.alloc (.cells o.cs 31)=x:=⟨_,rfl⟩;obtain ⟨hlv,hbv⟩:=h.newCells o.cs 31;rw [hV,hbo] at hlv;rw [hV] at hbv;have hlV:=hlv.drop
 have HSS:Hid (∀(wx:World) (A1 A2:AD) (g1 g2:AL),Lies B wx [Item.block bb (.cells #[.pointer (some ⟨pd,0,none⟩),.pointer (some ⟨l,0,none⟩),.pointer (some ⟨px,0,none⟩),.pointer (some ⟨m,0,none⟩)] 58 (0,0)),Item.disk pd A1,Item.ref px A2,Item.log l pd g1,Item.rlog m px g2,Item.block bo (.cells o.cs 31 (0,0))]→wx.cell? ⟨bb,1,none⟩=some (.pointer (some ⟨l,0,none⟩))∧wx.cell? ⟨bb,3,none⟩=some (.pointer (some ⟨m,0,none⟩))∧wx.cell? ⟨bo,0,none⟩=some (.int .i64 o.kind)∧wx.cell? ⟨bo,1,none⟩=some (.string o.text)∧wx.cell? ⟨bo,2,none⟩=some (.string o.name)∧wx.cell? ⟨bo,3,none⟩=some (.int .i64 o.at_)∧wx.cell? ⟨bo,4,none⟩=some (.int .i64 o.n)∧wx.cell? ⟨bo,5,none⟩=some (.int .i64 o.first)∧wx.cell? ⟨bo,6,none⟩=some (.slice o.ad o.fates.length o.cap)):=fun wx A1 A2 g1 g2 hl=>by
  have a:=hl.cellAt (q:=0) (b:=bb) rfl;have b:=hl.cellAt (q:=5) (b:=bo) (cs:=o.cs) rfl;exact ⟨a 1,a 3,b 0,b 1,b 2,b 3,b 4,b 5,b 6⟩
 obtain ⟨y1,y3,z0,z1,z2,z3,z4,z5,z6⟩:=HSS.out V A A g g' hlv;have hcs:o.cs=#[.int .i64 o.kind,.string o.text,.string o.name,.int .i64 o.at_,.int .i64 o.n,.int .i64 o.first,.slice o.ad o.fates.length o.cap]:=rfl;have HOP:=hide (opens_any (X:=[Item.log l pd g,Item.rlog m px g']) (w:=V) (A:=A) (lp:=.pointer (some ⟨l,0,none⟩)) (rp:=.pointer (some ⟨m,0,none⟩)) hlV (he.below hbv) o ho hz.name)
 have HDK:=hide (disks_any (ib:=0) (id:=1) (ix:=2) (A:=A) (w:=V) hlV rfl rfl rfl (by omega) (by omega) (by omega) o ho (hl.below hbv) hz.fates)
 have HBV:=hide hbv;have HLV:=hide hlv;have HOK:=hide hok;have HGD:=hide hgd;have HGE:=hide hge;have HENV:=hide he;have HO:=hide ho;rw [hcs] at hV HOP HDK ⊢;clear h hlv hbv hlV hcs hl hz hok hgd hge he ho
 by_cases hk:o.kind=3
 ·have k3:(o.kind == 3)=true:=by rw [beq_iff_eq];exact hk
  clear hk
  go_enter Tryz.func24,Tryz.ntmps24
  go_wp2_with fail;refine (HOP.out).mono ?_;rintro e Wd ⟨rfl,hst,hb⟩
  have HST:Hid (PSt B Wd bb pd px):=by
   rcases hst with ⟨A',hl⟩ | hst
   ·exact .inr ⟨l,m,A',g,g',hl,HGD.out,HGE.out⟩
   ·exact .inr hst
  have HB:=hide (HBV.out.trans hb);clear hst hb HOP HDK;go_wp2;go_ret;exact ⟨rfl,HST.out,HB.out⟩
 have k3:(o.kind == 3)=false:=by rw [beq_eq_false_iff_ne];exact hk
 clear hk
 by_cases hk1:o.kind=1
 ·have k1:(o.kind == 1)=true:=by rw [beq_iff_eq];exact hk1
  clear hk1;obtain ⟨E,A1,g1,hQ⟩:∃e a q,appA A g o.text=(e,a,q):=⟨_,_,_,rfl⟩;obtain ⟨a1,a2,a3⟩:=app_eq HGE.out A o.text
  obtain ⟨g2,hQ2⟩:∃q,appA A g' o.text=(E,A1,q):=⟨(appA A g' o.text).2.2,by rw [hQ] at a1 a2;exact Prod.ext a1.symm (Prod.ext a2.symm rfl)⟩
  have HG1:Hid (g1.Good):=by have:=HGD.out.app A o.text;rw [hQ] at this;exact this
  have HE1:Hid (LogEq g1 g2):=by rw [hQ,hQ2] at a3;exact a3
  have HQ:=hide hQ;have HQ2:=hide hQ2;clear hQ hQ2 a1 a2 a3 HOP HDK
  go_enter Tryz.func24,Tryz.ntmps24
  obtain ⟨V0,hV0⟩:∃x,V.drew=x:=⟨_,rfl⟩
  have hv0:=HLV.out.same (w':=V.drew) (Nat.le_refl _) (fun _ _ _=>rfl)
  rw [hV0] at hv0
  have hvb0:Below B w V0:=by rw [←hV0];exact HBV.out.drew
  have HS0:=hide (HSS.out V0 A A g g' hv0)
  have HCALL:=hide (append_any (i:=1) (j:=3) (l:=l) (p:=pd) (A:=A) (g:=g) hv0 rfl rfl (by omega) (HENV.out.below hvb0) HGD.out.fit o.text (E,A1,g1) HQ.out)
  have HV0:=hide hV0;have HVB:=hide hvb0;clear hV0 hv0 hvb0;go_wp2;refine wp_region_noPanic ?_
  refine wp_region_held_drew (S:=fun wx=>wx.cell? ⟨bb,1,none⟩=some (.pointer (some ⟨l,0,none⟩))∧wx.cell? ⟨bb,3,none⟩=some (.pointer (some ⟨m,0,none⟩))∧wx.cell? ⟨bo,0,none⟩=some (.int .i64 o.kind)∧wx.cell? ⟨bo,1,none⟩=some (.string o.text)∧wx.cell? ⟨bo,2,none⟩=some (.string o.name)∧wx.cell? ⟨bo,3,none⟩=some (.int .i64 o.at_)∧wx.cell? ⟨bo,4,none⟩=some (.int .i64 o.n)∧wx.cell? ⟨bo,5,none⟩=some (.int .i64 o.first)∧wx.cell? ⟨bo,6,none⟩=some (.slice o.ad o.fates.length o.cap)) (by kernel_rfl) (by rw [HV0.out];exact HS0.out) (fun hHeld=>?_)
  rw [HV0.out] at hHeld ⊢;refine tK 0 (some 32) (.pointer (some ⟨bb,0,none⟩)) rfl hHeld ?_;simp only [Act.put,pA,pB,pC];refine tK 1 (some 33) (.pointer (some ⟨bb,0,none⟩)) rfl hHeld ?_;simp only [Act.put,pA,pB,pC];refine tK 2 (some 34) (.pointer (some ⟨bb,1,none⟩)) rfl hHeld ?_;simp only [Act.put,pA,pB,pC]
  refine tH 3 (some 35) (.pointer (some ⟨l,0,none⟩)) rfl (fun w hw=>by obtain ⟨hw1,hw2,hw3,hw4,hw5,hw6,hw7,hw8,hw9⟩:=hw;first | rfl | (go_simp;done) | (go_simp;rfl)) hHeld ?_
  simp only [Act.put,pA,pB,pC];refine tK 4 (some 36) (.pointer (some ⟨bo,1,none⟩)) rfl hHeld ?_;simp only [Act.put,pA,pB,pC]
  refine tH 5 (some 37) (.string o.text) rfl (fun w hw=>by obtain ⟨hw1,hw2,hw3,hw4,hw5,hw6,hw7,hw8,hw9⟩:=hw;first | rfl | (go_simp;done) | (go_simp;rfl)) hHeld ?_
  simp only [Act.put,pA,pB,pC]
  refine rdH 6 rfl (fun K hK=>?_)
  go_simp
  refine (HCALL.out).mono ?_;rintro e Wd ⟨rfl,hld,hbd⟩
  try go_wp2_with fail
  refine hK.out _ _ ((HSS.out Wd A1 A g1 g' hld)) (fun hH=>?_)
  clear hK K hHeld;have hHeld:=hH;clear hH;refine tK 7 (some 5) (.int .i64 E) rfl hHeld ?_;simp only [Act.put,pA,pB,pC]
  refine ⟨by kernel_rfl,?_⟩
  refine NoPanic.normal ?_;have HL1:=hide hld;have HB1:=hide (HVB.out.trans hbd);clear hld hbd HS0 HCALL HV0 HVB hHeld;obtain ⟨V0,hV0⟩:∃x,Wd.drew=x:=⟨_,rfl⟩
  have hv0:=HL1.out.same (w':=Wd.drew) (Nat.le_refl _) (fun _ _ _=>rfl)
  rw [hV0] at hv0
  have hvb0:Below B w V0:=by rw [←hV0];exact HB1.out.drew
  have HS0:=hide (HSS.out V0 A1 A g1 g' hv0)
  have HCALL:=hide (rappend_any (i:=2) (j:=4) (l:=m) (p:=px) (A:=A) (g:=g') hv0 rfl HOK.out rfl (by omega) (HENV.out.below hvb0) (HGD.out.eq HGE.out).fit (HGD.out.eq HGE.out).next.1 o.text (E,A1,g2) HQ2.out)
  have HV0:=hide hV0;have HVB:=hide hvb0;clear hV0 hv0 hvb0;go_wp2;refine wp_region_noPanic ?_
  refine wp_region_held_drew (S:=fun wx=>wx.cell? ⟨bb,1,none⟩=some (.pointer (some ⟨l,0,none⟩))∧wx.cell? ⟨bb,3,none⟩=some (.pointer (some ⟨m,0,none⟩))∧wx.cell? ⟨bo,0,none⟩=some (.int .i64 o.kind)∧wx.cell? ⟨bo,1,none⟩=some (.string o.text)∧wx.cell? ⟨bo,2,none⟩=some (.string o.name)∧wx.cell? ⟨bo,3,none⟩=some (.int .i64 o.at_)∧wx.cell? ⟨bo,4,none⟩=some (.int .i64 o.n)∧wx.cell? ⟨bo,5,none⟩=some (.int .i64 o.first)∧wx.cell? ⟨bo,6,none⟩=some (.slice o.ad o.fates.length o.cap)) (by kernel_rfl) (by rw [HV0.out];exact HS0.out) (fun hHeld=>?_)
  rw [HV0.out] at hHeld ⊢;refine tK 0 (some 39) (.int .i64 E) rfl hHeld ?_;simp only [Act.put,pA,pB,pC];refine tK 1 (some 40) (.pointer (some ⟨bb,0,none⟩)) rfl hHeld ?_;simp only [Act.put,pA,pB,pC];refine tK 2 (some 41) (.pointer (some ⟨bb,0,none⟩)) rfl hHeld ?_;simp only [Act.put,pA,pB,pC];refine tK 3 (some 42) (.pointer (some ⟨bb,3,none⟩)) rfl hHeld ?_;simp only [Act.put,pA,pB,pC]
  refine tH 4 (some 43) (.pointer (some ⟨m,0,none⟩)) rfl (fun w hw=>by obtain ⟨hw1,hw2,hw3,hw4,hw5,hw6,hw7,hw8,hw9⟩:=hw;first | rfl | (go_simp;done) | (go_simp;rfl)) hHeld ?_
  simp only [Act.put,pA,pB,pC];refine tK 5 (some 44) (.pointer (some ⟨bo,1,none⟩)) rfl hHeld ?_;simp only [Act.put,pA,pB,pC]
  refine tH 6 (some 45) (.string o.text) rfl (fun w hw=>by obtain ⟨hw1,hw2,hw3,hw4,hw5,hw6,hw7,hw8,hw9⟩:=hw;first | rfl | (go_simp;done) | (go_simp;rfl)) hHeld ?_
  simp only [Act.put,pA,pB,pC]
  refine rdH 7 rfl (fun K hK=>?_)
  go_simp
  refine (HCALL.out).mono ?_;rintro e We ⟨rfl,hld,hbd⟩
  try go_wp2_with fail
  refine hK.out _ _ ((HSS.out We A1 A1 g1 g2 hld)) (fun hH=>?_)
  clear hK K hHeld;have hHeld:=hH;clear hH;refine tK 8 (some 47) (.bool true) rfl hHeld ?_;simp only [Act.put,pA,pB,pC];refine tK 9 (some 4) (.bool true) rfl hHeld ?_;simp only [Act.put,pA,pB,pC]
  refine ⟨by kernel_rfl,?_⟩
  refine NoPanic.normal ?_;have hl2:Lies B We (LS1 bb pd px l m A1 g1 g2++[Item.block bo (.cells o.cs 31 (0,0))]):=hld;have HST:Hid (PSt B We bb pd px):=.inr ⟨l,m,A1,g1,g2,hl2.drop,HG1.out,HE1.out⟩;have HB2:=hide (HVB.out.trans hbd);clear hld hbd HS0 HCALL HV0 HVB hHeld HL1 HB1 hl2;go_wp2;go_ret;exact ⟨rfl,HST.out,HB2.out⟩
 have k1:(o.kind == 1)=false:=by rw [beq_eq_false_iff_ne];exact hk1
 clear hk1
 by_cases hk2:o.kind=2
 ·have k2:(o.kind == 2)=true:=by rw [beq_iff_eq];exact hk2
  clear hk2;obtain ⟨E,A1,g1,hQ⟩:∃e a q,resetA A g o.first=(e,a,q):=⟨_,_,_,rfl⟩;obtain ⟨a1,a2,a3⟩:=reset_eq HGE.out A o.first
  obtain ⟨g2,hQ2⟩:∃q,resetA A g' o.first=(E,A1,q):=⟨(resetA A g' o.first).2.2,by rw [hQ] at a1 a2;exact Prod.ext a1.symm (Prod.ext a2.symm rfl)⟩
  have HG1:Hid (g1.Good):=by have:=HGD.out.reset A o.first;rw [hQ] at this;exact this
  have HE1:Hid (LogEq g1 g2):=by rw [hQ,hQ2] at a3;exact a3
  have HQ:=hide hQ;have HQ2:=hide hQ2;clear hQ hQ2 a1 a2 a3 HOP HDK
  go_enter Tryz.func24,Tryz.ntmps24
  obtain ⟨V0,hV0⟩:∃x,V.drew=x:=⟨_,rfl⟩
  have hv0:=HLV.out.same (w':=V.drew) (Nat.le_refl _) (fun _ _ _=>rfl)
  rw [hV0] at hv0
  have hvb0:Below B w V0:=by rw [←hV0];exact HBV.out.drew
  have HS0:=hide (HSS.out V0 A A g g' hv0)
  have HCALL:=hide (reset_any (i:=1) (j:=3) (l:=l) (p:=pd) (A:=A) (g:=g) hv0 rfl rfl (by omega) (HENV.out.below hvb0) HGD.out.fit o.first ⟨HO.out.f0,by have:=HO.out.f1;omega⟩ (E,A1,g1) HQ.out)
  have HV0:=hide hV0;have HVB:=hide hvb0;clear hV0 hv0 hvb0;go_wp2;refine wp_region_noPanic ?_
  refine wp_region_held_drew (S:=fun wx=>wx.cell? ⟨bb,1,none⟩=some (.pointer (some ⟨l,0,none⟩))∧wx.cell? ⟨bb,3,none⟩=some (.pointer (some ⟨m,0,none⟩))∧wx.cell? ⟨bo,0,none⟩=some (.int .i64 o.kind)∧wx.cell? ⟨bo,1,none⟩=some (.string o.text)∧wx.cell? ⟨bo,2,none⟩=some (.string o.name)∧wx.cell? ⟨bo,3,none⟩=some (.int .i64 o.at_)∧wx.cell? ⟨bo,4,none⟩=some (.int .i64 o.n)∧wx.cell? ⟨bo,5,none⟩=some (.int .i64 o.first)∧wx.cell? ⟨bo,6,none⟩=some (.slice o.ad o.fates.length o.cap)) (by kernel_rfl) (by rw [HV0.out];exact HS0.out) (fun hHeld=>?_)
  rw [HV0.out] at hHeld ⊢;refine tK 0 (some 50) (.pointer (some ⟨bb,0,none⟩)) rfl hHeld ?_;simp only [Act.put,pA,pB,pC];refine tK 1 (some 51) (.pointer (some ⟨bb,0,none⟩)) rfl hHeld ?_;simp only [Act.put,pA,pB,pC];refine tK 2 (some 52) (.pointer (some ⟨bb,1,none⟩)) rfl hHeld ?_;simp only [Act.put,pA,pB,pC]
  refine tH 3 (some 53) (.pointer (some ⟨l,0,none⟩)) rfl (fun w hw=>by obtain ⟨hw1,hw2,hw3,hw4,hw5,hw6,hw7,hw8,hw9⟩:=hw;first | rfl | (go_simp;done) | (go_simp;rfl)) hHeld ?_
  simp only [Act.put,pA,pB,pC];refine tK 4 (some 54) (.pointer (some ⟨bo,5,none⟩)) rfl hHeld ?_;simp only [Act.put,pA,pB,pC]
  refine tH 5 (some 55) (.int .i64 o.first) rfl (fun w hw=>by obtain ⟨hw1,hw2,hw3,hw4,hw5,hw6,hw7,hw8,hw9⟩:=hw;first | rfl | (go_simp;done) | (go_simp;rfl)) hHeld ?_
  simp only [Act.put,pA,pB,pC]
  refine rdH 6 rfl (fun K hK=>?_)
  go_simp
  refine (HCALL.out).mono ?_;rintro e Wd ⟨rfl,hld,hbd⟩
  try go_wp2_with fail
  refine hK.out _ _ ((HSS.out Wd A1 A g1 g' hld)) (fun hH=>?_)
  clear hK K hHeld;have hHeld:=hH;clear hH;refine tK 7 (some 6) (.int .i64 E) rfl hHeld ?_;simp only [Act.put,pA,pB,pC]
  refine ⟨by kernel_rfl,?_⟩
  refine NoPanic.normal ?_;have HL1:=hide hld;have HB1:=hide (HVB.out.trans hbd);clear hld hbd HS0 HCALL HV0 HVB hHeld;obtain ⟨V0,hV0⟩:∃x,Wd.drew=x:=⟨_,rfl⟩
  have hv0:=HL1.out.same (w':=Wd.drew) (Nat.le_refl _) (fun _ _ _=>rfl)
  rw [hV0] at hv0
  have hvb0:Below B w V0:=by rw [←hV0];exact HB1.out.drew
  have HS0:=hide (HSS.out V0 A1 A g1 g' hv0)
  have HCALL:=hide (rreset_any (i:=2) (j:=4) (l:=m) (p:=px) (A:=A) (g:=g') hv0 rfl HOK.out rfl (by omega) (HENV.out.below hvb0) (HGD.out.eq HGE.out).fit o.first ⟨HO.out.f0,by have:=HO.out.f1;omega⟩ (E,A1,g2) HQ2.out)
  have HV0:=hide hV0;have HVB:=hide hvb0;clear hV0 hv0 hvb0;go_wp2;refine wp_region_noPanic ?_
  refine wp_region_held_drew (S:=fun wx=>wx.cell? ⟨bb,1,none⟩=some (.pointer (some ⟨l,0,none⟩))∧wx.cell? ⟨bb,3,none⟩=some (.pointer (some ⟨m,0,none⟩))∧wx.cell? ⟨bo,0,none⟩=some (.int .i64 o.kind)∧wx.cell? ⟨bo,1,none⟩=some (.string o.text)∧wx.cell? ⟨bo,2,none⟩=some (.string o.name)∧wx.cell? ⟨bo,3,none⟩=some (.int .i64 o.at_)∧wx.cell? ⟨bo,4,none⟩=some (.int .i64 o.n)∧wx.cell? ⟨bo,5,none⟩=some (.int .i64 o.first)∧wx.cell? ⟨bo,6,none⟩=some (.slice o.ad o.fates.length o.cap)) (by kernel_rfl) (by rw [HV0.out];exact HS0.out) (fun hHeld=>?_)
  rw [HV0.out] at hHeld ⊢;refine tK 0 (some 57) (.int .i64 E) rfl hHeld ?_;simp only [Act.put,pA,pB,pC];refine tK 1 (some 58) (.pointer (some ⟨bb,0,none⟩)) rfl hHeld ?_;simp only [Act.put,pA,pB,pC];refine tK 2 (some 59) (.pointer (some ⟨bb,0,none⟩)) rfl hHeld ?_;simp only [Act.put,pA,pB,pC];refine tK 3 (some 60) (.pointer (some ⟨bb,3,none⟩)) rfl hHeld ?_;simp only [Act.put,pA,pB,pC]
  refine tH 4 (some 61) (.pointer (some ⟨m,0,none⟩)) rfl (fun w hw=>by obtain ⟨hw1,hw2,hw3,hw4,hw5,hw6,hw7,hw8,hw9⟩:=hw;first | rfl | (go_simp;done) | (go_simp;rfl)) hHeld ?_
  simp only [Act.put,pA,pB,pC];refine tK 5 (some 62) (.pointer (some ⟨bo,5,none⟩)) rfl hHeld ?_;simp only [Act.put,pA,pB,pC]
  refine tH 6 (some 63) (.int .i64 o.first) rfl (fun w hw=>by obtain ⟨hw1,hw2,hw3,hw4,hw5,hw6,hw7,hw8,hw9⟩:=hw;first | rfl | (go_simp;done) | (go_simp;rfl)) hHeld ?_
  simp only [Act.put,pA,pB,pC]
  refine rdH 7 rfl (fun K hK=>?_)
  go_simp
  refine (HCALL.out).mono ?_;rintro e We ⟨rfl,hld,hbd⟩
  try go_wp2_with fail
  refine hK.out _ _ ((HSS.out We A1 A1 g1 g2 hld)) (fun hH=>?_)
  clear hK K hHeld;have hHeld:=hH;clear hH;refine tK 8 (some 65) (.bool true) rfl hHeld ?_;simp only [Act.put,pA,pB,pC];refine tK 9 (some 4) (.bool true) rfl hHeld ?_;simp only [Act.put,pA,pB,pC]
  refine ⟨by kernel_rfl,?_⟩
  refine NoPanic.normal ?_;have hl2:Lies B We (LS1 bb pd px l m A1 g1 g2++[Item.block bo (.cells o.cs 31 (0,0))]):=hld;have HST:Hid (PSt B We bb pd px):=.inr ⟨l,m,A1,g1,g2,hl2.drop,HG1.out,HE1.out⟩;have HB2:=hide (HVB.out.trans hbd);clear hld hbd HS0 HCALL HV0 HVB hHeld HL1 HB1 hl2;go_wp2;go_ret;exact ⟨rfl,HST.out,HB2.out⟩
 have k2:(o.kind == 2)=false:=by rw [beq_eq_false_iff_ne];exact hk2
 clear hk2
 go_enter Tryz.func24,Tryz.ntmps24
 go_wp2_with fail;refine (HDK.out).mono ?_;rintro e Wd ⟨rfl,⟨A',hst,hb⟩⟩;have HST:Hid (PSt B Wd bb pd px):=.inr ⟨l,m,A',g,g',hst,HGD.out,HGE.out⟩;have HB:=hide (HBV.out.trans hb);clear hst hb HOP HDK;go_wp2;go_ret;exact ⟨rfl,HST.out,HB.out⟩
end
end Go.Proofs.YtjbdncknooeplaaGreatDoor
