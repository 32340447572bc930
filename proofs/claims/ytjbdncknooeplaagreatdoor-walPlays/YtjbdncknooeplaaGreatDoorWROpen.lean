import Derived.Test.YtjbdncknooeplaaGreatDoorWROpenK
namespace Go.Proofs.YtjbdncknooeplaaGreatDoor
open Go.RowKit Go.Maps
set_option linter.unusedVariables false
set_option linter.unusedSimpArgs false
structure Mk (n:Nat):Prop where
 it:True
section
variable {B:Nat} {w:World} {L:List Item} {i j l p:Nat} {A:AD} {g:AL}
set_option maxRecDepth 100000 in
set_option maxHeartbeats 8000000 in
theorem ropen_any (h:Lies B w L) (hi:L[i]?=some (.ref p A)) (hok:A.Ok) (he:Env B w) (nm:ByteArray) (hn:nm.size≤140737488355328) (sz first:Int) (hs:-9223372036854775808≤sz∧sz≤9223372036854775807) (hf:-9223372036854775808≤first∧first≤9223372036854775807) (R:ROpen) (hR:dOpenA A nm sz first=R) :
 Calls Tryz.prog 77 #[.pointer (some ⟨p,0,none⟩),.string nm,.int .i64 sz,.int .i64 first] w fun e w'=>ROpenPost B w L i p R e w':=by
 have hK:Lies B w (L.set i (.ref p A)):=by rw [hset_keep hi];exact h
 have HBAD:Hid (∀(W:World) (c:Int) (A':AD),R=⟨none,[],c,A'⟩→Lies B W (L.set i (.ref p A'))→Below B w W→ROpenPost B w L i p R (.returned (.tuple #[.pointer none,.slice none 0 0,.int .i64 c])) W):=fun W c A' hr hl hb=>by
  rw [hr];exact ⟨⟨rfl,hl⟩,hb⟩
 have hnc:=fun W=>rnamed_any nm (by unfold maxLen;omega) W
 have HN:=hide hnc;have HENV0:=hide he
 cases hb1:lnameOk nm.data.toList with
 | false=>
  rw [hb1] at HN
  have HRR:Hid (R=⟨none,[],1,A⟩):=by show _=_;rw [←hR];unfold dOpenA;rw [if_pos (.inl hb1)]
  have HK:=hide hK;clear h hR hK hnc HENV0
  go_enter Tryz.func77,Tryz.ntmps77
  go_wp2_with fail;refine (HN.out _).mono ?_;rintro e w1 ⟨rfl,rfl⟩;go_wp2;go_ret3;exact HBAD.out _ _ _ HRR.out HK.out (Below.refl _ _)
 | true=>
  rw [hb1] at HN
  by_cases hb2:sz<64
  ·have k2:decide (sz<64)=true:=decide_eq_true hb2
   have HRR:Hid (R=⟨none,[],1,A⟩):=by show _=_;rw [←hR];unfold dOpenA;rw [if_pos (.inr (.inl hb2))]
   have HK:=hide hK;clear h hR hK hnc HENV0
   go_enter Tryz.func77,Tryz.ntmps77
   go_wp2_with fail;refine (HN.out _).mono ?_;rintro e w1 ⟨rfl,rfl⟩;go_wp2;go_ret3;exact HBAD.out _ _ _ HRR.out HK.out (Below.refl _ _)
  have k2:decide (sz<64)=false:=decide_eq_false hb2
  by_cases hb3:1048576<sz
  ·have k3:decide (1048576<sz)=true:=decide_eq_true hb3
   have HRR:Hid (R=⟨none,[],1,A⟩):=by show _=_;rw [←hR];unfold dOpenA;rw [if_pos (.inr (.inr (.inl hb3)))]
   have HK:=hide hK;clear h hR hK hnc HENV0
   go_enter Tryz.func77,Tryz.ntmps77
   go_wp2_with fail;refine (HN.out _).mono ?_;rintro e w1 ⟨rfl,rfl⟩;go_wp2;go_ret3;exact HBAD.out _ _ _ HRR.out HK.out (Below.refl _ _)
  have k3:decide (1048576<sz)=false:=decide_eq_false hb3
  by_cases hb4:first<0
  ·have k4:decide (first<0)=true:=decide_eq_true hb4
   have HRR:Hid (R=⟨none,[],1,A⟩):=by show _=_;rw [←hR];unfold dOpenA;rw [if_pos (.inr (.inr (.inr (.inl hb4))))]
   have HK:=hide hK;clear h hR hK hnc HENV0
   go_enter Tryz.func77,Tryz.ntmps77
   go_wp2_with fail;refine (HN.out _).mono ?_;rintro e w1 ⟨rfl,rfl⟩;go_wp2;go_ret3;exact HBAD.out _ _ _ HRR.out HK.out (Below.refl _ _)
  have k4:decide (first<0)=false:=decide_eq_false hb4
  by_cases hb5:1152921504606846976<first
  ·have k5:decide (1152921504606846976<first)=true:=decide_eq_true hb5
   have HRR:Hid (R=⟨none,[],1,A⟩):=by show _=_;rw [←hR];unfold dOpenA;rw [if_pos (.inr (.inr (.inr (.inr hb5))))]
   have HK:=hide hK;clear h hR hK hnc HENV0
   go_enter Tryz.func77,Tryz.ntmps77
   go_wp2_with fail;refine (HN.out _).mono ?_;rintro e w1 ⟨rfl,rfl⟩;go_wp2;go_ret3;exact HBAD.out _ _ _ HRR.out HK.out (Below.refl _ _)
  have k5:decide (1152921504606846976<first)=false:=decide_eq_false hb5
  have hall:¬(lnameOk nm.data.toList=false∨sz<64∨1048576<sz∨first<0∨1152921504606846976<first):=by
   rintro (hc | hc | hc | hc | hc)
   ·rw [hb1] at hc;cases hc
   ·exact hb2 hc
   ·exact hb3 hc
   ·exact hb4 hc
   ·exact hb5 hc
  have hno:nm.size≤24:=by
   have h2:=hb1;unfold lnameOk at h2;simp only [Bool.and_eq_true,decide_eq_true_eq] at h2;rw [str_len] at h2;exact h2.1.2
  have hof:=r_off h hi;have HOF:=hide hof
  cases hb6:A.pow.off with
  | true=>
   rw [hb6] at HOF
   have HRR:Hid (R=⟨none,[],9,A⟩):=by show _=_;rw [←hR];unfold dOpenA;rw [if_neg hall,if_pos hb6]
   have HK:=hide hK;clear h hR hK hnc hof HENV0 hall hb6
   go_enter Tryz.func77,Tryz.ntmps77
   go_wp2_with fail;refine (HN.out _).mono ?_;rintro e w1 ⟨rfl,rfl⟩;go_wp2_with fail;refine (HOF.out).mono ?_;rintro e w1 ⟨rfl,rfl⟩;go_wp2;go_ret3;exact HBAD.out _ _ _ HRR.out HK.out (Below.refl _ _)
  | false=>
   rw [hb6] at HOF;obtain ⟨K,hKK⟩:∃K,nm.data.toList=K:=⟨_,rfl⟩;obtain ⟨ns,hns⟩:∃x,numsL A K=x:=⟨_,rfl⟩;obtain ⟨N,hN⟩:∃x,ns.length=x:=⟨_,rfl⟩
   have hN16:N≤16:=by rw [←hN,←hns];exact nums_few hok K
   have HIN:Hid (∀q,q<N→numAt' A K q=ns.getD q 0∧0≤ns.getD q 0∧ns.getD q 0≤9999999):=fun q hq=>by
    have hm:ns.getD q 0∈numsL A K:=by rw [hns,List.getD_eq_getElem?_getD,List.getElem?_eq_getElem (by omega)];exact List.getElem_mem _
    exact ⟨by unfold numAt';rw [hns],nums_in hm⟩
   have HGAP:Hid (consec ns=false→R=⟨none,[],60,A⟩):=fun hc=>by rw [←hR];exact dOpen_gap hall hb6 (by rw [hKK,hns];exact hc)
   have HTORN:Hid (∀k,k+1<N→(∀q,0<q→q≤k→(rS A K q).torn=false)→(rS A K (k+1)).torn=true→R=⟨none,[],60,A⟩):=fun k hk h1 h2=>by
    rw [←hR];exact dOpen_torn hall hb6 k (by rw [hKK,hns];omega) (by rw [hKK];exact h1) (by rw [hKK];exact h2)
   have HEND:Hid (consec ns=true→(∀q,0<q→q<N→(rS A K q).torn=false)→R=dEnd A nm sz first):=fun hc h1=>by
    rw [←hR];exact dOpen_end hall hb6 (by rw [hKK,hns];exact hc) (by rw [hKK,hns,hN];exact h1)
   have HFF:Hid (0≤first∧first≤1152921504606846976):=⟨by omega,by omega⟩
   have HKK:=hide hKK;have HNS:=hide hns;have HNL:=hide hN;have HOK:=hide hok;have HL:=hide h;have HI:=hide hi;have HNO:=hide hno;have HB6:=hide hb6;obtain ⟨l,hl⟩:∃x,w.heap.size=x:=⟨_,rfl⟩;obtain ⟨W2,hW2⟩:∃x,w.alloc (.cells #[.pointer (some ⟨p,0,none⟩),.string nm,.int .i64 sz,.slice none 0 0,.int .i64 first,.bool false] 102)=x:=⟨_,rfl⟩;obtain ⟨hl2,hb2⟩:=h.newCells #[.pointer (some ⟨p,0,none⟩),.string nm,.int .i64 sz,.slice none 0 0,.int .i64 first,.bool false] 102;rw [hW2,hl] at hl2;rw [hW2] at hb2;have hl3:=hl2.toRLog (q:=L.length) (nm:=nm) (sz:=sz) (fi:=first) get_t0;rw [set_t0] at hl3;have HNUM:=hide (rnumbers_any hl3 (i:=i) (j:=L.length) (get_tl hi) hok get_t0 hno (he.below hb2));have HB2:=hide hb2;have HW2:=hide hW2;have HLL:=hide hl;clear h hR hK hnc hof hall hb6 hi hno hl2 hl3 hb2 hok hns hN hKK
   go_enter Tryz.func77,Tryz.ntmps77
   go_wp2_with fail;refine (HN.out _).mono ?_;rintro e w1 ⟨rfl,hww⟩;obtain rfl:w=w1:=hww.symm;go_wp2_with fail;refine (HOF.out).mono ?_;rintro e w1 ⟨rfl,hww⟩;obtain rfl:w=w1:=hww.symm;go_wp2_with fail;refine (HNUM.out).mono ?_;rintro e W3 ⟨v3,rfl,hl3,hb3⟩;have hb3':=HB2.out.trans hb3;rw [HKK.out,HNS.out] at hl3 ⊢;clear hW2 hl HNUM HOF HN
   cases hcc:consec ns with
   | false=>
    have HRR:=hide (HGAP.out hcc)
    have HK:Hid (Lies B W3 (L.set i (.ref p A))):=by
     show Lies _ _ _
     rw [hset_keep HI.out]
     have:=hl3.drop
     exact this.drop
    have HB3:=hide hb3';clear hl3 hb3 hb3' hcc;go_wp2;go_ret3;exact HBAD.out _ _ _ HRR.out HK.out HB3.out
   | true=>
    rw [hcc,if_pos rfl] at hl3
    have HEND2:Hid ((∀q,0<q→q<N→(rS A K q).torn=false)→R=dEnd A nm sz first):=fun h=>HEND.out hcc h
    obtain ⟨adk,capk,hvk,_⟩:=row_at (hl3.rowOf (i:=(L++[Item.rlog l p ⟨nm,sz,[],first,false⟩]).length) get_t0);rw [List.length_map,HNL.out] at hvk;subst hvk;have hl4:=hl3.pushNil 9
    have e4:L++[Item.rlog l p ⟨nm,sz,[],first,false⟩]++[Item.row 3 (.slice adk N capk) (ns.map numI)]++[Item.row 9 (.slice none 0 0) []]=L++[Item.rlog l p ⟨nm,sz,[],first,false⟩,Item.row 3 (.slice adk N capk) (ns.map numI),Item.row 9 (.slice none 0 0) []]:=by simp
    rw [e4] at hl4;have HL4:=hide hl4;have HB3:=hide hb3';clear hl3 hb3 hb3' hcc hl4 e4;go_wp2
    go_loopw [14,15,16,17,18] (fun y fr nx ct ix wr=>∃k:Nat,k≤N∧ix=.int .i64 (k:Int)∧∃(s:RSt) (ady:Option Addr) (PL capy:Nat) (FR NX CT:Int),y=.slice ady PL capy∧fr=.int .i64 FR∧nx=.int .i64 NX∧ct=.int .i64 CT∧Hid (rS A K k=s∧s.pay.length=PL∧dFrom s=FR∧dNext s=NX∧(if s.torn=true then endAt A K (k - 1) else -1)=CT)∧Hid (∀q,0<q→q≤k→q<N→(rS A K q).torn=false)∧Hid (s.torn=true→k=N)∧Lies B wr (L++[.rlog l p ⟨nm,sz,dSegs A K k,first,false⟩,.row 3 (.slice adk N capk) (ns.map numI),.row 9 (.slice ady PL capy) (s.pay.map encStr)])∧Below B w wr) (fun y fr nx ct ix _=>N - (intOf ix).toNat)
    case atStart=>exact ⟨0,by omega,rfl,⟨[],0,(numsL A K).map seg0,false⟩,none,0,0,-1,-1,-1,rfl,rfl,rfl,rfl,⟨rfl,rfl,rfl,rfl,rfl⟩,fun q h0 hq _=>by omega,fun h=>(by cases h),HL4.out,HB3.out⟩
    case round=>
     obtain ⟨k,hk,rfl,s,ady,PL,capy,FR,NX,CT,rfl,rfl,rfl,rfl,HS,HNO2,HTN,hLr,hbr⟩:=hrel
     by_cases hlt:k<N
     ·have hnt:s.torn=false:=by
       cases hh:s.torn with
       | false=>rfl
       | true=>exact absurd (HTN.out hh) (by omega)
      have hCT:CT=-1:=by rw [←HS.out.2.2.2.2,hnt];rfl
      subst hCT;obtain ⟨n,hn⟩:∃n,ns.getD k 0=n:=⟨_,rfl⟩;obtain ⟨hna,hn0,hn1⟩:=HIN.out k hlt;rw [hn] at hna hn0 hn1
      obtain ⟨bk,ok,hadk,hbk,hck⟩:=(hLr.numAtRow get_t1).2 k (by have:=HNL.out;omega)
      subst hadk;rw [hn] at hck;obtain ⟨v,r,hat,hBl⟩:=hLr.rlogAt get_t0
      have HFILE:=hide (rfile_any (B:=B) l n nm wr hat.c1 (lt_of_some hat.cells) HNO.out hn0 (by omega) (he.below hbr) hLr.base)
      obtain ⟨T,hT⟩:∃T:ByteArray,T=⟨(txtAt A K k).toArray⟩:=⟨_,rfl⟩
      have HT:Hid (T.data.toList=txtAt A K k):=by show _=_;rw [hT]
      have HTZ:Hid (T.size≤1048576):=by
       show _≤_
       rw [←str_len,HT.out];exact text_len _ _
      obtain ⟨rc,hrc⟩:∃rc,(A.read (fileB nm n).data.toList 0 1048576).2=rc:=⟨_,rfl⟩
      have hrt:(⟨(A.read (fileB nm n).data.toList 0 1048576).1.toArray⟩:ByteArray)=T:=by
       rw [hT];unfold txtAt textOf;rw [hna,←HKK.out];rfl
      have HREAD:Hid (∀W:World,Lies B W (L++[.rlog l p ⟨nm,sz,dSegs A K k,first,false⟩,.row 3 (.slice (some ⟨bk,ok,none⟩) N capk) (ns.map numI),.row 9 (.slice ady PL capy) (s.pay.map encStr)])→Calls Tryz.prog 55 #[.pointer (some ⟨p,0,none⟩),.string (fileB nm n),.int .i64 0,.int .i64 1048576] W fun e w'=>e=.returned (.tuple #[.string T,.int .i64 rc])∧w'=W):=fun W hl=>by
       have:=r_read hl (i:=i) (get_tl HI.out) HOK.out (fileB nm n) 0 1048576
       rw [hrt,hrc] at this;exact this
      have dk:decide ((k:Int)<(N:Int))=true:=decide_eq_true (by omega)
      have dk':decide (k<N)=true:=decide_eq_true hlt
      have hk0:(0:Int)≤(k:Int):=by omega
      have hk1:(k:Int)<(N:Int):=by omega
      have HLr:=hide hLr;have HBr:=hide hbr;have HNA:=hide hna;have HTD:=hide hT;clear hLr hbr hat hrc hrt hna hnt hn hT;go_wp2_with fail;refine (HFILE.out).mono ?_;rintro e W1 ⟨rfl,hb1⟩;have hl1:=HLr.out.below hb1;have hbb1:=HBr.out.trans (hb1.mono HLr.out.base);go_wp2_with fail;refine (HREAD.out W1 hl1).mono ?_;rintro e W1' ⟨rfl,hww1⟩;obtain rfl:W1=W1':=hww1.symm;have HL1:=hide hl1;have HB1:=hide hbb1;clear hl1 hbb1 hb1 HLr HBr HREAD HFILE hck hbk
      by_cases hp:s.pay=[]
      case' pos=>
       have hFR:FR=-1:=by rw [←HS.out.2.2.1];unfold dFrom;rw [if_pos hp]
       have hNX:NX=-1:=by rw [←HS.out.2.2.2.1];unfold dNext;rw [if_pos hp]
       subst hFR hNX
       have hpr:(rS A K k).pay=[]:=by rw [HS.out.1];exact hp
       by_cases ht0:txtAt A K k=[]
       case' pos=>
        have hT0:T=⟨#[]⟩:=by rw [HTD.out,ht0]
        have hsw:=rS_whole A K k hpr (by rw [ht0,Fr.none_empty];rfl)
        rw [ht0] at hsw
        have HS1:Hid (rS A K (k+1)=⟨[],(rS A K (k+1)).next,(rS A K (k+1)).segs,false⟩):=by
         show _=_
         rw [rS_succ,hsw,hpr];rfl
        have HEN:Hid (endAt A K k=0):=by show _=_;unfold endAt;rw [hsw,ht0];rfl
        have HPL:Hid (PL=0):=by show _=_;rw [←HS.out.2.1,hp];rfl
        have HL1':Hid (Lies B W1 (L++[.rlog l p ⟨nm,sz,dSegs A K k,first,false⟩,.row 3 (.slice (some ⟨bk,ok,none⟩) N capk) (ns.map numI),.row 9 (.slice ady PL capy) (([]:List Key).map encStr)])):=by
         have:=HL1.out
         rw [hp] at this;exact this
        subst hT0;clear hsw ht0 hpr hp
        go_upto_region 30 with fail
        obtain ⟨s1,hs1⟩:∃s1,rS A K (k+1)=s1:=⟨_,rfl⟩
        have HQ:Hid (rS A K (k+1)=s1∧s1.pay.length=PL∧dFrom s1=-1∧dNext s1=-1∧endAt A K k=0∧s1.torn=false):=by
         show _∧_
         refine ⟨hs1,by rw [←hs1,HS1.out,HPL.out];rfl,by rw [←hs1,HS1.out];rfl,by rw [←hs1,HS1.out];rfl,HEN.out,by rw [←hs1,HS1.out]⟩
        have HLC:Hid (Lies B W1 (L++[.rlog l p ⟨nm,sz,dSegs A K k,first,false⟩,.row 3 (.slice (some ⟨bk,ok,none⟩) N capk) (ns.map numI),.row 9 (.slice ady PL capy) (s1.pay.map encStr)])):=by
         show Lies _ _ _
         rw [←hs1,HS1.out];exact HL1'.out
        have HBC:=HB1;clear hs1 HS1 HL1' HPL HEN HL1 HB1;have mk1:Mk 1:=⟨trivial⟩;have mk2:Mk 1:=⟨trivial⟩;have mk3:Mk 1:=⟨trivial⟩;have mk4:Mk 1:=⟨trivial⟩
       case' neg=>
        have hTne:T≠⟨#[]⟩:=by
         intro e;apply ht0;rw [←HT.out,e]
        have hTl:T.toList.isEmpty=false:=by
         rw [ByteArray.toList_eq,HT.out]
         cases hq:txtAt A K k with
         | nil=>exact absurd hq ht0
         | cons a b=>rfl
        have hTl2:(!T.toList.isEmpty)=true:=by rw [hTl];rfl
        have hbg:=rbegins_any T (by have:=HTZ.out;omega) W1
        rw [HT.out] at hbg;cases hw:(Fr.wholeT (txtAt A K k) (firstN (txtAt A K k))).isSome
        case' false=>
         rw [hw] at hbg;have hsw:=rS_whole A K k hpr hw
         have HS1:Hid (rS A K (k+1)=⟨[],(rS A K (k+1)).next,(rS A K (k+1)).segs,true⟩):=by
          show _=_
          rw [rS_succ,hsw,hpr];simp only [List.append_nil]
          congr 1
          cases hq:txtAt A K k with
          | nil=>exact absurd hq ht0
          | cons a b=>rfl
         have HEN:Hid (endAt A K k=0):=by show _=_;unfold endAt;rw [hsw];simp
         have HPL:Hid (PL=0):=by show _=_;rw [←HS.out.2.1,hp];rfl
         have HL1':Hid (Lies B W1 (L++[.rlog l p ⟨nm,sz,dSegs A K k,first,false⟩,.row 3 (.slice (some ⟨bk,ok,none⟩) N capk) (ns.map numI),.row 9 (.slice ady PL capy) (([]:List Key).map encStr)])):=by
          have:=HL1.out
          rw [hp] at this;exact this
         have HBG:=hide hbg;clear hsw ht0 hpr hp hbg hw;go_wp2_with fail;refine (HBG.out).mono ?_;rintro e W5 ⟨xx,rfl,_,hb5⟩;have HL5:=hide (HL1'.out.below hb5);have HB5:=hide (HB1.out.trans (hb5.mono HL1'.out.base));clear hb5
         go_upto_region 30 with fail
         obtain ⟨s1,hs1⟩:∃s1,rS A K (k+1)=s1:=⟨_,rfl⟩
         have HQ:Hid (rS A K (k+1)=s1∧s1.pay.length=PL∧dFrom s1=-1∧dNext s1=-1∧endAt A K k=0∧s1.torn=true):=by
          show _∧_
          refine ⟨hs1,by rw [←hs1,HS1.out,HPL.out];rfl,by rw [←hs1,HS1.out];rfl,by rw [←hs1,HS1.out];rfl,HEN.out,by rw [←hs1,HS1.out]⟩
         have HLC:Hid (Lies B W5 (L++[.rlog l p ⟨nm,sz,dSegs A K k,first,false⟩,.row 3 (.slice (some ⟨bk,ok,none⟩) N capk) (ns.map numI),.row 9 (.slice ady PL capy) (s1.pay.map encStr)])):=by
          show Lies _ _ _
          rw [←hs1,HS1.out];exact HL5.out
         have HBC:=HB5;clear hs1 HS1 HL1' HPL HEN HL1 HB1 HL5 HB5
         by_cases hlast:k+1<N
         case pos=>
          have HRR:=hide (HTORN.out k hlast (fun q h0 hq=>HNO2.out q h0 hq (by omega)) (by rw [HQ.out.1];exact HQ.out.2.2.2.2.2))
          have HKR:Hid (Lies B W5 (L.set i (.ref p A))):=by
           show Lies _ _ _
           rw [hset_keep HI.out];exact HLC.out.drop
          have dl:decide ((k:Int)<(N:Int) - 1)=true:=decide_eq_true (by omega)
          clear HLC;go_wp2;go_ret3;exact HBAD.out _ _ _ HRR.out HKR.out HBC.out
         case' neg=>
          have dl:decide ((k:Int)<(N:Int) - 1)=false:=decide_eq_false (by omega)
          have mk1:Mk 2:=⟨trivial⟩;have mk2:Mk 1:=⟨trivial⟩;have mk3:Mk 1:=⟨trivial⟩;have mk4:Mk 2:=⟨trivial⟩
        case' true=>
         rw [hw] at hbg;obtain ⟨hsne,hnx,hf0⟩:=rS_some A K k hpr hw;obtain ⟨NV,hNVd⟩:∃x,firstN (txtAt A K k)=x:=⟨_,rfl⟩;rw [hNVd] at hbg hnx hf0
         have hNV1:NV<1152921504606846976:=by rw [←hNVd];exact (firstN_range _).2
         have HSNE:=hide hsne;have HBG:=hide hbg;have HNV:=hide hnx;have HP:=hide hp;clear hsne hnx hNVd ht0 hpr hbg hw hp;go_wp2_with fail;refine (HBG.out).mono ?_;rintro e W4 ⟨xx,rfl,hxx,hb4⟩
         obtain rfl:NV=xx:=by first | exact (hxx rfl).symm | exact (hxx trivial).symm
         have hl4:=HL1.out.below hb4;have hbb4:=HB1.out.trans (hb4.mono HL1.out.base);clear HL1 HB1 hb4;have HL1:=hide hl4;have HB1:=hide hbb4
         have HSC:=hide (Fr.rscan_few T NV W4 (by omega) (by have:=HTZ.out;omega) (fun ps t' ht=>by
          have h1:=(scanA_found T.data.toList NV);have h2:=Fr.Told.le h1.told h1.none ht;have h3:=@scan_few' T.data.toList NV;have h4:=HTZ.out;rw [str_len] at h3
          omega))
         clear hl4 hbb4;go_wp2_with fail;refine (HSC.out).mono ?_;rintro e W5 ⟨adm,capm,ps,t',rfl,hown,hfd,hbb⟩;have hsa:=scanA_of hfd;have hfew:=@scan_few' T.data.toList NV;rw [hsa,str_len] at hfew;simp only at hfew
         have hps:ps.length≤16384:=by have:=HTZ.out;omega
         have hscat:scAt A K k=(ps,t'):=by unfold scAt;rw [HNV.out,←HT.out];exact hsa
         have HS1:Hid (rS A K (k+1)=⟨s.pay++ps,NV+ps.length,(rS A K (k+1)).segs,!t'.isEmpty⟩):=by
          show _=_
          rw [rS_succ,hscat,HNV.out,HS.out.1]
         have hEN:endAt A K k=((T.size - t'.length:Nat):Int):=by
          unfold endAt;rw [hscat,←HT.out,str_len]
         obtain ⟨EN,hEN2⟩:∃x:Int,((T.size - t'.length:Nat):Int)=x:=⟨_,rfl⟩;obtain ⟨TO,hTO⟩:∃x:Bool,(!t'.isEmpty)=x:=⟨_,rfl⟩;rw [hEN2] at hEN ⊢;rw [hTO] at HS1 ⊢
         have hl5:Lies B W5 ((L++[.rlog l p ⟨nm,sz,dSegs A K k,first,false⟩,.row 3 (.slice (some ⟨bk,ok,none⟩) N capk) (ns.map numI),.row 9 (.slice ady PL capy) (s.pay.map encStr)])++[.row 9 (.slice adm ps.length capm) (ps.map encStr)]):=HL1.out.push (it:=.row 9 (.slice adm ps.length capm) (ps.map encStr)) (S':=fun x=>(Value.slice adm ps.length capm).ownBlock=some x) hbb ⟨own_base' hown,fun _=>Iff.rfl⟩ (fun x hx=>(World.ownsRow.lt hown x hx).1)
         have e5:(L++[.rlog l p ⟨nm,sz,dSegs A K k,first,false⟩,.row 3 (.slice (some ⟨bk,ok,none⟩) N capk) (ns.map numI),.row 9 (.slice ady PL capy) (s.pay.map encStr)])++[Item.row 9 (.slice adm ps.length capm) (ps.map encStr)]=(L++[Item.rlog l p ⟨nm,sz,dSegs A K k,first,false⟩,.row 3 (.slice (some ⟨bk,ok,none⟩) N capk) (ns.map numI),.row 9 (.slice ady PL capy) (s.pay.map encStr),.row 9 (.slice adm ps.length capm) (ps.map encStr)]):=by simp
         rw [e5] at hl5
         have hpl:s.pay.length≤16384 * k:=by have:=(rS_bound A K k).2.2;rw [HS.out.1] at this;exact this
         obtain ⟨ad6,n6,cap6,W6,hap,hn6,hl6,hb6⟩:=app_texts hl5 (q:=L.length+2) (r:=L.length+3) get_t2 get_t3 (by omega) 34
         rw [set_t2] at hl6;have HL6:=hide hl6.unthird;have HB6':=hide (HB1.out.trans ((hbb.mono HL1.out.base).trans hb6));have HAP:=hide hap;have HEN:=hide hEN;have HN6:=hide hn6
         have hps0:(0:Int)≤(ps.length:Int):=by omega
         have hps1:(ps.length:Int)≤16384:=by omega
         clear hown hfd hbb hsa hfew hscat hEN hl5 e5 hpl hap hl6 hb6 hn6 hEN2 hTO
         go_upto_region 30 with (at_builtin;refine wpList_appS rfl _ _ _ rfl HAP.out ?_)
         obtain ⟨s1,hs1⟩:∃s1,rS A K (k+1)=s1:=⟨_,rfl⟩
         have HQ:Hid (rS A K (k+1)=s1∧s1.pay.length=n6∧dFrom s1=NV∧dNext s1=NV+ps.length∧endAt A K k=EN∧s1.torn=TO):=by
          show _∧_
          refine ⟨hs1,by rw [←hs1,HS1.out];exact HN6.out.symm,?_,?_,HEN.out,by rw [←hs1,HS1.out]⟩
          ·rw [←hs1,HS1.out];unfold dFrom;simp only
           rw [if_neg (by rw [HP.out];intro e;apply HSNE.out;have:=HS1.out;rw [rS_succ] at this;have:=congrArg RSt.pay this;simp only at this;rw [HS.out.1,HP.out,List.nil_append,List.nil_append] at this;rw [this];simpa using e),List.length_append]
           rw [HP.out,List.length_nil];omega
          ·rw [←hs1,HS1.out];unfold dNext;simp only
           rw [if_neg (by rw [HP.out];intro e;apply HSNE.out;have:=HS1.out;rw [rS_succ] at this;have:=congrArg RSt.pay this;simp only at this;rw [HS.out.1,HP.out,List.nil_append,List.nil_append] at this;rw [this];simpa using e)]
         have HLC:Hid (Lies B W6 (L++[.rlog l p ⟨nm,sz,dSegs A K k,first,false⟩,.row 3 (.slice (some ⟨bk,ok,none⟩) N capk) (ns.map numI),.row 9 (.slice ad6 n6 cap6) (s1.pay.map encStr)])):=by
          show Lies _ _ _
          rw [←hs1,HS1.out];exact HL6.out
         have HBC:=HB6';clear hs1 HS1 HL6 HN6 HEN HAP HB6' HSC HNV HP HL1 HB1;cases TO
         case' true=>
          by_cases hlast:k+1<N
          case pos=>
           have HRR:=hide (HTORN.out k hlast (fun q h0 hq=>HNO2.out q h0 hq (by omega)) (by rw [HQ.out.1];exact HQ.out.2.2.2.2.2))
           have HKR:Hid (Lies B W6 (L.set i (.ref p A))):=by
            show Lies _ _ _
            rw [hset_keep HI.out];exact HLC.out.drop
           have dl:decide ((k:Int)<(N:Int) - 1)=true:=decide_eq_true (by omega)
           clear HLC;go_wp2;go_ret3;exact HBAD.out _ _ _ HRR.out HKR.out HBC.out
          case' neg=>
           have dl:decide ((k:Int)<(N:Int) - 1)=false:=decide_eq_false (by omega)
           have mk1:Mk 3:=⟨trivial⟩;have mk2:Mk 2:=⟨trivial⟩;have mk3:Mk 2:=⟨trivial⟩;have mk4:Mk 3:=⟨trivial⟩
         case' false=>
          have mk1:Mk 3:=⟨trivial⟩;have mk2:Mk 2:=⟨trivial⟩;have mk3:Mk 2:=⟨trivial⟩;have mk4:Mk 4:=⟨trivial⟩
      case' neg=>
       have hFR:FR=s.next - s.pay.length:=by rw [←HS.out.2.2.1];unfold dFrom;rw [if_neg hp]
       have hNX:NX=s.next:=by rw [←HS.out.2.2.2.1];unfold dNext;rw [if_neg hp]
       have hpr:(rS A K k).pay≠[]:=by rw [HS.out.1];exact hp
       have h0:=rS_from A K k hpr;have h1:=(rS_bound A K k).2.1;rw [HS.out.1] at h0 h1
       have hf0:0≤FR:=by omega
       obtain ⟨NV,hNVd⟩:∃x,NX=x:=⟨_,rfl⟩
       have hNV0:0≤NV:=by omega
       have hNV1:NV≤1152921504606846976+16384 * 16:=by omega
       have HNV:Hid (nxAt A K k=NV):=by show _=_;unfold nxAt;rw [if_neg hpr,HS.out.1,←hNX,hNVd]
       have HFR:Hid (NV - s.pay.length=FR):=by show _=_;omega
       have HP:=hide hp;subst hNVd
       have q1:decide (FR<0)=false:=decide_eq_false (by omega)
       have q2:decide (0≤FR)=true:=decide_eq_true hf0
       have HSC:=hide (Fr.rscan_few T NX W1 (by omega) (by have:=HTZ.out;omega) (fun ps t' ht=>by
        have h1:=(scanA_found T.data.toList NX);have h2:=Fr.Told.le h1.told h1.none ht;have h3:=@scan_few' T.data.toList NX;have h4:=HTZ.out;rw [str_len] at h3
        omega))
       clear h0 h1 hFR hNX hpr hp;go_wp2_with fail;refine (HSC.out).mono ?_;rintro e W5 ⟨adm,capm,ps,t',rfl,hown,hfd,hbb⟩;have hsa:=scanA_of hfd;have hfew:=@scan_few' T.data.toList NX;rw [hsa,str_len] at hfew;simp only at hfew
       have hps:ps.length≤16384:=by have:=HTZ.out;omega
       have hscat:scAt A K k=(ps,t'):=by unfold scAt;rw [HNV.out,←HT.out];exact hsa
       have HS1:Hid (rS A K (k+1)=⟨s.pay++ps,NX+ps.length,(rS A K (k+1)).segs,!t'.isEmpty⟩):=by
        show _=_
        rw [rS_succ,hscat,HNV.out,HS.out.1]
       have hEN:endAt A K k=((T.size - t'.length:Nat):Int):=by
        unfold endAt;rw [hscat,←HT.out,str_len]
       obtain ⟨EN,hEN2⟩:∃x:Int,((T.size - t'.length:Nat):Int)=x:=⟨_,rfl⟩;obtain ⟨TO,hTO⟩:∃x:Bool,(!t'.isEmpty)=x:=⟨_,rfl⟩;rw [hEN2] at hEN ⊢;rw [hTO] at HS1 ⊢
       have hl5:Lies B W5 ((L++[.rlog l p ⟨nm,sz,dSegs A K k,first,false⟩,.row 3 (.slice (some ⟨bk,ok,none⟩) N capk) (ns.map numI),.row 9 (.slice ady PL capy) (s.pay.map encStr)])++[.row 9 (.slice adm ps.length capm) (ps.map encStr)]):=HL1.out.push (it:=.row 9 (.slice adm ps.length capm) (ps.map encStr)) (S':=fun x=>(Value.slice adm ps.length capm).ownBlock=some x) hbb ⟨own_base' hown,fun _=>Iff.rfl⟩ (fun x hx=>(World.ownsRow.lt hown x hx).1)
       have e5:(L++[.rlog l p ⟨nm,sz,dSegs A K k,first,false⟩,.row 3 (.slice (some ⟨bk,ok,none⟩) N capk) (ns.map numI),.row 9 (.slice ady PL capy) (s.pay.map encStr)])++[Item.row 9 (.slice adm ps.length capm) (ps.map encStr)]=(L++[Item.rlog l p ⟨nm,sz,dSegs A K k,first,false⟩,.row 3 (.slice (some ⟨bk,ok,none⟩) N capk) (ns.map numI),.row 9 (.slice ady PL capy) (s.pay.map encStr),.row 9 (.slice adm ps.length capm) (ps.map encStr)]):=by simp
       rw [e5] at hl5
       have hpl:s.pay.length≤16384 * k:=by have:=(rS_bound A K k).2.2;rw [HS.out.1] at this;exact this
       obtain ⟨ad6,n6,cap6,W6,hap,hn6,hl6,hb6⟩:=app_texts hl5 (q:=L.length+2) (r:=L.length+3) get_t2 get_t3 (by omega) 34
       rw [set_t2] at hl6;have HL6:=hide hl6.unthird;have HB6':=hide (HB1.out.trans ((hbb.mono HL1.out.base).trans hb6));have HAP:=hide hap;have HEN:=hide hEN;have HN6:=hide hn6
       have hps0:(0:Int)≤(ps.length:Int):=by omega
       have hps1:(ps.length:Int)≤16384:=by omega
       clear hown hfd hbb hsa hfew hscat hEN hl5 e5 hpl hap hl6 hb6 hn6 hEN2 hTO
       go_upto_region 30 with (at_builtin;refine wpList_appS rfl _ _ _ rfl HAP.out ?_)
       obtain ⟨s1,hs1⟩:∃s1,rS A K (k+1)=s1:=⟨_,rfl⟩
       have HQ:Hid (rS A K (k+1)=s1∧s1.pay.length=n6∧dFrom s1=FR∧dNext s1=NX+ps.length∧endAt A K k=EN∧s1.torn=TO):=by
        show _∧_
        refine ⟨hs1,by rw [←hs1,HS1.out];exact HN6.out.symm,?_,?_,HEN.out,by rw [←hs1,HS1.out]⟩
        ·rw [←hs1,HS1.out];unfold dFrom;simp only
         rw [if_neg (fun e=>HP.out (List.append_eq_nil_iff.1 e).1),List.length_append]
         have:=HFR.out;omega
        ·rw [←hs1,HS1.out];unfold dNext;simp only
         rw [if_neg (fun e=>HP.out (List.append_eq_nil_iff.1 e).1)]
       have HLC:Hid (Lies B W6 (L++[.rlog l p ⟨nm,sz,dSegs A K k,first,false⟩,.row 3 (.slice (some ⟨bk,ok,none⟩) N capk) (ns.map numI),.row 9 (.slice ad6 n6 cap6) (s1.pay.map encStr)])):=by
        show Lies _ _ _
        rw [←hs1,HS1.out];exact HL6.out
       have HBC:=HB6';clear hs1 HS1 HL6 HN6 HEN HAP HB6' HSC HNV HP HL1 HB1;cases TO
       case' true=>
        by_cases hlast:k+1<N
        case pos=>
         have HRR:=hide (HTORN.out k hlast (fun q h0 hq=>HNO2.out q h0 hq (by omega)) (by rw [HQ.out.1];exact HQ.out.2.2.2.2.2))
         have HKR:Hid (Lies B W6 (L.set i (.ref p A))):=by
          show Lies _ _ _
          rw [hset_keep HI.out];exact HLC.out.drop
         have dl:decide ((k:Int)<(N:Int) - 1)=true:=decide_eq_true (by omega)
         clear HLC;go_wp2;go_ret3;exact HBAD.out _ _ _ HRR.out HKR.out HBC.out
        case' neg=>
         have dl:decide ((k:Int)<(N:Int) - 1)=false:=decide_eq_false (by omega)
         have mk1:Mk 3:=⟨trivial⟩;have mk2:Mk 3:=⟨trivial⟩;have mk3:Mk 2:=⟨trivial⟩;have mk4:Mk 5:=⟨trivial⟩
       case' false=>
        have mk1:Mk 3:=⟨trivial⟩;have mk2:Mk 3:=⟨trivial⟩;have mk3:Mk 2:=⟨trivial⟩;have mk4:Mk 6:=⟨trivial⟩
      all_goals
       have hnr:=(HLC.out.numAtRow get_t1).2
       obtain ⟨bk',ok',hbk1,hbk,hck⟩:=hnr k (by have:=HNL.out;omega)
       cases hbk1;rw [←(HIN.out k hlt).1,HNA.out] at hck
       first
        | (have e:Mk 1:=mk1;clear e;obtain ⟨V0,hV0⟩:∃x,W1.drew=x:=⟨_,rfl⟩)
        | (have e:Mk 2:=mk1;clear e;obtain ⟨V0,hV0⟩:∃x,W5.drew=x:=⟨_,rfl⟩)
        | (have e:Mk 3:=mk1;clear e;obtain ⟨V0,hV0⟩:∃x,W6.drew=x:=⟨_,rfl⟩)
       first
        | (have e:Mk 1:=mk1;clear e;have hv0:=HLC.out.same (w':=W1.drew) (Nat.le_refl _) (fun _ _ _=>rfl))
        | (have e:Mk 2:=mk1;clear e;have hv0:=HLC.out.same (w':=W5.drew) (Nat.le_refl _) (fun _ _ _=>rfl))
        | (have e:Mk 3:=mk1;clear e;have hv0:=HLC.out.same (w':=W6.drew) (Nat.le_refl _) (fun _ _ _=>rfl))
       rw [hV0] at hv0
       have hvb0:Below B w V0:=by rw [←hV0];exact HBC.out.drew
       have hck0:V0.cell? ⟨bk,ok+k,none⟩=some (.int .i64 n):=by rw [←hV0];exact hck
       have hbk0:bk<V0.heap.size:=by rw [←hV0];exact hbk
       obtain ⟨v5,r5,hat5,_,hnew,_⟩:=hv0.rnewSegs get_t0
       have hrne:r5≠some bk:=hv0.rlogApartRow get_t0 get_t1 (by omega) hat5
       have c3:=hat5.c3;obtain ⟨g2,hg2⟩:∃x,V0.heap.size=x:=⟨_,rfl⟩
       first
        | (have e:Mk 1:=mk2;clear e;obtain ⟨V1,hV1⟩:∃x,V0.alloc (.cells (⟨n,0,(-1)⟩:ASeg).cs.toArray 105)=x:=⟨_,rfl⟩)
        | (have e:Mk 2:=mk2;clear e;obtain ⟨V1,hV1⟩:∃x,V0.alloc (.cells (⟨n,EN,(NV+ps.length)⟩:ASeg).cs.toArray 105)=x:=⟨_,rfl⟩)
        | (have e:Mk 3:=mk2;clear e;obtain ⟨V1,hV1⟩:∃x,V0.alloc (.cells (⟨n,EN,(NX+ps.length)⟩:ASeg).cs.toArray 105)=x:=⟨_,rfl⟩)
       first
        | (have e:Mk 1:=mk2;clear e;obtain ⟨v6,r6,V2,hap,hrow6,ht6,hown6⟩:=rapp_seg hat5.row (by show (dSegs A K k).length≤_;rw [dSegs_len];omega) ⟨n,0,(-1)⟩ 100 hV1 hg2)
        | (have e:Mk 2:=mk2;clear e;obtain ⟨v6,r6,V2,hap,hrow6,ht6,hown6⟩:=rapp_seg hat5.row (by show (dSegs A K k).length≤_;rw [dSegs_len];omega) ⟨n,EN,(NV+ps.length)⟩ 100 hV1 hg2)
        | (have e:Mk 3:=mk2;clear e;obtain ⟨v6,r6,V2,hap,hrow6,ht6,hown6⟩:=rapp_seg hat5.row (by show (dSegs A K k).length≤_;rw [dSegs_len];omega) ⟨n,EN,(NX+ps.length)⟩ 100 hV1 hg2)
       obtain ⟨hc3,hf3,hL3,hb3⟩:=hnew V2 v6 r6 _ hrow6 ht6 hown6;obtain ⟨ad4,cap4,hv4,_⟩:=hrow6;obtain ⟨ad5,cap5,hv5,_⟩:=hat5.row;have hn5:(dSegs A K k).length=k:=dSegs_len A K k
       first
        | (have e:Mk 1:=mk2;clear e;have hn4:((dSegs A K k)++[(⟨n,0,(-1)⟩:ASeg)]).length=k+1:=by rw [List.length_append,hn5];rfl)
        | (have e:Mk 2:=mk2;clear e;have hn4:((dSegs A K k)++[(⟨n,EN,(NV+ps.length)⟩:ASeg)]).length=k+1:=by rw [List.length_append,hn5];rfl)
        | (have e:Mk 3:=mk2;clear e;have hn4:((dSegs A K k)++[(⟨n,EN,(NX+ps.length)⟩:ASeg)]).length=k+1:=by rw [List.length_append,hn5];rfl)
       simp only at hv4 hv5;rw [hn4] at hv4;rw [hn5] at hv5;subst hv4 hv5;rw [set_t0] at hL3
       first
        | (have e:Mk 1:=mk2;clear e;have hV1':V0.alloc (.cells #[.int .i64 n,.int .i64 0,.int .i64 (-1)] 105)=V1:=hV1)
        | (have e:Mk 2:=mk2;clear e;have hV1':V0.alloc (.cells #[.int .i64 n,.int .i64 EN,.int .i64 (NV+ps.length)] 105)=V1:=hV1)
        | (have e:Mk 3:=mk2;clear e;have hV1':V0.alloc (.cells #[.int .i64 n,.int .i64 EN,.int .i64 (NX+ps.length)] 105)=V1:=hV1)
       have hbV1:Below V0.heap.size V0 V1:=by rw [←hV1];exact (Below.refl _ _).alloc (Nat.le_refl _) _
       have x3:=(World.cell?_of_block (a:=⟨l,3,none⟩) (hbV1.block l (lt_of_some hat5.cells))).trans c3;have xk:=(World.cell?_of_block (a:=⟨bk,ok+k,none⟩) (hbV1.block bk hbk0)).trans hck0
       have yk:V2.cell? ⟨bk,ok+k,none⟩=some (.int .i64 n):=(World.cell?_of_block (a:=⟨bk,ok+k,none⟩) (ht6.block bk hbk0 (fun hc=>hrne hc))).trans hck0
       obtain ⟨V3,hV3⟩:∃x,V2.setCell ⟨l,3,none⟩ (.slice ad4 (k+1) cap4)=x:=⟨_,rfl⟩;rw [hV3] at hL3 hb3
       first
        | (have e:Mk 1:=mk2;clear e;have hseg:dSegs A K (k+1)=dSegs A K k++[⟨n,0,(-1)⟩]:=by (show dSegs A K k++[_]=_;rw [HNA.out,HQ.out.2.2.2.2.1,HQ.out.1,HQ.out.2.2.2.1]))
        | (have e:Mk 2:=mk2;clear e;have hseg:dSegs A K (k+1)=dSegs A K k++[⟨n,EN,(NV+ps.length)⟩]:=by (show dSegs A K k++[_]=_;rw [HNA.out,HQ.out.2.2.2.2.1,HQ.out.1,HQ.out.2.2.2.1]))
        | (have e:Mk 3:=mk2;clear e;have hseg:dSegs A K (k+1)=dSegs A K k++[⟨n,EN,(NX+ps.length)⟩]:=by (show dSegs A K k++[_]=_;rw [HNA.out,HQ.out.2.2.2.2.1,HQ.out.1,HQ.out.2.2.2.1]))
       first
        | (have e:Mk 1:=mk3;clear e;have HL3:Hid (Lies B V3 (L++[.rlog l p ⟨nm,sz,dSegs A K (k+1),first,false⟩,.row 3 (.slice (some ⟨bk,ok,none⟩) N capk) (ns.map numI),.row 9 (.slice ady PL capy) (s1.pay.map encStr)])):=by (show Lies _ _ _;rw [hseg];exact hL3))
        | (have e:Mk 2:=mk3;clear e;have HL3:Hid (Lies B V3 (L++[.rlog l p ⟨nm,sz,dSegs A K (k+1),first,false⟩,.row 3 (.slice (some ⟨bk,ok,none⟩) N capk) (ns.map numI),.row 9 (.slice ad6 n6 cap6) (s1.pay.map encStr)])):=by (show Lies _ _ _;rw [hseg];exact hL3))
       have HB3:=hide (hvb0.trans hb3);have HAP:=hide hap;have HV1:=hide hV1';have HV0:=hide hV0;clear hV0 hv0 hvb0 hat5 hnew hV1 hL3 hb3 hn4 hn5 ht6 hown6 hap hbV1 hV1' hck hbk hseg hrne hbk0 HLC HBC hnr;go_wp2;refine wp_region_noPanic ?_
       refine wp_region_T (S:=fun wx=>wx.cell? ⟨l,3,none⟩=some (.slice ad5 k cap5)∧wx.cell? ⟨bk,ok+k,none⟩=some (.int .i64 n)) 16 (by kernel_rfl) (by rw [HV0.out];exact ⟨c3,hck0⟩) (fun hHeld=>?_)
       rw [HV0.out] at hHeld ⊢;refine tT 0 (some 121) (.pointer (some ⟨l,0,none⟩)) rfl hHeld ?_;simp only [Act.put,pA,pB,pC];refine tT 1 (some 122) (.pointer (some ⟨l,0,none⟩)) rfl hHeld ?_;simp only [Act.put,pA,pB,pC];refine tT 2 (some 123) (.pointer (some ⟨l,0,none⟩)) rfl hHeld ?_;simp only [Act.put,pA,pB,pC];refine tT 3 (some 124) (.pointer (some ⟨l,3,none⟩)) rfl hHeld ?_;simp only [Act.put,pA,pB,pC]
       refine tU 4 (some 125) (.slice ad5 k cap5) rfl (fun w hw=>by obtain ⟨hw1,hw2⟩:=hw;first | rfl | (go_simp;done) | (go_simp;rfl)) hHeld ?_
       simp only [Act.put,pA,pB,pC];refine tT 5 (some 126) (.slice (some ⟨bk,ok,none⟩) N capk) rfl hHeld ?_;simp only [Act.put,pA,pB,pC];refine tT 6 (some 127) (.int .i64 (k:Int)) rfl hHeld ?_;simp only [Act.put,pA,pB,pC]
       refine tU 7 (some 128) (.pointer (some ⟨bk,ok+k,none⟩)) rfl (fun w hw=>by first | rfl | (go_simp;done) | (go_simp;rfl) | (go_simp;intro hbad;exfalso;omega)) hHeld ?_
       simp only [Act.put,pA,pB,pC]
       refine tU 8 (some 129) (.int .i64 n) rfl (fun w hw=>by obtain ⟨hw1,hw2⟩:=hw;first | rfl | (go_simp;done) | (go_simp;rfl)) hHeld ?_
       simp only [Act.put,pA,pB,pC]
       first
        | (have e:Mk 1:=mk3;clear e;refine tT 9 (some 130) (.int .i64 0) rfl hHeld ?_)
        | (have e:Mk 2:=mk3;clear e;refine tT 9 (some 130) (.int .i64 EN) rfl hHeld ?_)
       simp only [Act.put,pA,pB,pC]
       first
        | (have e:Mk 1:=mk2;clear e;refine tT 10 (some 131) (.int .i64 (-1)) rfl hHeld ?_)
        | (have e:Mk 2:=mk2;clear e;refine tT 10 (some 131) (.int .i64 (NV+ps.length)) rfl hHeld ?_)
        | (have e:Mk 3:=mk2;clear e;refine tT 10 (some 131) (.int .i64 (NX+ps.length)) rfl hHeld ?_)
       simp only [Act.put,pA,pB,pC]
       first
        | (have e:Mk 1:=mk2;clear e;refine tT 11 (some 132) (.agg #[.int .i64 n,.int .i64 0,.int .i64 (-1)]) rfl hHeld ?_)
        | (have e:Mk 2:=mk2;clear e;refine tT 11 (some 132) (.agg #[.int .i64 n,.int .i64 EN,.int .i64 (NV+ps.length)]) rfl hHeld ?_)
        | (have e:Mk 3:=mk2;clear e;refine tT 11 (some 132) (.agg #[.int .i64 n,.int .i64 EN,.int .i64 (NX+ps.length)]) rfl hHeld ?_)
       simp only [Act.put,pA,pB,pC]
       refine readyT 12 (by kernel_rfl) rfl (by rfl) (fun K hK=>?_)
       go_simp
       rw [HV1.out]
       refine hK.out _ _ (fun _=>⟨x3,xk⟩) (fun hH=>?_)
       clear hHeld
       have hHeld:=hH (by decide)
       clear hK K hH
       refine readyT 13 (by kernel_rfl) rfl (by rfl) (fun K hK=>?_)
       refine wpRun (run_append_op _ _ _ rfl HAP.out) ?_;simp only [Act.put,pA,pB,pC]
       refine hK.out _ _ (fun _=>⟨hc3,yk⟩) (fun hH=>?_)
       clear hHeld
       have hHeld:=hH (by decide)
       clear hK K hH
       refine readyT 14 (by kernel_rfl) rfl (by rfl) (fun K hK=>?_)
       go_simp
       refine hK.out _ _ (fun _=>hHeld) (fun hH=>?_)
       clear hHeld
       have hHeld:=hH (by decide)
       clear hK K hH
       refine readyT 15 (by kernel_rfl) rfl (by rfl) (fun K hK=>?_)
       go_simp
       refine hK.out _ _ (fun _=>hHeld) (fun hH=>?_)
       clear hHeld
       have hHeld:=hH (by decide)
       clear hK K hH
       refine readyT 16 (by kernel_rfl) rfl (by rfl) (fun K hK=>?_)
       go_simp
       try rw [hV3]
       refine hK.out _ _ (fun x=>absurd rfl x) (fun _=>?_)
       clear hK K hHeld
       refine ⟨by kernel_rfl,?_⟩
       refine NoPanic.normal ?_;go_wp2;go_roundw
       case rel=>
        first
         | (have e:Mk 1:=mk4;clear e;exact ⟨k+1,by omega,by go_num,s1,ady,PL,capy,(-1),(-1),(-1),rfl,rfl,rfl,rfl,⟨HQ.out.1,HQ.out.2.1,HQ.out.2.2.1,HQ.out.2.2.2.1,by rw [HQ.out.2.2.2.2.2];rfl⟩,(fun q h0 hq hqN=>by first | exact HNO2.out q h0 (by omega) hqN | (rcases Nat.lt_or_ge q (k+1) with hx | hx<;>first | exact HNO2.out q h0 (by omega) hqN | (obtain rfl:q=k+1:=(by omega);rw [HQ.out.1];exact HQ.out.2.2.2.2.2))),(fun h=>by rw [HQ.out.2.2.2.2.2] at h;cases h),HL3.out,HB3.out⟩)
         | (have e:Mk 2:=mk4;clear e;exact ⟨k+1,by omega,by go_num,s1,ady,PL,capy,(-1),(-1),0,rfl,rfl,rfl,rfl,⟨HQ.out.1,HQ.out.2.1,HQ.out.2.2.1,HQ.out.2.2.2.1,by rw [HQ.out.2.2.2.2.2,if_pos rfl,Nat.add_sub_cancel];exact HQ.out.2.2.2.2.1⟩,(fun q h0 hq hqN=>by first | exact HNO2.out q h0 (by omega) hqN | (rcases Nat.lt_or_ge q (k+1) with hx | hx<;>first | exact HNO2.out q h0 (by omega) hqN | (obtain rfl:q=k+1:=(by omega);rw [HQ.out.1];exact HQ.out.2.2.2.2.2))),(fun _=>by omega),HL3.out,HB3.out⟩)
         | (have e:Mk 3:=mk4;clear e;exact ⟨k+1,by omega,by go_num,s1,ad6,n6,cap6,NV,(NV+ps.length),EN,rfl,rfl,rfl,rfl,⟨HQ.out.1,HQ.out.2.1,HQ.out.2.2.1,HQ.out.2.2.2.1,by rw [HQ.out.2.2.2.2.2,if_pos rfl,Nat.add_sub_cancel];exact HQ.out.2.2.2.2.1⟩,(fun q h0 hq hqN=>by first | exact HNO2.out q h0 (by omega) hqN | (rcases Nat.lt_or_ge q (k+1) with hx | hx<;>first | exact HNO2.out q h0 (by omega) hqN | (obtain rfl:q=k+1:=(by omega);rw [HQ.out.1];exact HQ.out.2.2.2.2.2))),(fun _=>by omega),HL3.out,HB3.out⟩)
         | (have e:Mk 4:=mk4;clear e;exact ⟨k+1,by omega,by go_num,s1,ad6,n6,cap6,NV,(NV+ps.length),(-1),rfl,rfl,rfl,rfl,⟨HQ.out.1,HQ.out.2.1,HQ.out.2.2.1,HQ.out.2.2.2.1,by rw [HQ.out.2.2.2.2.2];rfl⟩,(fun q h0 hq hqN=>by first | exact HNO2.out q h0 (by omega) hqN | (rcases Nat.lt_or_ge q (k+1) with hx | hx<;>first | exact HNO2.out q h0 (by omega) hqN | (obtain rfl:q=k+1:=(by omega);rw [HQ.out.1];exact HQ.out.2.2.2.2.2))),(fun h=>by rw [HQ.out.2.2.2.2.2] at h;cases h),HL3.out,HB3.out⟩)
         | (have e:Mk 5:=mk4;clear e;exact ⟨k+1,by omega,by go_num,s1,ad6,n6,cap6,FR,(NX+ps.length),EN,rfl,rfl,rfl,rfl,⟨HQ.out.1,HQ.out.2.1,HQ.out.2.2.1,HQ.out.2.2.2.1,by rw [HQ.out.2.2.2.2.2,if_pos rfl,Nat.add_sub_cancel];exact HQ.out.2.2.2.2.1⟩,(fun q h0 hq hqN=>by first | exact HNO2.out q h0 (by omega) hqN | (rcases Nat.lt_or_ge q (k+1) with hx | hx<;>first | exact HNO2.out q h0 (by omega) hqN | (obtain rfl:q=k+1:=(by omega);rw [HQ.out.1];exact HQ.out.2.2.2.2.2))),(fun _=>by omega),HL3.out,HB3.out⟩)
         | (have e:Mk 6:=mk4;clear e;exact ⟨k+1,by omega,by go_num,s1,ad6,n6,cap6,FR,(NX+ps.length),(-1),rfl,rfl,rfl,rfl,⟨HQ.out.1,HQ.out.2.1,HQ.out.2.2.1,HQ.out.2.2.2.1,by rw [HQ.out.2.2.2.2.2];rfl⟩,(fun q h0 hq hqN=>by first | exact HNO2.out q h0 (by omega) hqN | (rcases Nat.lt_or_ge q (k+1) with hx | hx<;>first | exact HNO2.out q h0 (by omega) hqN | (obtain rfl:q=k+1:=(by omega);rw [HQ.out.1];exact HQ.out.2.2.2.2.2))),(fun h=>by rw [HQ.out.2.2.2.2.2] at h;cases h),HL3.out,HB3.out⟩)
       case measure=>simp [intOf];omega
     ·obtain rfl:N=k:=by omega
      have hRE:R=dEnd A nm sz first:=HEND2.out (fun q h0 hq=>HNO2.out q h0 (by omega) hq)
      have dN:decide ((N:Int)<(N:Int))=false:=decide_eq_false (by omega)
      have hPLb:PL≤16384 * 16:=by have h1:=(rS_bound A K N).2.2;rw [HS.out.1,HS.out.2.1] at h1;omega
      by_cases hp:s.pay=[]
      ·have hFR:FR=-1:=by rw [←HS.out.2.2.1];unfold dFrom;rw [if_pos hp]
       subst hFR
       have HRE0:Hid (∀A1:AD,(if s.torn=true then (A.trunc (fileL K (numAt' A K (N - 1))) (endAt A K (N - 1))).2 else A)=A1→R=if (A1.syncs (ns.map (fileL K))).1≠0 then ⟨none,[],(A1.syncs (ns.map (fileL K))).1,(A1.syncs (ns.map (fileL K))).2⟩ else ⟨some ⟨nm,sz,dSegs A K N,first,false⟩,[],0,(A1.syncs (ns.map (fileL K))).2⟩):=fun A1 h1=>by
        rw [hRE,dEnd_good HKK.out (by rw [HNS.out];exact HNL.out) HS.out.1 (fun h=>h.1 hp) h1,HNS.out,if_pos hp,if_pos hp]
       have hl7:=hLr.rowSub (q:=L.length+2) (xs:=s.pay) get_t2;rw [set_t2,hp] at hl7;have HL7:=hide hl7;have HB7:=hide hbr;clear hLr hbr hl7 hp hRE
       cases htn:s.torn with
       | false=>
        have hA1:A=A:=rfl
        have hCT:CT=-1:=by rw [←HS.out.2.2.2.2,htn];rfl
        subst hCT
        have HRE:=hide (HRE0.out A (by rw [htn];rfl))
        have HOK1:=HOK
        have HLA:Hid (Lies B wr (L.set i (.ref p A)++[.rlog l p ⟨nm,sz,dSegs A K N,first,false⟩,.row 3 (.slice adk N capk) (ns.map numI),.sub (.slice ady PL capy) ([]:List Key)])):=by
         show Lies _ _ _
         rw [hset_keep HI.out];exact HL7.out
        clear hA1 htn HRE0;obtain ⟨Y,hY⟩:∃Y,A.syncs (ns.map (fileL K))=Y:=⟨_,rfl⟩
        have HRY:Hid (R=if Y.1≠0 then ⟨none,[],Y.1,Y.2⟩ else ⟨some ⟨nm,sz,dSegs A K N,first,false⟩,([]:List Key),0,Y.2⟩):=by
         show _=_
         rw [HRE.out,hY]
        have HY:=hide hY;clear hY HRE;go_wp2
        go_loopw [26,27] (fun ix ev wr=>∃k:Nat,k≤N∧ix=.int .i64 (k:Int)∧∃Ak:AD,Hid (Ak.syncs ((ns.map (fileL K)).drop k)=Y∧Ak.Ok)∧Lies B wr (L.set i (.ref p Ak)++[.rlog l p ⟨nm,sz,dSegs A K N,first,false⟩,.row 3 (.slice adk N capk) (ns.map numI),.sub (.slice ady PL capy) ([]:List Key)])∧Below B w wr) (fun ix ev _=>N - (intOf ix).toNat)
        case atStart=>exact ⟨0,by omega,rfl,A,⟨by rw [List.drop_zero];exact HY.out,HOK1.out⟩,HLA.out,HB7.out⟩
        case round=>
         obtain ⟨k,hk,rfl,Ak,HAK,hLk,hbk⟩:=hrel
         by_cases hlt:k<N
         ·obtain ⟨n,hn⟩:∃n,ns.getD k 0=n:=⟨_,rfl⟩
          obtain ⟨_,hn0,hn1⟩:=HIN.out k hlt;rw [hn] at hn0 hn1
          obtain ⟨bk,ok,hadk,hbkl,hck⟩:=(hLk.numAtRow get_t1).2 k (by have:=HNL.out;omega)
          subst hadk;rw [hn] at hck;obtain ⟨v,r,hat,hBl⟩:=hLk.rlogAt get_t0
          have HFILE:=hide (rfile_any (B:=B) l n nm wr hat.c1 (lt_of_some hat.cells) HNO.out hn0 (by omega) (he.below hbk) hLk.base)
          have HFD:Hid ((ns.map (fileL K)).drop k=fileL K n :: (ns.map (fileL K)).drop (k+1)):=by
           show _=_
           rw [files_drop K ns k (by have:=HNL.out;omega),hn]
          have hir:∀X:List Item,(L.set i (.ref p Ak)++X)[i]?=some (.ref p Ak):=fun X=>get_tl (List.getElem?_set_self (List.getElem?_eq_some_iff.1 HI.out).1)
          have HIR:=hide hir
          have dk:decide ((k:Int)<(N:Int))=true:=decide_eq_true (by omega)
          have dk':decide (k<N)=true:=decide_eq_true hlt
          have hk0:(0:Int)≤(k:Int):=by omega
          have hk1:(k:Int)<(N:Int):=by omega
          have HLk:=hide hLk;have HBk:=hide hbk;clear hLk hbk hat hn hir;go_wp2_with fail;refine (HFILE.out).mono ?_;rintro e W1 ⟨rfl,hb1⟩;have hl1:=HLk.out.below hb1;have hbb1:=HBk.out.trans (hb1.mono HLk.out.base);have HSY:=hide (r_sync hl1 (HIR.out _) HAK.out.2 (fileB nm n));clear hl1;go_wp2_with fail;refine (HSY.out).mono ?_;rintro e W2' ⟨rfl,hl2,hb2⟩
          have hfk:(fileB nm n).data.toList=fileL K n:=by rw [←HKK.out];rfl
          rw [hfk] at hl2 ⊢
          rw [set_tl (by rw [List.length_set];exact (List.getElem?_eq_some_iff.1 HI.out).1),List.set_set] at hl2
          obtain ⟨E,A',hQ⟩:∃e a,Ak.sync (fileL K n)=(e,a):=⟨_,_,rfl⟩
          have hokA:A'.Ok:=by have:=ok_sync (d:=fileL K n) HAK.out.2;rw [hQ] at this;exact this
          have hyy:Y=if E≠0 then (E,A') else A'.syncs ((ns.map (fileL K)).drop (k+1)):=by
           rw [←HAK.out.1,HFD.out]
           show (if (Ak.sync (fileL K n)).1≠0 then Ak.sync (fileL K n) else (Ak.sync (fileL K n)).2.syncs _)=_
           rw [hQ]
          rw [hQ] at hl2 ⊢;have HL2:=hide hl2;have HB2':=hide (hbb1.trans hb2);have HOKA:=hide hokA;have HYY:=hide hyy;clear hl2 hb2 hbb1 hb1 hQ hokA hyy HSY hfk hck
          by_cases hE:E=0
          ·subst hE
           have HYN:Hid (A'.syncs ((ns.map (fileL K)).drop (k+1))=Y):=by show _=_;rw [HYY.out,if_neg (by simp)]
           go_wp2;go_roundw
           case rel=>exact ⟨k+1,by omega,by go_num,A',⟨HYN.out,HOKA.out⟩,HL2.out,HB2'.out⟩
           case measure=>simp [intOf];omega
          ·have HRR:Hid (R=⟨none,[],E,A'⟩):=by
            show _=_
            rw [HRY.out,HYY.out,if_pos hE,if_pos hE]
           have q9:(E != 0)=true:=by simpa using hE
           have HKR:Hid (Lies B W2' (L.set i (.ref p A'))):=HL2.out.drop;go_wp2;go_ret3;exact HBAD.out _ _ _ HRR.out HKR.out HB2'.out
         ·obtain rfl:N=k:=by omega
          have hYk:Y=(0,Ak):=by
           rw [←HAK.out.1,List.drop_of_length_le (by rw [List.length_map,HNL.out];exact Nat.le_refl _)];rfl
          have HRR:Hid (R=⟨some ⟨nm,sz,dSegs A K N,first,false⟩,([]:List Key),0,Ak⟩):=by
           show _=_
           rw [HRY.out,hYk,if_neg (by simp)]
          obtain ⟨ad9,cap9,W9,hap,hl9,hb9⟩:=copy_sub hLk (q:=(L.set i (.ref p Ak)).length+2) get_t2 (by simp) 34
          have HL9:=hide hl9.keep_ad;have HB9:=hide (hbk.trans hb9);have HAP:=hide hap;clear hLk hbk hl9 hb9 hap hYk
          go_wp2_with (at_builtin;refine wpList_appS rfl _ _ _ rfl HAP.out ?_)
          go_ret3;rw [HRR.out];exact ⟨⟨l,_,rfl,HL9.out⟩,HB9.out⟩
       | true=>
        have hNpos:0<N:=rS_torn_pos (A:=A) (K:=K) (by rw [HS.out.1];exact htn)
        obtain ⟨m,hm⟩:∃m,N - 1=m:=⟨_,rfl⟩
        have hmi:(N:Int) - 1=(m:Int):=by omega
        have hCT:endAt A K m=CT:=by rw [←HS.out.2.2.2.2,htn,if_pos rfl,hm]
        have hCT0:0≤CT:=by rw [←hCT];unfold endAt;omega
        have q7:decide (0≤CT)=true:=decide_eq_true hCT0;obtain ⟨n,hn⟩:∃n,ns.getD m 0=n:=⟨_,rfl⟩
        obtain ⟨hna,hn0,hn1⟩:=HIN.out m (by omega)
        rw [hn] at hna hn0 hn1
        obtain ⟨bk,ok,hadk,hbkl,hck⟩:=(HL7.out.numAtRow get_t1).2 m (by have:=HNL.out;omega)
        subst hadk;rw [hn] at hck;obtain ⟨v,r,hat,hBl⟩:=HL7.out.rlogAt get_t0
        have HFILE:=hide (rfile_any (B:=B) l n nm wr hat.c1 (lt_of_some hat.cells) HNO.out hn0 (by omega) (he.below HB7.out) HL7.out.base)
        have hm0:(0:Int)≤(m:Int):=by omega
        have hm1:(m:Int)<(N:Int):=by omega
        have HM:=hide hm;have HCT:=hide hCT;have HNA:=hide hna;have HTN2:=hide htn;clear hat hn hm hCT hna htn;go_wp2_with fail;refine (HFILE.out).mono ?_;rintro e W8 ⟨rfl,hb8⟩;have hl8:=HL7.out.below hb8;have HTR:=hide (r_trunc hl8 (i:=i) (get_tl HI.out) HOK.out (fileB nm n) CT);have HB8:=hide (HB7.out.trans (hb8.mono HL7.out.base));clear hl8 hb8;go_wp2_with fail;refine (HTR.out).mono ?_;rintro e W9' ⟨rfl,hl9,hb9⟩
        have hfk:(fileB nm n).data.toList=fileL K n:=by rw [←HKK.out];rfl
        rw [hfk] at hl9 ⊢;rw [set_tl (List.getElem?_eq_some_iff.1 HI.out).1] at hl9;obtain ⟨E8,A1,hQ⟩:∃e a,A.trunc (fileL K n) CT=(e,a):=⟨_,_,rfl⟩
        have HOK1:Hid (A1.Ok):=by have:=ok_trunc (d:=fileL K n) (n:=CT) HOK.out;rw [hQ] at this;exact this
        have HRE:=hide (HRE0.out A1 (by rw [HTN2.out,if_pos rfl,HM.out,HNA.out,HCT.out,hQ]))
        rw [hQ] at hl9 ⊢;have HLA:=hide hl9;have HBA:=hide (HB8.out.trans hb9);clear hl9 hb9 hQ hfk HRE0 HTR HB8 hck;obtain ⟨adk,hadk⟩:∃adk:Option Addr,some (⟨bk,ok,none⟩:Addr)=adk:=⟨_,rfl⟩;rw [hadk] at HLA ⊢;clear hadk;obtain ⟨Y,hY⟩:∃Y,A1.syncs (ns.map (fileL K))=Y:=⟨_,rfl⟩
        have HRY:Hid (R=if Y.1≠0 then ⟨none,[],Y.1,Y.2⟩ else ⟨some ⟨nm,sz,dSegs A K N,first,false⟩,([]:List Key),0,Y.2⟩):=by
         show _=_
         rw [HRE.out,hY]
        have HY:=hide hY;clear hY HRE;go_wp2
        go_loopw [26,27] (fun ix ev wr=>∃k:Nat,k≤N∧ix=.int .i64 (k:Int)∧∃Ak:AD,Hid (Ak.syncs ((ns.map (fileL K)).drop k)=Y∧Ak.Ok)∧Lies B wr (L.set i (.ref p Ak)++[.rlog l p ⟨nm,sz,dSegs A K N,first,false⟩,.row 3 (.slice adk N capk) (ns.map numI),.sub (.slice ady PL capy) ([]:List Key)])∧Below B w wr) (fun ix ev _=>N - (intOf ix).toNat)
        case atStart=>exact ⟨0,by omega,rfl,A1,⟨by rw [List.drop_zero];exact HY.out,HOK1.out⟩,HLA.out,HBA.out⟩
        case round=>
         obtain ⟨k,hk,rfl,Ak,HAK,hLk,hbk⟩:=hrel
         by_cases hlt:k<N
         ·obtain ⟨n,hn⟩:∃n,ns.getD k 0=n:=⟨_,rfl⟩
          obtain ⟨_,hn0,hn1⟩:=HIN.out k hlt;rw [hn] at hn0 hn1
          obtain ⟨bk,ok,hadk,hbkl,hck⟩:=(hLk.numAtRow get_t1).2 k (by have:=HNL.out;omega)
          subst hadk;rw [hn] at hck;obtain ⟨v,r,hat,hBl⟩:=hLk.rlogAt get_t0
          have HFILE:=hide (rfile_any (B:=B) l n nm wr hat.c1 (lt_of_some hat.cells) HNO.out hn0 (by omega) (he.below hbk) hLk.base)
          have HFD:Hid ((ns.map (fileL K)).drop k=fileL K n :: (ns.map (fileL K)).drop (k+1)):=by
           show _=_
           rw [files_drop K ns k (by have:=HNL.out;omega),hn]
          have hir:∀X:List Item,(L.set i (.ref p Ak)++X)[i]?=some (.ref p Ak):=fun X=>get_tl (List.getElem?_set_self (List.getElem?_eq_some_iff.1 HI.out).1)
          have HIR:=hide hir
          have dk:decide ((k:Int)<(N:Int))=true:=decide_eq_true (by omega)
          have dk':decide (k<N)=true:=decide_eq_true hlt
          have hk0:(0:Int)≤(k:Int):=by omega
          have hk1:(k:Int)<(N:Int):=by omega
          have HLk:=hide hLk;have HBk:=hide hbk;clear hLk hbk hat hn hir;go_wp2_with fail;refine (HFILE.out).mono ?_;rintro e W1 ⟨rfl,hb1⟩;have hl1:=HLk.out.below hb1;have hbb1:=HBk.out.trans (hb1.mono HLk.out.base);have HSY:=hide (r_sync hl1 (HIR.out _) HAK.out.2 (fileB nm n));clear hl1;go_wp2_with fail;refine (HSY.out).mono ?_;rintro e W2' ⟨rfl,hl2,hb2⟩
          have hfk:(fileB nm n).data.toList=fileL K n:=by rw [←HKK.out];rfl
          rw [hfk] at hl2 ⊢
          rw [set_tl (by rw [List.length_set];exact (List.getElem?_eq_some_iff.1 HI.out).1),List.set_set] at hl2
          obtain ⟨E,A',hQ⟩:∃e a,Ak.sync (fileL K n)=(e,a):=⟨_,_,rfl⟩
          have hokA:A'.Ok:=by have:=ok_sync (d:=fileL K n) HAK.out.2;rw [hQ] at this;exact this
          have hyy:Y=if E≠0 then (E,A') else A'.syncs ((ns.map (fileL K)).drop (k+1)):=by
           rw [←HAK.out.1,HFD.out]
           show (if (Ak.sync (fileL K n)).1≠0 then Ak.sync (fileL K n) else (Ak.sync (fileL K n)).2.syncs _)=_
           rw [hQ]
          rw [hQ] at hl2 ⊢;have HL2:=hide hl2;have HB2':=hide (hbb1.trans hb2);have HOKA:=hide hokA;have HYY:=hide hyy;clear hl2 hb2 hbb1 hb1 hQ hokA hyy HSY hfk hck
          by_cases hE:E=0
          ·subst hE
           have HYN:Hid (A'.syncs ((ns.map (fileL K)).drop (k+1))=Y):=by show _=_;rw [HYY.out,if_neg (by simp)]
           go_wp2;go_roundw
           case rel=>exact ⟨k+1,by omega,by go_num,A',⟨HYN.out,HOKA.out⟩,HL2.out,HB2'.out⟩
           case measure=>simp [intOf];omega
          ·have HRR:Hid (R=⟨none,[],E,A'⟩):=by
            show _=_
            rw [HRY.out,HYY.out,if_pos hE,if_pos hE]
           have q9:(E != 0)=true:=by simpa using hE
           have HKR:Hid (Lies B W2' (L.set i (.ref p A'))):=HL2.out.drop;go_wp2;go_ret3;exact HBAD.out _ _ _ HRR.out HKR.out HB2'.out
         ·obtain rfl:N=k:=by omega
          have hYk:Y=(0,Ak):=by
           rw [←HAK.out.1,List.drop_of_length_le (by rw [List.length_map,HNL.out];exact Nat.le_refl _)];rfl
          have HRR:Hid (R=⟨some ⟨nm,sz,dSegs A K N,first,false⟩,([]:List Key),0,Ak⟩):=by
           show _=_
           rw [HRY.out,hYk,if_neg (by simp)]
          obtain ⟨ad9,cap9,W9,hap,hl9,hb9⟩:=copy_sub hLk (q:=(L.set i (.ref p Ak)).length+2) get_t2 (by simp) 34
          have HL9:=hide hl9.keep_ad;have HB9:=hide (hbk.trans hb9);have HAP:=hide hap;clear hLk hbk hl9 hb9 hap hYk
          go_wp2_with (at_builtin;refine wpList_appS rfl _ _ _ rfl HAP.out ?_)
          go_ret3;rw [HRR.out];exact ⟨⟨l,_,rfl,HL9.out⟩,HB9.out⟩
      ·have hFR:FR=s.next - s.pay.length:=by rw [←HS.out.2.2.1];unfold dFrom;rw [if_neg hp]
       have hNX:NX=s.next:=by rw [←HS.out.2.2.2.1];unfold dNext;rw [if_neg hp]
       have h0:=rS_from A K N (by rw [HS.out.1];exact hp)
       have h1:=(rS_bound A K N).2.1;rw [HS.out.1] at h0 h1
       have hf0:0≤FR:=by omega
       have q1:decide (0≤FR)=true:=decide_eq_true hf0
       have hFP:FR=NX - PL:=by rw [hFR,hNX,HS.out.2.1]
       by_cases hb1':first<FR
       ·have q2:decide (first<FR)=true:=decide_eq_true hb1'
        have HRR:Hid (R=⟨none,[],60,A⟩):=by
         show _=_
         rw [hRE]
         exact dEnd_bad HKK.out (by rw [HNS.out];exact HNL.out) HS.out.1 ⟨hp,.inl (by omega)⟩
        have HKR:Hid (Lies B wr (L.set i (.ref p A))):=by
         show Lies _ _ _
         rw [hset_keep HI.out];exact hLr.drop
        have HBR:=hide hbr;clear hLr hbr hp hRE hFR hNX h0 h1 hFP;go_wp2;go_ret3;exact HBAD.out _ _ _ HRR.out HKR.out HBR.out
       have q2:decide (first<FR)=false:=decide_eq_false hb1'
       by_cases hb2':NX<first
       ·have q3:decide (NX<first)=true:=decide_eq_true hb2'
        have HRR:Hid (R=⟨none,[],60,A⟩):=by
         show _=_
         rw [hRE]
         exact dEnd_bad HKK.out (by rw [HNS.out];exact HNL.out) HS.out.1 ⟨hp,.inr (by omega)⟩
        have HKR:Hid (Lies B wr (L.set i (.ref p A))):=by
         show Lies _ _ _
         rw [hset_keep HI.out];exact hLr.drop
        have HBR:=hide hbr;clear hLr hbr hp hRE hFR hNX h0 h1 hFP;go_wp2;go_ret3;exact HBAD.out _ _ _ HRR.out HKR.out HBR.out
       have q3:decide (NX<first)=false:=decide_eq_false hb2';obtain ⟨KK,hKK⟩:∃x:Nat,(first - FR).toNat=x:=⟨_,rfl⟩
       have hKi:first - FR=(KK:Int):=by omega
       have hKP:KK≤s.pay.length:=by rw [HS.out.2.1];omega
       obtain ⟨PAY2,hPAY2⟩:∃x,s.pay.drop KK=x:=⟨_,rfl⟩
       have hPL2:PAY2.length=PL - KK:=by rw [←hPAY2,List.length_drop,HS.out.2.1]
       have HRE0:Hid (∀A1:AD,(if s.torn=true then (A.trunc (fileL K (numAt' A K (N - 1))) (endAt A K (N - 1))).2 else A)=A1→R=if (A1.syncs (ns.map (fileL K))).1≠0 then ⟨none,[],(A1.syncs (ns.map (fileL K))).1,(A1.syncs (ns.map (fileL K))).2⟩ else ⟨some ⟨nm,sz,dSegs A K N,NX,false⟩,PAY2,0,(A1.syncs (ns.map (fileL K))).2⟩):=fun A1 h1=>by
        rw [hRE,dEnd_good HKK.out (by rw [HNS.out];exact HNL.out) HS.out.1 (fun h=>by rcases h.2 with hc | hc<;>omega) h1,HNS.out,if_neg hp,if_neg hp,←hNX,←hPAY2,←hKK,hFP,HS.out.2.1]
       obtain ⟨v4,r4,hat4,_⟩:=hLr.rlogAt get_t0;have x4:=hat4.c4;have x4f:=hat4.fz 4
       obtain ⟨hl6,hb6⟩:=hLr.setRLog get_t0 4 (.int .i64 NX) (g':=⟨nm,sz,dSegs A K N,NX,false⟩) (fun v=>rfl) rfl
       rw [set_t0] at hl6;obtain ⟨ad2,cap2,hcut,hl7⟩:=cut_texts hl6 (q:=L.length+2) (xs:=s.pay) get_t2 KK hKP;rw [set_t2,hPAY2] at hl7;obtain ⟨n2,hn2⟩:∃x,s.pay.length - KK=x:=⟨_,rfl⟩;rw [hn2] at hl7 hcut;obtain ⟨W7,hW7⟩:∃W,wr.setCell ⟨l,4,none⟩ (.int .i64 NX)=W:=⟨_,rfl⟩;rw [hW7] at hl7 hb6;have HL7:=hide hl7;have HB7:=hide (hbr.trans hb6)
       have HPL2:Hid (PAY2.length≤1000000000):=by show _≤_;omega
       clear hLr hbr hl6 hb6 hl7 hat4 hp hRE hFR hNX h0 h1 hFP hKK hKP hPAY2 hPL2 hn2
       cases htn:s.torn with
       | false=>
        have hA1:A=A:=rfl
        have hCT:CT=-1:=by rw [←HS.out.2.2.2.2,htn];rfl
        subst hCT
        have HRE:=hide (HRE0.out A (by rw [htn];rfl))
        have HOK1:=HOK
        have HLA:Hid (Lies B W7 (L.set i (.ref p A)++[.rlog l p ⟨nm,sz,dSegs A K N,NX,false⟩,.row 3 (.slice adk N capk) (ns.map numI),.sub (.slice ad2 n2 cap2) PAY2])):=by
         show Lies _ _ _
         rw [hset_keep HI.out];exact HL7.out
        clear hA1 htn HRE0;obtain ⟨Y,hY⟩:∃Y,A.syncs (ns.map (fileL K))=Y:=⟨_,rfl⟩
        have HRY:Hid (R=if Y.1≠0 then ⟨none,[],Y.1,Y.2⟩ else ⟨some ⟨nm,sz,dSegs A K N,NX,false⟩,PAY2,0,Y.2⟩):=by
         show _=_
         rw [HRE.out,hY]
        have HY:=hide hY;clear hY HRE;go_wp2
        go_loopw [26,27] (fun ix ev wr=>∃k:Nat,k≤N∧ix=.int .i64 (k:Int)∧∃Ak:AD,Hid (Ak.syncs ((ns.map (fileL K)).drop k)=Y∧Ak.Ok)∧Lies B wr (L.set i (.ref p Ak)++[.rlog l p ⟨nm,sz,dSegs A K N,NX,false⟩,.row 3 (.slice adk N capk) (ns.map numI),.sub (.slice ad2 n2 cap2) PAY2])∧Below B w wr) (fun ix ev _=>N - (intOf ix).toNat)
        case atStart=>exact ⟨0,by omega,rfl,A,⟨by rw [List.drop_zero];exact HY.out,HOK1.out⟩,HLA.out,HB7.out⟩
        case round=>
         obtain ⟨k,hk,rfl,Ak,HAK,hLk,hbk⟩:=hrel
         by_cases hlt:k<N
         ·obtain ⟨n,hn⟩:∃n,ns.getD k 0=n:=⟨_,rfl⟩
          obtain ⟨_,hn0,hn1⟩:=HIN.out k hlt;rw [hn] at hn0 hn1
          obtain ⟨bk,ok,hadk,hbkl,hck⟩:=(hLk.numAtRow get_t1).2 k (by have:=HNL.out;omega)
          subst hadk;rw [hn] at hck;obtain ⟨v,r,hat,hBl⟩:=hLk.rlogAt get_t0
          have HFILE:=hide (rfile_any (B:=B) l n nm wr hat.c1 (lt_of_some hat.cells) HNO.out hn0 (by omega) (he.below hbk) hLk.base)
          have HFD:Hid ((ns.map (fileL K)).drop k=fileL K n :: (ns.map (fileL K)).drop (k+1)):=by
           show _=_
           rw [files_drop K ns k (by have:=HNL.out;omega),hn]
          have hir:∀X:List Item,(L.set i (.ref p Ak)++X)[i]?=some (.ref p Ak):=fun X=>get_tl (List.getElem?_set_self (List.getElem?_eq_some_iff.1 HI.out).1)
          have HIR:=hide hir
          have dk:decide ((k:Int)<(N:Int))=true:=decide_eq_true (by omega)
          have dk':decide (k<N)=true:=decide_eq_true hlt
          have hk0:(0:Int)≤(k:Int):=by omega
          have hk1:(k:Int)<(N:Int):=by omega
          have HLk:=hide hLk;have HBk:=hide hbk;clear hLk hbk hat hn hir;go_wp2_with fail;refine (HFILE.out).mono ?_;rintro e W1 ⟨rfl,hb1⟩;have hl1:=HLk.out.below hb1;have hbb1:=HBk.out.trans (hb1.mono HLk.out.base);have HSY:=hide (r_sync hl1 (HIR.out _) HAK.out.2 (fileB nm n));clear hl1;go_wp2_with fail;refine (HSY.out).mono ?_;rintro e W2' ⟨rfl,hl2,hb2⟩
          have hfk:(fileB nm n).data.toList=fileL K n:=by rw [←HKK.out];rfl
          rw [hfk] at hl2 ⊢
          rw [set_tl (by rw [List.length_set];exact (List.getElem?_eq_some_iff.1 HI.out).1),List.set_set] at hl2
          obtain ⟨E,A',hQ⟩:∃e a,Ak.sync (fileL K n)=(e,a):=⟨_,_,rfl⟩
          have hokA:A'.Ok:=by have:=ok_sync (d:=fileL K n) HAK.out.2;rw [hQ] at this;exact this
          have hyy:Y=if E≠0 then (E,A') else A'.syncs ((ns.map (fileL K)).drop (k+1)):=by
           rw [←HAK.out.1,HFD.out]
           show (if (Ak.sync (fileL K n)).1≠0 then Ak.sync (fileL K n) else (Ak.sync (fileL K n)).2.syncs _)=_
           rw [hQ]
          rw [hQ] at hl2 ⊢;have HL2:=hide hl2;have HB2':=hide (hbb1.trans hb2);have HOKA:=hide hokA;have HYY:=hide hyy;clear hl2 hb2 hbb1 hb1 hQ hokA hyy HSY hfk hck
          by_cases hE:E=0
          ·subst hE
           have HYN:Hid (A'.syncs ((ns.map (fileL K)).drop (k+1))=Y):=by show _=_;rw [HYY.out,if_neg (by simp)]
           go_wp2;go_roundw
           case rel=>exact ⟨k+1,by omega,by go_num,A',⟨HYN.out,HOKA.out⟩,HL2.out,HB2'.out⟩
           case measure=>simp [intOf];omega
          ·have HRR:Hid (R=⟨none,[],E,A'⟩):=by
            show _=_
            rw [HRY.out,HYY.out,if_pos hE,if_pos hE]
           have q9:(E != 0)=true:=by simpa using hE
           have HKR:Hid (Lies B W2' (L.set i (.ref p A'))):=HL2.out.drop;go_wp2;go_ret3;exact HBAD.out _ _ _ HRR.out HKR.out HB2'.out
         ·obtain rfl:N=k:=by omega
          have hYk:Y=(0,Ak):=by
           rw [←HAK.out.1,List.drop_of_length_le (by rw [List.length_map,HNL.out];exact Nat.le_refl _)];rfl
          have HRR:Hid (R=⟨some ⟨nm,sz,dSegs A K N,NX,false⟩,PAY2,0,Ak⟩):=by
           show _=_
           rw [HRY.out,hYk,if_neg (by simp)]
          obtain ⟨ad9,cap9,W9,hap,hl9,hb9⟩:=copy_sub hLk (q:=(L.set i (.ref p Ak)).length+2) get_t2 HPL2.out 34;have HL9:=hide hl9.keep_ad;have HB9:=hide (hbk.trans hb9);have HAP:=hide hap;clear hLk hbk hl9 hb9 hap hYk
          go_wp2_with (at_builtin;refine wpList_appS rfl _ _ _ rfl HAP.out ?_)
          go_ret3;rw [HRR.out];exact ⟨⟨l,_,rfl,HL9.out⟩,HB9.out⟩
       | true=>
        have hNpos:0<N:=rS_torn_pos (A:=A) (K:=K) (by rw [HS.out.1];exact htn)
        obtain ⟨m,hm⟩:∃m,N - 1=m:=⟨_,rfl⟩
        have hmi:(N:Int) - 1=(m:Int):=by omega
        have hCT:endAt A K m=CT:=by rw [←HS.out.2.2.2.2,htn,if_pos rfl,hm]
        have hCT0:0≤CT:=by rw [←hCT];unfold endAt;omega
        have q7:decide (0≤CT)=true:=decide_eq_true hCT0;obtain ⟨n,hn⟩:∃n,ns.getD m 0=n:=⟨_,rfl⟩
        obtain ⟨hna,hn0,hn1⟩:=HIN.out m (by omega)
        rw [hn] at hna hn0 hn1
        obtain ⟨bk,ok,hadk,hbkl,hck⟩:=(HL7.out.numAtRow get_t1).2 m (by have:=HNL.out;omega)
        subst hadk;rw [hn] at hck;obtain ⟨v,r,hat,hBl⟩:=HL7.out.rlogAt get_t0
        have HFILE:=hide (rfile_any (B:=B) l n nm W7 hat.c1 (lt_of_some hat.cells) HNO.out hn0 (by omega) (he.below HB7.out) HL7.out.base)
        have hm0:(0:Int)≤(m:Int):=by omega
        have hm1:(m:Int)<(N:Int):=by omega
        have HM:=hide hm;have HCT:=hide hCT;have HNA:=hide hna;have HTN2:=hide htn;clear hat hn hm hCT hna htn;go_wp2_with fail;refine (HFILE.out).mono ?_;rintro e W8 ⟨rfl,hb8⟩;have hl8:=HL7.out.below hb8;have HTR:=hide (r_trunc hl8 (i:=i) (get_tl HI.out) HOK.out (fileB nm n) CT);have HB8:=hide (HB7.out.trans (hb8.mono HL7.out.base));clear hl8 hb8;go_wp2_with fail;refine (HTR.out).mono ?_;rintro e W9' ⟨rfl,hl9,hb9⟩
        have hfk:(fileB nm n).data.toList=fileL K n:=by rw [←HKK.out];rfl
        rw [hfk] at hl9 ⊢;rw [set_tl (List.getElem?_eq_some_iff.1 HI.out).1] at hl9;obtain ⟨E8,A1,hQ⟩:∃e a,A.trunc (fileL K n) CT=(e,a):=⟨_,_,rfl⟩
        have HOK1:Hid (A1.Ok):=by have:=ok_trunc (d:=fileL K n) (n:=CT) HOK.out;rw [hQ] at this;exact this
        have HRE:=hide (HRE0.out A1 (by rw [HTN2.out,if_pos rfl,HM.out,HNA.out,HCT.out,hQ]))
        rw [hQ] at hl9 ⊢;have HLA:=hide hl9;have HBA:=hide (HB8.out.trans hb9);clear hl9 hb9 hQ hfk HRE0 HTR HB8 hck;obtain ⟨adk,hadk⟩:∃adk:Option Addr,some (⟨bk,ok,none⟩:Addr)=adk:=⟨_,rfl⟩;rw [hadk] at HLA ⊢;clear hadk;obtain ⟨Y,hY⟩:∃Y,A1.syncs (ns.map (fileL K))=Y:=⟨_,rfl⟩
        have HRY:Hid (R=if Y.1≠0 then ⟨none,[],Y.1,Y.2⟩ else ⟨some ⟨nm,sz,dSegs A K N,NX,false⟩,PAY2,0,Y.2⟩):=by
         show _=_
         rw [HRE.out,hY]
        have HY:=hide hY;clear hY HRE;go_wp2
        go_loopw [26,27] (fun ix ev wr=>∃k:Nat,k≤N∧ix=.int .i64 (k:Int)∧∃Ak:AD,Hid (Ak.syncs ((ns.map (fileL K)).drop k)=Y∧Ak.Ok)∧Lies B wr (L.set i (.ref p Ak)++[.rlog l p ⟨nm,sz,dSegs A K N,NX,false⟩,.row 3 (.slice adk N capk) (ns.map numI),.sub (.slice ad2 n2 cap2) PAY2])∧Below B w wr) (fun ix ev _=>N - (intOf ix).toNat)
        case atStart=>exact ⟨0,by omega,rfl,A1,⟨by rw [List.drop_zero];exact HY.out,HOK1.out⟩,HLA.out,HBA.out⟩
        case round=>
         obtain ⟨k,hk,rfl,Ak,HAK,hLk,hbk⟩:=hrel
         by_cases hlt:k<N
         ·obtain ⟨n,hn⟩:∃n,ns.getD k 0=n:=⟨_,rfl⟩
          obtain ⟨_,hn0,hn1⟩:=HIN.out k hlt;rw [hn] at hn0 hn1
          obtain ⟨bk,ok,hadk,hbkl,hck⟩:=(hLk.numAtRow get_t1).2 k (by have:=HNL.out;omega)
          subst hadk;rw [hn] at hck;obtain ⟨v,r,hat,hBl⟩:=hLk.rlogAt get_t0
          have HFILE:=hide (rfile_any (B:=B) l n nm wr hat.c1 (lt_of_some hat.cells) HNO.out hn0 (by omega) (he.below hbk) hLk.base)
          have HFD:Hid ((ns.map (fileL K)).drop k=fileL K n :: (ns.map (fileL K)).drop (k+1)):=by
           show _=_
           rw [files_drop K ns k (by have:=HNL.out;omega),hn]
          have hir:∀X:List Item,(L.set i (.ref p Ak)++X)[i]?=some (.ref p Ak):=fun X=>get_tl (List.getElem?_set_self (List.getElem?_eq_some_iff.1 HI.out).1)
          have HIR:=hide hir
          have dk:decide ((k:Int)<(N:Int))=true:=decide_eq_true (by omega)
          have dk':decide (k<N)=true:=decide_eq_true hlt
          have hk0:(0:Int)≤(k:Int):=by omega
          have hk1:(k:Int)<(N:Int):=by omega
          have HLk:=hide hLk;have HBk:=hide hbk;clear hLk hbk hat hn hir;go_wp2_with fail;refine (HFILE.out).mono ?_;rintro e W1 ⟨rfl,hb1⟩;have hl1:=HLk.out.below hb1;have hbb1:=HBk.out.trans (hb1.mono HLk.out.base);have HSY:=hide (r_sync hl1 (HIR.out _) HAK.out.2 (fileB nm n));clear hl1;go_wp2_with fail;refine (HSY.out).mono ?_;rintro e W2' ⟨rfl,hl2,hb2⟩
          have hfk:(fileB nm n).data.toList=fileL K n:=by rw [←HKK.out];rfl
          rw [hfk] at hl2 ⊢
          rw [set_tl (by rw [List.length_set];exact (List.getElem?_eq_some_iff.1 HI.out).1),List.set_set] at hl2
          obtain ⟨E,A',hQ⟩:∃e a,Ak.sync (fileL K n)=(e,a):=⟨_,_,rfl⟩
          have hokA:A'.Ok:=by have:=ok_sync (d:=fileL K n) HAK.out.2;rw [hQ] at this;exact this
          have hyy:Y=if E≠0 then (E,A') else A'.syncs ((ns.map (fileL K)).drop (k+1)):=by
           rw [←HAK.out.1,HFD.out]
           show (if (Ak.sync (fileL K n)).1≠0 then Ak.sync (fileL K n) else (Ak.sync (fileL K n)).2.syncs _)=_
           rw [hQ]
          rw [hQ] at hl2 ⊢;have HL2:=hide hl2;have HB2':=hide (hbb1.trans hb2);have HOKA:=hide hokA;have HYY:=hide hyy;clear hl2 hb2 hbb1 hb1 hQ hokA hyy HSY hfk hck
          by_cases hE:E=0
          ·subst hE
           have HYN:Hid (A'.syncs ((ns.map (fileL K)).drop (k+1))=Y):=by show _=_;rw [HYY.out,if_neg (by simp)]
           go_wp2;go_roundw
           case rel=>exact ⟨k+1,by omega,by go_num,A',⟨HYN.out,HOKA.out⟩,HL2.out,HB2'.out⟩
           case measure=>simp [intOf];omega
          ·have HRR:Hid (R=⟨none,[],E,A'⟩):=by
            show _=_
            rw [HRY.out,HYY.out,if_pos hE,if_pos hE]
           have q9:(E != 0)=true:=by simpa using hE
           have HKR:Hid (Lies B W2' (L.set i (.ref p A'))):=HL2.out.drop;go_wp2;go_ret3;exact HBAD.out _ _ _ HRR.out HKR.out HB2'.out
         ·obtain rfl:N=k:=by omega
          have hYk:Y=(0,Ak):=by
           rw [←HAK.out.1,List.drop_of_length_le (by rw [List.length_map,HNL.out];exact Nat.le_refl _)];rfl
          have HRR:Hid (R=⟨some ⟨nm,sz,dSegs A K N,NX,false⟩,PAY2,0,Ak⟩):=by
           show _=_
           rw [HRY.out,hYk,if_neg (by simp)]
          obtain ⟨ad9,cap9,W9,hap,hl9,hb9⟩:=copy_sub hLk (q:=(L.set i (.ref p Ak)).length+2) get_t2 HPL2.out 34;have HL9:=hide hl9.keep_ad;have HB9:=hide (hbk.trans hb9);have HAP:=hide hap;clear hLk hbk hl9 hb9 hap hYk
          go_wp2_with (at_builtin;refine wpList_appS rfl _ _ _ rfl HAP.out ?_)
          go_ret3;rw [HRR.out];exact ⟨⟨l,_,rfl,HL9.out⟩,HB9.out⟩
end
end Go.Proofs.YtjbdncknooeplaaGreatDoor
