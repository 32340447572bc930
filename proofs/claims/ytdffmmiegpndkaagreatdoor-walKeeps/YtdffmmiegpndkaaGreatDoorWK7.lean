import Derived.Test.YtdffmmiegpndkaaGreatDoorWK6
namespace Go.Proofs.YtdffmmiegpndkaaGreatDoor
open Go.RowKit
set_option linter.unusedVariables false
theorem told_small:∀{ps:List Key} {t t':Key} {n:Int},Fr.Told t n ps t'→∀p∈ps,p.length≤65536
 | [],_,_,_,_,p,hp=>by cases hp
 | q :: ps,t,t',n,h,p,hp=>by
  rcases List.mem_cons.1 hp with rfl | hp
  ·exact h.1.2.2.1
  ·exact told_small h.2 p hp
structure Re (fs9:FList) (g':AL) (sz first next:Int) (acked pay:List Key) (under:Option Key) (fg:Bool):Prop where
 kn:∃n0 b pss,KN fs9 g' sz first pay n0 b pss
 nx:g'.next=first+(pay.length:Int)
 le:g'.next≤next+1100
 more:∃m,pay=acked++m∧(fg=false→m=[]∨∃p' p,m=[p']∧under=some p∧∃K,Lost p' p K)
theorem open_go {A:AD} {sz first:Int} (hoff:A.pow.off=false) (h1:64≤sz) (h2:sz≤1048576) (h3:0≤first) (h4:first≤1152921504606846976):openA A nmLog sz first=(let Z:=loadA A ⟨nmLog,sz,[],0,false⟩ first;if Z.2.1≠0 then ⟨none,[],Z.2.1,Z.2.2.1⟩ else ⟨some Z.2.2.2,Z.1,0,Z.2.2.1⟩):=by
 have hl:lnameOk nmLog.data.toList=true:=by decide +kernel
 unfold openA
 rw [if_neg (by rw [hl];simp;omega),if_neg (by rw [hoff];simp)]
theorem open_af {cap f:Int} {fs:FList} {sz first next:Int} {acked:List Key} {under:Option Key} {fg:Bool} (hok:AD.Ok ⟨cap,fs,⟨false,false,0,0,f⟩⟩) (hf:0≤f) (h:Af fs first next acked under fg) (h1:64≤sz) (h2:sz≤1048576) (h3:0≤first) (h4:first≤next) (h5:next+2000≤1152921504606846976) :
 (openA ⟨cap,fs,⟨false,false,0,0,f⟩⟩ nmLog sz first=⟨none,[],60,⟨cap,fs,⟨false,false,0,0,f⟩⟩⟩∧fg=true∧acked=[]) ∨
 (∃fs9 g' pay,Re fs9 g' sz first next acked pay under fg∧((∃f',0≤f'∧f'≤f∧openA ⟨cap,fs,⟨false,false,0,0,f⟩⟩ nmLog sz first=⟨some g',pay,0,⟨cap,fs9,⟨false,false,0,0,f'⟩⟩⟩) ∨
   (f≠0∧openA ⟨cap,fs,⟨false,false,0,0,f⟩⟩ nmLog sz first=⟨none,[],9,⟨cap,fs9,⟨true,true,0,0,0⟩⟩⟩))):=by
 have hgo:=open_go (A:=⟨cap,fs,⟨false,false,0,0,f⟩⟩) (sz:=sz) (first:=first) rfl h1 h2 h3 (by omega)
 rcases h with ⟨n0,hd,hn,ha⟩ | ⟨n0,b,pres,ps,X,hb,hn,lo,hi,ha,hx,hu⟩
 ·refine .inr ⟨fs,⟨nmLog,sz,[],first,false⟩,[],⟨⟨n0,first,[],?_⟩,by simp,by simp only;omega,[],by rw [ha];rfl,fun _=>.inl rfl⟩,.inl ⟨f,hf,Int.le_refl _,?_⟩⟩
  ·exact ⟨hd,⟨h3,by simp;omega,fun p hp=>by simp at hp⟩,fun q hq=>by simp at hq,rfl,rfl,rfl,by simp,.nil,Int.le_refl _,Int.le_refl _,by simp⟩
  ·rw [hgo]
   simp only;rw [load_none hok hd]
   simp
 ·obtain ⟨N,hN⟩:∃N,behindN b pres ps X=N:=⟨_,rfl⟩
  obtain ⟨r,hr⟩:∃r,scanA X N=r:=⟨_,rfl⟩;obtain ⟨PAY,hPAY⟩:∃P,P=pres.flatten++(ps++r.1):=⟨_,rfl⟩
  obtain ⟨NX,hNX⟩:∃x,x=if PAY=[] then first else N+(r.1.length:Int):=⟨_,rfl⟩
  obtain ⟨fs9,hfs9⟩:∃x,x=fset fs (fileL nmLog.data.toList (n0+(pres.length:Int))) (cl (framesL (b+(pres.flatten.length:Int)) ps++framesL N r.1)):=⟨_,rfl⟩;obtain ⟨SEGS,hSEGS⟩:∃x,x=segsL n0 b pres++[⟨n0+(pres.length:Int),(((framesL (b+(pres.flatten.length:Int)) ps).length+(X.length - r.2.length):Nat):Int),N+(r.1.length:Int)⟩]:=⟨_,rfl⟩;have hld:=load_bf hok hf hb hN hr sz first ⟨hPAY,hNX,hfs9,hSEGS⟩;have hfound:=scanA_found X N;rw [hr] at hfound
  have hfew:64 * r.1.length≤X.length:=by have:=@scan_few' X N;rw [hr] at this;exact this
  have hle2:r.2.length≤X.length:=by have:=hfound.told.suffix.2;omega
  have hcut:=cut_text2 hr;have hsmall:=told_small hfound.told;have hb0:=hb.fine.b0
  have hrange:r.1≠[]→0≤N:=fun e=>(hfound.told.range e).1
  have hdk:=hb.dk.set (framesL (b+(pres.flatten.length:Int)) ps++framesL N r.1);rw [textsL_len,←hfs9] at hdk
  have hfl9:(pres++[ps++r.1]).flatten=PAY:=by rw [hPAY];simp
  have hszl:(framesL (b+(pres.flatten.length:Int)) ps).length+(X.length - r.2.length)=(framesL (b+(pres.flatten.length:Int)) ps++framesL N r.1).length:=by
   rw [List.length_append,←hcut,List.length_take];omega
  have key:¬(first<NX - PAY.length∨NX<first)→Re fs9 ⟨nmLog,sz,SEGS,NX,false⟩ sz first next acked (PAY.drop (first - (NX - PAY.length)).toNat) under fg:=by
   intro hgood
   by_cases hc:pres=[]∧ps=[]
   ·obtain ⟨rfl,rfl⟩:=hc
    have eN:N=firstN X:=by rw [←hN];unfold behindN;rw [if_pos ⟨rfl,rfl⟩]
    simp only [List.flatten_nil,List.nil_append,List.length_nil,Int.natCast_zero,Int.add_zero] at hn hPAY ha hSEGS hdk hszl hfl9
    have e1:first=next:=by omega
    by_cases h0:r.1=[]
    ·have hP0:PAY=[]:=by rw [hPAY,h0]
     have hX0:NX=first:=by rw [hNX,if_pos hP0]
     rw [hP0];simp only [List.drop_nil]
     refine ⟨⟨n0,first,[[]],?_⟩,by simp only;rw [hX0];simp,by simp only;omega,[],by rw [ha];simp,fun _=>.inl rfl⟩
     rw [h0] at hdk hszl
     refine ⟨hdk,⟨h3,by simp;omega,fun p hp=>by simp at hp⟩,fun q hq=>by simp at hq,rfl,rfl,rfl,by simp only;rw [hX0];simp,?_,Int.le_refl _,by simp only;omega,by simp⟩
     simp only;rw [hSEGS]
     refine .cons ⟨by simp,?_,?_⟩ .nil
     ·simp only [framesL,List.length_nil,List.append_nil] at hszl ⊢
      omega
     ·intro hne
      exfalso
      apply hne;simp only [framesL,List.length_nil,List.append_nil] at hszl ⊢;omega
    ·have hP0:PAY≠[]:=by rw [hPAY];exact h0
     have hX0:NX=N+(r.1.length:Int):=by rw [hNX,if_neg hP0]
     have hlp:PAY.length=r.1.length:=by rw [hPAY]
     have hN0:=hrange h0;rw [hX0,hlp] at hgood
     rw [hX0,hlp,show N+(r.1.length:Int) - (r.1.length:Int)=N by omega]
     refine ⟨⟨n0,N,[r.1],?_⟩,?_,?_,PAY.drop (first - N).toNat,by rw [ha];simp,fun hfg=>?_⟩
     ·have hfl1:([r.1]:List (List Key)).flatten=PAY:=by rw [hPAY];simp
      refine ⟨?_,⟨hN0,by rw [hfl1,hlp];omega,fun p hp=>hsmall p (by simpa using hp)⟩,fun q hq=>by simp at hq,rfl,rfl,rfl,by simp only;rw [hfl1,hlp],?_,by omega,by simp only;omega,by rw [hfl1]⟩
      ·exact hdk
      ·simp only
       rw [hSEGS]
       refine .cons ⟨by simp,?_,fun _=>by simp⟩ .nil
       simp only [framesL,List.length_nil,List.nil_append] at hszl ⊢;omega
     ·simp only;rw [List.length_drop,hlp];omega
     ·simp only;omega
     ·rcases hu hfg with rfl | ⟨p,T,ft,hup,hpl,hn60,hxo,hk⟩
      ·exact absurd (by rw [←hr];rfl) h0
      ·rcases scan_x hpl (by omega) hxo hk N with e | ⟨em,_,p',ep,hlost⟩
       ·rw [hr] at e;rw [e] at h0;exact absurd rfl h0
       ·rw [hr] at ep
        right
        have e2:first - N=0:=by omega
        rw [e2,hPAY,ep];exact ⟨p',p,rfl,hup,_,hlost⟩
   ·have eN:N=next:=by rw [←hN,hn];unfold behindN;rw [if_neg hc]
    have hP0:PAY≠[]:=by
     intro e;rw [hPAY,List.append_eq_nil_iff,List.append_eq_nil_iff] at e;refine hc ⟨?_,e.2.1⟩
     rcases pres with _ | ⟨q,l⟩
     ·rfl
     ·exact absurd (List.flatten_eq_nil_iff.1 e.1 q (by simp)) (hb.ne q (by simp))
    have hX0:NX=N+(r.1.length:Int):=by rw [hNX,if_neg hP0]
    have hlp:PAY.length=pres.flatten.length+(ps.length+r.1.length):=by rw [hPAY,List.length_append,List.length_append]
    have hbase:NX - (PAY.length:Int)=b:=by rw [hX0,hlp];omega
    rw [hbase] at hgood ⊢
    have hdrop:PAY.drop (first - b).toNat=acked++r.1:=by
     rw [hPAY,←List.append_assoc,ha]
     exact List.drop_append_of_le_length (by rw [List.length_append];omega)
    rw [hdrop]
    have hal:(acked.length:Int)=next - first:=by rw [ha,List.length_drop,List.length_append];omega
    refine ⟨⟨n0,b,pres++[ps++r.1],?_⟩,?_,?_,r.1,rfl,fun hfg=>?_⟩
    ·refine ⟨?_,⟨hb0,by rw [hfl9,hlp];omega,fun p hp=>?_⟩,by rw [List.dropLast_concat];exact hb.ne,rfl,rfl,rfl,by simp only;rw [hfl9,hX0,hlp];omega,?_,lo,by simp only;omega,by rw [hfl9,hdrop]⟩
     ·rw [textsL_append]
      simp only [textsL];rw [framesL_append,←hn,←eN];exact hdk
     ·rw [hfl9,hPAY,←List.append_assoc] at hp
      rcases List.mem_append.1 hp with hp | hp
      ·exact hb.fine.small p (by simpa using hp)
      ·exact hsmall p hp
     ·simp only
      rw [hSEGS,segsL_append]
      refine SegsEq.snoc (SegsEq.refl _) ⟨rfl,?_,fun _=>?_⟩
      ·simp only
       rw [framesL_append,←hn,←eN];omega
      ·simp only [List.length_append]
       omega
    ·simp only;rw [List.length_append,hX0];omega
    ·simp only;omega
    ·rcases hu hfg with rfl | ⟨p,T,ft,hup,hpl,hn60,hxo,hk⟩
     ·left;rw [←hr];rfl
     ·rcases scan_x hpl (by omega) hxo hk N with e | ⟨em,_,p',ep,hlost⟩
      ·rw [hr] at e;left;rw [e]
      ·rw [hr] at ep
       right
       rw [ep];exact ⟨p',p,rfl,hup,_,hlost⟩
  rcases hld with ⟨hbad,g,hl⟩ | ⟨hgood,hl⟩
  ·left
   rw [hgo];simp only;rw [hl];simp only
   rw [if_pos (by decide)]
   refine ⟨rfl,?_⟩
   by_cases hc:pres=[]∧ps=[]
   ·obtain ⟨rfl,rfl⟩:=hc
    simp only [List.flatten_nil,List.nil_append,List.length_nil,Int.natCast_zero,Int.add_zero] at hn hPAY ha
    refine ⟨?_,by rw [ha];simp⟩
    have h0:r.1≠[]:=by
     intro h0
     have hP0:PAY=[]:=by rw [hPAY,h0]
     rw [hNX,if_pos hP0,hP0] at hbad;simp at hbad
    have hP0:PAY≠[]:=by rw [hPAY];exact h0
    rw [hNX,if_neg hP0,hPAY] at hbad
    refine Classical.byContradiction fun hfg=>?_
    rcases hu (by simpa using hfg) with rfl | ⟨p,T,ft,hup,hpl,hn60,hxo,hk⟩
    ·exact absurd (by rw [←hr];rfl) h0
    ·rcases scan_x hpl (by omega) hxo hk N with e | ⟨em,_,p',ep,hlost⟩
     ·rw [hr] at e;rw [e] at h0;exact absurd rfl h0
     ·rw [hr] at ep
      rw [ep] at hbad;simp at hbad;omega
   ·exfalso
    have eN:N=next:=by rw [←hN,hn];unfold behindN;rw [if_neg hc]
    have hP0:PAY≠[]:=by
     intro e;rw [hPAY,List.append_eq_nil_iff,List.append_eq_nil_iff] at e;refine hc ⟨?_,e.2.1⟩
     rcases pres with _ | ⟨q,l⟩
     ·rfl
     ·exact absurd (List.flatten_eq_nil_iff.1 e.1 q (by simp)) (hb.ne q (by simp))
    rw [hNX,if_neg hP0,hPAY,List.length_append,List.length_append] at hbad;omega
  ·right
   refine ⟨fs9,_,_,key hgood,?_⟩
   rcases hl with ⟨f',a,c,hl⟩ | ⟨a,g,hl⟩
   ·refine .inl ⟨f',a,c,?_⟩
    rw [hgo];simp only;rw [hl]
    simp
   ·refine .inr ⟨a,?_⟩
    rw [hgo];simp only;rw [hl]
    simp
theorem Dk.tail {fs:FList} {nm:Key} {n0:Int} {t:Key} {ts:List Key} (h:Dk fs nm n0 (t :: ts)):Dk (fdel fs (fileL nm n0)) nm (n0+1) ts:=by
 have hl:=h.lo;have hh:=h.hi;rw [List.length_cons] at hh
 refine ⟨by omega,by omega,fun x h0 h1 hx=>?_,fun i u hu=>?_,fun p hp=>h.all p (List.mem_filter.1 hp).1⟩
 ·by_cases e:x=n0
  ·subst e;rw [fget_fdel_same] at hx;cases hx
  ·rw [fget_fdel_ne (fun e2=>e (fileL_inj h0 h1 hl (by omega) e2))] at hx
   have:=h.mem x h0 h1 hx
   rw [List.length_cons] at this;omega
 ·have hi:=(List.getElem?_eq_some_iff.1 hu).1
  rw [fget_fdel_ne (fun e2=>by have:=fileL_inj (by omega) (by omega) hl (by omega) e2;omega),show n0+1+(i:Int)=n0+((i+1:Nat):Int) by omega]
  exact h.txt (i+1) u (by simpa using hu)
theorem resetL_kn (n:Int):∀(pss:List (List Key)) {A:AD} {n0 b:Int} {segs:List ASeg},A.pow.off=false→Dk A.fs nmLog.data.toList n0 (textsL b pss)→Fine b pss→(∀q∈pss.dropLast,q≠[])→SegsEq segs (segsL n0 b pss)→b≤n →
 ∃A' n0' b' pss' segs',resetL nmLog.data.toList n A segs=(0,A',segs',false)∧A'.pow=A.pow∧Dk A'.fs nmLog.data.toList n0' (textsL b' pss')∧Fine b' pss'∧(∀q∈pss'.dropLast,q≠[])∧SegsEq segs' (segsL n0' b' pss')∧b'≤n∧b≤b'∧pss'.flatten=pss.flatten.drop (b' - b).toNat∧b'+(pss'.flatten.length:Int)=b+(pss.flatten.length:Int)
 | [],A,n0,b,segs,hoff,hd,hf,hne,hs,hb=>by
  cases hs
  exact ⟨A,n0,b,[],[],rfl,rfl,hd,hf,hne,.nil,hb,Int.le_refl _,by simp,rfl⟩
 | ps :: r,A,n0,b,segs,hoff,hd,hf,hne,hs,hb=>by
  have hs0:=hs;simp only [segsL] at hs
  cases hs with
  | @cons s s' l l' hseg hrest=>
   obtain ⟨e1,e2,e3⟩:=hseg;simp only at e1 e2 e3
   by_cases hbel:belowA s n=true
   ·have hbn:b+(ps.length:Int)≤n:=by
     unfold belowA at hbel;rw [Bool.or_eq_true,beq_iff_eq,decide_eq_true_eq] at hbel
     by_cases h0:s.size=0
     ·have:ps=[]:=framesL_nil.1 (by rw [e2] at h0;exact_mod_cast h0)
      rw [this];simpa using hb
     ·rcases hbel with h1 | h1
      ·exact absurd h1 h0
      ·rw [e3 h0] at h1;exact h1
    have hget:fget A.fs (fileL nmLog.data.toList n0)=some (cl (framesL b ps)):=by
     have:=hd.txt 0 (framesL b ps) rfl
     simpa using this
    have hrm:A.remove (fileL nmLog.data.toList s.num)=(0,{ A with fs:=fdel A.fs (fileL nmLog.data.toList n0) }):=by rw [e1];exact remove_some hoff hget
    have hfl:(ps :: r).flatten=ps++r.flatten:=by simp
    have hft:=hf.top;have hfs:=hf.small;have hb0:=hf.b0;rw [hfl] at hft hfs;rw [List.length_append] at hft
    have hne':∀q∈r.dropLast,q≠[]:=by
     cases r with
     | nil=>intro q hq;simp at hq
     | cons q1 r1=>intro q hq;exact hne q (by rw [List.dropLast_cons_of_ne_nil (by simp)];simp [hq])
    obtain ⟨A',n0',b',pss',segs',h1,h2,h3,h4,h5,h6,h7,h8,h9,h10⟩:=resetL_kn n r (A:={ A with fs:=fdel A.fs (fileL nmLog.data.toList n0) }) (n0:=n0+1) (b:=b+(ps.length:Int)) hoff hd.tail ⟨by omega,by omega,fun p hp=>hfs p (by simp [hp])⟩ hne' hrest hbn
    refine ⟨A',n0',b',pss',segs',?_,h2,h3,h4,h5,h6,h7,by omega,?_,by rw [h10,hfl,List.length_append];omega⟩
    ·show (if belowA s n=true then _ else _)=_
     rw [if_pos hbel,hrm];simp only
     rw [if_neg (by simp)]
     exact h1
    ·rw [h9,hfl]
     have e4:(b' - b).toNat=ps.length+(b' - (b+(ps.length:Int))).toNat:=by omega
     have e5:ps.drop (ps.length+(b' - (b+(ps.length:Int))).toNat)=[]:=List.drop_eq_nil_of_le (by omega)
     rw [e4,List.drop_append,e5,List.nil_append,Nat.add_sub_cancel_left]
   ·refine ⟨A,n0,b,ps :: r,s :: l,?_,rfl,hd,hf,hne,hs0,hb,Int.le_refl _,by simp,rfl⟩
    show (if belowA s n=true then _ else _)=_
    rw [if_neg hbel]
theorem reset_kn {A:AD} {g:AL} {sz first:Int} {acked:List Key} {n0 b:Int} {pss:List (List Key)} (hoff:A.pow.off=false) (h:KN A.fs g sz first acked n0 b pss) {n:Int} (h1:first≤n) (h2:n≤g.next) {R:Int×AD×AL} (hR:resetA A g n=R) :
 R.1=0∧R.2.1.pow=A.pow∧R.2.2.next=g.next∧∃n0' b' pss',KN R.2.1.fs R.2.2 sz n (acked.drop (n - first).toNat) n0' b' pss':=by
 subst hR;have hlo:=h.lo;have hb0:=h.fine.b0
 obtain ⟨A',n0',b',pss',segs',e1,e2,e3,e4,e5,e6,e7,e8,e9,e10⟩:=resetL_kn n pss hoff h.dk h.fine h.ne h.segs (by omega)
 have hR:resetA A g n=(0,A',{ g with segs:=segs',dead:=false }):=by
  unfold resetA
  rw [if_neg (by rw [h.dead];simp),if_neg (by omega)]
  simp only
  rw [show resetL g.name.data.toList n A g.segs=(0,A',segs',false) by rw [h.name];exact e1]
 rw [hR];refine ⟨rfl,e2,rfl,n0',b',pss',e3,e4,e5,h.name,h.room,rfl,?_,e6,e7,h2,?_⟩
 ·simp only;rw [h.next];omega
 ·rw [h.ack,e9,List.drop_drop,List.drop_drop]
  congr 1
  omega
theorem reset_over {A:AD} {g:AL} (hd:g.dead=false):resetA A g (g.next+1)=(1,A,g):=by
 unfold resetA
 rw [if_neg (by rw [hd];simp),if_pos (by omega)]
end Go.Proofs.YtdffmmiegpndkaaGreatDoor
