import Derived.Test.YtdffmmiegpndkaaGreatDoorWK5
namespace Go.Proofs.YtdffmmiegpndkaaGreatDoor
open Go.RowKit
set_option linter.unusedVariables false
def forgedL (ls:List AFate):Bool:=ls.any fun x=>decide (x.kind=2)
inductive Af (fs:FList) (first next:Int) (acked:List Key) (under:Option Key) (fg:Bool):Prop where
 | none (n0:Int) (h:Dk fs nmLog.data.toList n0 []) (hn:next=first) (ha:acked=[]):Af fs first next acked under fg
 | some (n0 b:Int) (pres:List (List Key)) (ps:List Key) (X:Key) (h:Bf fs nmLog.data.toList n0 b pres ps X) (hn:next=b+(pres.flatten.length:Int)+(ps.length:Int)) (lo:b≤first) (hi:first≤next)
  (ha:acked=(pres.flatten++ps).drop (first - b).toNat) (hx:X.length≤65664)
  (hu:fg=false→X=[]∨∃p T ft,under=some p∧p.length≤65536∧next<1152921504606846976∧XOf T (Fr.frameL next.toNat p) X ft∧∀s x,ft s=some x→x.kind≠2):Af fs first next acked under fg
theorem KN.af {fs:FList} {g:AL} {sz first:Int} {acked:List Key} {n0 b:Int} {pss:List (List Key)} (h:KN fs g sz first acked n0 b pss) (u:Option Key) (fg:Bool):Af fs first g.next acked u fg:=by
 rcases List.eq_nil_or_concat pss with rfl | ⟨pres,ps,rfl⟩
 ·have h1:=h.next
  have h2:=h.lo;have h3:=h.hi;have h4:=h.ack;simp at h1 h4
  exact .none n0 h.dk (by omega) h4
 ·rw [List.concat_eq_append] at h
  have h1:=h.next
  have hfl:(pres++[ps]).flatten=pres.flatten++ps:=by simp
  rw [hfl,List.length_append] at h1;have hne:=h.ne;rw [List.dropLast_concat] at hne;have hd:=h.dk;rw [textsL_append] at hd
  refine .some n0 b pres ps [] ⟨by rw [List.append_nil];exact hd,h.fine,hne⟩ (by omega) h.lo h.hi (by rw [h.ack,hfl]) (by simp) (fun _=>.inl rfl)
structure KW (A:AD) (g:AL) (first:Int) (acked:List Key) (under:Key):Prop where
 off:A.pow.off=true
 opn:A.pow.opn=true
 dead:g.dead=true
 crash:∀ls,∃fs',(A.crash ls).on=⟨A.cap,fs',p0⟩∧Af fs' first g.next acked (some under) (forgedL ls)
theorem map_fset (g:Key→AF→AF) (k:Key) (F:AF):∀fs:FList,(fset fs k F).map (fun p=>(p.1,g p.1 p.2))=fset (fs.map (fun p=>(p.1,g p.1 p.2))) k (g k F)
 | []=>rfl
 | p :: r=>by
  rw [fset_cons,List.map_cons,List.map_cons,fset_cons,map_fset g k F r]
  by_cases e:p.1=k
  ·simp only [if_pos e];rw [e]
  ·simp only [if_neg e]
theorem map_fdel (g:Key→AF→AF) (k:Key):∀fs:FList,(fdel fs k).map (fun p=>(p.1,g p.1 p.2))=fdel (fs.map (fun p=>(p.1,g p.1 p.2))) k
 | []=>rfl
 | p :: r=>by
  have ih:=map_fdel g k r;unfold fdel at ih ⊢;rw [List.map_cons,List.filter_cons,List.filter_cons]
  split
  ·rw [List.map_cons,ih]
  ·exact ih
theorem map_fins (g:Key→AF→AF) (k:Key) (F:AF):∀fs:FList,(fins (k,F) fs).map (fun p=>(p.1,g p.1 p.2))=fins (k,g k F) (fs.map (fun p=>(p.1,g p.1 p.2)))
 | []=>rfl
 | p :: r=>by
  rw [List.map_cons];unfold fins;simp only
  split
  ·rfl
  ·rw [List.map_cons,map_fins g k F r]
theorem map_putF (g:Key→AF→AF) (fh:Bool) (k:Key) (F:AF) (fs:FList):(putF fs fh k F).map (fun p=>(p.1,g p.1 p.2))=putF (fs.map (fun p=>(p.1,g p.1 p.2))) fh k (g k F):=by
 unfold putF
 split
 ·unfold fput;rw [map_fins,map_fdel]
 ·exact map_fset g k F fs
theorem Dk.add {fs:FList} {nm:Key} {n0:Int} {ts:List Key} (h:Dk fs nm n0 ts) (hn:n0+(ts.length:Int)≤9999999) (t:Key):Dk (fput fs (fileL nm (n0+(ts.length:Int))) (cl t)) nm n0 (ts++[t]):=by
 have hl:=h.lo
 refine ⟨hl,by rw [List.length_append,List.length_singleton];omega,fun x h0 h1 hx=>?_,fun i u hu=>?_,fun p hp=>?_⟩
 ·rw [List.length_append,List.length_singleton]
  by_cases e:x=n0+(ts.length:Int)
  ·omega
  ·rw [fget_fput_ne (fun e2=>e (fileL_inj h0 h1 (by omega) (by omega) e2))] at hx
   have:=h.mem x h0 h1 hx
   omega
 ·by_cases e:i=ts.length
  ·subst e
   rw [List.getElem?_append_right (Nat.le_refl _),Nat.sub_self] at hu;cases hu;exact fget_fput_same
  ·have hi:i<ts.length:=by
    have:=(List.getElem?_eq_some_iff.1 hu).1
    rw [List.length_append,List.length_singleton] at this;omega
   rw [List.getElem?_append_left hi] at hu
   rw [fget_fput_ne (fun e2=>e (by have:=fileL_inj (by omega) (by omega) (by omega) (by omega) e2;omega))]
   exact h.txt i u hu
 ·unfold fput at hp
  rcases mem_fins.1 hp with rfl | hq
  ·exact ⟨t,rfl⟩
  ·exact h.all p (List.mem_filter.1 hq).1
theorem Dk.none {fs:FList} {nm:Key} {n0:Int} (h:Dk fs nm n0 []) (n1:Int) (h0:0≤n1) (h1:n1≤10000000):Dk fs nm n1 []:=
 ⟨h0,by simpa using h1,fun x a b c=>by have:=h.mem x a b c;simp at this;omega,fun i t hi=>by simp at hi,h.all⟩
theorem spot_dk {fs:FList} {g:AL} {n n0 b n1:Int} {pss pres:List (List Key)} {ps:List Key} {fh:Bool} (hd:Dk fs nmLog.data.toList n0 (textsL b pss)) (h:Spot fs g n n0 b pss n1 pres ps fh) (hn:n1+(pres.length:Int)≤9999999) :
 ((fh=false∧fget fs (fileL nmLog.data.toList (n1+(pres.length:Int)))=some (cl (framesL (b+(pres.flatten.length:Int)) ps)))∨(fh=true∧fget fs (fileL nmLog.data.toList (n1+(pres.length:Int)))=none∧framesL (b+(pres.flatten.length:Int)) ps=[])) ∧
 ∀Y,Dk (putF fs fh (fileL nmLog.data.toList (n1+(pres.length:Int))) (cl Y)) nmLog.data.toList n1 (textsL b pres++[Y]):=by
 rcases h.file with ⟨rfl,rfl,rfl⟩ | ⟨rfl,rfl,rfl,e1,e2⟩
 ·rw [textsL_append] at hd
  refine ⟨.inl ⟨rfl,?_⟩,fun Y=>?_⟩
  ·refine hd.txt pres.length _ ?_
   rw [List.getElem?_append_right (by rw [textsL_len];omega),textsL_len,Nat.sub_self]
   rfl
  ·have:=hd.set Y
   rw [textsL_len] at this;unfold putF
   rw [if_neg (by simp)]
   exact this
 ·have hd1:Dk fs nmLog.data.toList n1 (textsL b pss):=by
   by_cases h0:pss=[]
   ·rw [e2 h0]
    subst h0
    exact hd.none 0 (by omega) (by omega)
   ·rw [e1 h0];exact hd
  have hlo:=hd1.lo
  refine ⟨.inr ⟨rfl,?_,rfl⟩,fun Y=>?_⟩
  ·cases hg:fget fs (fileL nmLog.data.toList (n1+(pss.length:Int))) with
   | none=>rfl
   | some F=>
    have:=hd1.mem (n1+(pss.length:Int)) (by omega) hn (by rw [hg];rfl)
    rw [textsL_len] at this;omega
  ·have:=hd1.add (by rw [textsL_len];exact hn) Y
   rw [textsL_len] at this;unfold putF;rw [if_pos rfl];exact this
theorem frameS_list {X:Int} {t:ByteArray} (h:Fr.frameE X t=0):(Fr.frameS X t).data.toList=Fr.frameL X.toNat t.data.toList∧0≤X∧t.size≤65536:=by
 unfold Fr.frameE at h;unfold Fr.frameS
 split at h
 ·cases h
 ·rename_i h1
  split at h
  ·cases h
  ·rename_i h2
   rw [if_neg h1,if_neg h2]
   exact ⟨by simp,by omega,by omega⟩
theorem app_kn {A:AD} {g:AL} {sz first:Int} {acked:List Key} {n0 b:Int} {pss:List (List Key)} (hok:A.Ok) (hoff:A.pow.off=false) (hopn:A.pow.opn=false) (h:KN A.fs g sz first acked n0 b pss) (t:ByteArray) {R:Int×AD×AL} (hR:appA A g t=R) :
 (R.1=0∧R.2.1.pow.off=false∧R.2.1.pow.opn=false∧R.2.2.next=g.next+1∧∃n0' pss',KN R.2.1.fs R.2.2 sz first (acked++[t.data.toList]) n0' b pss') ∨
 (R.1=9∧R.2.2.next=g.next∧t.size≤65536∧KW R.2.1 R.2.2 first acked t.data.toList∧R.2.2={ g with dead:=true }) ∨
 (R.1≠0∧R.1≠9∧R.2.1.pow.off=false∧R.2.1.pow.opn=false∧(t.size≤65536∨R.1=3)∧R.2.2=g∧R.2.1.fs=A.fs):=by
 subst hR;have hb0:=h.fine.b0;have hnx:=h.next;unfold appA
 rw [if_neg (by rw [h.dead];simp)]
 by_cases hE:Fr.frameE g.next t=0
 ·rw [if_neg (by rw [hE];simp)]
  simp only;obtain ⟨hfs,_,htz⟩:=frameS_list hE
  have hlen:t.data.toList.length≤65536:=by rw [str_len];exact htz
  obtain ⟨n1,pres,ps,fh,hsp⟩:=place_kn h (Fr.frameS g.next t).size
  by_cases hfull:1152921504606846976≤g.next∨9999999<(placeA g (Fr.frameS g.next t).size).1.num
  ·rw [if_pos hfull]
   exact .inr (.inr ⟨(by decide:(6:Int)≠0),(by decide:(6:Int)≠9),hoff,hopn,.inl htz,rfl,rfl⟩)
  ·rw [if_neg hfull,hfs]
   rw [hsp.num] at hfull
   have hnum:n1+(pres.length:Int)≤9999999:=by omega
   have hn60:g.next<1152921504606846976:=by omega
   obtain ⟨hfile,hdk⟩:=spot_dk h.dk hsp hnum
   have hnext:g.next=b+(pres.flatten.length:Int)+(ps.length:Int):=by
    rw [hnx]
    rcases hsp.file with ⟨_,e,_⟩ | ⟨_,e,e2,_⟩
    ·rw [e];simp;omega
    ·rw [e,e2];simp
   have hfl:pss.flatten=pres.flatten++ps:=by
    rcases hsp.file with ⟨_,e,_⟩ | ⟨_,e,e2,_⟩
    ·rw [e];simp
    ·rw [e,e2];simp
   have hfrl:=Fr.frameL_length g.next.toNat t.data.toList;have hrm:=Fr.room_ge t.data.toList.length;have hT64:=framesL_64 ps (b+(pres.flatten.length:Int))
   have hx:(Fr.frameS g.next t).size=(Fr.frameL g.next.toNat t.data.toList).length:=by rw [←hfs,str_len]
   have hfine:Fine b (pres++[ps]):=by
    have:=h.fine
    refine ⟨this.b0,?_,fun p hp=>this.small p (by rw [hfl];simpa using hp)⟩
    have h1:=this.top;rw [hfl] at h1
    simpa using h1
   obtain ⟨P,hc⟩:=lay_cases (g:=g) (s:=(placeA g (Fr.frameS g.next t).size).1) (fresh:=(placeA g (Fr.frameS g.next t).size).2) (T:=framesL (b+(pres.flatten.length:Int)) ps) (fr:=Fr.frameL g.next.toNat t.data.toList) (f:=fileL nmLog.data.toList (n1+(pres.length:Int))) hok hoff hopn (by rw [h.name,hsp.num]) hsp.size hT64 (by rw [hfrl];omega) (by rw [hsp.fresh];exact hfile)
   rw [hsp.fresh] at hc;rw [hsp.fresh]
   have hcrashW:∀ls,∃fs',((⟨A.cap,putF A.fs fh (fileL nmLog.data.toList (n1+(pres.length:Int))) (wr (framesL (b+(pres.flatten.length:Int)) ps) (Fr.frameL g.next.toNat t.data.toList)),P⟩:AD).pow.off=true→P.opn=true→((⟨A.cap,putF A.fs fh (fileL nmLog.data.toList (n1+(pres.length:Int))) (wr (framesL (b+(pres.flatten.length:Int)) ps) (Fr.frameL g.next.toNat t.data.toList)),P⟩:AD).crash ls).on=⟨A.cap,fs',p0⟩)∧Af fs' first g.next acked (some t.data.toList) (forgedL ls):=fun ls=>by
    obtain ⟨X,hX,hxo⟩:=crash_wr (framesL (b+(pres.flatten.length:Int)) ps) (Fr.frameL g.next.toNat t.data.toList) hT64 (by rw [hfrl];exact hrm.2.2.2) (by rw [hfrl];omega) (fateOf ls (fileL nmLog.data.toList (n1+(pres.length:Int))))
    refine ⟨putF A.fs fh (fileL nmLog.data.toList (n1+(pres.length:Int))) (cl (framesL (b+(pres.flatten.length:Int)) ps++X)),fun ho hp=>?_,?_⟩
    ·have e:(⟨A.cap,putF A.fs fh (fileL nmLog.data.toList (n1+(pres.length:Int))) (wr (framesL (b+(pres.flatten.length:Int)) ps) (Fr.frameL g.next.toNat t.data.toList)),P⟩:AD).crash ls=⟨A.cap,putF A.fs fh (fileL nmLog.data.toList (n1+(pres.length:Int))) (cl (framesL (b+(pres.flatten.length:Int)) ps++X)),⟨true,false,0,0,0⟩⟩:=by
      unfold AD.crash
      rw [if_neg (fun hh=>by rw [hp] at hh;cases hh.2)]
      simp only
      rw [map_putF (fun k F=>F.crash (fateOf ls k)),crash_cl h.dk.all,hX]
     rw [e];rfl
    ·refine .some n1 b pres ps X ⟨hdk _,hfine,hsp.ne⟩ hnext h.lo h.hi (by rw [h.ack,hfl]) ?_ (fun hfg=>.inr ⟨t.data.toList,_,_,rfl,hlen,hn60,hxo,fun s x hs=>?_⟩)
     ·have:=hxo.le
      rw [hfrl] at this;omega
     ·unfold fateOf at hs
      have hm:=List.mem_of_find?_eq_some hs;unfold forgedL at hfg;rw [List.any_eq_false] at hfg
      have:=hfg x hm
      simpa using this
   rcases hc with ⟨e,e0,e9,p1,p2,hl⟩ | ⟨p1,p2,hl⟩ | ⟨p1,p2,hl⟩ | ⟨p1,p2,hl⟩
   ·rw [hl]
    refine .inr (.inr ⟨?_,?_,?_,?_,.inl htz,?_,?_⟩)
    all_goals simp only [ne_eq,e0,not_false_eq_true,if_true]
    ·exact e9
    ·exact p1
    ·exact p2
    ·have hd:=h.dead
     cases g;simp only at hd;subst hd;rfl
   ·rw [hl]
    refine .inr (.inl ⟨?_,?_,htz,?_,?_⟩)
    all_goals simp only [ne_eq,(by decide:¬((9:Int)=0)),not_false_eq_true,if_true]
    refine ⟨p1,p2,rfl,fun ls=>⟨A.fs,back_cl (A:=⟨A.cap,A.fs,P⟩) h.dk.all (fun _=>p2) ls,h.af _ _⟩⟩
   ·rw [hl]
    refine .inr (.inl ⟨?_,?_,htz,?_,?_⟩)
    all_goals simp only [ne_eq,(by decide:¬((9:Int)=0)),not_false_eq_true,if_true]
    refine ⟨p1,p2,rfl,fun ls=>?_⟩
    obtain ⟨fs',h1,h2⟩:=hcrashW ls;exact ⟨fs',h1 p1 p2,h2⟩
   ·rw [hl]
    have hframe:framesL (b+(pres.flatten.length:Int)) ps++Fr.frameL g.next.toNat t.data.toList=framesL (b+(pres.flatten.length:Int)) (ps++[t.data.toList]):=by
     rw [framesL_append,←hnext]
     show _=_++(Fr.frameL g.next.toNat t.data.toList++[])
     rw [List.append_nil]
    refine .inl ⟨?_,?_,?_,?_,n1,pres++[ps++[t.data.toList]],?_⟩
    all_goals simp only [ne_eq,not_true_eq_false,if_false]
    ·exact p1
    ·exact p2
    ·have hflat:(pres++[ps++[t.data.toList]]).flatten=pres.flatten++ps++[t.data.toList]:=by simp
     have hd2:=hdk (framesL (b+(pres.flatten.length:Int)) (ps++[t.data.toList]));rw [hframe];have hlo:=h.lo;have hhi:=h.hi
     refine ⟨by rw [textsL_append];exact hd2,⟨hb0,?_,fun p hp=>?_⟩,?_,h.name,h.room,h.dead,?_,?_,h.lo,by simp only;omega,?_⟩
     ·rw [hflat,List.length_append,List.length_append,List.length_singleton];omega
     ·rw [hflat] at hp
      rcases List.mem_append.1 hp with hp | hp
      ·exact h.fine.small p (by rw [hfl];exact hp)
      ·rw [List.mem_singleton] at hp;rw [hp];exact hlen
     ·rw [List.dropLast_concat];exact hsp.ne
     ·simp only;rw [hflat,List.length_append,List.length_append,List.length_singleton];omega
     ·simp only
      rw [segsL_append]
      have hlast:segsL (n1+(pres.length:Int)) (b+(pres.flatten.length:Int)) [ps++[t.data.toList]]=[⟨n1+(pres.length:Int),((framesL (b+(pres.flatten.length:Int)) (ps++[t.data.toList])).length:Int),g.next+1⟩]:=by
       simp only [segsL,List.length_append,List.length_singleton]
       rw [show b+(pres.flatten.length:Int)+((ps.length+1:Nat):Int)=g.next+1 by omega]
      rw [hlast]
      have hsize:(placeA g (Fr.frameS g.next t).size).1.size+((Fr.frameS g.next t).size:Int)=((framesL (b+(pres.flatten.length:Int)) (ps++[t.data.toList])).length:Int):=by
       rw [hsp.size,hx,←hframe,List.length_append];omega
      have hseg:(⟨(placeA g (Fr.frameS g.next t).size).1.num,(placeA g (Fr.frameS g.next t).size).1.size+((Fr.frameS g.next t).size:Int),g.next+1⟩:ASeg)=⟨n1+(pres.length:Int),((framesL (b+(pres.flatten.length:Int)) (ps++[t.data.toList])).length:Int),g.next+1⟩:=by rw [hsize,hsp.num]
      rw [hseg];unfold keepA
      rcases hsp.file with ⟨e1,e2,e3⟩ | ⟨e1,e2,e3,e4,e5⟩
      ·rw [if_neg (by rw [e1];simp)]
       subst e2 e3;have hs:=h.segs;have hl:=hs.len;rw [segsL_append] at hs;rw [segsL_len,List.length_append,List.length_singleton] at hl
       have:=hs.set ⟨n1+(pres.length:Int),((framesL (b+(pres.flatten.length:Int)) (ps++[t.data.toList])).length:Int),g.next+1⟩ (g.segs.length - 1)
       rw [List.set_append_right _ _ (by rw [segsL_len];omega),segsL_len,hl,show pres.length+1 - 1 - pres.length=0 by omega] at this
       rw [hl];exact this
      ·rw [if_pos e1]
       subst e2;refine SegsEq.snoc ?_ (SegEq.refl _)
       by_cases h0:pss=[]
       ·subst h0
        have hs:=h.segs;exact hs
       ·rw [e4 h0];exact h.segs
     ·rw [hflat,h.ack,hfl]
      exact (List.drop_append_of_le_length (by rw [List.length_append];omega)).symm
 ·rw [if_pos hE]
  have h3:Fr.frameE g.next t=3:=by
   unfold Fr.frameE at hE ⊢
   rw [if_neg (by omega)] at hE ⊢
   split at hE
   ·rename_i hq;rw [if_pos hq]
   ·exact absurd rfl hE
  refine .inr (.inr ⟨hE,by simp only;rw [h3];decide,hoff,hopn,.inr h3,rfl,rfl⟩)
end Go.Proofs.YtdffmmiegpndkaaGreatDoor
