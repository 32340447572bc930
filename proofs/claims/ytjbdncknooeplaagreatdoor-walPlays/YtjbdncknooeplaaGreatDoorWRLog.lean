import Derived.Test.YtjbdncknooeplaaGreatDoorWApp
import Derived.Test.YtjbdncknooeplaaGreatDoorWAgainQ
import Derived.Test.YtjbdncknooeplaaGreatDoorWFirst
import Derived.Test.YtjbdncknooeplaaGreatDoorWRNumM
namespace Go.Proofs.YtjbdncknooeplaaGreatDoor
open Go.RowKit
set_option linter.unusedVariables false
def SegEq (s s':ASeg):Prop:=s.num=s'.num∧s.size=s'.size∧(s.size≠0→s.fin=s'.fin)
theorem SegEq.refl (s:ASeg):SegEq s s:=⟨rfl,rfl,fun _=>rfl⟩
inductive SegsEq:List ASeg→List ASeg→Prop where
 | nil:SegsEq [] []
 | cons {s s':ASeg} {l l':List ASeg}:SegEq s s'→SegsEq l l'→SegsEq (s :: l) (s' :: l')
theorem SegsEq.len {l l':List ASeg} (h:SegsEq l l'):l.length=l'.length:=by
 induction h with
 | nil=>rfl
 | cons _ _ ih=>simp [ih]
theorem SegsEq.nums {l l':List ASeg} (h:SegsEq l l'):l.map ASeg.num=l'.map ASeg.num:=by
 induction h with
 | nil=>rfl
 | cons h1 _ ih=>rw [List.map_cons,List.map_cons,ih,h1.1]
theorem SegsEq.snoc {l l':List ASeg} {s s':ASeg} (h:SegsEq l l') (hs:SegEq s s'):SegsEq (l++[s]) (l'++[s']):=by
 induction h with
 | nil=>exact .cons hs .nil
 | cons h1 _ ih=>exact .cons h1 ih
theorem SegsEq.last {l l':List ASeg} (h:SegsEq l l'):(l.getLast?=none∧l'.getLast?=none)∨∃s s',l.getLast?=some s∧l'.getLast?=some s'∧SegEq s s':=by
 induction h with
 | nil=>exact .inl ⟨rfl,rfl⟩
 | @cons s s' t t' h1 h2 ih=>
  right
  rcases ih with ⟨e1,e2⟩ | ⟨a,b,e1,e2,hab⟩
  ·rw [List.getLast?_eq_none_iff] at e1 e2
   subst e1 e2;exact ⟨s,s',rfl,rfl,h1⟩
  ·refine ⟨a,b,?_,?_,hab⟩
   ·rw [List.getLast?_cons,e1];rfl
   ·rw [List.getLast?_cons,e2];rfl
theorem SegsEq.set {l l':List ASeg} (h:SegsEq l l') (x:ASeg):∀i,SegsEq (l.set i x) (l'.set i x):=by
 induction h with
 | nil=>intro i;exact .nil
 | cons h1 h2 ih=>
  intro i
  cases i with
  | zero=>exact .cons (SegEq.refl x) h2
  | succ i=>exact .cons h1 (ih i)
structure LogEq (g g':AL):Prop where
 name:g.name=g'.name
 room:g.room=g'.room
 next:g.next=g'.next
 dead:g.dead=g'.dead
 segs:SegsEq g.segs g'.segs
theorem LogEq.files {g g':AL} (h:LogEq g g'):g.files=g'.files:=by
 unfold AL.files;have e:=h.segs.nums
 rw [show (fun s:ASeg=>fileL g.name.data.toList s.num)=(fileL g.name.data.toList) ∘ ASeg.num from rfl,show (fun s:ASeg=>fileL g'.name.data.toList s.num)=(fileL g'.name.data.toList) ∘ ASeg.num from rfl,←List.map_map,←List.map_map,e,h.name]
theorem place_eq {g g':AL} (h:LogEq g g') (n:Int):SegEq (placeA g n).1 (placeA g' n).1∧(placeA g n).2=(placeA g' n).2:=by
 unfold placeA
 rcases h.segs.last with ⟨e1,e2⟩ | ⟨s,s',e1,e2,hs⟩
 ·rw [e1,e2];exact ⟨SegEq.refl _,rfl⟩
 ·rw [e1,e2]
  simp only;rw [←h.room,←hs.2.1]
  split
  ·rw [hs.1];exact ⟨SegEq.refl _,rfl⟩
  ·exact ⟨hs,rfl⟩
theorem lay_eq {g g':AL} (h:LogEq g g') (A:AD) {s s':ASeg} (hs:SegEq s s') (f:Bool) (t:Key):layA A g s f t=layA A g' s' f t:=by
 unfold layA backA;rw [h.name,h.dead,hs.1,hs.2.1]
theorem app_eq {g g':AL} (h:LogEq g g') (A:AD) (t:ByteArray):(appA A g t).1=(appA A g' t).1∧(appA A g t).2.1=(appA A g' t).2.1∧LogEq (appA A g t).2.2 (appA A g' t).2.2:=by
 unfold appA;rw [←h.dead,←h.next]
 by_cases h1:g.dead=true
 ·rw [if_pos h1,if_pos h1];exact ⟨rfl,rfl,h⟩
 rw [if_neg h1,if_neg h1]
 by_cases h2:Fr.frameE g.next t≠0
 ·rw [if_pos h2,if_pos h2];exact ⟨rfl,rfl,h⟩
 rw [if_neg h2,if_neg h2];obtain ⟨p1,p2⟩:=place_eq h (Fr.frameS g.next t).size;simp only;rw [←p2,←p1.1,←lay_eq h A p1]
 by_cases h3:1152921504606846976≤g.next∨9999999<(placeA g (Fr.frameS g.next t).size).1.num
 ·rw [if_pos h3,if_pos h3];exact ⟨rfl,rfl,h⟩
 rw [if_neg h3,if_neg h3]
 by_cases h4:(layA A g (placeA g (Fr.frameS g.next t).size).1 (placeA g (Fr.frameS g.next t).size).2 (Fr.frameS g.next t).data.toList).1≠0
 ·rw [if_pos h4,if_pos h4];exact ⟨rfl,rfl,⟨h.name,h.room,rfl,rfl,h.segs⟩⟩
 rw [if_neg h4,if_neg h4];refine ⟨rfl,rfl,⟨h.name,h.room,rfl,rfl,?_⟩⟩
 show SegsEq (keepA _ _ _) (keepA _ _ _)
 unfold keepA;rw [←p1.2.1]
 split
 ·exact h.segs.snoc (SegEq.refl _)
 ·rw [←h.segs.len];exact h.segs.set _ _
theorem below_eq {s s':ASeg} (h:SegEq s s') (n:Int):belowA s n=belowA s' n:=by
 unfold belowA;rw [←h.2.1]
 by_cases h0:s.size=0
 ·rw [h0];rfl
 ·rw [h.2.2 h0]
theorem resetL_eq {l l':List ASeg} (h:SegsEq l l') (nm:Key) (n:Int):∀A,(resetL nm n A l).1=(resetL nm n A l').1∧(resetL nm n A l).2.1=(resetL nm n A l').2.1∧SegsEq (resetL nm n A l).2.2.1 (resetL nm n A l').2.2.1∧(resetL nm n A l).2.2.2=(resetL nm n A l').2.2.2:=by
 induction h with
 | nil=>intro A;exact ⟨rfl,rfl,.nil,rfl⟩
 | @cons s s' t t' h1 h2 ih=>
  intro A;unfold resetL;rw [←below_eq h1,←h1.1]
  split
  ·split
   ·exact ⟨rfl,rfl,.cons h1 h2,rfl⟩
   ·exact ih _
  ·exact ⟨rfl,rfl,.cons h1 h2,rfl⟩
theorem reset_eq {g g':AL} (h:LogEq g g') (A:AD) (n:Int):(resetA A g n).1=(resetA A g' n).1∧(resetA A g n).2.1=(resetA A g' n).2.1∧LogEq (resetA A g n).2.2 (resetA A g' n).2.2:=by
 unfold resetA;rw [←h.dead,←h.next]
 by_cases h1:g.dead=true
 ·rw [if_pos h1,if_pos h1];exact ⟨rfl,rfl,h⟩
 rw [if_neg h1,if_neg h1]
 by_cases h2:n<0∨g.next<n
 ·rw [if_pos h2,if_pos h2];exact ⟨rfl,rfl,h⟩
 rw [if_neg h2,if_neg h2];obtain ⟨r1,r2,r3,r4⟩:=resetL_eq h.segs g.name.data.toList n A;simp only;rw [←h.name];exact ⟨r1,r2,⟨rfl,h.room,rfl,r4,r3⟩⟩
open Go.RowKit Go.Maps
def rS (A:AD) (nm:Key) (k:Nat):RSt:=rdK A nm ⟨[],0,(numsL A nm).map seg0,false⟩ k
def dNext (s:RSt):Int:=if s.pay=[] then -1 else s.next
def dFrom (s:RSt):Int:=if s.pay=[] then -1 else s.next - s.pay.length
def numAt' (A:AD) (nm:Key) (k:Nat):Int:=(numsL A nm).getD k 0
def txtAt (A:AD) (nm:Key) (k:Nat):Key:=textOf A nm (numAt' A nm k)
def nxAt (A:AD) (nm:Key) (k:Nat):Int:=if (rS A nm k).pay=[] then firstN (txtAt A nm k) else (rS A nm k).next
def scAt (A:AD) (nm:Key) (k:Nat):List Key×Key:=scanA (txtAt A nm k) (nxAt A nm k)
def endAt (A:AD) (nm:Key) (k:Nat):Int:=(((txtAt A nm k).length - (scAt A nm k).2.length:Nat):Int)
theorem rS_succ (A:AD) (nm:Key) (k:Nat):rS A nm (k+1)=⟨(rS A nm k).pay++(scAt A nm k).1,nxAt A nm k+(scAt A nm k).1.length,(rS A nm k).segs.set k ⟨numAt' A nm k,endAt A nm k,nxAt A nm k+(scAt A nm k).1.length⟩,!(scAt A nm k).2.isEmpty⟩:=by
 have hn:((rS A nm k).segs.getD k ⟨0,0,0⟩).num=numAt' A nm k:=by
  unfold rS numAt';rw [rdK_num,seg0_num]
 show rdStep A nm (rS A nm k) k=_
 unfold rdStep;simp only;rw [hn];rfl
def dSegs (A:AD) (nm:Key):Nat→List ASeg
 | 0=>[]
 | k+1=>dSegs A nm k++[⟨numAt' A nm k,endAt A nm k,dNext (rS A nm (k+1))⟩]
theorem dSegs_len (A:AD) (nm:Key):∀k,(dSegs A nm k).length=k
 | 0=>rfl
 | k+1=>by unfold dSegs;rw [List.length_append,dSegs_len A nm k];rfl
theorem scan_nothing {t:Key} {n:Int} (h:(scanA t n).1=[]):(scanA t n).2=t:=by
 have hf:=(scanA_found t n).told;rw [h] at hf;exact hf
theorem rS_len (A:AD) (nm:Key) (k:Nat):(rS A nm k).segs.length=(numsL A nm).length:=by
 unfold rS;rw [rdK_len];simp
theorem dSegs_eq (A:AD) (nm:Key):∀k,k≤(numsL A nm).length→SegsEq ((rS A nm k).segs.take k) (dSegs A nm k)
 | 0,_=>by rw [List.take_zero];exact .nil
 | k+1,hk=>by
  have hl:k<(rS A nm k).segs.length:=by rw [rS_len];omega
  have e:(rS A nm (k+1)).segs.take (k+1)=(rS A nm k).segs.take k++[⟨numAt' A nm k,endAt A nm k,nxAt A nm k+(scAt A nm k).1.length⟩]:=by
   rw [rS_succ];simp only
   rw [List.take_succ_eq_append_getElem (by rw [List.length_set];exact hl),List.getElem_set_self,List.take_set_of_le (Nat.le_refl _)]
  rw [e]
  refine (dSegs_eq A nm k (by omega)).snoc ⟨rfl,rfl,fun h0=>?_⟩
  show nxAt A nm k+_=dNext (rS A nm (k+1))
  unfold dNext;rw [rS_succ];simp only;rw [if_neg];intro hp;apply h0;have h1:(scAt A nm k).1=[]:=(List.append_eq_nil_iff.1 hp).2
  show endAt A nm k=0
  unfold endAt;have h2:(scAt A nm k).2=txtAt A nm k:=scan_nothing h1
  rw [h2];simp
def dOpenA (A:AD) (nm:ByteArray) (sz first:Int):ROpen:=
 if lnameOk nm.data.toList=false∨sz<64∨1048576<sz∨first<0∨1152921504606846976<first then ⟨none,[],1,A⟩
 else if A.pow.off=true then ⟨none,[],9,A⟩
 else if consec (numsL A nm.data.toList)=false then ⟨none,[],60,A⟩
 else if (rdOf A nm.data.toList).2.torn=true∧(rdOf A nm.data.toList).1<(numsL A nm.data.toList).length then ⟨none,[],60,A⟩
 else
  let s:=rS A nm.data.toList (numsL A nm.data.toList).length
  if s.pay≠[]∧(first<s.next - s.pay.length∨s.next<first) then ⟨none,[],60,A⟩
  else
   let A1:=if s.torn=true then (A.trunc (fileL nm.data.toList (numAt' A nm.data.toList ((numsL A nm.data.toList).length - 1))) (endAt A nm.data.toList ((numsL A nm.data.toList).length - 1))).2 else A
   let Y:=A1.syncs ((numsL A nm.data.toList).map (fileL nm.data.toList))
   if Y.1≠0 then ⟨none,[],Y.1,Y.2⟩
   else ⟨some ⟨nm,sz,dSegs A nm.data.toList (numsL A nm.data.toList).length,if s.pay=[] then first else s.next,false⟩,if s.pay=[] then [] else s.pay.drop (first - (s.next - s.pay.length)).toNat,0,Y.2⟩
structure OpenEq (R R':ROpen):Prop where
 err:R.err=R'.err
 disk:R.disk=R'.disk
 pay:R.pay=R'.pay
 log:(R.log=none∧R'.log=none)∨∃g g',R.log=some g∧R'.log=some g'∧LogEq g g'
theorem OpenEq.bad (e:Int) (A:AD):OpenEq ⟨none,[],e,A⟩ ⟨none,[],e,A⟩:=⟨rfl,rfl,rfl,.inl ⟨rfl,rfl⟩⟩
theorem cut_goes {A:AD} {nm:Key} (hoff:A.pow.off=false) (hpos:0<(numsL A nm).length):(A.trunc (fileL nm (numAt' A nm ((numsL A nm).length - 1))) (endAt A nm ((numsL A nm).length - 1))).1=0:=by
 have hmem:numAt' A nm ((numsL A nm).length - 1)∈numsL A nm:=by
  unfold numAt'
  rw [List.getD_eq_getElem?_getD,List.getElem?_eq_getElem (by omega)]
  exact List.getElem_mem _
 obtain ⟨F,hF⟩:=(nums_file hoff hmem).2
 have ht:(txtAt A nm ((numsL A nm).length - 1)).length≤F.seen.length:=by
  unfold txtAt textOf AD.read;rw [hoff,hF];simp only [Bool.false_eq_true,if_false]
  rw [if_neg (by decide)]
  simp only [List.length_take];exact Nat.min_le_right _ _
 have he:0≤endAt A nm ((numsL A nm).length - 1)∧endAt A nm ((numsL A nm).length - 1)≤((txtAt A nm ((numsL A nm).length - 1)).length:Int):=by
  unfold endAt;omega
 unfold AD.trunc;rw [hoff,hF];simp only [Bool.false_eq_true,if_false]
 rw [if_neg (by omega)]
theorem rest_eq {g:AL} {A A1:AD} {SG:List ASeg} {PAY:List Key} {PN:Nat} {torn:Bool} {first NX:Int} {FL:List Key} (hb:¬(first<NX - PN∨NX<first)) (hT:(if torn=true then A.trunc (fileL g.name.data.toList (SG.getLastD ⟨0,0,0⟩).num) (SG.getLastD ⟨0,0,0⟩).size else (0,A))=(0,A1)) (hFL:SG.map (fun q=>fileL g.name.data.toList q.num)=FL) :
 RESTA g A SG PAY PN torn first NX=if (A1.syncs FL).1≠0 then ([],(A1.syncs FL).1,(A1.syncs FL).2,{ g with segs:=SG,next:=NX }) else (PAY.drop (first - (NX - PN)).toNat,0,(A1.syncs FL).2,{ g with segs:=SG,next:=NX }):=by
 have hf:({ g with segs:=SG,next:=NX }:AL).files=FL:=hFL
 unfold RESTA;simp only;rw [if_neg hb,hT,hf]
 rw [if_neg (by simp)]
theorem open_eq (A:AD) (nm:ByteArray) (sz first:Int):OpenEq (openA A nm sz first) (dOpenA A nm sz first):=by
 unfold openA dOpenA
 by_cases h1:lnameOk nm.data.toList=false∨sz<64∨1048576<sz∨first<0∨1152921504606846976<first
 ·rw [if_pos h1,if_pos h1];exact OpenEq.bad _ _
 rw [if_neg h1,if_neg h1]
 by_cases h2:A.pow.off=true
 ·rw [if_pos h2,if_pos h2];exact OpenEq.bad _ _
 rw [if_neg h2,if_neg h2]
 have hoff:A.pow.off=false:=by simpa using h2
 simp only;unfold loadA;simp only
 by_cases h3:consec (numsL A nm.data.toList)=false
 ·rw [if_pos h3,if_pos h3];exact OpenEq.bad _ _
 rw [if_neg h3,if_neg h3];have hR:rdFin A nm.data.toList ⟨[],0,(numsL A nm.data.toList).map seg0,false⟩ (numsL A nm.data.toList).length 0=rdOf A nm.data.toList:=rfl;rw [hR]
 by_cases h4:(rdOf A nm.data.toList).2.torn=true∧(rdOf A nm.data.toList).1<(numsL A nm.data.toList).length
 ·rw [if_pos h4,if_pos h4];exact OpenEq.bad _ _
 rw [if_neg h4,if_neg h4];obtain ⟨N,hN⟩:∃N,(numsL A nm.data.toList).length=N:=⟨_,rfl⟩
 have hRN:rdOf A nm.data.toList=(N,rS A nm.data.toList N):=by
  obtain ⟨k',_,hk2,_,hk⟩:=rdFin_is A nm.data.toList ⟨[],0,(numsL A nm.data.toList).map seg0,false⟩ (numsL A nm.data.toList).length 0;rw [hR] at hk
  have:k'=N:=by
   cases ht:(rdOf A nm.data.toList).2.torn with
   | true=>
    have:¬(rdOf A nm.data.toList).1<(numsL A nm.data.toList).length:=fun h=>h4 ⟨ht,h⟩
    rw [hk] at this;simp only at this;omega
   | false=>
    have:=(rdFin_end (A:=A) (nm:=nm.data.toList) (s:=⟨[],0,(numsL A nm.data.toList).map seg0,false⟩) (f:=(numsL A nm.data.toList).length) (k:=0) (by rw [hR];exact ht)).1
    rw [hR,hk] at this
    have:=congrArg Prod.fst this
    simp only at this;omega
  subst this
  rw [hk];rfl
 rw [hRN,hN];simp only;obtain ⟨s,hs⟩:∃s,rS A nm.data.toList N=s:=⟨_,rfl⟩
 have hsl:s.segs.length=N:=by rw [←hs,rS_len,hN]
 have hseq:SegsEq s.segs (dSegs A nm.data.toList N):=by
  have:=dSegs_eq A nm.data.toList N (by omega)
  rw [hs,List.take_of_length_le (by omega)] at this
  exact this
 rw [hs]
 have hfl:(numsL A nm.data.toList).map (fileL nm.data.toList)=s.segs.map (fun q=>fileL nm.data.toList q.num):=by
  have:=(rd_segs (A:=A) (nm:=nm.data.toList)).1
  rw [hRN,hs] at this;simp only at this
  rw [←this,List.map_map];rfl
 have hlast:s.torn=true→(s.segs.getLastD ⟨0,0,0⟩).num=numAt' A nm.data.toList (N - 1)∧(s.segs.getLastD ⟨0,0,0⟩).size=endAt A nm.data.toList (N - 1)∧0<N:=by
  intro ht
  cases N with
  | zero=>rw [←hs] at ht;cases ht
  | succ m=>
   have e:=rS_succ A nm.data.toList m;rw [hs] at e
   have hg:s.segs.getLastD ⟨0,0,0⟩=⟨numAt' A nm.data.toList m,endAt A nm.data.toList m,nxAt A nm.data.toList m+(scAt A nm.data.toList m).1.length⟩:=by
    rw [List.getLastD_eq_getLast?,List.getLast?_eq_getElem?,hsl,Nat.add_sub_cancel,e];simp only
    rw [List.getElem?_set_self (by rw [rS_len,hN];omega)]
    rfl
   rw [hg]
   exact ⟨rfl,rfl,by omega⟩
 have hcut:(if s.torn=true then A.trunc (fileL nm.data.toList (s.segs.getLastD ⟨0,0,0⟩).num) (s.segs.getLastD ⟨0,0,0⟩).size else (0,A))=(0,if s.torn=true then (A.trunc (fileL nm.data.toList (numAt' A nm.data.toList (N - 1))) (endAt A nm.data.toList (N - 1))).2 else A):=by
  by_cases ht:s.torn=true
  ·rw [if_pos ht,if_pos ht]
   obtain ⟨e1,e2,e3⟩:=hlast ht;rw [e1,e2]
   have:=cut_goes (nm:=nm.data.toList) hoff (by omega)
   rw [hN] at this;exact Prod.ext this rfl
  ·rw [if_neg ht,if_neg ht]
 obtain ⟨A1,hA1⟩:∃A1,(if s.torn=true then (A.trunc (fileL nm.data.toList (numAt' A nm.data.toList (N - 1))) (endAt A nm.data.toList (N - 1))).2 else A)=A1:=⟨_,rfl⟩
 obtain ⟨FL,hFL⟩:∃FL,(numsL A nm.data.toList).map (fileL nm.data.toList)=FL:=⟨_,rfl⟩;rw [hA1] at hcut ⊢;rw [hFL] at hfl ⊢;clear hs hRN hR h4 hA1 hFL hlast
 obtain ⟨nx,hnx⟩:∃nx,(if s.pay=[] then first else s.next)=nx:=⟨_,rfl⟩
 rw [hnx]
 show OpenEq (if (RESTA ⟨nm,sz,[],0,false⟩ A s.segs s.pay s.pay.length s.torn first nx).2.1≠0 then ⟨none,[],(RESTA ⟨nm,sz,[],0,false⟩ A s.segs s.pay s.pay.length s.torn first nx).2.1,(RESTA ⟨nm,sz,[],0,false⟩ A s.segs s.pay s.pay.length s.torn first nx).2.2.1⟩ else ⟨some (RESTA ⟨nm,sz,[],0,false⟩ A s.segs s.pay s.pay.length s.torn first nx).2.2.2,(RESTA ⟨nm,sz,[],0,false⟩ A s.segs s.pay s.pay.length s.torn first nx).1,0,(RESTA ⟨nm,sz,[],0,false⟩ A s.segs s.pay s.pay.length s.torn first nx).2.2.1⟩) _
 obtain ⟨Z,hZ⟩:∃Z,RESTA ⟨nm,sz,[],0,false⟩ A s.segs s.pay s.pay.length s.torn first nx=Z:=⟨_,rfl⟩;rw [hZ]
 by_cases h5:s.pay≠[]∧(first<s.next - s.pay.length∨s.next<first)
 ·rw [if_pos h5]
  rw [if_neg h5.1] at hnx;subst hnx
  have:Z=([],60,A,⟨nm,sz,s.segs,s.next,false⟩):=by
   rw [←hZ];unfold RESTA;simp only;rw [if_pos h5.2]
  rw [this];exact OpenEq.bad _ _
 rw [if_neg h5]
 have hb:¬(first<nx - s.pay.length∨nx<first):=by
  intro hc
  by_cases hp:s.pay=[]
  ·rw [if_pos hp] at hnx
   rw [hp] at hc;subst hnx;simp only [List.length_nil,Int.natCast_zero] at hc;omega
  ·rw [if_neg hp] at hnx
   subst hnx;exact h5 ⟨hp,hc⟩
 rw [rest_eq (g:=⟨nm,sz,[],0,false⟩) hb hcut hfl.symm] at hZ;obtain ⟨Y,hY⟩:∃Y,A1.syncs FL=Y:=⟨_,rfl⟩;rw [hY] at hZ ⊢
 by_cases hy:Y.1≠0
 ·rw [if_pos hy] at hZ ⊢
  rw [←hZ,if_pos hy];exact OpenEq.bad _ _
 ·rw [if_neg hy] at hZ ⊢
  rw [←hZ,if_neg (by simp)]
  refine ⟨rfl,rfl,?_,.inr ⟨_,_,rfl,rfl,⟨rfl,rfl,rfl,rfl,hseq⟩⟩⟩
  show s.pay.drop _=if s.pay=[] then [] else _
  by_cases hp:s.pay=[]
  ·rw [if_pos hp,hp];simp
  ·rw [if_neg hp] at hnx ⊢
   subst hnx;rfl
theorem infoRS:(Tryz.prog.info? 105).map (fun i=>(i.zero,i.size,i.bytes))=some (some (.agg #[.int .i64 0,.int .i64 0,.int .i64 0]),3,24):=by kernel_rfl
theorem rgrown_row (w:World) (gs:List ASeg) (cp:Nat) (hge:gs.length≤cp) :
 SegRow (w.alloc (.cells ((cellsG gs).toArray++Builtin.zeroCells (Value.agg #[.int .i64 0,.int .i64 0,.int .i64 0]).cells (cp - gs.length)) 105)) (.slice (some ⟨w.heap.size,0,none⟩) gs.length cp) gs (some w.heap.size):=by
 have hz:(Value.agg #[.int .i64 0,.int .i64 0,.int .i64 0]).cells.size=3:=rfl
 have hsz:((cellsG gs).toArray++Builtin.zeroCells (Value.agg #[.int .i64 0,.int .i64 0,.int .i64 0]).cells (cp - gs.length)).size=3 * cp:=by
  rw [Array.size_append,List.size_toArray,cellsG_length,size_zeroCells,hz];omega
 generalize hcs:(cellsG gs).toArray++Builtin.zeroCells (Value.agg #[.int .i64 0,.int .i64 0,.int .i64 0]).cells (cp - gs.length)=cs at hsz ⊢;have hH:=heap_alloc_new w (.cells cs 105)
 refine ⟨_,_,rfl,hge,.inr ⟨_,0,rfl,rfl,by simp,fun j hj=>?_,fun j hj=>?_,fun j=>frozen_of_row _ _ j _ _ hH⟩⟩
 ·rw [Nat.zero_add,cell_of_row _ _ j _ _ (0,0) hH,←hcs,Array.getElem?_append_left (by rw [List.size_toArray,cellsG_length];exact hj),List.getElem?_toArray]
 ·rw [Nat.zero_add,cell_of_row _ _ j _ _ (0,0) hH,Array.getElem?_eq_getElem (by omega)]
  rfl
theorem rapp_seg {w w1:World} {v:Value} {gs:List ASeg} {r:Option Nat} (h:SegRow w v gs r) (hn:gs.length≤10000000) (x:ASeg) (ty:TypeId) (hw1:w.alloc (.cells x.cs.toArray 105)=w1) {g1:Nat} (hg1:w.heap.size=g1) :
 ∃v' r' w',(Builtin.append_ #[100,100] ty #[v,.slice (some ⟨g1,0,none⟩) 1 1]).run Tryz.prog w1=.ok v' w'∧SegRow w' v' (gs++[x]) r'∧Turn (fun b=>r=some b) w w'∧(∀b,r'=some b→r=some b∨w.heap.size≤b):=by
 obtain ⟨i,hi,hz0,hz1,hz2⟩:=info_parts infoRS
 have hb1:Below w.heap.size w w1:=by rw [←hw1];exact (Below.refl _ _).alloc (Nat.le_refl _) _
 have hsrc:Src Tryz.prog i.size 100 (.slice (some ⟨g1,0,none⟩) 1 1) 1 x.cs w1:=Src.ofSlice w1 Tryz.underlying100 ⟨g1,0,none⟩ 1 1 x.cs (by rw [hz1];rfl) (fun j u hu=>by
  rw [←hw1,←hg1]
  exact World.news_of_block (heap_alloc_new w _) j u (by simpa using hu)) (one_seg x)
 have hs1:=h.same (fun b hb=>hb1.block b (h.lt b hb))
 have hcl:x.cs.length=3:=rfl;obtain ⟨ad,cap,rfl,hlc,hf⟩:=hs1
 rcases hf with ⟨rfl,rfl,rfl⟩ | ⟨b,off,rfl,rfl,hbl,hc,hs,hfz⟩
 ·have h0:gs=[]:=List.length_eq_zero_iff.1 (by omega)
  subst h0
  have hr:=run_append_grow_src w1 100 100 ty 105 i _ Tryz.underlying100 hi hz0 none 0 0 [] (run_firstCells_none _ _ _ _ _) _ 1 x.cs hsrc (by omega) (by decide) (by rw [hz2];decide)
  have hg:=rgrown_row w1.drew [x] (grownCap w1 (0+1) 0 105) (grownCap_ge w1 (0+1) 0 105)
  have e:cellsG [x]=[]++x.cs:=by simp [cellsG]
  rw [e] at hg
  refine ⟨_,some w1.heap.size,_,hr,hg,?_,fun b hb=>?_⟩
  ·refine Turn.of_below ?_ _
   exact hb1.trans (((Below.refl _ w1).drew.alloc (Nat.le_refl _) _).mono hb1.size)
  ·cases hb
   exact .inr hb1.size
 ·by_cases hroom:gs.length+1≤cap
  ·have hr:=run_append_room_src w1 100 100 ty 105 i Tryz.underlying100 hi b off gs.length cap _ 1 x.cs hsrc hroom
    (fun j hj=>by rw [hz1,Nat.add_assoc];exact hs _ (by rw [hcl] at hj;omega)) (fun j hj=>hfz _)
   refine ⟨_,some b,_,hr,⟨⟨_,cap,?_,?_,.inr ⟨b,off,rfl,rfl,?_,fun j hj=>?_,fun j hj=>?_,fun j=>?_⟩⟩⟩,?_,fun b' hb'=>.inl hb'⟩
   ·rw [List.length_append];rfl
   ·rw [List.length_append];exact hroom
   ·rw [size_setCells];exact hbl
   ·rw [List.length_append,List.length_singleton] at hj
    rw [cellsG_append,hz1]
    by_cases hj2:j<3 * gs.length
    ·rw [World.cell?_setCells_out b _ _ _ _ (fun _ _=>.inl (by show off+j<off+gs.length * 3;omega)),List.getElem?_append_left (by rw [cellsG_length];exact hj2)]
     exact hc j hj2
    ·have hin:=World.cell?_setCells_in b x.cs (off+gs.length * 3) w1 (fun k hk=>by rw [Nat.add_assoc];exact hs _ (by rw [hcl] at hk;omega)) (j - 3 * gs.length) (by rw [hcl];omega)
     rw [show off+gs.length * 3+(j - 3 * gs.length)=off+j by omega] at hin
     rw [hin,List.getElem?_append_right (by rw [cellsG_length];omega),cellsG_length,←List.getElem?_eq_getElem]
     simp [cellsG]
   ·exact World.isSome_setCells b _ _ _ _ (hs j hj)
   ·rw [World.frozen?_setCells];exact hfz j
   ·refine ⟨?_,?_,?_,?_,fun k hk hne=>?_⟩
    ·rw [World.os_setCells];exact hb1.os
    ·rw [tape_setCells];exact hb1.tape
    ·rw [World.output_setCells];exact hb1.output
    ·rw [size_setCells];exact hb1.size
    ·rw [World.heap_setCells_other w1 b _ _ (Nat.lt_of_lt_of_le hk hb1.size) (fun e=>hne (by rw [e]))]
     exact hb1.block k hk
  ·have hcg:cap=gs.length:=by omega
   have hr:=run_append_grow_src w1 100 100 ty 105 i _ Tryz.underlying100 hi hz0 (some ⟨b,off,none⟩) gs.length cap (cellsG gs)
    (run_firstCells_some _ _ _ _ _ _ _ (by rw [cellsG_length,hz1];omega) (fun j u hu=>by
      have hj:j<3 * gs.length:=by rw [←cellsG_length];exact (List.getElem?_eq_some_iff.1 hu).1
      have:=hc j hj
      rw [hu] at this
      show w1.cell? _=_
      simpa [Addr.add_lit] using this)) _ 1 x.cs hsrc (by omega) (by omega) (by
       have:=nextslicecap_le (need:=gs.length+1) (old:=cap) (by omega)
       rw [hz2];omega)
   have hg:=rgrown_row w1.drew (gs++[x]) (grownCap w1 (gs.length+1) cap 105) (by rw [List.length_append];exact grownCap_ge w1 _ _ _)
   rw [cellsG_append,List.length_append] at hg
   have e:cellsG [x]=x.cs:=by simp [cellsG]
   rw [e] at hg
   refine ⟨_,some w1.heap.size,_,hr,hg,?_,fun b' hb'=>?_⟩
   ·refine Turn.of_below ?_ _
    exact hb1.trans (((Below.refl _ w1).drew.alloc (Nat.le_refl _) _).mono hb1.size)
   ·cases hb'
    exact .inr hb1.size
set_option linter.unusedSimpArgs false
section
variable {B:Nat} {w:World} {L:List Item} {i j l p:Nat} {A:AD} {g:AL} {v:Value}
theorem Lies.rnewSegs {B:Nat} {w:World} {L:List Item} {i l p:Nat} {g:AL} (h:Lies B w L) (hi:L[i]?=some (.rlog l p g)):∃v r,RLogAt w l p g v r∧B≤l ∧
 (∀(w2:World) (v':Value) (r':Option Nat) (gs':List ASeg),SegRow w2 v' gs' r'→Turn (fun b=>r=some b) w w2→(∀b,r'=some b→r=some b∨w.heap.size≤b) →
   w2.cell? ⟨l,3,none⟩=some v∧w2.frozen? ⟨l,3,none⟩=false∧Lies B (w2.setCell ⟨l,3,none⟩ v') (L.set i (.rlog l p { g with segs:=gs' }))∧Below B w (w2.setCell ⟨l,3,none⟩ v')) ∧
 (∀(w2:World) (gs':List ASeg),SegRow w2 v gs' r→Turn (fun b=>r=some b) w w2→Lies B w2 (L.set i (.rlog l p { g with segs:=gs' }))∧Below B w w2):=by
 obtain ⟨S,⟨v,r,hat,hS⟩,hB,_,hu⟩:=h.upd hi
 refine ⟨v,r,hat,hB l ((hS l).2 (.inl rfl)),fun w2 v' r' gs' hrow ht hown=>?_,fun w2 gs' hrow ht=>?_⟩
 ·have hl:w2.heap[l]?=w.heap[l]?:=ht.block l (lt_of_some hat.cells) hat.ne
  have hne:r'≠some l:=fun e=>by
   rcases hown l e with x | x
   ·exact hat.ne x
   ·have:=lt_of_some hat.cells;omega
  have hat2:w2.heap[l]?=some (.cells (logCs p v g) 102 (0,0)):=hl.trans hat.cells;have h1:=heap_setCell_same w2 l 3 _ _ v' hat2
  have h2:∀b,b≠l→(w2.setCell ⟨l,3,none⟩ v').heap[b]?=w2.heap[b]?:=fun b hb=>Below.heap_setCell w2 ⟨l,3,none⟩ v' b hb
  refine ⟨by rw [cell_of_row w2 l 3 _ _ (0,0) hat2];rfl,frozen_of_row w2 l 3 _ _ hat2,hu _ (.rlog l p { g with segs:=gs' }) (logFoot l r') ⟨v',r',⟨h1,hrow.same (fun b hb=>h2 b (fun e=>hne (by rw [hb,e]))),hne⟩,fun _=>Iff.rfl⟩ ⟨⟨ht.os,ht.tape,ht.output,?_,fun b hb hn=>?_⟩,fun b hb=>?_⟩⟩
  ·exact Nat.le_trans ht.size (by simp [World.setCell])
  ·rw [h2 b (fun e=>hn ((hS b).2 (.inl e)))]
   exact ht.block b hb (fun e=>hn ((hS b).2 (.inr e)))
  ·rcases hb with rfl | hb
   ·exact .inl ((hS _).2 (.inl rfl))
   ·rcases hown b hb with x | x
    ·exact .inl ((hS _).2 (.inr x))
    ·exact .inr x
 ·have hl:w2.heap[l]?=w.heap[l]?:=ht.block l (lt_of_some hat.cells) hat.ne
  exact hu _ (.rlog l p { g with segs:=gs' }) S ⟨v,r,⟨hl.trans hat.cells,hrow,hat.ne⟩,hS⟩ ⟨⟨ht.os,ht.tape,ht.output,ht.size,fun b hb hn=>ht.block b hb (fun e=>hn ((hS b).2 (.inr e)))⟩,fun b hb=>.inl hb⟩
theorem rform_of {r:Option Nat} (h:RLogAt w l p g v r):∃ad cap b off,v=.slice ad g.segs.length cap∧(0<g.segs.length→ad=some ⟨b,off,none⟩):=by
 obtain ⟨ad,cap,hv,hle,hrow⟩:=h.row
 rcases hrow with ⟨h1,h2,_⟩ | ⟨b,off,h1,_⟩
 ·exact ⟨ad,cap,0,0,hv,fun hp=>by omega⟩
 ·exact ⟨ad,cap,b,off,hv,fun _=>h1⟩
theorem rseg3 {w:World} {l p b off n cap:Nat} {g:AL} {r:Option Nat} (hat:RLogAt w l p g (.slice (some ⟨b,off,none⟩) n cap) r) (k:Nat) {s:ASeg} (hs:g.segs[k]?=some s):b<w.heap.size∧n=g.segs.length∧(w.cell? ⟨b,off+k * 3,none⟩=some (.int .i64 s.num)∧w.cell? ⟨b,off+k * 3+1,none⟩=some (.int .i64 s.size)∧w.cell? ⟨b,off+k * 3+2,none⟩=some (.int .i64 s.fin))∧∀q,w.frozen? ⟨b,q,none⟩=false:=by
 obtain ⟨ad,cp,hv,hle,hrow⟩:=hat.row;cases hv
 rcases hrow with ⟨h1,_⟩ | ⟨b',off',h1,hr,hbl,hcs,hsm,hfz⟩
 ·cases h1
 cases h1;obtain ⟨hk,rfl⟩:=List.getElem?_eq_some_iff.1 hs
 have e:∀c,c<3→w.cell? ⟨b,off+k * 3+c,none⟩=(g.segs[k]).cs[c]?:=fun c hc=>by
  rw [show off+k * 3+c=off+(3 * k+c) by omega,hcs (3 * k+c) (by omega),cellsG_get _ _ hk _ hc]
 exact ⟨hbl,rfl,⟨e 0 (by omega),e 1 (by omega),e 2 (by omega)⟩,hfz⟩
theorem Lies.rsetSeg {b off n cap:Nat} (h:Lies B w L) (hj:L[j]?=some (.rlogv l p g (.slice (some ⟨b,off,none⟩) n cap))) (k:Nat) (hk:k<g.segs.length) (c:Nat) (hc:c<3) (x:Int) (s':ASeg) (hs:s'.cs=(g.segs[k]).cs.set c (.int .i64 x)) :
 Lies B (w.setCell ⟨b,off+k * 3+c,none⟩ (.int .i64 x)) (L.set j (.rlogv l p { g with segs:=g.segs.set k s' } (.slice (some ⟨b,off,none⟩) n cap)))∧Below B w (w.setCell ⟨b,off+k * 3+c,none⟩ (.int .i64 x)):=by
 obtain ⟨S,⟨r,hat,hS⟩,hB,_,hu⟩:=h.upd hj;obtain ⟨ad,cp,hv,hle,hrow⟩:=hat.row;cases hv
 rcases hrow with ⟨h1,_⟩ | ⟨b',off',h1,hr,hbl,hcs,hsm,hfz⟩
 ·cases h1
 cases h1
 have hbl2:b≠l:=fun e=>hat.ne (by rw [hr,e])
 have h2:∀x',x'≠b→(w.setCell ⟨b,off+k * 3+c,none⟩ (.int .i64 x)).heap[x']?=w.heap[x']?:=fun x' hx=>Below.heap_setCell w ⟨b,off+k * 3+c,none⟩ (.int .i64 x) x' hx
 have hsz:(w.setCell ⟨b,off+k * 3+c,none⟩ (.int .i64 x)).heap.size=w.heap.size:=by simp [World.setCell]
 have hold:=hcs (3 * k+c) (by omega)
 have hcell:∀q,(w.setCell ⟨b,off+k * 3+c,none⟩ (.int .i64 x)).cell? ⟨b,off+q,none⟩=if q=3 * k+c then some (.int .i64 x) else w.cell? ⟨b,off+q,none⟩:=fun q=>by
  by_cases e:q=3 * k+c
  ·rw [if_pos e,e,show off+(3 * k+c)=off+k * 3+c by omega]
   refine World.cell?_setCell_same' _ _ _ ?_
   rw [show off+k * 3+c=off+(3 * k+c) by omega,hsm (3 * k+c) (by omega)]
  ·rw [if_neg e]
   exact World.cell?_setCell_other _ _ _ _ (fun e2=>e (by have:=congrArg Addr.off e2;simp at this;omega))
 refine hu _ (.rlogv l p { g with segs:=g.segs.set k s' } (.slice (some ⟨b,off,none⟩) g.segs.length cap)) S ⟨r,⟨?_,⟨some ⟨b,off,none⟩,cap,?_,?_,.inr ⟨b,off,rfl,hr,by rw [hsz];exact hbl,fun q hq=>?_,fun q hq=>?_,fun q=>?_⟩⟩,hat.ne⟩,hS⟩ ⟨⟨rfl,rfl,rfl,by rw [hsz];exact Nat.le_refl _,fun x' hx hn=>?_⟩,fun x' hx=>.inl hx⟩
 ·rw [h2 l (fun e=>hbl2 e.symm)];exact hat.cells
 ·show _=Value.slice _ (g.segs.set k s').length _
  rw [List.length_set]
 ·show (g.segs.set k s').length≤_
  rw [List.length_set];exact hle
 ·have hq':q<3 * g.segs.length:=by
   have:(g.segs.set k s').length=g.segs.length:=List.length_set
   simp only at hq;omega
  show _=(cellsG (g.segs.set k s'))[q]?
  rw [hcell q,cellsG_set _ k hk s' c hc _ hs]
  by_cases e:q=3 * k+c
  ·rw [if_pos e,e,List.getElem?_set_self (by rw [cellsG_length];omega)]
  ·rw [if_neg e,List.getElem?_set_ne (fun e2=>e e2.symm)];exact hcs q hq'
 ·rw [hcell q]
  by_cases e:q=3 * k+c
  ·rw [if_pos e];rfl
  ·rw [if_neg e];exact hsm q hq
 ·rw [World.frozen?_setCell];exact hfz q
 ·exact h2 x' (fun e=>hn ((hS x').2 (.inr (by rw [hr,e]))))
theorem Lies.rsetSeg3 {b off n cap:Nat} (h:Lies B w L) (hj:L[j]?=some (.rlogv l p g (.slice (some ⟨b,off,none⟩) n cap))) (k:Nat) (hk:k<g.segs.length) (s:ASeg) {w':World} (hw:((w.setCell ⟨b,off+k * 3,none⟩ (.int .i64 s.num)).setCell ⟨b,off+k * 3+1,none⟩ (.int .i64 s.size)).setCell ⟨b,off+k * 3+2,none⟩ (.int .i64 s.fin)=w') :
 Lies B w' (L.set j (.rlogv l p { g with segs:=g.segs.set k s } (.slice (some ⟨b,off,none⟩) n cap)))∧Below B w w':=by
 have hjl:=(List.getElem?_eq_some_iff.1 hj).1
 obtain ⟨h1,b1⟩:=h.rsetSeg hj k hk 0 (by omega) s.num ⟨s.num,(g.segs[k]).size,(g.segs[k]).fin⟩ rfl
 obtain ⟨h2,b2⟩:=h1.rsetSeg (List.getElem?_set_self hjl) k (by show k<(g.segs.set k _).length;rw [List.length_set];exact hk) 1 (by omega) s.size ⟨s.num,s.size,(g.segs[k]).fin⟩ (by simp only [List.getElem_set_self];rfl)
 obtain ⟨h3,b3⟩:=h2.rsetSeg (by rw [List.set_set];exact List.getElem?_set_self hjl) k (by show k<((g.segs.set k _).set k _).length;rw [List.length_set,List.length_set];exact hk) 2 (by omega) s.fin s (by simp only [List.getElem_set_self];rfl)
 rw [List.set_set,List.set_set] at h3;simp only [List.set_set] at h3;rw [←hw];exact ⟨h3,(b1.trans b2).trans b3⟩
theorem Lies.rlogApart {q b:Nat} {ob:Obj} {v:Value} {r:Option Nat} (h:Lies B w L) (hj:L[j]?=some (.rlog l p g)) (hq:L[q]?=some (.block b ob)) (hne:q≠j) (hat:RLogAt w l p g v r):r≠some b:=by
 obtain ⟨_,S,h1,h2,h3⟩:=h;obtain ⟨v',r',hat',hS⟩:=h1 j _ hj
 have hv:v=v':=by have a:=hat.c3;rw [hat'.c3] at a;cases a;rfl
 subst hv;have hr:r=r':=hat.row.uniq hat'.row;subst hr;intro e;obtain ⟨_,hSb⟩:=h1 q _ hq
 exact h3 j q b (List.getElem?_eq_some_iff.1 hj).1 (List.getElem?_eq_some_iff.1 hq).1 (fun e=>hne e.symm) ((hS b).2 (.inr e)) ((hSb b).2 rfl)
theorem Lies.toRLog {q:Nat} {nm:ByteArray} {sz fi:Int} (h:Lies B w L) (hq:L[q]?=some (.block l (.cells #[.pointer (some ⟨p,0,none⟩),.string nm,.int .i64 sz,.slice none 0 0,.int .i64 fi,.bool false] 102 (0,0)))):Lies B w (L.set q (.rlog l p ⟨nm,sz,[],fi,false⟩)):=by
 obtain ⟨S,⟨hb,hS⟩,hB,_,hu⟩:=h.upd hq
 refine (hu w (.rlog l p ⟨nm,sz,[],fi,false⟩) S ⟨.slice none 0 0,none,⟨hb,SegRow.nil w,by simp⟩,fun b=>?_⟩ ⟨Turn.refl _ _,fun b hb=>.inl hb⟩).1
 rw [hS b];unfold logFoot
 simp
end
end Go.Proofs.YtjbdncknooeplaaGreatDoor
