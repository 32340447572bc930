import Derived.Test.YtjbdncknooeplaaGreatDoorWRLog
import Derived.Test.YtjbdncknooeplaaGreatDoorWROpenK
namespace Go.Proofs.YtjbdncknooeplaaGreatDoor
open Go.RowKit Go.Maps
set_option linter.unusedVariables false
def numG (l:List ASeg) (i:Nat):Int:=(l.getD i ⟨0,0,0⟩).num
structure AL.Good (g:AL):Prop where
 name:g.name.size≤24
 segs:∀s∈g.segs,(0≤s.size∧s.size≤1048576)∧(0≤s.num∧s.num≤9999999)
 run:∀i,i<g.segs.length→numG g.segs i=numG g.segs 0+i
 next:0≤g.next∧g.next≤1152921504606846976+1000000
theorem getG_mem {l:List ASeg} {i:Nat} (h:i<l.length):l.getD i ⟨0,0,0⟩∈l:=by
 rw [List.getD_eq_getElem?_getD,List.getElem?_eq_getElem h];exact List.getElem_mem _
theorem AL.Good.len {g:AL} (h:g.Good):g.segs.length≤10000000:=by
 by_cases h0:g.segs.length=0
 ·omega
 have h1:=h.run (g.segs.length - 1) (by omega)
 have h2:=(h.segs _ (getG_mem (i:=g.segs.length - 1) (by omega))).2.2
 have h3:=(h.segs _ (getG_mem (i:=0) (by omega))).2.1
 unfold numG at h1;omega
theorem AL.Good.fit {g:AL} (h:g.Good):g.Fit:=⟨h.name,h.segs,h.len,by have:=h.next;omega,h.next.2⟩
theorem AL.Good.ok {g:AL} (h:g.Good):g.Ok:=⟨h.name,fun s hs=>by have:=h.segs s hs;omega,h.len⟩
theorem SegsEq.get {l l':List ASeg} (h:SegsEq l l'):∀i,SegEq (l.getD i ⟨0,0,0⟩) (l'.getD i ⟨0,0,0⟩):=by
 induction h with
 | nil=>intro i;simp;exact SegEq.refl _
 | cons h1 h2 ih=>
  intro i
  cases i with
  | zero=>exact h1
  | succ i=>simpa using ih i
theorem SegsEq.mem {l l':List ASeg} (h:SegsEq l l'):∀s'∈l',∃s∈l,SegEq s s':=by
 induction h with
 | nil=>intro s hs;cases hs
 | cons h1 h2 ih=>
  intro s hs
  rcases List.mem_cons.1 hs with rfl | hs
  ·exact ⟨_,List.mem_cons_self,h1⟩
  ·obtain ⟨q,hq,hqs⟩:=ih s hs
   exact ⟨q,List.mem_cons_of_mem _ hq,hqs⟩
theorem AL.Good.eq {g g':AL} (h:g.Good) (e:LogEq g g'):g'.Good:=by
 refine ⟨by rw [←e.name];exact h.name,fun s' hs'=>?_,fun i hi=>?_,by rw [←e.next];exact h.next⟩
 ·obtain ⟨s,hs,hq⟩:=e.segs.mem s' hs'
  have:=h.segs s hs
  rw [hq.1,hq.2.1] at this;exact this
 ·have h1:=h.run i (by rw [e.segs.len];exact hi)
  unfold numG at h1 ⊢;rw [←(e.segs.get i).1,←(e.segs.get 0).1];exact h1
theorem resetL_drop (nm:Key) (n:Int):∀(l:List ASeg) (A:AD),∃k,(resetL nm n A l).2.2.1=l.drop k
 | [],A=>⟨0,rfl⟩
 | s :: r,A=>by
  unfold resetL
  split
  ·split
   ·exact ⟨0,rfl⟩
   ·obtain ⟨k,hk⟩:=resetL_drop nm n r (A.remove (fileL nm s.num)).2
    exact ⟨k+1,by rw [hk];rfl⟩
  ·exact ⟨0,rfl⟩
theorem numG_drop (l:List ASeg) (k i:Nat):numG (l.drop k) i=numG l (k+i):=by
 unfold numG;rw [List.getD_eq_getElem?_getD,List.getD_eq_getElem?_getD,List.getElem?_drop]
theorem AL.Good.reset {g:AL} (h:g.Good) (A:AD) (n:Int):(resetA A g n).2.2.Good:=by
 unfold resetA
 split
 ·exact h
 split
 ·exact h
 obtain ⟨k,hk⟩:=resetL_drop g.name.data.toList n g.segs A;simp only
 refine ⟨h.name,fun s hs=>?_,fun i hi=>?_,h.next⟩
 ·simp only at hs
  rw [hk] at hs;exact h.segs s (List.mem_of_mem_drop hs)
 ·simp only at hi ⊢
  rw [hk] at hi ⊢;rw [List.length_drop] at hi
  rw [numG_drop,numG_drop,h.run (k+i) (by omega),h.run (k+0) (by omega)]
  omega
theorem write_room {A:AD} {k t:Key} {a:Int} (h:(A.write k a t).1=0):a+t.length≤1048576:=by
 unfold AD.write at h
 split at h
 ·cases h
 split at h
 ·rename_i h2;exact absurd h h2
 rename_i h2
 have:=(fits_zero (A:=A) (k:=k) (a:=a) (n:=(t.length:Int)) (by omega)).2.2.2.1
 omega
theorem numG_snoc (l:List ASeg) (x:ASeg) (i:Nat):numG (l++[x]) i=if i<l.length then numG l i else if i=l.length then x.num else 0:=by
 unfold numG;rw [List.getD_eq_getElem?_getD,List.getD_eq_getElem?_getD]
 by_cases h1:i<l.length
 ·rw [if_pos h1,List.getElem?_append_left h1]
 ·rw [if_neg h1,List.getElem?_append_right (by omega)]
  by_cases h2:i=l.length
  ·rw [if_pos h2,h2,Nat.sub_self];rfl
  ·rw [if_neg h2]
   have:i - l.length≠0:=by omega
   cases hq:i - l.length with
   | zero=>exact absurd hq this
   | succ m=>rfl
theorem AL.Good.app {g:AL} (h:g.Good) (A:AD) (t:ByteArray):(appA A g t).2.2.Good:=by
 unfold appA
 split
 ·exact h
 split
 ·exact h
 rename_i h2
 simp only;obtain ⟨X,hX⟩:∃X,Fr.frameS g.next t=X:=⟨_,rfl⟩;rw [hX];obtain ⟨PS,hPS⟩:∃x,placeA g X.size=x:=⟨_,rfl⟩;rw [hPS]
 split
 ·exact h
 rename_i h3
 split
 ·exact ⟨h.name,h.segs,h.run,h.next⟩
 rename_i h4
 have hpb:=place_bound (n:=X.size) h.fit;rw [hPS] at hpb
 have hw:PS.1.size+X.size≤1048576:=by
  have h5:(layA A g PS.1 PS.2 X.data.toList).1=0:=by simpa using h4
  unfold layA at h5;simp only at h5
  by_cases h6:(A.write (fileL g.name.data.toList PS.1.num) PS.1.size X.data.toList).1≠0
  ·rw [if_pos h6] at h5;exact absurd h5 h6
  ·have:=write_room (A:=A) (k:=fileL g.name.data.toList PS.1.num) (t:=X.data.toList) (a:=PS.1.size) (by simpa using h6)
   rw [str_len] at this;exact this
 have hb:(0≤PS.1.size+X.size∧PS.1.size+X.size≤1048576)∧(0≤PS.1.num∧PS.1.num≤9999999):=⟨⟨by have:=hpb.2.1.1;omega,hw⟩,hpb.1,by omega⟩
 have hnum:(PS.2=true→g.segs.length=0∨PS.1.num=numG g.segs 0+g.segs.length)∧(PS.2=false→0<g.segs.length∧PS.1.num=numG g.segs (g.segs.length - 1)):=by
  rw [←hPS];unfold placeA
  cases hl:g.segs.getLast? with
  | none=>
   rw [List.getLast?_eq_none_iff] at hl
   exact ⟨fun _=>.inl (by rw [hl];rfl),fun hc=>by cases hc⟩
  | some s=>
   have hpos:0<g.segs.length:=by
    cases hq:g.segs with
    | nil=>rw [hq] at hl;cases hl
    | cons a b=>simp
   have hs:s.num=numG g.segs (g.segs.length - 1):=by
    unfold numG;rw [List.getLast?_eq_getElem?] at hl
    rw [List.getD_eq_getElem?_getD,hl];rfl
   have hr:=h.run (g.segs.length - 1) (by omega)
   simp only
   split
   ·exact ⟨fun _=>.inr (by show s.num+1=_;rw [hs,hr];omega),fun hc=>by cases hc⟩
   ·exact ⟨fun hc=>(by cases hc),fun _=>⟨hpos,hs⟩⟩
 refine ⟨h.name,fun s hs=>?_,fun i hi=>?_,by show 0≤g.next+1;have:=h.next.1;omega,by show g.next+1≤_;omega⟩
 ·simp only at hs
  unfold keepA at hs
  split at hs
  ·rcases List.mem_append.1 hs with hs | hs
   ·exact h.segs s hs
   ·rw [List.mem_singleton.1 hs];exact hb
  ·rcases List.mem_or_eq_of_mem_set hs with hs | hs
   ·exact h.segs s hs
   ·rw [hs];exact hb
 ·simp only at hi ⊢
  unfold keepA at hi ⊢
  by_cases hf:PS.2=true
  ·rw [if_pos hf] at hi ⊢
   rw [List.length_append,List.length_singleton] at hi;rw [numG_snoc,numG_snoc]
   rcases hnum.1 hf with h0 | h0
   ·have:i=0:=by omega
    subst this
    simp
   ·by_cases h1:i<g.segs.length
    ·rw [if_pos h1,if_pos (by omega)];exact h.run i h1
    ·have e:i=g.segs.length:=by omega
     rw [if_neg h1,if_pos e]
     by_cases hz:0<g.segs.length
     ·rw [if_pos hz,h0,e]
     ·have:g.segs.length=0:=by omega
      rw [if_neg hz,if_pos this.symm,e,this];simp
  ·rw [if_neg hf] at hi ⊢
   rw [List.length_set] at hi
   obtain ⟨hpos,hn⟩:=hnum.2 (by simpa using hf)
   have e:∀q,numG (g.segs.set (g.segs.length - 1) ⟨PS.1.num,PS.1.size+X.size,g.next+1⟩) q=numG g.segs q:=fun q=>by
    unfold numG at hn ⊢;rw [List.getD_eq_getElem?_getD,List.getD_eq_getElem?_getD]
    by_cases hq:g.segs.length - 1=q
    ·subst hq
     rw [List.getElem?_set_self (by omega)]
     simp only [Option.getD_some];rw [hn,List.getD_eq_getElem?_getD]
    ·rw [List.getElem?_set_ne hq]
   rw [e,e];exact h.run i hi
theorem SegEq.symm {s s':ASeg} (h:SegEq s s'):SegEq s' s:=⟨h.1.symm,h.2.1.symm,fun h0=>(h.2.2 (by rw [h.2.1];exact h0)).symm⟩
theorem SegsEq.symm {l l':List ASeg} (h:SegsEq l l'):SegsEq l' l:=by
 induction h with
 | nil=>exact .nil
 | cons h1 _ ih=>exact .cons h1.symm ih
theorem LogEq.symm {g g':AL} (h:LogEq g g'):LogEq g' g:=⟨h.name.symm,h.room.symm,h.next.symm,h.dead.symm,h.segs.symm⟩
theorem numG_dSegs (A:AD) (K:Key):∀(N i:Nat),i<N→numG (dSegs A K N) i=numAt' A K i
 | 0,i,h=>by omega
 | N+1,i,h=>by
  unfold dSegs;rw [numG_snoc,dSegs_len]
  by_cases h1:i<N
  ·rw [if_pos h1];exact numG_dSegs A K N i h1
  ·have e:i=N:=by omega
   rw [if_neg h1,if_pos e,e]
theorem mem_dSegs {A:AD} {K:Key}:∀{N:Nat} {s:ASeg},s∈dSegs A K N→∃k,k<N∧s.num=numAt' A K k∧s.size=endAt A K k
 | 0,s,h=>by cases h
 | N+1,s,h=>by
  unfold dSegs at h
  rcases List.mem_append.1 h with h | h
  ·obtain ⟨k,hk,e⟩:=mem_dSegs h
   exact ⟨k,by omega,e⟩
  ·rw [List.mem_singleton.1 h];exact ⟨N,by omega,rfl,rfl⟩
theorem consec_at {ns:List Int} (h:consec ns=true) {i:Nat} (hi:i<ns.length):ns.getD i 0=ns.getD 0 0+i:=by
 have:=List.all_eq_true.1 h i (List.mem_range.2 hi)
 simpa using this
theorem dOpen_good {A:AD} {nm:ByteArray} {sz first:Int} {g:AL} (hok:A.Ok) (h:(dOpenA A nm sz first).log=some g):g.Good:=by
 unfold dOpenA at h
 split at h
 ·cases h
 rename_i h1
 split at h
 ·cases h
 split at h
 ·cases h
 rename_i h3
 split at h
 ·cases h
 simp only at h
 split at h
 ·cases h
 rename_i h5
 generalize (if (rS A nm.data.toList (numsL A nm.data.toList).length).torn=true then (A.trunc (fileL nm.data.toList (numAt' A nm.data.toList ((numsL A nm.data.toList).length - 1))) (endAt A nm.data.toList ((numsL A nm.data.toList).length - 1))).2 else A)=A1 at h
 split at h
 ·cases h
 obtain ⟨K,hK⟩:∃K,nm.data.toList=K:=⟨_,rfl⟩;rw [hK] at h h1 h3 h5;obtain ⟨N,hN⟩:∃N,(numsL A K).length=N:=⟨_,rfl⟩;rw [hN] at h h5
 have hN16:N≤16:=by rw [←hN];exact nums_few hok K
 have hmem:∀k,k<N→numAt' A K k∈numsL A K:=fun k hk=>by
  unfold numAt'
  rw [List.getD_eq_getElem?_getD,List.getElem?_eq_getElem (by omega)]
  exact List.getElem_mem _
 cases h
 have hf:0≤first∧first≤1152921504606846976:=by
  constructor
  ·by_cases hc:first<0
   ·exact absurd (.inr (.inr (.inr (.inl hc)))) h1
   ·omega
  ·by_cases hc:1152921504606846976<first
   ·exact absurd (.inr (.inr (.inr (.inr hc)))) h1
   ·omega
 refine ⟨?_,fun s hs=>?_,fun i hi=>?_,?_⟩
 ·have h2:lnameOk K=true:=by
   cases hq:lnameOk K with
   | true=>rfl
   | false=>exact absurd (.inl hq) h1
  unfold lnameOk at h2;simp only [Bool.and_eq_true,decide_eq_true_eq] at h2;rw [←hK,str_len] at h2;exact h2.1.2
 ·obtain ⟨k,hk,e1,e2⟩:=mem_dSegs hs
  rw [e1,e2]
  refine ⟨⟨by unfold endAt;omega,?_⟩,nums_in (hmem k hk)⟩
  have:=text_len (A:=A) K (numAt' A K k)
  unfold endAt txtAt;omega
 ·simp only at hi ⊢
  rw [dSegs_len] at hi
  rw [numG_dSegs A K N i hi,numG_dSegs A K N 0 (by omega)]
  unfold numAt'
  exact consec_at (by simpa using h3) (by omega)
 ·simp only
  split
  ·omega
  ·rename_i hp
   have h7:=rS_from A K N hp;have h8:=(rS_bound A K N).2.1;omega
theorem open_good {A:AD} {nm:ByteArray} {sz first:Int} {g:AL} (hok:A.Ok) (h:(openA A nm sz first).log=some g):g.Good:=by
 rcases (open_eq A nm sz first).log with ⟨h1,_⟩ | ⟨a,b,h1,h2,h3⟩
 ·rw [h1] at h;cases h
 ·rw [h1] at h
  cases h;exact (dOpen_good hok h2).eq h3.symm
end Go.Proofs.YtjbdncknooeplaaGreatDoor
