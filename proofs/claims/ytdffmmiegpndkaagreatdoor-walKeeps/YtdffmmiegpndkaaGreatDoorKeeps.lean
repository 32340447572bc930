import Derived.Test.YtdffmmiegpndkaaGreatDoorHeap
namespace Go.Proofs.YtdffmmiegpndkaaGreatDoor
open Go.RowKit Go.Maps Go.WideMaps
set_option linter.unusedVariables false
set_option linter.unusedSimpArgs false
def RowAt (w:World) (ad:Option Addr) (xs:List Value):Prop:=xs=[]∨∃b o,ad=some ⟨b,o,none⟩∧b<w.heap.size∧∀i,i<xs.length→w.cell? ⟨b,o+i,none⟩=xs[i]?
theorem row_at {w:World} {base e n:Nat} {v:Value} {xs:List Value} (h:w.ownsRow base e 1 v n xs):∃ad cap,v=.slice ad n cap∧RowAt w ad xs∧xs.length=n∧n≤maxLen:=by
 have hl:=h.1;rw [Nat.mul_one] at hl
 rcases h.2 with ⟨rfl,hn⟩ | ⟨g,cap,cur,rfl,hb,hg,hnc,hcm,rest⟩
 ·subst hn
  exact ⟨none,0,rfl,.inl (List.length_eq_zero_iff.1 hl),hl,Nat.zero_le _⟩
 ·refine ⟨_,cap,rfl,.inr ⟨g,0,rfl,lt_of_some hg,fun i hi=>?_⟩,hl,by omega⟩
  have:=World.ownsRow.cells h (g:=g) rfl i xs[i] (List.getElem?_eq_getElem hi)
  rw [List.getElem?_eq_getElem hi,←this]
  congr 1
  unfold Addr.add
  split<;>simp_all
theorem RowAt.same {w w':World} {ad:Option Addr} {xs:List Value} (h:RowAt w ad xs) {S:Nat→Prop} (t:Turn S w w') (hn:∀b o,ad=some ⟨b,o,none⟩→¬S b):RowAt w' ad xs:=by
 rcases h with h | ⟨b,o,ha,hlt,hc⟩
 ·exact .inl h
 ·refine .inr ⟨b,o,ha,Nat.lt_of_lt_of_le hlt t.size,fun i hi=>?_⟩
  rw [←hc i hi];exact World.cell?_of_block (t.block b hlt (hn b o ha))
theorem toList_beq (a b:ByteArray):(a.toList == b.toList)=(a.data.toList == b.data.toList):=by rw [ByteArray.toList_eq,ByteArray.toList_eq]
set_option maxRecDepth 5000 in
set_option maxRecDepth 5000 in
theorem drewN_below {B:Nat} {w w1:World} (h:Below B w w1) (n:Nat):Below B w (w1.drewN n):=⟨h.os,h.tape,h.output,h.size,h.block⟩
theorem take_eq_succ {α:Type} {a b:List α} {k:Nat} (h:a.take k=b.take k) (ha:k<a.length) (hb:k<b.length) (hx:a[k]=b[k]):a.take (k+1)=b.take (k+1):=by
 rw [List.take_succ_eq_append_getElem ha,List.take_succ_eq_append_getElem hb,h,hx]
set_option maxRecDepth 5000 in
theorem sameTexts_any (w:World) (ad1 ad2:Option Addr) (cap1 cap2:Nat) (ks ms:List Key) (h:RowAt w ad1 (ks.map encStr)) (hm:RowAt w ad2 (ms.map encStr)) (hl:ks.length≤maxLen) (hl2:ms.length≤maxLen) :
 Calls Tryz.prog 16 #[.slice ad1 ks.length cap1,.slice ad2 ms.length cap2] w fun e w'=>e=.returned (.bool (ks == ms))∧Below w.heap.size w w':=by
 have HR:=hide h;have HM:=hide hm;unfold maxLen at hl hl2;clear h hm
 by_cases hne:ks.length=ms.length
 ·have dn:(((ks.length:Int) == (ms.length:Int)))=true:=beq_iff_eq.2 (by omega)
  have HNE:=hide hne;clear hne
  go_enter Tryz.func16,Tryz.ntmps16
  go_wp2
  go_loopw [5] (fun i wr=>∃k:Nat,k≤ks.length∧i=.int .i64 (k:Int)∧ks.take k=ms.take k∧Below w.heap.size w wr) (fun i _=>ks.length - (intOf i).toNat)
  case atStart=>exact ⟨0,by omega,rfl,rfl,Below.refl _ _⟩
  case round=>
   obtain ⟨k,hk,rfl,hno,hbw⟩:=hrel;have HN:=hide hno;have HB:=hide hbw;clear hno hbw
   by_cases hlt:k<ks.length
   ·have hlt2:k<ms.length:=by rw [←HNE.out];exact hlt
    have dk:decide ((k:Int)<(ks.length:Int))=true:=decide_eq_true (by omega)
    have hk0:(0:Int)≤(k:Int):=by omega
    have hk1:(k:Int)<(ks.length:Int):=by omega
    have hk2:(k:Int)<(ms.length:Int):=by omega
    rcases HR.out with h | ⟨b,o,rfl,hbl,hcs⟩
    ·rw [List.map_eq_nil_iff.1 h] at hlt;exact absurd hlt (by simp)
    rcases HM.out with h | ⟨b2,o2,rfl,hbl2,hcs2⟩
    ·rw [List.map_eq_nil_iff.1 h] at hlt2;exact absurd hlt2 (by simp)
    have f0:wr.cell? ⟨b,o+k,none⟩=some (.string ⟨ks[k].toArray⟩):=by rw [World.cell?_of_block (HB.out.block b hbl),hcs k (by simpa using hlt),List.getElem?_map,List.getElem?_eq_getElem hlt];rfl
    have f1:wr.cell? ⟨b2,o2+k,none⟩=some (.string ⟨ms[k].toArray⟩):=by rw [World.cell?_of_block (HB.out.block b2 hbl2),hcs2 k (by simpa using hlt2),List.getElem?_map,List.getElem?_eq_getElem hlt2];rfl
    obtain ⟨x,hx⟩:∃x,ks[k]=x:=⟨_,rfl⟩;obtain ⟨y,hy⟩:∃y,ms[k]=y:=⟨_,rfl⟩;rw [hx] at f0;rw [hy] at f1
    cases hq:(x == y) with
    | true=>
     have HC:=hide (take_eq_succ HN.out hlt hlt2 (by rw [hx,hy];exact beq_iff_eq.1 hq))
     clear hcs hcs2 hx hy;go_wp2
     go_quiet (fail)
     go_wp2;go_roundw
     case rel=>exact ⟨k+1,by omega,by go_num,HC.out,drewN_below HB.out _⟩
     case measure=>simp [intOf];omega
    | false=>
     have HC:Hid ((ks == ms)=false):=by
      show _=_
      rw [beq_eq_false_iff_ne];intro e;subst e;rw [←hx,←hy] at hq;simp at hq
     clear hcs hcs2 hx hy;go_wp2
     go_quiet (fail)
     go_wp2;go_ret
     exact ⟨by rw [HC.out];rfl,drewN_below HB.out _⟩
   ·have hkl:k=ks.length:=by omega
    subst hkl
    have dk:decide ((ks.length:Int)<(ks.length:Int))=false:=decide_eq_false (by omega)
    have HC:Hid ((ks == ms)=true):=by
     show _=_
     have:=HN.out
     rw [List.take_length,HNE.out,List.take_length] at this;exact beq_iff_eq.2 this
    go_wp2;go_ret
    exact ⟨by rw [HC.out];rfl,HB.out⟩
 ·have dn:(((ks.length:Int) == (ms.length:Int)))=false:=beq_eq_false_iff_ne.2 (by omega)
  have HC:Hid ((ks == ms)=false):=by
   show _=_
   rw [beq_eq_false_iff_ne]
   exact fun e=>hne (by rw [e])
  clear hne
  go_enter Tryz.func16,Tryz.ntmps16
  go_wp2;go_ret
  exact ⟨by rw [HC.out];rfl,Below.refl _ _⟩
-- left out in this seat: sameInts_any
def AD.all (A:AD) (k:Key):Key:=(A.read k 0 1048576).1
structure OP where
 kind:Int
 two:Bool
 name:ByteArray
 to:ByteArray
 at_:Int
 n:Int
 text:ByteArray
 ad:Option Addr
 fates:List FT
 cap:Nat
def OP.cs (o:OP):Array Value:=#[.int .i64 o.kind,.bool o.two,.string o.name,.string o.to,.int .i64 o.at_,.int .i64 o.n,.string o.text,.slice o.ad o.fates.length o.cap]
structure OP.Ok (o:OP):Prop where
 name:o.name.size≤maxLen
 to:o.to.size≤maxLen
 a0:-9223372036854775808≤o.at_
 a1:o.at_<9223372036854775808
 n0:-9223372036854775808≤o.n
 n1:o.n<9223372036854775808
 text:o.text.size≤140737488355328
 fates:∀x∈o.fates,x.Ok
 len:o.fates.length≤9223372036854775807
theorem FatesAt.later {B:Nat} {w w':World} {ad:Option Addr} {ls:List FT} (h:FatesAt w ad ls) (hb:Below B w w') (hB:ls≠[]→∀b o,ad=some ⟨b,o,none⟩→b<B):FatesAt w' ad ls:=by
 by_cases he:ls=[]
 ·exact .inl he
 ·exact h.below hb (hB he)
structure OP.Lie (B:Nat) (w:World) (o:OP):Prop where
 at_:FatesAt w o.ad o.fates
 lt:o.fates≠[]→∀b f,o.ad=some ⟨b,f,none⟩→b<B
def AD.step (A:AD) (o:OP):Int×AD:=
 if o.kind=1 then A.write o.name.data.toList o.at_ o.text.data.toList
 else if o.kind=2 then A.sync o.name.data.toList
 else if o.kind=3 then A.trunc o.name.data.toList o.n
 else if o.kind=4 then A.rename o.name.data.toList o.to.data.toList
 else if o.kind=5 then A.remove o.name.data.toList
 else if o.kind=7 then (0,A.armed o.n o.at_)
 else if o.kind=11 then (0,A.fallen o.n)
 else if o.kind=8 then (0,A.crash (o.fates.map FT.abs))
 else if o.kind=9 then (0,A.on)
 else (0,A)
def OpsAt (w:World) (ad:Option Addr) (os:List OP):Prop:=os=[]∨∃b o,ad=some ⟨b,o,none⟩∧b<w.heap.size∧∀i (h:i<os.length) j,j<8→w.cell? ⟨b,o+i * 8+j,none⟩=(os[i].cs)[j]?
structure Script (B:Nat) (w:World) (ad:Option Addr) (os:List OP):Prop where
 at_:OpsAt w ad os
 lt:os≠[]→∀b o,ad=some ⟨b,o,none⟩→b<B
 ok:∀o∈os,o.Ok
 lie:∀o∈os,o.Lie B w
 len:os.length≤maxLen
section
variable {B:Nat} {w:World} {p:Nat}
end
-- left out in this seat: first_any
end Go.Proofs.YtdffmmiegpndkaaGreatDoor
namespace Go.Proofs.YtdffmmiegpndkaaGreatDoor
open Go.RowKit Go.Maps Go.WideMaps
set_option linter.unusedVariables false
set_option linter.unusedSimpArgs false
section
variable {t e:TypeId} {z:Value} {by_:Nat}
theorem run_append_rows (ht:Tryz.prog.underlying t=some (.slice e)) (hinf:(Tryz.prog.info? e).map (fun i=>(i.zero,i.size,i.bytes))=some (some z,1,by_)) (hzc:z.cells.size=1) (hby:1≤by_)
 (w:World) (ty tx:TypeId) (v:Value) (l news:List Value) (hown:w.ownsRow 0 e 1 v l.length l) (x:Value) (hs:Src Tryz.prog 1 tx x news.length news w) (hlen:(l.length+news.length) * by_≤140737488355328) :
 ∃v' w',(Builtin.append_ #[t,tx] ty #[v,x]).run Tryz.prog w=.ok v' w'∧w'.ownsRow 0 e 1 v' (l++news).length (l++news)∧Mv w v w' v':=by
 obtain ⟨i,hi,hz0,hz1,hz2⟩:=info_parts hinf;rw [←hz1] at hs;have hlen0:l.length+news.length≤140737488355328:=Nat.le_trans (Nat.le_mul_of_pos_right _ hby) hlen
 by_cases hn:news=[]
 ·subst hn
  have hh:=hown.2
  rcases hh with ⟨rfl,hl⟩ | ⟨g,cap,cur,rfl,hb,hg,hnc,hcm,hcs,htake⟩
  ·exact ⟨_,_,run_append_nothing (P:=Tryz.prog) w t tx ty e i ht hi none 0 0 (Nat.le_refl _) x hs,by rw [List.append_nil];exact hown,Mv.refl _ _⟩
  ·exact ⟨_,_,run_append_nothing (P:=Tryz.prog) w t tx ty e i ht hi (some ⟨g,0,none⟩) l.length cap hnc x hs,by rw [List.append_nil];exact hown,Mv.refl _ _⟩
 have hpos:0<news.length:=List.length_pos_iff.2 hn
 have grown:∀(old:Nat),old<l.length+news.length →
  (w.drew.alloc (.cells ((l++news).toArray++Builtin.zeroCells z.cells (grownCap w (l.length+news.length) old e - (l.length+news.length))) e)).ownsRow 0 e 1
    (.slice (some ⟨w.heap.size,0,none⟩) (l.length+news.length) (grownCap w (l.length+news.length) old e)) (l++news).length (l++news) ∧
  ∀row:Option Nat,w.grownBy (w.drew.alloc (.cells ((l++news).toArray++Builtin.zeroCells z.cells (grownCap w (l.length+news.length) old e - (l.length+news.length))) e)) row:=by
  intro old ho;have hge:=grownCap_ge w (l.length+news.length) old e
  have hcm:grownCap w (l.length+news.length) old e≤maxLen:=grownCap_le_maxLen w _ old e (by unfold maxLen;omega)
  refine ⟨?_,fun row=>⟨rfl,rfl,rfl,by simp,fun k hk _=>Below.heap_alloc w.drew _ k hk⟩⟩
  rw [List.length_append]
  refine ⟨by simp,.inr ⟨w.heap.size,_,_,rfl,Nat.zero_le _,heap_alloc_new w.drew _,hge,hcm,?_,?_⟩⟩
  ·simp only [Array.size_append,List.size_toArray,size_zeroCells,List.length_append]
   rw [hzc];omega
  ·rw [Array.toList_append]
   have e:(l.length+news.length) * 1=(l++news).length:=by simp
   rw [e];exact List.take_left
 have hh:=hown.2
 rcases hh with ⟨rfl,hl⟩ | ⟨g,cap,cur,rfl,hb,hg,hnc,hcm,hcs,htake⟩
 ·have hl0:l=[]:=List.length_eq_zero_iff.1 hl
  subst hl0
  have hr:=run_append_grow_src (P:=Tryz.prog) w t tx ty e i z ht hi hz0 none 0 0 [] (run_firstCells_none w.drew i.size 0 0 0) x news.length news hs (by omega) (by omega) (by
   rw [hz2,Nat.zero_add,nextslicecap_zero hpos];simp only [List.length_nil,Nat.zero_add] at hlen;omega)
  obtain ⟨g1,g2⟩:=grown 0 (by omega)
  simp only [List.length_nil,Nat.zero_add,List.nil_append] at g1 g2 hr
  refine ⟨_,_,hr,by simpa using g1,g2 _,fun g' hg'=>.inr ?_⟩
  have e:g'=w.heap.size:=by simpa [Value.ownBlock] using hg'.symm
  omega
 ·have hc:=World.ownsRow.cells hown (g:=g) rfl
  by_cases hroom:l.length+news.length≤cap
  ·have hst:=run_storeCells_at Tryz.prog g (l.length * i.size) e news 0 cur w hg (by simp [hz1];omega) hs.one
   rw [Nat.add_zero] at hst
   have hr:(Builtin.append_ #[t,tx] ty #[.slice (some ⟨g,0,none⟩) l.length cap,x]).run Tryz.prog w=.ok (.slice (some ⟨g,0,none⟩) (l.length+news.length) cap) (w.setRow g (cur.toList.take (l.length * i.size)++news++cur.toList.drop (l.length * i.size+news.length)).toArray):=by
    rcases hs.kind with ⟨e',hk⟩ | hk<;>simp [Builtin.append_,run_underlying ht,run_underlying hk,sizeOf,typeInfo,hi,hs.len,hroom,hs.cells,Addr.add_lit,hst]
   refine ⟨_,_,hr,?_,⟨rfl,rfl,rfl,by simp,fun k _ hk=>setRow_other w g k _ (fun e=>hk (by simp [Value.ownBlock,e]))⟩,fun g' hg'=>.inl ?_⟩
   ·rw [List.length_append]
    refine ⟨by simp,.inr ⟨g,cap,_,rfl,hb,setRow_heap w g cur _ e _ hg,hroom,hcm,?_,?_⟩⟩
    ·simp only [List.size_toArray,List.length_append,List.length_take,List.length_drop,Array.length_toList,hz1]
     omega
    ·rw [hz1,htake]
     have e:(l.length+news.length) * 1=(l++news).length:=by simp
     rw [e];exact List.take_left
   ·simpa [Value.ownBlock] using hg'
  ·have hr:=run_append_grow_src (P:=Tryz.prog) w t tx ty e i z ht hi hz0 (some ⟨g,0,none⟩) l.length cap l (by
    have:=run_firstCells_some (P:=Tryz.prog) w.drew i.size l.length ⟨g,0,none⟩ l.length cap l (by simp [hz1]) hc
    exact this) x news.length news hs (by omega) (by omega) (growslice_fits (by omega) (by rw [hz2];omega))
   obtain ⟨g1,g2⟩:=grown cap (by omega)
   refine ⟨_,_,hr,g1,g2 _,fun g' hg'=>.inr ?_⟩
   have e:g'=w.heap.size:=by simpa [Value.ownBlock] using hg'.symm
   omega
theorem src_row {tx:TypeId} (hk:Tryz.prog.underlying tx=some (.slice e)) {w:World} {x:Value} {news:List Value} (h:w.ownsRow 0 e 1 x news.length news) (h1:∀u∈news,u.oneCell'=true):Src Tryz.prog 1 tx x news.length news w:=by
 have hh:=h.2
 rcases hh with ⟨rfl,hl⟩ | ⟨g,cap,cur,rfl,hb,hg,rest⟩
 ·have:news=[]:=List.length_eq_zero_iff.1 hl
  subst this;exact Src.ofNil w hk 0
 ·exact Src.ofSlice w hk ⟨g,0,none⟩ news.length cap news (by simp) (World.ownsRow.cells h rfl) h1
end
section
variable {B:Nat} {w:World} {L:List Item} {i:Nat} {e:TypeId} {v:Value} {xs:List Value}
theorem Lies.rowOf (h:Lies B w L) (hi:L[i]?=some (.row e v xs)):w.ownsRow 0 e 1 v xs.length xs:=by
 obtain ⟨S,hp,_⟩:=h.get hi;exact hp.1
theorem Lies.pushNil (h:Lies B w L) (e:TypeId):Lies B w (L++[.row e (.slice none 0 0) []]):=
 h.push (S':=fun b=>(Value.slice none 0 0).ownBlock=some b) (Below.refl _ _) ⟨World.ownsRow_nil w 0 e 1,fun _=>Iff.rfl⟩ (fun b hb=>by simp [Value.ownBlock] at hb)
theorem Lies.moved {w':World} {v':Value} {ys:List Value} (h:Lies B w L) (hi:L[i]?=some (.row e v xs)) (hr:w'.ownsRow 0 e 1 v' ys.length ys) (hm:Mv w v w' v'):Lies B w' (L.set i (.row e v' ys))∧Below B w w':=by
 obtain ⟨S,hp,hB,hap,hk⟩:=h.upd hi
 refine hk w' _ (fun b=>v'.ownBlock=some b) ⟨hr,fun _=>Iff.rfl⟩ ⟨⟨hm.gr.os,hm.gr.tape,hm.gr.output,hm.gr.size,fun b hb hn=>hm.gr.block b hb (fun x=>hn ((hp.2 b).2 x.symm))⟩,fun b hb=>?_⟩
 rcases hm.own b hb with x | x
 ·exact .inl ((hp.2 b).2 x)
 ·exact .inr x
end
end Go.Proofs.YtdffmmiegpndkaaGreatDoor
namespace Go.Proofs.YtdffmmiegpndkaaGreatDoor
open Go.RowKit Go.Maps Go.WideMaps
set_option linter.unusedVariables false
set_option linter.unusedSimpArgs false
structure Clean (F:AF) (l:List UInt8):Prop where
 seen:F.seen=l
 safe:F.safe=l
 dirty:∀s,F.dirty s=false
theorem foldl_same {α β:Type} (f:β→α→β) (b:β):∀l:List α,(∀x∈l,f b x=b)→l.foldl f b=b
 | [],_=>rfl
 | a :: l,h=>by
  rw [List.foldl_cons,h a (by simp)]
  exact foldl_same f b l (fun x hx=>h x (by simp [hx]))
theorem Clean.len {F:AF} {l:List UInt8} (h:Clean F l) (ft:Nat→Option AFate):F.len ft=l.length:=by
 unfold AF.len;rw [h.safe]
 exact foldl_same _ _ _ (fun s _=>by simp [h.dirty])
theorem Clean.left {F:AF} {l:List UInt8} (h:Clean F l) (ft:Nat→Option AFate):F.left ft=l:=by
 unfold AF.left;rw [h.len];apply List.ext_getElem?;intro i;rw [List.getElem?_map]
 by_cases hi:i<l.length
 ·rw [List.getElem?_range hi,List.getElem?_eq_getElem hi]
  simp [AF.after,h.dirty,h.safe,hi]
 ·rw [List.getElem?_eq_none (by simp;omega),List.getElem?_eq_none (by omega)];rfl
def p0:AP:=⟨false,false,0,0,0⟩
end Go.Proofs.YtdffmmiegpndkaaGreatDoor
