import Derived.Test.YtjbdncknooeplaaGreatDoorWRLog
import Derived.Test.YtjbdncknooeplaaGreatDoorWRNums
import Derived.Test.YtjbdncknooeplaaGreatDoorWAgainQ
import Derived.Test.YtjbdncknooeplaaGreatDoorCurBase
import Derived.Test.YtjbdncknooeplaaGreatDoorWNum
import Derived.Test.YtjbdncknooeplaaGreatDoorWRBegins
import Derived.Test.YtjbdncknooeplaaGreatDoorWRNumM
import Derived.Test.YtjbdncknooeplaaGreatDoorRScan
namespace Go.Proofs.YtjbdncknooeplaaGreatDoor
open Go.RowKit Go.Maps
set_option linter.unusedVariables false
set_option linter.unusedSimpArgs false
theorem elemRS:Tryz.prog.elem 100=105:=by kernel_rfl
theorem undRS:Tryz.prog.underlying 100=some (.slice (Tryz.prog.elem 100)):=by kernel_rfl
theorem sizeRS (w:World):(sizeOf 105).run Tryz.prog w=.ok 3 w:=by
 have h:(Tryz.prog.info? 105).map (·.size)=some 3:=by kernel_rfl
 cases hq:Tryz.prog.info? 105 with
 | none=>simp [hq] at h
 | some i=>simp [hq] at h;simp [sizeOf,typeInfo,hq,h]
theorem cut_one (b off n cp:Nat):∀w':World,(Instr.slice 100 (.slice (some ⟨b,off,none⟩) (n+1) (cp+1)) (some (.int .i64 1)) none none).run Tryz.prog w'=.ok (.slice (if cp=0 then some ⟨b,off,none⟩ else some ⟨b,off+3,none⟩) n cp) w':=fun w'=>by
 rw [run_slice_l w' 100 (some ⟨b,off,none⟩) (n+1) (cp+1) undRS .i64 1 (by omega) (by omega),elemRS,sizeRS]
 simp only [sliced];have e1:(1:Int).toNat=1:=rfl;rw [e1]
 by_cases h0:cp=0
 ·subst h0;simp [sliced]
 ·have:¬(cp+1 - 1=0):=by omega
  simp [sliced,h0,addr_addK]
theorem src_segs {w:World} {v:Value} {gs:List ASeg} {r:Option Nat} (h:SegRow w v gs r):Src Tryz.prog 3 100 v gs.length (cellsG gs) w:=by
 obtain ⟨ad,cap,rfl,hle,h1⟩:=h
 rcases h1 with ⟨rfl,rfl,_⟩ | ⟨b,off,rfl,_,hbl,hcs,_,_⟩
 ·have:gs=[]:=List.length_eq_zero_iff.1 (by omega)
  subst this;exact Src.ofNil w Tryz.underlying100 0
 ·refine Src.ofSlice w Tryz.underlying100 ⟨b,off,none⟩ gs.length cap (cellsG gs) (by rw [cellsG_length];omega) (fun j u hu=>?_) (one_segs gs)
  have hj:j<3 * gs.length:=by rw [←cellsG_length];exact (List.getElem?_eq_some_iff.1 hu).1
  have:=hcs j hj
  rw [hu] at this
  simpa [addr_addK] using this
theorem copy_segs {w:World} {v:Value} {gs:List ASeg} {r:Option Nat} (h:SegRow w v gs r) (hn:gs.length≤10000000) (ty:TypeId) :
 ∃v' r' w',(Builtin.append_ #[100,100] ty #[.slice none 0 0,v]).run Tryz.prog w=.ok v' w'∧SegRow w' v' gs r'∧Below w.heap.size w w'∧(∀b,r'=some b→w.heap.size≤b):=by
 obtain ⟨i,hi,hz0,hz1,hz2⟩:=info_parts infoRS;have hsrc:=src_segs h;rw [←hz1] at hsrc
 by_cases h0:gs=[]
 ·subst h0
  have hs0:Src Tryz.prog i.size 100 v 0 [] w:=hsrc
  exact ⟨_,none,w,run_append_nothing (P:=Tryz.prog) w 100 100 ty 105 i Tryz.underlying100 hi none 0 0 (Nat.le_refl _) v hs0,SegRow.nil w,Below.refl _ _,fun b hb=>by cases hb⟩
 ·have hpos:0<gs.length:=List.length_pos_iff.2 h0
  have hr:=run_append_grow_src w 100 100 ty 105 i _ Tryz.underlying100 hi hz0 none 0 0 [] (run_firstCells_none _ _ _ _ _) _ gs.length (cellsG gs) hsrc (by omega) (by omega) (by
   have:=nextslicecap_le (need:=0+gs.length) (old:=0) (by omega)
   rw [hz2];omega)
  have hg:=rgrown_row w.drew gs (grownCap w (0+gs.length) 0 105) (by have:=grownCap_ge w (0+gs.length) 0 105;omega)
  rw [List.nil_append,Nat.zero_add] at hr;rw [Nat.zero_add] at hg
  exact ⟨_,some w.heap.size,_,hr,hg,(Below.refl _ w).drew.alloc (Nat.le_refl _) _,fun b hb=>by cases hb;exact Nat.le_refl _⟩
theorem elemT:Tryz.prog.elem 34=9:=by kernel_rfl
theorem undT:Tryz.prog.underlying 34=some (.slice (Tryz.prog.elem 34)):=by kernel_rfl
theorem size9t (w:World):(sizeOf 9).run Tryz.prog w=.ok 1 w:=by
 have h:(Tryz.prog.info? 9).map (·.size)=some 1:=by kernel_rfl
 cases hq:Tryz.prog.info? 9 with
 | none=>simp [hq] at h
 | some i=>simp [hq] at h;simp [sizeOf,typeInfo,hq,h]
theorem cut_texts {B:Nat} {w:World} {L:List Item} {q:Nat} {v:Value} {xs:List Key} (h:Lies B w L) (hq:L[q]?=some (.row 9 v (xs.map encStr))) (k:Nat) (hk:k≤xs.length) :
 ∃ad cap,(∀w':World,(Instr.slice 34 v (some (.int .i64 (k:Int))) none none).run Tryz.prog w'=.ok (.slice ad (xs.length - k) cap) w')∧Lies B w (L.set q (.sub (.slice ad (xs.length - k) cap) (xs.drop k))):=by
 obtain ⟨ad,cap,rfl,h1,h2,h3,h4,h5⟩:=h.toSub hq k hk
 refine ⟨dropAd ad k cap,cap - k,fun w'=>?_,h5⟩
 rw [run_slice_l w' 34 ad xs.length cap undT .i64 (k:Int) (by omega) (by omega),elemT,size9t]
 simp only [sliced,Int.toNat_natCast];unfold dropAd
 cases ad with
 | none=>
  have hc:=h4 rfl;subst hc
  have:k=0:=by omega
  subst this
  simp
 | some a=>
  obtain ⟨b,rfl⟩:=h3 a rfl
  by_cases hc:cap=k
  ·subst hc;simp
  ·have:¬(cap - k=0):=by omega
   simp [hc,this,addr_addK]
theorem copy_sub {B:Nat} {W:World} {L:List Item} {q:Nat} {x:Value} {ys:List Key} (h:Lies B W L) (hr:L[q]?=some (.sub x ys)) (hlen:ys.length≤1000000000) (ty:TypeId) :
 ∃ad cap W2,(Builtin.append_ #[34,34] ty #[.slice none 0 0,x]).run Tryz.prog W=.ok (.slice ad ys.length cap) W2∧Lies B W2 (L++[.row 9 (.slice ad ys.length cap) (ys.map encStr)])∧Below B W W2:=by
 obtain ⟨adx,capx,rfl,hrow,_⟩:=h.subAt hr
 have hsrc:Src Tryz.prog 1 34 (.slice adx ys.length capx) (ys.map encStr).length (ys.map encStr) W:=by
  rw [List.length_map]
  rcases hrow with h0 | ⟨b,o,rfl,hb,hc⟩
  ·have:ys=[]:=List.map_eq_nil_iff.1 h0
   subst this
   cases adx with
   | none=>exact Src.ofNil W Tryz.underlying34 _
   | some a=>exact Src.ofSlice W Tryz.underlying34 a 0 _ [] (by simp) (by simp) (by simp)
  ·refine Src.ofSlice W Tryz.underlying34 ⟨b,o,none⟩ ys.length capx (ys.map encStr) (by simp) (fun j u hu=>?_) (fun u hu=>by obtain ⟨k,_,rfl⟩:=List.mem_map.1 hu;rfl)
   have hj:j<(ys.map encStr).length:=(List.getElem?_eq_some_iff.1 hu).1
   have:=hc j hj
   rw [hu] at this
   simpa [addr_addK] using this
 have h0:=h.pushNil 9
 have hq0:(L++[Item.row 9 (.slice none 0 0) []])[L.length]?=some (.row 9 (.slice none 0 0) []):=by rw [List.getElem?_append_right (Nat.le_refl _),Nat.sub_self];rfl
 obtain ⟨v',W2,hrun,hown,hmv⟩:=run_append_rows (t:=34) (e:=9) (z:=.string ⟨#[]⟩) (by_:=16) Tryz.underlying34 infoStr rfl (by decide) W ty 34 (.slice none 0 0) [] (ys.map encStr) (h0.rowOf hq0) _ hsrc (by simp;omega)
 obtain ⟨ad,cap,hv,_⟩:=row_at hown;subst hv;obtain ⟨h2,hb2⟩:=h0.moved hq0 hown hmv;rw [List.set_append_right _ _ (Nat.le_refl _),Nat.sub_self] at h2;simp only [List.nil_append,List.length_map,List.set_cons_zero] at h2 hrun;exact ⟨ad,cap,W2,hrun,h2,hb2⟩
theorem rS_from (A:AD) (nm:Key):∀k,(rS A nm k).pay≠[]→0≤(rS A nm k).next - (rS A nm k).pay.length
 | 0,h=>absurd rfl h
 | k+1,h=>by
  rw [rS_succ] at h ⊢;simp only at h ⊢;rw [List.length_append]
  by_cases hp:(rS A nm k).pay=[]
  ·rw [hp,List.nil_append] at h
   rw [hp];have hf:=(scanA_found (txtAt A nm k) (nxAt A nm k)).told;have hsc:scAt A nm k=scanA (txtAt A nm k) (nxAt A nm k):=rfl;rw [hsc] at h ⊢
   cases hq:(scanA (txtAt A nm k) (nxAt A nm k)).1 with
   | nil=>exact absurd hq h
   | cons p ps=>
    rw [hq] at hf;have h0:=hf.1.1;simp only [List.length_nil];omega
  ·have ih:=rS_from A nm k hp
   have e:nxAt A nm k=(rS A nm k).next:=by unfold nxAt;rw [if_neg hp]
   rw [e];omega
theorem rS_bound (A:AD) (nm:Key) (k:Nat):(-1≤(rS A nm k).next∨k=0)∧(rS A nm k).next≤1152921504606846976+16384 * (k:Int)∧(rS A nm k).pay.length≤16384 * k:=by
 have h:=rdK_range A nm ⟨[],0,(numsL A nm).map seg0,false⟩ rfl rfl k;exact ⟨.inl h.1.1,h.1.2,h.2⟩
theorem rS_whole (A:AD) (nm:Key) (k:Nat) (hp:(rS A nm k).pay=[]) (h:(Fr.wholeT (txtAt A nm k) (firstN (txtAt A nm k))).isSome=false):(scAt A nm k)=([],txtAt A nm k):=by
 have e:nxAt A nm k=firstN (txtAt A nm k):=by unfold nxAt;rw [if_pos hp]
 unfold scAt;rw [e]
 have hn:Fr.wholeT (txtAt A nm k) (firstN (txtAt A nm k))=none:=by
  cases hq:Fr.wholeT (txtAt A nm k) (firstN (txtAt A nm k)) with
  | none=>rfl
  | some p=>rw [hq] at h;cases h
 refine scanA_of ⟨rfl,?_⟩
 simpa using hn
theorem rS_some (A:AD) (nm:Key) (k:Nat) (hp:(rS A nm k).pay=[]) (h:(Fr.wholeT (txtAt A nm k) (firstN (txtAt A nm k))).isSome=true):(scAt A nm k).1≠[]∧nxAt A nm k=firstN (txtAt A nm k)∧0≤firstN (txtAt A nm k):=by
 have e:nxAt A nm k=firstN (txtAt A nm k):=by unfold nxAt;rw [if_pos hp]
 obtain ⟨p,hq⟩:=Option.isSome_iff_exists.1 h;have hw:=Fr.wholeT_some.1 hq
 refine ⟨fun h0=>?_,e,hw.1⟩
 have hf:=scanA_found (txtAt A nm k) (nxAt A nm k);have hs:(scanA (txtAt A nm k) (nxAt A nm k)).1=[]:=h0;have h2:=hf.none;have h1:=scan_nothing hs;rw [hs,h1,e] at h2;simp only [List.length_nil,Int.natCast_zero,Int.add_zero] at h2;rw [h2] at hq;cases hq
theorem ok_pow {A:AD} {P:AP} (h:A.Ok) (hp:P.Ok):AD.Ok { A with pow:=P }:=⟨h.c0,h.c1,h.sorted,h.names,h.few,h.files,h.space,hp⟩
theorem ok_remove {A:AD} {d:Key} (h:A.Ok):(A.remove d).2.Ok:=by
 unfold AD.remove
 split
 ·exact h
 split
 ·exact h
 ·have hl:=fdel_length (fs:=A.fs) (k:=d)
  have h1:=fused_fdel_le (fs:=A.fs) (k:=d);have h2:=h.space;have h3:=h.few
  exact ⟨h.c0,h.c1,fdel_sorted h.sorted,fun q hq=>h.names q (List.mem_filter.1 hq).1,by show (fdel A.fs d).length≤16;omega,fun q hq=>h.files q (List.mem_filter.1 hq).1,by show (fused (fdel A.fs d):Int)≤A.cap;omega,h.pow⟩
theorem ok_fset {A:AD} {d:Key} {F F':AF} {P:AP} (h:A.Ok) (hq:fget A.fs d=some F) (hF:F'.Ok) (hsp:(fused A.fs:Int) - F.seen.length+F'.seen.length≤A.cap) (hp:P.Ok):AD.Ok ⟨A.cap,fset A.fs d F',P⟩:=by
 have hu:=fused_fset (F':=F') (apart_of h.sorted) hq
 refine ⟨h.c0,h.c1,fset_sorted h.sorted,fun q hq'=>?_,by show (fset A.fs d F').length≤16;rw [fset_length];exact h.few,fun q hq'=>?_,by show (fused (fset A.fs d F'):Int)≤A.cap;omega,hp⟩
 ·rcases fset_mem hq' with rfl | hq'
  ·have:=h.names (d,F) (fget_mem hq)
   exact this
  ·exact h.names q hq'
 ·rcases fset_mem hq' with rfl | hq'
  ·exact hF
  ·exact h.files q hq'
theorem ok_sync {A:AD} {d:Key} (h:A.Ok):(A.sync d).2.Ok:=by
 unfold AD.sync
 split
 ·exact h
 cases hq:fget A.fs d with
 | none=>exact h
 | some F=>
  simp only
  split
  ·exact ok_pow h (h.pow.count 2)
  ·have hF:=h.files _ (fget_mem hq)
   have hsp:=h.space
   exact ok_fset h hq (AF.Ok.sync hF) (by show (fused A.fs:Int) - F.seen.length+F.seen.length≤A.cap;omega) (h.pow.count 2)
theorem ok_trunc {A:AD} {d:Key} {n:Int} (h:A.Ok):(A.trunc d n).2.Ok:=by
 unfold AD.trunc
 split
 ·exact h
 cases hq:fget A.fs d with
 | none=>exact h
 | some F=>
  simp only
  split
  ·exact h
  ·have hF:=h.files _ (fget_mem hq)
   have hsp:=h.space;refine ok_fset h hq (AF.Ok.trunc hF _) ?_ h.pow
   have:(F.trunc n.toNat).seen.length≤F.seen.length:=by show (F.seen.take _).length≤_;rw [List.length_take];omega
   omega
theorem ok_write {A:AD} {d t:Key} {a:Int} (h:A.Ok):(A.write d a t).2.Ok:=by
 unfold AD.write
 split
 ·exact h
 by_cases hf:A.fits d a t.length≠0
 ·rw [if_pos hf];exact h
 rw [if_neg hf]
 split
 ·exact ok_pow h (h.pow.count 1)
 have hz:=fits_zero (A:=A) (k:=d) (a:=a) (n:=(t.length:Int)) (by omega)
 obtain ⟨hn,ha0,ha1,hm,hl,hc⟩:=hz
 cases hq:fget A.fs d with
 | some F=>
  have hfl:A.flen d=F.seen.length:=by unfold AD.flen;rw [hq]
  rw [hfl] at ha1 hm hc
  have hle:a.toNat≤F.seen.length:=by
   have:a≤(F.seen.length:Int):=ha1
   omega
  have hm2:a.toNat+t.length≤1048576:=by omega
  have hws:=AF.write_seen (F:=F) (a:=a.toNat) (t:=t) hle;have hF:F.Ok:=h.files _ (fget_mem hq);refine ok_fset h hq (AF.Ok.write hF hle hm2) ?_ (h.pow.count 1);rw [hws]
  have:(fused A.fs:Int) - (F.seen.length:Int)+max (F.seen.length:Int) (a+t.length)≤A.cap:=hc
  omega
 | none=>
  have hfl:A.flen d=0:=by unfold AD.flen;rw [hq]
  rw [hfl] at ha1 hm hc;have hl':=hl hq;have hdk:=fdel_of_none hq
  have ha:a.toNat=0:=by omega
  have hws:=AF.write_seen (F:=AF.new) (a:=a.toNat) (t:=t) (by omega)
  have hmem:∀q∈fput A.fs d (AF.new.write a.toNat t),q=(d,AF.new.write a.toNat t)∨q∈A.fs:=fun q hq=>by
   unfold fput at hq;rw [hdk] at hq;exact mem_fins.1 hq
  have hok:(AF.new.write a.toNat t).Ok:=AF.Ok.new.write (by omega) (by omega)
  refine ⟨h.c0,h.c1,fput_sorted h.sorted,fun q hq=>?_,?_,fun q hq=>?_,?_,h.pow.count 1⟩
  ·rcases hmem q hq with rfl | hq
   ·exact hn
   ·exact h.names q hq
  ·have:=fput_length (fs:=A.fs) (k:=d) (F:=AF.new.write a.toNat t)
   show (fput A.fs d (AF.new.write a.toNat t)).length≤16
   omega
  ·rcases hmem q hq with rfl | hq
   ·exact hok
   ·exact h.files q hq
  ·show (fused (fput A.fs d (AF.new.write a.toNat t)):Int)≤A.cap
   unfold fput;rw [fused_fins,hdk]
   have:(AF.new:AF).seen.length=0:=rfl
   simp only [hws];omega
section
variable {α:Type} {L X:List α} {a b c d:α}
theorem get_t0:(L++a :: X)[L.length]?=some a:=by rw [List.getElem?_append_right (Nat.le_refl _),Nat.sub_self];rfl
theorem get_t1:(L++a :: b :: X)[L.length+1]?=some b:=by rw [List.getElem?_append_right (by omega),Nat.add_sub_cancel_left];rfl
theorem get_t2:(L++a :: b :: c :: X)[L.length+2]?=some c:=by rw [List.getElem?_append_right (by omega),Nat.add_sub_cancel_left];rfl
theorem get_t3:(L++a :: b :: c :: d :: X)[L.length+3]?=some d:=by rw [List.getElem?_append_right (by omega),Nat.add_sub_cancel_left];rfl
theorem set_t0 {y:α}:(L++a :: X).set L.length y=L++y :: X:=by rw [List.set_append_right _ _ (Nat.le_refl _),Nat.sub_self];rfl
theorem set_t2 {y:α}:(L++a :: b :: c :: X).set (L.length+2) y=L++a :: b :: y :: X:=by rw [List.set_append_right _ _ (by omega),Nat.add_sub_cancel_left];rfl
theorem set_tl {y:α} {i:Nat} (h:i<L.length):(L++X).set i y=L.set i y++X:=by rw [List.set_append_left _ _ h]
theorem get_tl {y:α} {i:Nat} (h:L[i]?=some y):(L++X)[i]?=some y:=by rw [List.getElem?_append_left (List.getElem?_eq_some_iff.1 h).1];exact h
end
theorem Lies.unthird {B:Nat} {w:World} {L:List Item} {a b c d:Item} (h:Lies B w (L++[a,b,c,d])):Lies B w (L++[a,b,c]):=by
 have e:L++[a,b,c,d]=(L++[a,b,c])++[d]:=by simp
 rw [e] at h;exact h.drop
def dEnd (A:AD) (nm:ByteArray) (sz first:Int):ROpen:=
 let K:=nm.data.toList
 let N:=(numsL A K).length
 let s:=rS A K N
 if s.pay≠[]∧(first<s.next - s.pay.length∨s.next<first) then ⟨none,[],60,A⟩
 else
  let A1:=if s.torn=true then (A.trunc (fileL K (numAt' A K (N - 1))) (endAt A K (N - 1))).2 else A
  let Y:=A1.syncs ((numsL A K).map (fileL K))
  if Y.1≠0 then ⟨none,[],Y.1,Y.2⟩
  else ⟨some ⟨nm,sz,dSegs A K N,if s.pay=[] then first else s.next,false⟩,if s.pay=[] then [] else s.pay.drop (first - (s.next - s.pay.length)).toNat,0,Y.2⟩
section
variable {A:AD} {nm:ByteArray} {sz first:Int}
theorem dOpen_gap (hall:¬(lnameOk nm.data.toList=false∨sz<64∨1048576<sz∨first<0∨1152921504606846976<first)) (hoff:A.pow.off=false) (hc:consec (numsL A nm.data.toList)=false):dOpenA A nm sz first=⟨none,[],60,A⟩:=by
 unfold dOpenA
 rw [if_neg hall,if_neg (by rw [hoff];decide),if_pos hc]
theorem dOpen_torn (hall:¬(lnameOk nm.data.toList=false∨sz<64∨1048576<sz∨first<0∨1152921504606846976<first)) (hoff:A.pow.off=false) (k:Nat) (hk:k+1<(numsL A nm.data.toList).length) (hno:∀q,0<q→q≤k→(rS A nm.data.toList q).torn=false) (ht:(rS A nm.data.toList (k+1)).torn=true):dOpenA A nm sz first=⟨none,[],60,A⟩:=by
 unfold dOpenA
 rw [if_neg hall,if_neg (by rw [hoff];decide)]
 split
 ·rfl
 have h1:rdOf A nm.data.toList=(k+1,rS A nm.data.toList (k+1)):=rdFin_stop (by omega) hno ht
 rw [if_pos (by rw [h1];exact ⟨ht,hk⟩)]
theorem dOpen_end (hall:¬(lnameOk nm.data.toList=false∨sz<64∨1048576<sz∨first<0∨1152921504606846976<first)) (hoff:A.pow.off=false) (hc:consec (numsL A nm.data.toList)=true) (hno:∀q,0<q→q<(numsL A nm.data.toList).length→(rS A nm.data.toList q).torn=false):dOpenA A nm sz first=dEnd A nm sz first:=by
 unfold dOpenA
 rw [if_neg hall,if_neg (by rw [hoff];decide),if_neg (by rw [hc];decide)]
 have h1:(rdOf A nm.data.toList).1=(numsL A nm.data.toList).length:=by
  cases hN:(numsL A nm.data.toList).length with
  | zero=>unfold rdOf;rw [hN];rfl
  | succ m=>
   cases ht:(rS A nm.data.toList (m+1)).torn with
   | true=>
    have:rdOf A nm.data.toList=(m+1,rS A nm.data.toList (m+1)):=by
     unfold rdOf
     exact rdFin_stop (by omega) (fun q h0 hq=>hno q h0 (by omega)) ht
    rw [this]
   | false=>
    have:rdOf A nm.data.toList=(m+1,rS A nm.data.toList (m+1)):=by
     unfold rdOf;rw [hN]
     refine rdFin_all (fun q h0 hq=>?_)
     by_cases e:q=m+1
     ·rw [e];exact ht
     ·exact hno q h0 (by omega)
    rw [this]
 rw [if_neg (by rw [h1];omega)]
 rfl
theorem dEnd_bad {K:Key} {N:Nat} {s:RSt} (hK:nm.data.toList=K) (hN:(numsL A K).length=N) (hs:rS A K N=s) (hb:s.pay≠[]∧(first<s.next - s.pay.length∨s.next<first)):dEnd A nm sz first=⟨none,[],60,A⟩:=by
 unfold dEnd;simp only;rw [hK,hN,hs,if_pos hb]
theorem dEnd_good {K:Key} {N:Nat} {s:RSt} {A1:AD} (hK:nm.data.toList=K) (hN:(numsL A K).length=N) (hs:rS A K N=s) (hb:¬(s.pay≠[]∧(first<s.next - s.pay.length∨s.next<first))) (hA1:(if s.torn=true then (A.trunc (fileL K (numAt' A K (N - 1))) (endAt A K (N - 1))).2 else A)=A1) :
 dEnd A nm sz first=if (A1.syncs ((numsL A K).map (fileL K))).1≠0 then ⟨none,[],(A1.syncs ((numsL A K).map (fileL K))).1,(A1.syncs ((numsL A K).map (fileL K))).2⟩ else ⟨some ⟨nm,sz,dSegs A K N,if s.pay=[] then first else s.next,false⟩,if s.pay=[] then [] else s.pay.drop (first - (s.next - s.pay.length)).toNat,0,(A1.syncs ((numsL A K).map (fileL K))).2⟩:=by
 unfold dEnd;simp only;rw [hK,hN,hs,if_neg hb,hA1]
end
def ROpenPost (B:Nat) (w:World) (L:List Item) (i p:Nat) (R:ROpen) (e:Ending) (w':World):Prop:=
 (match R.log with
   | none=>e=.returned (.tuple #[.pointer none,.slice none 0 0,.int .i64 R.err])∧Lies B w' (L.set i (.ref p R.disk))
   | some g=>∃l v,e=.returned (.tuple #[.pointer (some ⟨l,0,none⟩),v,.int .i64 0])∧Lies B w' (L.set i (.ref p R.disk)++[.rlog l p g,.row 9 v (R.pay.map encStr)]))∧Below B w w'
theorem nums_in {A:AD} {K:Key} {n:Int} (h:n∈numsL A K):0≤n∧n≤9999999:=by
 have h1:n∈foundL A K:=(List.mergeSort_perm _ _).mem_iff.1 h;obtain ⟨f,_,hf⟩:=List.mem_filterMap.1 h1;exact numOf_range hf
theorem nums_few {A:AD} (hok:A.Ok) (K:Key):(numsL A K).length≤16:=by
 have h1:(numsL A K).length=(foundL A K).length:=(List.mergeSort_perm _ _).length_eq;rw [h1];unfold foundL;exact Nat.le_trans (List.length_filterMap_le _ _) (list_few hok)
theorem Lies.numAtRow {B:Nat} {w:World} {L:List Item} {q:Nat} {ad:Option Addr} {n cap:Nat} {ns:List Int} (h:Lies B w L) (hq:L[q]?=some (.row 3 (.slice ad n cap) (ns.map numI))):n=ns.length∧∀r,r<ns.length→∃b o,ad=some ⟨b,o,none⟩∧b<w.heap.size∧w.cell? ⟨b,o+r,none⟩=some (.int .i64 (ns.getD r 0)):=by
 obtain ⟨ad2,cap2,hv2,hrow2,_⟩:=row_at (h.rowOf hq);rw [List.length_map] at hv2;cases hv2
 refine ⟨rfl,fun r hr=>?_⟩
 rcases hrow2 with h0 | ⟨b0,o0,e0,hb,hc0⟩
 ·rw [List.map_eq_nil_iff.1 h0] at hr;exact absurd hr (by simp)
 ·refine ⟨b0,o0,e0,hb,?_⟩
  rw [hc0 r (by simpa using hr),List.getElem?_map,List.getElem?_eq_getElem hr,List.getD_eq_getElem?_getD,List.getElem?_eq_getElem hr]
  rfl
end Go.Proofs.YtjbdncknooeplaaGreatDoor
namespace Go.Proofs.YtjbdncknooeplaaGreatDoor
open Go.RowKit Go.Maps
set_option linter.unusedVariables false
theorem Lies.rlogApartRow {B:Nat} {w:World} {L:List Item} {j l p:Nat} {g:AL} {q b o n cap:Nat} {e:TypeId} {xs:List Value} {v:Value} {r:Option Nat} (h:Lies B w L) (hj:L[j]?=some (.rlog l p g)) (hq:L[q]?=some (.row e (.slice (some ⟨b,o,none⟩) n cap) xs)) (hne:q≠j) (hat:RLogAt w l p g v r):r≠some b:=by
 obtain ⟨_,S,h1,h2,h3⟩:=h;obtain ⟨v',r',hat',hS⟩:=h1 j _ hj
 have hv:v=v':=by have a:=hat.c3;rw [hat'.c3] at a;cases a;rfl
 subst hv;have hr:r=r':=hat.row.uniq hat'.row;subst hr;intro e;obtain ⟨_,hSb⟩:=h1 q _ hq
 exact h3 j q b (List.getElem?_eq_some_iff.1 hj).1 (List.getElem?_eq_some_iff.1 hq).1 (fun e=>hne e.symm) ((hS b).2 (.inr e)) ((hSb b).2 rfl)
set_option linter.unusedSimpArgs false
theorem Lies.keep_ad {B:Nat} {w:World} {L:List Item} {a b c d:Item} (h:Lies B w (L++[a,b,c]++[d])):Lies B w (L++[a,d]):=by
 have e:L++[a,b,c]++[d]=L++[a,b,c,d]:=by simp
 rw [e] at h
 refine h.pick (fun q=>if q<L.length+1 then q else L.length+3) (fun x y hx hy e=>?_) (fun q x hq=>?_)
 ·simp at hx hy
  split at e<;>split at e<;>omega
 ·have hl:=(List.getElem?_eq_some_iff.1 hq).1
  simp at hl
  by_cases h1:q<L.length
  ·rw [if_pos (by omega),List.getElem?_append_left h1]
   rw [List.getElem?_append_left h1] at hq;exact hq
  ·by_cases h2:q=L.length
   ·subst h2
    rw [if_pos (by omega),get_t0]
    rw [get_t0] at hq;exact hq
   ·have h3:q=L.length+1:=by omega
    subst h3
    rw [if_neg (by omega),get_t3]
    rw [get_t1] at hq;exact hq
theorem files_drop (K:Key) (ns:List Int) (k:Nat) (hk:k<ns.length):(ns.map (fileL K)).drop k=fileL K (ns.getD k 0) :: (ns.map (fileL K)).drop (k+1):=by
 rw [List.drop_eq_getElem_cons (by rw [List.length_map];exact hk),List.getElem_map,List.getD_eq_getElem?_getD,List.getElem?_eq_getElem hk]
 rfl
theorem rS_torn_pos {A:AD} {K:Key} {N:Nat} (h:(rS A K N).torn=true):0<N:=by
 cases N with
 | zero=>cases h
 | succ m=>omega
end Go.Proofs.YtjbdncknooeplaaGreatDoor
