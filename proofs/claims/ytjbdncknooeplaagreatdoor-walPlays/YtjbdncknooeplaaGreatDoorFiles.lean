import Derived.Test.YtjbdncknooeplaaGreatDoorProg
import Derived.WalkSpells
import Derived.WalkLawsBesides
import Derived.Laws.CopyRow
import Derived.Laws.BytesArg
import Derived.Laws.OwnMore
import Derived.Deep.AppendLies
import Derived.Deep.AppendSrc
import Derived.Deep.Upon
import Derived.Deep.QuietTactic
import Derived.BigQuiet
import Derived.Maps.RangeWalk
import Derived.Maps.Ext
import Derived.Sort.KeysCollected
namespace Go.Proofs.YtjbdncknooeplaaGreatDoor
open Go.RowKit
theorem hide {p:Prop} (h:p):Hid p:=h
def byteV (c:UInt8):Value:=.int .u8 (c.toNat:Int)
def byteAt (l:List UInt8) (i:Nat):UInt8:=l.getD i 0
def Bytes (w:World) (B:Nat) (v:Value) (l:List UInt8):Prop:=w.ownsRow B 5 1 v l.length (l.map byteV)
theorem info5:(Tryz.prog.info? 5).map (fun i=>(i.zero,i.size,i.bytes))=some (some (.int .u8 0),1,1):=by kernel_rfl
theorem Bytes.nil (w:World) (B:Nat):Bytes w B (.slice none 0 0) []:=World.ownsRow_nil w B 5 1
theorem grown_below {w w':World} {row:Option Nat} {B:Nat} (hg:w.grownBy w' row) (hr:∀k,row=some k→B≤k) (hB:B≤w.heap.size):Below B w w':=
 ⟨hg.os,hg.tape,hg.output,hg.size,fun k hk=>hg.block k (by omega) (fun e=>by have:=hr k e.symm;omega)⟩
theorem Bytes.lt {w:World} {B:Nat} {v:Value} {l:List UInt8} (h:Bytes w B v l):∀k,v.ownBlock=some k→k<w.heap.size:=fun k hk=>(World.ownsRow.lt h k hk).2
structure Mv (w:World) (v:Value) (w':World) (v':Value):Prop where
 gr:w.grownBy w' v.ownBlock
 own:∀g,v'.ownBlock=some g→v.ownBlock=some g∨w.heap.size≤g
theorem Mv.refl (w:World) (v:Value):Mv w v w v:=⟨⟨rfl,rfl,rfl,Nat.le_refl _,fun _ _ _=>rfl⟩,fun _ h=>.inl h⟩
theorem run_append_bytes (w:World) (B:Nat) (ty tx:TypeId) (v:Value) (l news:List UInt8) (hown:Bytes w B v l) (x:Value) (hs:Src Tryz.prog 1 tx x news.length (news.map byteV) w) (hlen:l.length+news.length≤140737488355328) (hB:B≤w.heap.size) :
 ∃v' w',(Builtin.append_ #[114,tx] ty #[v,x]).run Tryz.prog w=.ok v' w'∧Bytes w' B v' (l++news)∧Mv w v w' v':=by
 obtain ⟨i,hi,hz0,hz1,hz2⟩:=info_parts info5;rw [←hz1] at hs
 by_cases hn:news=[]
 ·subst hn
  have hh:=hown.2
  rcases hh with ⟨rfl,hl⟩ | ⟨g,cap,cur,rfl,hb,hg,hnc,hcm,hcs,htake⟩
  ·exact ⟨_,_,run_append_nothing (P:=Tryz.prog) w 114 tx ty 5 i Tryz.underlying114 hi none 0 0 (Nat.le_refl _) x hs,by rw [List.append_nil];exact hown,Mv.refl _ _⟩
  ·exact ⟨_,_,run_append_nothing (P:=Tryz.prog) w 114 tx ty 5 i Tryz.underlying114 hi (some ⟨g,0,none⟩) l.length cap hnc x hs,by rw [List.append_nil];exact hown,Mv.refl _ _⟩
 have hpos:0<news.length:=List.length_pos_iff.2 hn;have hlen':(l++news).map byteV=l.map byteV++news.map byteV:=List.map_append
 have grown:∀(old:Nat),old<l.length+news.length →
  Bytes (w.drew.alloc (.cells ((l.map byteV++news.map byteV).toArray++Builtin.zeroCells (Value.int .u8 0).cells (grownCap w (l.length+news.length) old 5 - (l.length+news.length))) 5)) B
   (.slice (some ⟨w.heap.size,0,none⟩) (l.length+news.length) (grownCap w (l.length+news.length) old 5)) (l++news) ∧
  ∀row:Option Nat,w.grownBy (w.drew.alloc (.cells ((l.map byteV++news.map byteV).toArray++Builtin.zeroCells (Value.int .u8 0).cells (grownCap w (l.length+news.length) old 5 - (l.length+news.length))) 5)) row:=by
  intro old ho;have hge:=grownCap_ge w (l.length+news.length) old 5
  have hcm:grownCap w (l.length+news.length) old 5≤maxLen:=grownCap_le_maxLen w _ old 5 (by unfold maxLen;omega)
  refine ⟨?_,fun row=>⟨rfl,rfl,rfl,by simp,fun k hk _=>Below.heap_alloc w.drew _ k hk⟩⟩
  unfold Bytes;rw [List.length_append]
  refine ⟨by simp,.inr ⟨w.heap.size,_,_,rfl,hB,heap_alloc_new w.drew _,hge,hcm,?_,?_⟩⟩
  ·simp only [Array.size_append,List.size_toArray,size_zeroCells,List.length_append,List.length_map]
   rw [show (Value.int .u8 0).cells.size=1 from rfl]
   omega
  ·rw [hlen',Array.toList_append]
   have e:(l.length+news.length) * 1=(l.map byteV++news.map byteV).length:=by simp
   rw [e];exact List.take_left
 have hh:=hown.2
 rcases hh with ⟨rfl,hl⟩ | ⟨g,cap,cur,rfl,hb,hg,hnc,hcm,hcs,htake⟩
 ·have hl0:l=[]:=List.length_eq_zero_iff.1 hl
  subst hl0
  have hr:=run_append_grow_src (P:=Tryz.prog) w 114 tx ty 5 i (.int .u8 0) Tryz.underlying114 hi hz0 none 0 0 [] (run_firstCells_none w.drew i.size 0 0 0) x news.length (news.map byteV) hs (by omega) (by omega) (by
   rw [hz2,Nat.zero_add,Nat.mul_one]
   rw [nextslicecap_zero hpos];simp only [List.length_nil,Nat.zero_add] at hlen;omega)
  obtain ⟨g1,g2⟩:=grown 0 (by omega)
  simp only [List.length_nil,Nat.zero_add,List.map_nil] at g1 g2 hr
  refine ⟨_,_,hr,g1,g2 _,fun g' hg'=>.inr ?_⟩
  have e:g'=w.heap.size:=by simpa [Value.ownBlock] using hg'.symm
  omega
 ·have hc:=World.ownsRow.cells hown (g:=g) rfl
  by_cases hroom:l.length+news.length≤cap
  ·have hst:=run_storeCells_at Tryz.prog g (l.length * i.size) 5 (news.map byteV) 0 cur w hg (by simp [hz1];omega) hs.one
   rw [Nat.add_zero] at hst
   have hr:(Builtin.append_ #[114,tx] ty #[.slice (some ⟨g,0,none⟩) l.length cap,x]).run Tryz.prog w=.ok (.slice (some ⟨g,0,none⟩) (l.length+news.length) cap) (w.setRow g (cur.toList.take (l.length * i.size)++news.map byteV++cur.toList.drop (l.length * i.size+(news.map byteV).length)).toArray):=by
    rcases hs.kind with ⟨e',hk⟩ | hk<;>simp [Builtin.append_,run_underlying Tryz.underlying114,run_underlying hk,sizeOf,typeInfo,hi,hs.len,hroom,hs.cells,Addr.add_lit,hst]
   refine ⟨_,_,hr,?_,⟨rfl,rfl,rfl,by simp,fun k _ hk=>setRow_other w g k _ (fun e=>hk (by simp [Value.ownBlock,e]))⟩,fun g' hg'=>.inl ?_⟩
   ·unfold Bytes
    rw [List.length_append]
    refine ⟨by simp,.inr ⟨g,cap,_,rfl,hb,setRow_heap w g cur _ 5 _ hg,hroom,hcm,?_,?_⟩⟩
    ·simp only [List.size_toArray,List.length_append,List.length_take,List.length_drop,Array.length_toList,List.length_map,hz1]
     omega
    ·rw [hz1,htake,hlen']
     have e:(l.length+news.length) * 1=(l.map byteV++news.map byteV).length:=by simp
     rw [e];exact List.take_left
   ·simpa [Value.ownBlock] using hg'
  ·have hr:=run_append_grow_src (P:=Tryz.prog) w 114 tx ty 5 i (.int .u8 0) Tryz.underlying114 hi hz0 (some ⟨g,0,none⟩) l.length cap (l.map byteV) (by
    have:=run_firstCells_some (P:=Tryz.prog) w.drew i.size l.length ⟨g,0,none⟩ l.length cap (l.map byteV) (by simp [hz1]) hc
    exact this) x news.length (news.map byteV) hs (by omega) (by omega) (growslice_fits (by omega) (by rw [hz2];omega))
   obtain ⟨g1,g2⟩:=grown cap (by omega)
   refine ⟨_,_,hr,g1,g2 _,fun g' hg'=>.inr ?_⟩
   have e:g'=w.heap.size:=by simpa [Value.ownBlock] using hg'.symm
   omega
abbrev Key:=List UInt8
structure AF where
 seen:List UInt8
 safe:List UInt8
 dirty:Nat→Bool
structure AF.Ok (F:AF):Prop where
 le:F.safe.length≤F.seen.length
 most:F.seen.length≤1048576
 dl:∀s,F.dirty s=true→64 * s<F.seen.length
 clean:∀i,i<F.seen.length→F.dirty (i / 64)=false→i<F.safe.length∧F.seen[i]?=F.safe[i]?
structure AP where
 off:Bool
 opn:Bool
 arm:Int
 what:Int
 fall:Int
structure AP.Ok (P:AP):Prop where
 a0:0≤P.arm
 a1:P.arm<9223372036854775808
 f0:0≤P.fall
 f1:P.fall<9223372036854775808
 w0:0≤P.what
 w1:P.what≤2
def AP.fell (P:AP):Int:=if 0<P.fall then P.fall - 1 else P.fall
def AP.count (P:AP) (what:Int):Int×AP:=
 if P.fall=1 then (9,{ P with fall:=0,off:=true,opn:=true })
 else if 0<P.arm∧(P.what=0∨P.what=what) then (if P.arm=1 then 40 else 0,{ P with fall:=P.fell,arm:=P.arm - 1 })
 else (0,{ P with fall:=P.fell })
abbrev FList:=List (Key×AF)
def fget (fs:FList) (k:Key):Option AF:=(fs.find? (fun p=>p.1 == k)).map (·.2)
def fins (x:Key×AF):FList→FList
 | []=>[x]
 | y :: r=>if bytesBefore x.1 y.1 then x :: y :: r else y :: fins x r
def fdel (fs:FList) (k:Key):FList:=fs.filter (fun p=>!(p.1 == k))
def fput (fs:FList) (k:Key) (F:AF):FList:=fins (k,F) (fdel fs k)
def fset (fs:FList) (k:Key) (F:AF):FList:=fs.map (fun p=>if p.1 == k then (p.1,F) else p)
def fused (fs:FList):Nat:=(fs.map (fun p=>p.2.seen.length)).sum
def fkeys (fs:FList):List Key:=fs.map (·.1)
structure AD where
 cap:Int
 fs:FList
 pow:AP
def nameOk (k:Key):Bool:=decide (1≤k.length) && decide (k.length≤32) && k.all (fun b=>decide (33≤b.toNat) && decide (b.toNat≤126))
structure AD.Ok (A:AD):Prop where
 c0:0≤A.cap
 c1:A.cap≤16777216
 sorted:A.fs.Pairwise (fun p q=>bytesBefore p.1 q.1=true)
 names:∀p∈A.fs,nameOk p.1=true
 few:A.fs.length≤16
 files:∀p∈A.fs,p.2.Ok
 space:(fused A.fs:Int)≤A.cap
 pow:A.pow.Ok
def AF.new:AF:=⟨[],[],fun _=>false⟩
def AF.write (F:AF) (at_:Nat) (t:List UInt8):AF:=
 if t=[] then F else ⟨F.seen.take at_++t++F.seen.drop (at_+t.length),F.safe,fun s=>F.dirty s || (decide (at_ / 64≤s) && decide (s≤(at_+t.length - 1) / 64))⟩
def AF.sync (F:AF):AF:=⟨F.seen,F.seen,fun _=>false⟩
def AF.trunc (F:AF) (n:Nat):AF:=⟨F.seen.take n,F.safe.take n,fun s=>F.dirty s && decide (64 * s<n)⟩
structure AFate where
 file:Key
 sector:Int
 kind:Int
 bytes:List UInt8
def fateOf (l:List AFate) (k:Key) (s:Nat):Option AFate:=l.find? (fun x=>x.file == k && decide (x.sector=(s:Int)))
def hits (f:Option AFate):Bool:=match f with
 | some x=>decide (x.kind=1∨x.kind=2)
 | none=>false
def AF.nsec (F:AF):Nat:=(F.seen.length+63) / 64
def AF.dirtyL (F:AF):List Nat:=(List.range F.nsec).filter F.dirty
def AF.len (F:AF) (ft:Nat→Option AFate):Nat:=
 (List.range F.nsec).foldl (fun m s=>if F.dirty s && hits (ft s) then max m (min (64 * s+64) F.seen.length) else m) F.safe.length
def AF.after (F:AF) (ft:Nat→Option AFate) (i:Nat):UInt8:=
 if F.dirty (i / 64) then
  match ft (i / 64) with
  | some x=>if x.kind=1 then F.seen.getD i 0 else if x.kind=2 then x.bytes.getD (i % 64) 0 else F.safe.getD i 0
  | none=>F.safe.getD i 0
 else F.safe.getD i 0
def AF.left (F:AF) (ft:Nat→Option AFate):List UInt8:=(List.range (F.len ft)).map (F.after ft)
def AF.crash (F:AF) (ft:Nat→Option AFate):AF:=⟨F.left ft,F.left ft,fun _=>false⟩
def AD.flen (A:AD) (k:Key):Int:=match fget A.fs k with
 | some F=>F.seen.length
 | none=>0
def AD.fits (A:AD) (k:Key) (at_ n:Int):Int:=
 if nameOk k=false∨at_<0∨at_ > A.flen k then 1
 else if max (A.flen k) (at_+n) > 1048576 then 3
 else if (fget A.fs k).isNone=true∧16≤A.fs.length then 6
 else if (fused A.fs:Int) - A.flen k+max (A.flen k) (at_+n) > A.cap then 41
 else 0
def AD.write (A:AD) (k:Key) (at_:Int) (t:List UInt8):Int×AD:=
 if A.pow.off=true then (9,A)
 else if A.fits k at_ t.length≠0 then (A.fits k at_ t.length,A)
 else if (A.pow.count 1).1≠0 then ((A.pow.count 1).1,{ A with pow:=(A.pow.count 1).2 })
 else match fget A.fs k with
  | some F=>(0,⟨A.cap,fset A.fs k (F.write at_.toNat t),(A.pow.count 1).2⟩)
  | none=>(0,⟨A.cap,fput A.fs k (AF.new.write at_.toNat t),(A.pow.count 1).2⟩)
def AD.sync (A:AD) (k:Key):Int×AD:=
 if A.pow.off=true then (9,A)
 else match fget A.fs k with
  | none=>(5,A)
  | some F=>if (A.pow.count 2).1≠0 then ((A.pow.count 2).1,{ A with pow:=(A.pow.count 2).2 }) else (0,⟨A.cap,fset A.fs k F.sync,(A.pow.count 2).2⟩)
def AD.trunc (A:AD) (k:Key) (n:Int):Int×AD:=
 if A.pow.off=true then (9,A)
 else match fget A.fs k with
  | none=>(5,A)
  | some F=>if n<0∨n > F.seen.length then (1,A) else (0,{ A with fs:=fset A.fs k (F.trunc n.toNat) })
def AD.rename (A:AD) (k k':Key):Int×AD:=
 if A.pow.off=true then (9,A)
 else match fget A.fs k with
  | none=>(5,A)
  | some F=>if nameOk k'=false then (1,A) else (0,{ A with fs:=fput (fdel A.fs k) k' F })
def AD.remove (A:AD) (k:Key):Int×AD:=
 if A.pow.off=true then (9,A)
 else match fget A.fs k with
  | none=>(5,A)
  | some _=>(0,{ A with fs:=fdel A.fs k })
def AD.read (A:AD) (k:Key) (at_ n:Int):List UInt8×Int:=
 if A.pow.off=true then ([],9)
 else match fget A.fs k with
  | none=>([],5)
  | some F=>if at_<0∨n<0 then ([],1) else ((F.seen.drop at_.toNat).take n.toNat,0)
def AD.size (A:AD) (k:Key):Int×Int:=
 if A.pow.off=true then (0,9)
 else match fget A.fs k with
  | none=>(0,5)
  | some F=>(F.seen.length,0)
def AD.list (A:AD):List Key:=if A.pow.off=true then [] else fkeys A.fs
def AD.dirty (A:AD) (k:Key):List Nat:=
 if A.pow.off=true then []
 else match fget A.fs k with
  | none=>[]
  | some F=>F.dirtyL
def AD.armed (A:AD) (n what:Int):AD:=
 if n<1∨what<0∨what > 2 then { A with pow:={ A.pow with arm:=0,what:=0 } } else { A with pow:={ A.pow with arm:=n,what:=what } }
def AD.fallen (A:AD) (n:Int):AD:={ A with pow:={ A.pow with fall:=max n 0 } }
def AD.crash (A:AD) (l:List AFate):AD:=
 if A.pow.off=true∧A.pow.opn=false then A
 else ⟨A.cap,A.fs.map (fun p=>(p.1,p.2.crash (fateOf l p.1))),⟨true,false,0,0,0⟩⟩
def AD.on (A:AD):AD:=
 let C:=if A.pow.opn=true then A.crash [] else A
 { C with pow:={ C.pow with off:=false } }
theorem bb_irrefl:∀a:Key,bytesBefore a a=false
 | []=>rfl
 | a :: r=>by simp [bytesBefore,bb_irrefl r]
theorem bb_trans:∀a b c:Key,bytesBefore a b=true→bytesBefore b c=true→bytesBefore a c=true
 | [],[],_,h,_=>by simp [bytesBefore] at h
 | [],_ :: _,[],_,h=>by simp [bytesBefore] at h
 | [],_ :: _,_ :: _,_,_=>by simp [bytesBefore]
 | _ :: _,[],_,h,_=>by simp [bytesBefore] at h
 | _ :: _,_ :: _,[],_,h=>by simp [bytesBefore] at h
 | a :: r,b :: s,c :: t,h,k=>by
  simp only [bytesBefore,Bool.or_eq_true,decide_eq_true_eq,Bool.and_eq_true,beq_iff_eq] at h k ⊢
  rcases h with h | ⟨rfl,h⟩
  ·rcases k with k | ⟨rfl,k⟩
   ·exact .inl (UInt8.lt_trans h k)
   ·exact .inl h
  ·rcases k with k | ⟨rfl,k⟩
   ·exact .inl k
   ·exact .inr ⟨rfl,bb_trans r s t h k⟩
theorem bb_total:∀a b:Key,a≠b→bytesBefore a b=false→bytesBefore b a=true
 | [],[],h,_=>absurd rfl h
 | [],_ :: _,_,h=>by simp [bytesBefore] at h
 | _ :: _,[],_,_=>by simp [bytesBefore]
 | a :: r,b :: s,h,k=>by
  simp only [bytesBefore,Bool.or_eq_false_iff,decide_eq_false_iff_not,Bool.and_eq_false_iff,beq_eq_false_iff_ne,Bool.or_eq_true,decide_eq_true_eq,Bool.and_eq_true,beq_iff_eq] at k ⊢;obtain ⟨k1,k2⟩:=k
  by_cases e:a=b
  ·subst e
   rcases k2 with k2 | k2
   ·exact absurd rfl k2
   ·exact .inr ⟨rfl,bb_total r s (fun e=>h (by rw [e])) k2⟩
  ·refine .inl ?_
   have h1:¬a.toNat<b.toNat:=fun x=>k1 (UInt8.lt_iff_toNat_lt.2 x)
   have h2:a.toNat≠b.toNat:=fun x=>e (UInt8.toNat_inj.1 x)
   exact UInt8.lt_iff_toNat_lt.2 (by omega)
section
variable {fs:FList} {k k':Key} {F F':AF}
theorem fget_mem (h:fget fs k=some F):(k,F)∈fs:=by
 unfold fget at h
 cases hq:fs.find? (fun p=>p.1 == k) with
 | none=>rw [hq] at h;cases h
 | some p=>
  rw [hq] at h;have h1:=List.mem_of_find?_eq_some hq;have h2:=List.find?_some hq;simp only [Option.map_some,Option.some.injEq] at h
  have e:p.1=k:=by simpa using h2
  have:p=(k,F):=Prod.ext e h
  exact this▸h1
theorem apart_of (hs:fs.Pairwise (fun p q=>bytesBefore p.1 q.1=true)):fs.Pairwise (fun p q=>p.1≠q.1):=
 hs.imp (fun {a b} hab e=>by rw [e,bb_irrefl] at hab;cases hab)
theorem mem_fget:∀{fs:FList},fs.Pairwise (fun p q=>p.1≠q.1)→(k,F)∈fs→fget fs k=some F
 | [],_,h=>by simp at h
 | p :: r,hp,h=>by
  obtain ⟨h1,h2⟩:=List.pairwise_cons.1 hp
  rcases List.mem_cons.1 h with e | h'
  ·subst e;simp [fget]
  ·have hne:(p.1 == k)=false:=beq_eq_false_iff_ne.2 (h1 _ h')
   have:=mem_fget h2 h'
   unfold fget at this ⊢;rw [List.find?_cons,hne];exact this
theorem fget_none_iff:fget fs k=none↔∀p∈fs,p.1≠k:=by
 unfold fget;rw [Option.map_eq_none_iff,List.find?_eq_none]
 simp
theorem fget_cons (p:Key×AF) (r:FList) (k:Key):fget (p :: r) k=if p.1=k then some p.2 else fget r k:=by
 unfold fget;rw [List.find?_cons]
 by_cases e:p.1=k
 ·rw [if_pos e,beq_iff_eq.2 e];rfl
 ·rw [if_neg e,beq_eq_false_iff_ne.2 e]
theorem fset_cons (p:Key×AF) (r:FList) (k:Key) (F:AF):fset (p :: r) k F=(if p.1=k then (p.1,F) else p) :: fset r k F:=by
 unfold fset;rw [List.map_cons]
 by_cases e:p.1=k
 ·rw [if_pos e,if_pos (beq_iff_eq.2 e)]
 ·rw [if_neg e,if_neg (fun x=>e (beq_iff_eq.1 x))]
theorem fused_cons (p:Key×AF) (r:FList):fused (p :: r)=p.2.seen.length+fused r:=by simp [fused]
theorem fget_fset_same:∀{fs:FList},fget fs k=some F→fget (fset fs k F') k=some F'
 | [],h=>by simp [fget] at h
 | p :: r,h=>by
  rw [fget_cons] at h;rw [fset_cons,fget_cons]
  by_cases e:p.1=k
  ·rw [if_pos e,if_pos e]
  ·rw [if_neg e] at h
   rw [if_neg e,if_neg e];exact fget_fset_same h
theorem fget_fset_ne (h:k'≠k):∀{fs:FList},fget (fset fs k F') k'=fget fs k'
 | []=>rfl
 | p :: r=>by
  rw [fset_cons,fget_cons,fget_cons]
  by_cases e:p.1=k
  ·rw [if_pos e,if_neg (fun x=>h (x.symm.trans e)),if_neg (fun x=>h (x.symm.trans e))]
   exact fget_fset_ne h
  ·rw [if_neg e]
   by_cases e':p.1=k'
   ·rw [if_pos e',if_pos e']
   ·rw [if_neg e',if_neg e']
    exact fget_fset_ne h
theorem fget_fdel_same:fget (fdel fs k) k=none:=by
 rw [fget_none_iff];intro p hp
 have:=(List.mem_filter.1 hp).2
 simpa using this
theorem fget_fdel_ne (h:k'≠k):fget (fdel fs k) k'=fget fs k':=by
 unfold fget fdel
 rw [Maps.find_filter_keep (fun p hp=>by
  have e:p.1=k':=by simpa using hp
  simpa [e] using h)]
theorem fget_fins_same:∀{fs:FList},(∀p∈fs,p.1≠k)→fget (fins (k,F) fs) k=some F
 | [],_=>by simp [fins,fget]
 | y :: r,h=>by
  unfold fins
  split
  ·simp [fget]
  ·have hy:(y.1 == k)=false:=beq_eq_false_iff_ne.2 (h y (by simp))
   have:=fget_fins_same (fs:=r) (fun p hp=>h p (by simp [hp]))
   unfold fget at this ⊢;rw [List.find?_cons,hy];exact this
theorem fget_fins_ne (hne:k'≠k):∀{fs:FList},fget (fins (k,F) fs) k'=fget fs k'
 | []=>by
  have:(k == k')=false:=beq_eq_false_iff_ne.2 (fun e=>hne e.symm)
  simp [fins,fget,this]
 | y :: r=>by
  have hk:(k == k')=false:=beq_eq_false_iff_ne.2 (fun e=>hne e.symm)
  unfold fins
  split
  ·simp [fget,hk]
  ·have:=fget_fins_ne hne (fs:=r)
   unfold fget at this ⊢;rw [List.find?_cons,List.find?_cons]
   cases y.1 == k' with
   | true=>rfl
   | false=>exact this
theorem fget_fput_same:fget (fput fs k F) k=some F:=fget_fins_same (fun p hp=>by
 have:=(List.mem_filter.1 hp).2
 simpa using this)
theorem fget_fput_ne (h:k'≠k):fget (fput fs k F) k'=fget fs k':=by
 unfold fput;rw [fget_fins_ne h,fget_fdel_ne h]
theorem mem_fins {x p:Key×AF}:∀{fs:FList},p∈fins x fs↔p=x∨p∈fs
 | []=>by simp [fins]
 | y :: r=>by
  unfold fins
  split
  ·simp
  ·rw [List.mem_cons,mem_fins,List.mem_cons]
   constructor
   ·rintro (h | h | h)<;>simp [h]
   ·rintro (h | h | h)<;>simp [h]
theorem fins_sorted {x:Key×AF}:∀{fs:FList},fs.Pairwise (fun p q=>bytesBefore p.1 q.1=true)→(∀p∈fs,p.1≠x.1)→(fins x fs).Pairwise (fun p q=>bytesBefore p.1 q.1=true)
 | [],_,_=>by simp [fins]
 | y :: r,h,hn=>by
  obtain ⟨h1,h2⟩:=List.pairwise_cons.1 h;unfold fins
  split
  ·rename_i hb
   refine List.pairwise_cons.2 ⟨fun q hq=>?_,h⟩
   rcases List.mem_cons.1 hq with rfl | hq
   ·exact hb
   ·exact bb_trans _ _ _ hb (h1 q hq)
  ·rename_i hb
   have hb':bytesBefore x.1 y.1=false:=by simpa using hb
   refine List.pairwise_cons.2 ⟨fun q hq=>?_,fins_sorted h2 (fun p hp=>hn p (by simp [hp]))⟩
   rcases mem_fins.1 hq with rfl | hq
   ·exact bb_total _ _ (fun e=>hn y (by simp) e.symm) hb'
   ·exact h1 q hq
theorem fdel_sorted (h:fs.Pairwise (fun p q=>bytesBefore p.1 q.1=true)):(fdel fs k).Pairwise (fun p q=>bytesBefore p.1 q.1=true):=h.filter _
theorem fput_sorted (h:fs.Pairwise (fun p q=>bytesBefore p.1 q.1=true)):(fput fs k F).Pairwise (fun p q=>bytesBefore p.1 q.1=true):=
 fins_sorted (fdel_sorted h) (fun p hp=>by
  have:=(List.mem_filter.1 hp).2
  simpa using this)
theorem fset_keys:fkeys (fset fs k F)=fkeys fs:=by
 unfold fkeys fset;rw [List.map_map]
 refine List.map_congr_left (fun p _=>?_)
 simp only [Function.comp]
 split<;>rfl
theorem sorted_keys:fs.Pairwise (fun p q=>bytesBefore p.1 q.1=true)↔(fkeys fs).Pairwise (fun a b=>bytesBefore a b=true):=by
 unfold fkeys;rw [List.pairwise_map]
theorem fset_sorted (h:fs.Pairwise (fun p q=>bytesBefore p.1 q.1=true)):(fset fs k F).Pairwise (fun p q=>bytesBefore p.1 q.1=true):=by
 rw [sorted_keys,fset_keys,←sorted_keys];exact h
theorem fset_mem {p:Key×AF} (h:p∈fset fs k F):p=(k,F)∨p∈fs:=by
 unfold fset at h;obtain ⟨q,hq,rfl⟩:=List.mem_map.1 h
 by_cases e:q.1=k
 ·left;simp [e]
 ·right;simp [e,hq]
theorem fset_length:(fset fs k F).length=fs.length:=by simp [fset]
theorem fdel_length:(fdel fs k).length≤fs.length:=List.length_filter_le _ _
theorem fins_length {x:Key×AF}:∀{fs:FList},(fins x fs).length=fs.length+1
 | []=>rfl
 | y :: r=>by
  unfold fins
  split
  ·rfl
  ·simp [fins_length]
theorem fput_length:(fput fs k F).length≤fs.length+1:=by
 unfold fput;rw [fins_length]
 have:=fdel_length (fs:=fs) (k:=k)
 omega
theorem fdel_of_none (h:fget fs k=none):fdel fs k=fs:=by
 unfold fdel;rw [List.filter_eq_self];intro p hp
 have:=(fget_none_iff.1 h) p hp
 simp [this]
theorem fused_fins {x:Key×AF}:∀{fs:FList},fused (fins x fs)=x.2.seen.length+fused fs
 | []=>by simp [fins,fused]
 | y :: r=>by
  unfold fins
  split
  ·simp [fused]
  ·have:=fused_fins (x:=x) (fs:=r)
   unfold fused at this ⊢
   simp [this];omega
theorem fused_fdel_le:fused (fdel fs k)≤fused fs:=by
 induction fs with
 | nil=>simp [fdel,fused]
 | cons p r ih=>
  unfold fdel fused at ih ⊢;rw [List.filter_cons]
  split<;>simp<;>omega
theorem fset_none (h:fget fs k=none):fset fs k F'=fs:=by
 unfold fset
 refine (List.map_congr_left (fun q hq=>?_)).trans (List.map_id _)
 have:(q.1 == k)=false:=beq_eq_false_iff_ne.2 (fget_none_iff.1 h q hq)
 simp [this]
theorem fused_fset:∀{fs:FList},fs.Pairwise (fun p q=>p.1≠q.1)→fget fs k=some F→fused (fset fs k F')+F.seen.length=fused fs+F'.seen.length
 | [],_,h=>by simp [fget] at h
 | p :: r,hp,h=>by
  obtain ⟨h1,h2⟩:=List.pairwise_cons.1 hp;rw [fget_cons] at h;rw [fset_cons,fused_cons,fused_cons]
  by_cases e:p.1=k
  ·rw [if_pos e] at h ⊢
   have hF:p.2=F:=by simpa using h
   rw [fset_none (fget_none_iff.2 (fun q hq x=>h1 q hq (e.trans x.symm))),hF]
   simp only;omega
  ·rw [if_neg e] at h ⊢
   have:=fused_fset h2 h
   omega
theorem fused_get_le (h:fget fs k=some F):F.seen.length≤fused fs:=by
 induction fs with
 | nil=>simp [fget] at h
 | cons p r ih=>
  rw [fget_cons] at h;rw [fused_cons]
  by_cases e:p.1=k
  ·rw [if_pos e] at h
   have hF:p.2=F:=by simpa using h
   rw [hF];omega
  ·rw [if_neg e] at h
   have:=ih h
   omega
end
theorem AF.Ok.new:AF.new.Ok:=⟨by simp [AF.new],by simp [AF.new],by simp [AF.new],by simp [AF.new]⟩
theorem AF.Ok.sync {F:AF} (h:F.Ok):F.sync.Ok:=⟨Nat.le_refl _,h.most,by simp [AF.sync],fun i hi _=>⟨hi,rfl⟩⟩
theorem AF.Ok.trunc {F:AF} (h:F.Ok) (n:Nat):(F.trunc n).Ok:=by
 have h1:=h.le;have h2:=h.most
 refine ⟨by simp [AF.trunc];omega,by simp [AF.trunc];omega,fun s hs=>?_,fun i hi hd=>?_⟩
 ·simp only [AF.trunc,Bool.and_eq_true,decide_eq_true_eq,List.length_take] at hs ⊢
  have:=h.dl s hs.1
  omega
 ·simp only [AF.trunc,List.length_take] at hi hd ⊢
  have hd':F.dirty (i / 64)=false:=by
   rcases Bool.and_eq_false_iff.1 hd with h3 | h3
   ·exact h3
   ·simp at h3;omega
  obtain ⟨a,b⟩:=h.clean i (by omega) hd'
  refine ⟨by omega,?_⟩
  rw [List.getElem?_take_of_lt (by omega),List.getElem?_take_of_lt (by omega)];exact b
theorem write_length (l t:List UInt8) (a:Nat) (ha:a≤l.length):(l.take a++t++l.drop (a+t.length)).length=max l.length (a+t.length):=by
 simp;omega
theorem AF.write_seen {F:AF} {a:Nat} {t:List UInt8} (ha:a≤F.seen.length):(F.write a t).seen.length=max F.seen.length (a+t.length):=by
 unfold AF.write
 split
 ·rename_i e;subst e;simp;omega
 ·exact write_length _ _ _ ha
theorem AF.Ok.write {F:AF} (h:F.Ok) {a:Nat} {t:List UInt8} (ha:a≤F.seen.length) (hm:a+t.length≤1048576):(F.write a t).Ok:=by
 by_cases e:t=[]
 ·unfold AF.write;rw [if_pos e];exact h
 have hp:0<t.length:=List.length_pos_iff.2 e;have hl:=AF.write_seen (F:=F) (t:=t) ha;have h1:=h.le;have h2:=h.most
 refine ⟨?_,by rw [hl];omega,fun s hs=>?_,fun i hi hd=>?_⟩
 ·rw [hl];unfold AF.write;rw [if_neg e];show F.safe.length≤_;omega
 ·rw [hl]
  unfold AF.write at hs;rw [if_neg e] at hs;simp only [Bool.or_eq_true,Bool.and_eq_true,decide_eq_true_eq] at hs
  rcases hs with hs | hs
  ·have:=h.dl s hs;omega
  ·omega
 ·rw [hl] at hi
  unfold AF.write at hd ⊢;rw [if_neg e] at hd ⊢;simp only [Bool.or_eq_false_iff,Bool.and_eq_false_iff,decide_eq_false_iff_not] at hd
  have hcase:i<a∨a+t.length≤i:=by omega
  have hi2:i<F.seen.length:=by omega
  obtain ⟨c1,c2⟩:=h.clean i hi2 hd.1;refine ⟨c1,?_⟩
  show (F.seen.take a++t++F.seen.drop (a+t.length))[i]?=F.safe[i]?
  rw [←c2]
  rcases hcase with hc | hc
  ·rw [List.append_assoc,List.getElem?_append_left (by simp;omega),List.getElem?_take_of_lt hc]
  ·rw [List.getElem?_append_right (by simp;omega),List.getElem?_drop]
   congr 1
   simp;omega
theorem foldl_max_ge (p:Nat→Bool) (f:Nat→Nat):∀(l:List Nat) (m:Nat),m≤l.foldl (fun m s=>if p s then max m (f s) else m) m
 | [],_=>Nat.le_refl _
 | s :: r,m=>by
  rw [List.foldl_cons];refine Nat.le_trans ?_ (foldl_max_ge p f r _)
  split<;>omega
theorem foldl_max_le (p:Nat→Bool) (f:Nat→Nat) (M:Nat):∀(l:List Nat) (m:Nat),m≤M→(∀s∈l,p s=true→f s≤M)→l.foldl (fun m s=>if p s then max m (f s) else m) m≤M
 | [],_,h,_=>h
 | s :: r,m,h,hf=>by
  rw [List.foldl_cons]
  refine foldl_max_le p f M r _ ?_ (fun x hx=>hf x (by simp [hx]))
  split
  ·rename_i hp
   have:=hf s (by simp) hp
   omega
  ·exact h
theorem foldl_max_mem (p:Nat→Bool) (f:Nat→Nat):∀(l:List Nat) (m:Nat) (s:Nat),s∈l→p s=true→f s≤l.foldl (fun m s=>if p s then max m (f s) else m) m
 | [],_,_,h,_=>by simp at h
 | x :: r,m,s,h,hp=>by
  rw [List.foldl_cons]
  rcases List.mem_cons.1 h with rfl | h'
  ·rw [if_pos hp]
   exact Nat.le_trans (by omega) (foldl_max_ge p f r _)
  ·exact foldl_max_mem p f r _ s h' hp
theorem AF.len_le {F:AF} (h:F.Ok) (ft:Nat→Option AFate):F.len ft≤F.seen.length:=by
 unfold AF.len;generalize List.range F.nsec=l
 exact foldl_max_le (fun s=>F.dirty s && hits (ft s)) (fun s=>min (64 * s+64) F.seen.length) _ l _ h.le (fun s _ _=>Nat.min_le_right _ _)
theorem AF.len_ge (F:AF) (ft:Nat→Option AFate):F.safe.length≤F.len ft:=by
 unfold AF.len;generalize List.range F.nsec=l
 exact foldl_max_ge (fun s=>F.dirty s && hits (ft s)) (fun s=>min (64 * s+64) F.seen.length) l _
theorem AF.left_length (F:AF) (ft:Nat→Option AFate):(F.left ft).length=F.len ft:=by simp [AF.left]
theorem AF.crash_seen (F:AF) (ft:Nat→Option AFate):(F.crash ft).seen=F.left ft:=rfl
theorem AF.Ok.crash {F:AF} (h:F.Ok) (ft:Nat→Option AFate):(F.crash ft).Ok:=by
 refine ⟨Nat.le_refl _,?_,fun s hs=>(by cases hs),fun i hi _=>⟨hi,rfl⟩⟩
 have e1:(F.crash ft).seen.length=F.len ft:=by rw [AF.crash_seen,AF.left_length]
 have e2:=AF.len_le h ft;have e3:=h.most;rw [e1];omega
theorem AF.dirty_nsec {F:AF} (h:F.Ok) (s:Nat) (hs:F.dirty s=true):s<F.nsec:=by
 have:=h.dl s hs
 unfold AF.nsec;omega
theorem AF.nsec_le {F:AF} (h:F.Ok):F.nsec≤16384:=by
 have:=h.most
 unfold AF.nsec;omega
theorem AF.mem_dirtyL {F:AF} (h:F.Ok) (s:Nat):s∈F.dirtyL↔F.dirty s=true:=by
 unfold AF.dirtyL;rw [List.mem_filter,List.mem_range]
 exact ⟨fun x=>x.2,fun x=>⟨AF.dirty_nsec h s x,x⟩⟩
theorem AF.dirtyL_length {F:AF} (h:F.Ok):F.dirtyL.length≤16384:=by
 have h1:=List.length_filter_le F.dirty (List.range F.nsec);have h2:=AF.nsec_le h;rw [List.length_range] at h1;unfold AF.dirtyL;omega
theorem AF.dirty_lt {F:AF} (h:F.Ok) (s:Nat) (hs:F.dirty s=true):s<16384:=by
 have:=h.dl s hs
 have:=h.most
 omega
end Go.Proofs.YtjbdncknooeplaaGreatDoor
