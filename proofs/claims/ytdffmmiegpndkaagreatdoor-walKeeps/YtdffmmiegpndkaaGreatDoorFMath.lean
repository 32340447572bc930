import Derived.WalkKit
import Derived.Test.YtdffmmiegpndkaaGreatDoorProg
import Derived.WalkSpells
import Derived.WalkLawsBesides
import Derived.Laws.CopyRow
import Derived.Laws.BytesArg
import Derived.Laws.OwnMore
import Derived.Deep.AppendLies
import Derived.Deep.AppendSrc
import Derived.Deep.Upon
import Derived.Deep.QuietTactic
import Derived.BigQuiet
import Derived.Laws.BitsLemmas
namespace Go.Proofs.YtdffmmiegpndkaaGreatDoor.Fr
namespace C
def poly:BitVec 32:=0x82f63b78#32
def st (x:BitVec 32):BitVec 32:=if x.getLsbD 0 then x >>> 1 ^^^ poly else x >>> 1
def stN:Nat→BitVec 32→BitVec 32
 | 0,x=>x
 | n+1,x=>stN n (st x)
def B (c:UInt8):BitVec 32:=BitVec.ofNat 32 c.toNat
def tn (x:BitVec 32):List UInt8→BitVec 32
 | []=>x
 | c :: l=>tn (stN 8 (x ^^^ B c)) l
def on (s:BitVec 32) (l:List UInt8):BitVec 32 := ~~~ (tn (~~~ s) l)
theorem xor_swap (a b c d:BitVec 32):(a ^^^ b) ^^^ (c ^^^ d)=(a ^^^ c) ^^^ (b ^^^ d):=by
 rw [BitVec.xor_assoc,BitVec.xor_assoc,←BitVec.xor_assoc b c d,BitVec.xor_comm b c,BitVec.xor_assoc]
theorem st_xor (x y:BitVec 32):st (x ^^^ y)=st x ^^^ st y:=by
 unfold st;rw [BitVec.getLsbD_xor,BitVec.ushiftRight_xor_distrib]
 cases x.getLsbD 0<;>cases y.getLsbD 0<;>simp
 ·rw [BitVec.xor_assoc]
 ·rw [BitVec.xor_assoc,BitVec.xor_assoc,BitVec.xor_comm poly]
 ·rw [xor_swap,BitVec.xor_self,BitVec.xor_zero]
theorem stN_xor (n:Nat):∀x y,stN n (x ^^^ y)=stN n x ^^^ stN n y:=by
 induction n with
 | zero=>intro x y;rfl
 | succ n ih=>intro x y;simp only [stN];rw [st_xor,ih]
theorem stN_add (m n:Nat):∀x,stN (m+n) x=stN n (stN m x):=by
 induction m with
 | zero=>intro x;rw [Nat.zero_add];rfl
 | succ m ih=>intro x;rw [Nat.succ_add];simp only [stN];rw [ih]
theorem stN_succ (n:Nat) (x:BitVec 32):stN (n+1) x=st (stN n x):=by rw [stN_add];rfl
theorem tn_append (x:BitVec 32) (a b:List UInt8):tn x (a++b)=tn (tn x a) b:=by
 induction a generalizing x with
 | nil=>rfl
 | cons c a ih=>simp only [List.cons_append,tn];rw [ih]
theorem on_append (s:BitVec 32) (a b:List UInt8):on s (a++b)=on (on s a) b:=by
 unfold on;rw [tn_append,BitVec.not_not]
theorem st_even (x:BitVec 32) (h:x.getLsbD 0=false):st x=x >>> 1:=by
 unfold st;rw [h];rfl
theorem stN_low (k:Nat):∀x:BitVec 32,(∀i,i<k→x.getLsbD i=false)→stN k x=x >>> k:=by
 induction k with
 | zero=>intro x _;simp [stN]
 | succ k ih=>
  intro x h;simp only [stN]
  rw [st_even x (h 0 (by omega)),ih]
  ·rw [←BitVec.shiftRight_add,Nat.add_comm]
  ·intro i hi
   rw [BitVec.getLsbD_ushiftRight]
   exact h _ (by omega)
theorem low_high (x:BitVec 32) (k:Nat):x=(x >>> k) <<< k ^^^ (x &&& BitVec.ofNat 32 (2 ^ k - 1)):=by
 apply BitVec.eq_of_getLsbD_eq;intro i hi;rw [BitVec.getLsbD_xor,BitVec.getLsbD_shiftLeft,BitVec.getLsbD_ushiftRight,BitVec.getLsbD_and,BitVec.getLsbD_ofNat,Nat.testBit_two_pow_sub_one]
 by_cases h:i<k
 ·simp [hi,h]
 ·simp [hi,h,show k+(i - k)=i by omega]
theorem stN_cut (x:BitVec 32) (k:Nat):stN k x=x >>> k ^^^ stN k (x &&& BitVec.ofNat 32 (2 ^ k - 1)):=by
 have h:=congrArg (stN k) (low_high x k);rw [stN_xor,stN_low k ((x >>> k) <<< k)] at h
 ·rw [h]
  congr 1
  apply BitVec.eq_of_getLsbD_eq;intro i hi;rw [BitVec.getLsbD_ushiftRight,BitVec.getLsbD_shiftLeft,BitVec.getLsbD_ushiftRight,BitVec.getLsbD_ushiftRight]
  by_cases h:k+i<32
  ·simp [h]
  ·simp [h,BitVec.getLsbD_of_ge x (k+i) (by omega)]
 ·intro i hi
  rw [BitVec.getLsbD_shiftLeft]
  simp [hi]
-- a table of what a linear function makes of each bit
def one (i:Nat):BitVec 32:=1#32 <<< i
def low (x:BitVec 32) (k:Nat):BitVec 32:=x &&& BitVec.ofNat 32 (2 ^ k - 1)
end C
namespace C
def over (l:List UInt8) (p:Nat) (f:Nat→UInt8) (k:Nat):List UInt8:=l.mapIdx fun i c=>if p≤i∧i<p+k then c ^^^ f (i - p) else c
end C
open Go.RowKit
theorem hide {p:Prop} (h:p):Hid p:=h
theorem ret_int {k:IntKind} {a b:Int} (h:a=b):Ending.returned (.int k a)=.returned (.int k b):=by rw [h]
def byteV (c:UInt8):Value:=.int .u8 (c.toNat:Int)
def byteAt (l:List UInt8) (i:Nat):UInt8:=l.getD i 0
def Bytes (w:World) (B:Nat) (v:Value) (l:List UInt8):Prop:=w.ownsRow B 5 1 v l.length (l.map byteV)
theorem info5:(Tryz.prog.info? 5).map (fun i=>(i.zero,i.size,i.bytes))=some (some (.int .u8 0),1,1):=by kernel_rfl
theorem Bytes.nil (w:World) (B:Nat):Bytes w B (.slice none 0 0) []:=World.ownsRow_nil w B 5 1
theorem grown_below {w w':World} {row:Option Nat} {B:Nat} (hg:w.grownBy w' row) (hr:∀k,row=some k→B≤k) (hB:B≤w.heap.size):Below B w w':=
 ⟨hg.os,hg.tape,hg.output,hg.size,fun k hk=>hg.block k (by omega) (fun e=>by have:=hr k e.symm;omega)⟩
theorem grown_alloc (w:World) (o:Obj) (row:Option Nat):w.grownBy (w.alloc o) row:=
 ⟨rfl,rfl,rfl,by simp,fun i hi _=>Below.heap_alloc w o i hi⟩
theorem grown_trans {w w1 w2:World} {row:Option Nat} (h:w.grownBy w1 row) (k:w1.grownBy w2 row):w.grownBy w2 row:=
 ⟨k.os.trans h.os,k.tape.trans h.tape,k.output.trans h.output,Nat.le_trans h.size k.size,fun i hi hn=>(k.block i (Nat.lt_of_lt_of_le hi h.size) hn).trans (h.block i hi hn)⟩
theorem Bytes.block {w:World} {B:Nat} {v:Value} {l:List UInt8} (h:Bytes w B v l):∀k,v.ownBlock=some k→B≤k:=fun k hk=>(World.ownsRow.lt h k hk).1
theorem Bytes.lt {w:World} {B:Nat} {v:Value} {l:List UInt8} (h:Bytes w B v l):∀k,v.ownBlock=some k→k<w.heap.size:=fun k hk=>(World.ownsRow.lt h k hk).2
structure Mv (w:World) (v:Value) (w':World) (v':Value):Prop where
 gr:w.grownBy w' v.ownBlock
 own:∀g,v'.ownBlock=some g→v.ownBlock=some g∨w.heap.size≤g
theorem Mv.refl (w:World) (v:Value):Mv w v w v:=⟨⟨rfl,rfl,rfl,Nat.le_refl _,fun _ _ _=>rfl⟩,fun _ h=>.inl h⟩
theorem Mv.trans {w w1 w2:World} {v v1 v2:Value} (h:Mv w v w1 v1) (k:Mv w1 v1 w2 v2):Mv w v w2 v2:=by
 refine ⟨⟨k.gr.os.trans h.gr.os,k.gr.tape.trans h.gr.tape,k.gr.output.trans h.gr.output,Nat.le_trans h.gr.size k.gr.size,fun i hi hn=>?_⟩,fun g hg=>?_⟩
 ·refine (k.gr.block i (Nat.lt_of_lt_of_le hi h.gr.size) (fun e=>?_)).trans (h.gr.block i hi hn)
  rcases h.own i e.symm with h1 | h1
  ·exact hn h1.symm
  ·omega
 ·have:=h.gr.size
  rcases k.own g hg with h1 | h1
  ·exact h.own g h1
  ·exact .inr (by omega)
theorem wpList_append_byte {ops:Array Oper} {rest:List Oper} {o:Oper} {a:Act} {w w0:World} {Q:Exit→Act→World→Prop} (hgd:o.guard=none) (s x:Operand)
 (ho:o.op=.call { callee:=.builtin .append,args:=#[s,x],argTypes:=#[86,86] }) (B:Nat) (v:Value) (l:List UInt8) (c:UInt8) (X:Int) (hX:X=(c.toNat:Int)) (hs:a.eval s=v) (hown:Bytes w0 B v l)
 (hx:a.eval x=.slice (some ⟨w0.heap.size,0,none⟩) 1 1) (hw:w=w0.alloc (.cells #[.int .u8 X] 5)) (hlen:l.length+1≤140737488355328) (hB:B≤w0.heap.size)
 (h:∀g cap w',Bytes w' B (.slice (some ⟨g,0,none⟩) (l.length+1) cap) (l++[c])→Mv w0 v w' (.slice (some ⟨g,0,none⟩) (l.length+1) cap)→wpList Tryz.prog ops Q rest (a.put o.dst (.slice (some ⟨g,0,none⟩) (l.length+1) cap)) w'):wpList Tryz.prog ops Q (o :: rest) a w:=by
 subst hX hw;have hh:=info5
 cases hq:Tryz.prog.info? 5 with
 | none=>rw [hq] at hh;cases hh
 | some i=>
  rw [hq] at hh;simp only [Option.map_some,Option.some.injEq,Prod.mk.injEq] at hh;obtain ⟨hz0,hz1,hz2⟩:=hh
  have hown':(w0.alloc (.cells #[.int .u8 (c.toNat:Int)] 5)).ownsRow B 5 1 v l.length (l.map byteV):=World.ownsRow.kept hown (grown_alloc w0 _ none) (by cases v.ownBlock<;>simp)
  refine wpList_append_lies (P:=Tryz.prog) _ hgd s x 86 ho B 5 i (.int .u8 0) 1 1 Tryz.underlying86 hq hz0 hz1 hz2 rfl (by omega) v l.length (l.map byteV) hs hown' ⟨w0.heap.size,0,none⟩ 1 1 [byteV c] hx rfl ?_ ?_ (by omega) (by unfold maxLen;omega) (by omega) (by simp;omega) (w0.heap.size+1) (by simp) ?_
  ·intro j u hu
   exact World.news_of_block (heap_alloc_new w0 _) j u hu
  ·intro u hu
   simp at hu;subst hu;rfl
  ·intro g cap w' h1 h2 h3 h4
   refine h g cap w' ?_ ⟨grown_trans (grown_alloc w0 _ v.ownBlock) h2,fun g' hg'=>?_⟩
   ·unfold Bytes
    rw [List.length_append,List.map_append];exact h1
   ·have e:g'=g:=by simpa [Value.ownBlock] using hg'.symm
    subst e
    rcases h3 with h3 | h3
    ·exact .inl h3
    ·exact .inr (by omega)
theorem run_append_bytes (w:World) (B:Nat) (ty tx:TypeId) (v:Value) (l news:List UInt8) (hown:Bytes w B v l) (x:Value) (hs:Src Tryz.prog 1 tx x news.length (news.map byteV) w) (hlen:l.length+news.length≤140737488355328) (hB:B≤w.heap.size) :
 ∃v' w',(Builtin.append_ #[86,tx] ty #[v,x]).run Tryz.prog w=.ok v' w'∧Bytes w' B v' (l++news)∧Mv w v w' v':=by
 obtain ⟨i,hi,hz0,hz1,hz2⟩:=info_parts info5;rw [←hz1] at hs
 by_cases hn:news=[]
 ·subst hn
  have hh:=hown.2
  rcases hh with ⟨rfl,hl⟩ | ⟨g,cap,cur,rfl,hb,hg,hnc,hcm,hcs,htake⟩
  ·exact ⟨_,_,run_append_nothing (P:=Tryz.prog) w 86 tx ty 5 i Tryz.underlying86 hi none 0 0 (Nat.le_refl _) x hs,by rw [List.append_nil];exact hown,Mv.refl _ _⟩
  ·exact ⟨_,_,run_append_nothing (P:=Tryz.prog) w 86 tx ty 5 i Tryz.underlying86 hi (some ⟨g,0,none⟩) l.length cap hnc x hs,by rw [List.append_nil];exact hown,Mv.refl _ _⟩
 have hpos:0<news.length:=List.length_pos_iff.2 hn;have hlen':(l++news).map byteV=l.map byteV++news.map byteV:=List.map_append
 have grown:∀(old:Nat),old<l.length+news.length →
  Bytes (w.drew.alloc (.cells ((l.map byteV++news.map byteV).toArray++Builtin.zeroCells (Value.int .u8 0).cells (grownCap w (l.length+news.length) old 5 - (l.length+news.length))) 5)) B
   (.slice (some ⟨w.heap.size,0,none⟩) (l.length+news.length) (grownCap w (l.length+news.length) old 5)) (l++news) ∧
  ∀row:Option Nat,w.grownBy (w.drew.alloc (.cells ((l.map byteV++news.map byteV).toArray++Builtin.zeroCells (Value.int .u8 0).cells (grownCap w (l.length+news.length) old 5 - (l.length+news.length))) 5)) row:=by
  intro old ho;have hge:=grownCap_ge w (l.length+news.length) old 5
  have hcm:grownCap w (l.length+news.length) old 5≤maxLen:=grownCap_le_maxLen w _ old 5 (by unfold maxLen;omega)
  refine ⟨?_,fun row=>⟨rfl,rfl,rfl,by simp,fun k hk _=>Below.heap_alloc w.drew _ k hk⟩⟩
  unfold Bytes;rw [List.length_append]
  refine ⟨by simp,.inr ⟨w.heap.size,_,_,rfl,hB,heap_alloc_new w.drew _,hge,hcm,?_,?_⟩⟩
  ·simp only [Array.size_append,List.size_toArray,size_zeroCells,List.length_append,List.length_map]
   rw [show (Value.int .u8 0).cells.size=1 from rfl]
   omega
  ·rw [hlen',Array.toList_append]
   have e:(l.length+news.length) * 1=(l.map byteV++news.map byteV).length:=by simp
   rw [e];exact List.take_left
 have hh:=hown.2
 rcases hh with ⟨rfl,hl⟩ | ⟨g,cap,cur,rfl,hb,hg,hnc,hcm,hcs,htake⟩
 ·have hl0:l=[]:=List.length_eq_zero_iff.1 hl
  subst hl0
  have hr:=run_append_grow_src (P:=Tryz.prog) w 86 tx ty 5 i (.int .u8 0) Tryz.underlying86 hi hz0 none 0 0 [] (run_firstCells_none w.drew i.size 0 0 0) x news.length (news.map byteV) hs (by omega) (by omega) (by
   rw [hz2,Nat.zero_add,Nat.mul_one]
   rw [nextslicecap_zero hpos];simp only [List.length_nil,Nat.zero_add] at hlen;omega)
  obtain ⟨g1,g2⟩:=grown 0 (by omega)
  simp only [List.length_nil,Nat.zero_add,List.map_nil] at g1 g2 hr
  refine ⟨_,_,hr,g1,g2 _,fun g' hg'=>.inr ?_⟩
  have e:g'=w.heap.size:=by simpa [Value.ownBlock] using hg'.symm
  omega
 ·have hc:=World.ownsRow.cells hown (g:=g) rfl
  by_cases hroom:l.length+news.length≤cap
  ·have hst:=run_storeCells_at Tryz.prog g (l.length * i.size) 5 (news.map byteV) 0 cur w hg (by simp [hz1];omega) hs.one
   rw [Nat.add_zero] at hst
   have hr:(Builtin.append_ #[86,tx] ty #[.slice (some ⟨g,0,none⟩) l.length cap,x]).run Tryz.prog w=.ok (.slice (some ⟨g,0,none⟩) (l.length+news.length) cap) (w.setRow g (cur.toList.take (l.length * i.size)++news.map byteV++cur.toList.drop (l.length * i.size+(news.map byteV).length)).toArray):=by
    rcases hs.kind with ⟨e',hk⟩ | hk<;>simp [Builtin.append_,run_underlying Tryz.underlying86,run_underlying hk,sizeOf,typeInfo,hi,hs.len,hroom,hs.cells,Addr.add_lit,hst]
   refine ⟨_,_,hr,?_,⟨rfl,rfl,rfl,by simp,fun k _ hk=>setRow_other w g k _ (fun e=>hk (by simp [Value.ownBlock,e]))⟩,fun g' hg'=>.inl ?_⟩
   ·unfold Bytes
    rw [List.length_append]
    refine ⟨by simp,.inr ⟨g,cap,_,rfl,hb,setRow_heap w g cur _ 5 _ hg,hroom,hcm,?_,?_⟩⟩
    ·simp only [List.size_toArray,List.length_append,List.length_take,List.length_drop,Array.length_toList,List.length_map,hz1]
     omega
    ·rw [hz1,htake,hlen']
     have e:(l.length+news.length) * 1=(l.map byteV++news.map byteV).length:=by simp
     rw [e];exact List.take_left
   ·simpa [Value.ownBlock] using hg'
  ·have hr:=run_append_grow_src (P:=Tryz.prog) w 86 tx ty 5 i (.int .u8 0) Tryz.underlying86 hi hz0 (some ⟨g,0,none⟩) l.length cap (l.map byteV) (by
    have:=run_firstCells_some (P:=Tryz.prog) w.drew i.size l.length ⟨g,0,none⟩ l.length cap (l.map byteV) (by simp [hz1]) hc
    exact this) x news.length (news.map byteV) hs (by omega) (by omega) (growslice_fits (by omega) (by rw [hz2];omega))
   obtain ⟨g1,g2⟩:=grown cap (by omega)
   refine ⟨_,_,hr,g1,g2 _,fun g' hg'=>.inr ?_⟩
   have e:g'=w.heap.size:=by simpa [Value.ownBlock] using hg'.symm
   omega
def digit (x n j:Nat):UInt8:=UInt8.ofNat (x / 2 ^ (8 * (n - 1 - j)))
def nb (x n:Nat):List UInt8:=(List.range n).map (digit x n)
def be (l:List UInt8):Nat:=l.foldl (fun a c=>a * 256+c.toNat) 0
theorem range_snoc {α:Type} (f:Nat→α) (k:Nat):(List.range k).map f++[f k]=(List.range (k+1)).map f:=by rw [List.range_succ,List.map_append];rfl
theorem nb_length (x n:Nat):(nb x n).length=n:=by simp [nb]
theorem be_snoc (l:List UInt8) (c:UInt8):be (l++[c])=be l * 256+c.toNat:=by simp [be]
theorem be_nil:be []=0:=rfl
theorem be_fold (l:List UInt8):∀a:Nat,l.foldl (fun a c=>a * 256+c.toNat) a=a * 256 ^ l.length+be l:=by
 induction l with
 | nil=>intro a;simp [be]
 | cons c l ih=>
  intro a;unfold be;rw [List.foldl_cons,List.foldl_cons,ih,ih (0 * 256+c.toNat),List.length_cons,Nat.pow_succ,Nat.add_mul,Nat.zero_mul,Nat.zero_add,Nat.mul_assoc,Nat.mul_comm 256];omega
theorem be_cons (c:UInt8) (l:List UInt8):be (c :: l)=c.toNat * 256 ^ l.length+be l:=by
 have:=be_fold l (0 * 256+c.toNat)
 unfold be at this ⊢;rw [List.foldl_cons,this,Nat.zero_mul,Nat.zero_add]
theorem be_lt (l:List UInt8):be l<256 ^ l.length:=by
 induction l with
 | nil=>simp [be]
 | cons c l ih=>
  rw [be_cons,List.length_cons,Nat.pow_succ]
  have:=c.toNat_lt
  have h2:c.toNat * 256 ^ l.length≤255 * 256 ^ l.length:=Nat.mul_le_mul_right _ (by omega)
  omega
theorem pow8 (b:Nat):2 ^ (8 * b)=256 ^ b:=by rw [Nat.pow_mul]
theorem nb_succ (x n:Nat):nb x (n+1)=nb (x / 256) n++[UInt8.ofNat x]:=by
 unfold nb;rw [List.range_succ,List.map_append]
 congr 1
 ·apply List.map_congr_left
  intro j hj;have hj':j<n:=List.mem_range.1 hj;unfold digit
  congr 1
  rw [Nat.div_div_eq_div_mul]
  congr 1
  rw [show n+1 - 1 - j=(n - 1 - j)+1 by omega,Nat.mul_add,Nat.pow_add]
  omega
 ·simp [digit]
theorem nb_zero (x:Nat):nb x 0=[]:=rfl
theorem toNat_ofNat8 (x:Nat):(UInt8.ofNat x).toNat=x % 256:=by simp
theorem be_nb (x n:Nat):be (nb x n)=x % 256 ^ n:=by
 induction n generalizing x with
 | zero=>rw [nb_zero,be_nil,Nat.pow_zero];omega
 | succ n ih=>
  rw [nb_succ,be_snoc,ih,toNat_ofNat8,Nat.pow_succ,Nat.mul_comm (256 ^ n) 256,Nat.mod_mul];omega
section
variable {P:Program} {ops:Array Oper} {rest:List Oper} {o:Oper} {a:Act} {w:World} {Q:Exit→Act→World→Prop}
theorem wpList_shr (hgd:o.guard=none) (t:TypeId) (x y:Operand) (u:TypeId) (ho:o.op=.binOp .shr t x y u) (k yk:IntKind) (X Y Z:Int) (hx:a.eval x=.int k X) (hy:a.eval y=.int yk Y) (m:Nat) (hY:Y=(m:Int)) (hm:m≤k.bits) (hZ:X / (2:Int) ^ m=Z)
 (h:wpList P ops Q rest (a.put o.dst (.int k Z)) w):wpList P ops Q (o :: rest) a w:=by
 refine wpList_plain hgd fun K hK=>?_
 have hs:Op.shift .shr k X yk Y=pure (.int k Z):=by
  rw [shift_shr_any k yk X Y (by omega),hY,Int.toNat_natCast,Nat.min_eq_left hm,hZ]
 unfold Oper.wp execOp;simp only [ho,hx,hy,eqGuard_shr,binOp_shr,hs,Sem.run_bind,Sem.run_pure,Result.andThen_ok];exact hK _ _ h
theorem wpList_shl (hgd:o.guard=none) (t:TypeId) (x y:Operand) (u:TypeId) (ho:o.op=.binOp .shl t x y u) (k yk:IntKind) (X Y Z:Int) (hx:a.eval x=.int k X) (hy:a.eval y=.int yk Y) (m:Nat) (hY:Y=(m:Int)) (hm:m≤k.bits) (hZ:k.wrap (X * (2:Int) ^ m)=Z)
 (h:wpList P ops Q rest (a.put o.dst (.int k Z)) w):wpList P ops Q (o :: rest) a w:=by
 refine wpList_plain hgd fun K hK=>?_
 have hs:Op.shift .shl k X yk Y=pure (.int k Z):=by
  rw [shift_shl_any k yk X Y (by omega),hY,Int.toNat_natCast,Nat.min_eq_left hm,hZ]
 unfold Oper.wp execOp;simp only [ho,hx,hy,eqGuard_shl,binOp_shl,hs,Sem.run_bind,Sem.run_pure,Result.andThen_ok];exact hK _ _ h
theorem wpList_or (hgd:o.guard=none) (t:TypeId) (x y:Operand) (u:TypeId) (ho:o.op=.binOp .or t x y u) (k:IntKind) (X Y Z:Int) (hx:a.eval x=.int k X) (hy:a.eval y=.int k Y) (hZ:bits .or k X Y=Z)
 (h:wpList P ops Q rest (a.put o.dst (.int k Z)) w):wpList P ops Q (o :: rest) a w:=by
 refine wpList_plain hgd fun K hK=>?_
 unfold Oper.wp execOp;simp only [ho,hx,hy,eqGuard_or,binOp_or,intBits_or,hZ,Sem.run_bind,Sem.run_pure,Result.andThen_ok];exact hK _ _ h
theorem wpList_conv (hgd:o.guard=none) (s d:TypeId) (x:Operand) (ho:o.op=.convert s d x) (k kd:IntKind) (X Z:Int) (hx:a.eval x=.int k X) (hr:(convert s d (.int k X)).run P w=.ok (.int kd Z) w)
 (h:wpList P ops Q rest (a.put o.dst (.int kd Z)) w):wpList P ops Q (o :: rest) a w:=by
 refine wpList_plain hgd fun K hK=>?_
 unfold Oper.wp execOp;simp only [ho,hx,hr,Sem.run_bind,Sem.run_pure,Result.andThen_ok];exact hK _ _ h
end
end Go.Proofs.YtdffmmiegpndkaaGreatDoor.Fr
namespace Go.Proofs.YtdffmmiegpndkaaGreatDoor.Fr
open Go.RowKit C
def room (k:Nat):Nat:=(k+79) / 64 * 64
def sumL (n:Nat) (p:List UInt8):Nat:=(on 0#32 (nb p.length 4++nb n 8++p)).toNat
def fillL (k:Nat):List UInt8:=List.replicate (room k - (16+k)) 0
def frameL (n:Nat) (p:List UInt8):List UInt8:=nb p.length 4++(nb n 8++(nb (sumL n p) 4++(p++fillL p.length)))
theorem room_ge (k:Nat):16+k≤room k∧room k<80+k∧64≤room k∧room k % 64=0:=by unfold room;omega
theorem frameL_length (n:Nat) (p:List UInt8):(frameL n p).length=room p.length:=by
 have:=room_ge p.length
 unfold frameL fillL;simp only [List.length_append,nb_length,List.length_replicate];omega
theorem nb_inj {x y k:Nat} (h:nb x k=nb y k) (hx:x<256 ^ k) (hy:y<256 ^ k):x=y:=by
 have:=congrArg be h
 rwa [be_nb,be_nb,Nat.mod_eq_of_lt hx,Nat.mod_eq_of_lt hy] at this
theorem sumL_lt (n:Nat) (p:List UInt8):sumL n p<256 ^ 4:=(on 0#32 (nb p.length 4++nb n 8++p)).isLt
theorem frame_head {n:Nat} {p l:List UInt8} (h:frameL n p <+: l):l.take 4=nb p.length 4∧(l.drop 4).take 8=nb n 8∧(l.drop 12).take 4=nb (sumL n p) 4∧(l.drop 16).take p.length=p∧room p.length≤l.length:=by
 obtain ⟨r,rfl⟩:=h;refine ⟨?_,?_,?_,?_,?_⟩
 ·unfold frameL
  rw [List.append_assoc,List.take_left' (nb_length _ _)]
 ·unfold frameL
  rw [List.append_assoc,List.drop_left' (nb_length _ _),List.append_assoc,List.take_left' (nb_length _ _)]
 ·unfold frameL
  rw [List.append_assoc,show 12=4+8 from rfl,←List.drop_drop,List.drop_left' (nb_length _ _),List.append_assoc,List.drop_left' (nb_length _ _),List.append_assoc,List.take_left' (nb_length _ _)]
 ·unfold frameL
  rw [List.append_assoc,show 16=4+(8+4) from rfl,←List.drop_drop,←List.drop_drop,List.drop_left' (nb_length _ _),List.append_assoc,List.drop_left' (nb_length _ _),List.append_assoc,List.drop_left' (nb_length _ _),List.append_assoc,List.take_left' rfl]
 ·rw [List.length_append,frameL_length];omega
def payloadL (t:List UInt8):List UInt8:=(t.drop 16).take (be (t.take 4))
abbrev Whole (n:Int) (t p:List UInt8):Prop:=0≤n∧n<9223372036854775808∧p.length≤65536∧frameL n.toNat p <+: t
theorem Whole.payload {n:Int} {t p:List UInt8} (h:Whole n t p):payloadL t=p:=by
 obtain ⟨a1,_,_,a4,_⟩:=frame_head h.2.2.2;unfold payloadL
 rw [a1,be_nb,Nat.mod_eq_of_lt (by have:=h.2.2.1;omega),a4]
def wholeT (t:List UInt8) (n:Int):Option (List UInt8):=if Whole n t (payloadL t) then some (payloadL t) else none
theorem wholeT_some {t:List UInt8} {n:Int} {p:List UInt8}:wholeT t n=some p↔Whole n t p:=by
 unfold wholeT
 constructor
 ·intro h
  split at h
  ·rename_i hw
   cases h;exact hw
  ·cases h
 ·intro h
  have e:=h.payload;rw [e,if_pos h]
theorem wholeT_none {t:List UInt8} {n:Int}:wholeT t n=none↔∀p,¬Whole n t p:=by
 constructor
 ·intro h p hp
  rw [wholeT_some.2 hp] at h;cases h
 ·intro h
  unfold wholeT;rw [if_neg (h _)]
theorem Whole.len {n:Int} {t p:List UInt8} (h:Whole n t p):room p.length≤t.length:=(frame_head h.2.2.2).2.2.2.2
theorem Whole.split {n:Int} {t p:List UInt8} (h:Whole n t p):t=frameL n.toNat p++t.drop (room p.length):=by
 obtain ⟨r,hr⟩:=h.2.2.2;rw [←hr,List.drop_left' (frameL_length _ _)]
def nextA (l:List UInt8) (at_ n:Int):List UInt8×Nat×Int:=
 if at_=l.length then ([],0,0) else if at_<0∨(l.length:Int)<at_ then ([],0,2) else
 match wholeT (l.drop at_.toNat) n with
 | some p=>(p,room p.length,1)
 | none=>([],0,2)
def Told:List UInt8→Int→List (List UInt8)→List UInt8→Prop
 | t,_,[],t'=>t'=t
 | t,n,p :: ps,t'=>Whole n t p∧Told (t.drop (room p.length)) (n+1) ps t'
theorem Told.snoc {p:List UInt8}:∀{ps:List (List UInt8)} {t t':List UInt8} {n:Int},Told t n ps t'→Whole (n+ps.length) t' p→Told t n (ps++[p]) (t'.drop (room p.length))
 | [],t,t',n,h,hw=>by
  have e:t'=t:=h;subst e;simp only [List.length_nil,Int.natCast_zero,Int.add_zero] at hw;exact ⟨hw,rfl⟩
 | q :: ps,t,t',n,h,hw=>by
  refine ⟨h.1,Told.snoc h.2 ?_⟩;rw [List.length_cons] at hw
  rw [show n+1+(ps.length:Int)=n+((ps.length+1:Nat):Int) by omega]
  exact hw
theorem Told.suffix:∀{ps:List (List UInt8)} {t t':List UInt8} {n:Int},Told t n ps t'→t'=t.drop (t.length - t'.length)∧t'.length+64 * ps.length≤t.length
 | [],t,t',n,h=>by
  have e:t'=t:=h;subst e
  simp
 | p :: ps,t,t',n,h=>by
  obtain ⟨h1,h2⟩:=Told.suffix h.2;have h3:=h.1.len;have h4:=room_ge p.length;rw [List.length_drop] at h1 h2
  refine ⟨?_,by rw [List.length_cons];omega⟩
  rw [List.drop_drop] at h1
  rw [show t.length - t'.length=room p.length+(t.length - room p.length - t'.length) by omega]
  exact h1
theorem Told.range:∀{ps:List (List UInt8)} {t t':List UInt8} {n:Int},Told t n ps t'→ps≠[]→0≤n∧n+ps.length≤9223372036854775808
 | [],_,_,_,_,h=>absurd rfl h
 | p :: ps,t,t',n,h,_=>by
  have h1:=h.1.1;have h2:=h.1.2.1;rw [List.length_cons]
  cases ps with
  | nil=>simp only [List.length_nil];omega
  | cons q qs=>
   have:=Told.range h.2 (by simp)
   omega
theorem none_empty (n:Int):wholeT [] n=none:=by
 rw [wholeT_none];intro q hq
 have:=hq.len
 have:=room_ge q.length
 simp only [List.length_nil] at *;omega
theorem none_neg {n:Int} (h:n<0) (t:List UInt8):wholeT t n=none:=by
 rw [wholeT_none];intro q hq
 have:=hq.1
 omega
theorem none_big {n:Int} (h:9223372036854775808≤n) (t:List UInt8):wholeT t n=none:=by
 rw [wholeT_none];intro q hq
 have:=hq.2.1
 omega
set_option maxRecDepth 100000 in
theorem sum_zero:sumL 0 []≠0:=by decide +kernel
theorem be_zeros:∀k,be (List.replicate k (0:UInt8))=0
 | 0=>rfl
 | k+1=>by rw [List.replicate_succ,be_cons,be_zeros k];simp
end Go.Proofs.YtdffmmiegpndkaaGreatDoor.Fr
