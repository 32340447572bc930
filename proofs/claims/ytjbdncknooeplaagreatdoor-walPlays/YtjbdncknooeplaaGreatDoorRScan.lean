import Derived.Test.YtjbdncknooeplaaGreatDoorRowsOwn
import Derived.Test.YtjbdncknooeplaaGreatDoorFScan
import Derived.Laws.Concat
namespace Go.Proofs.YtjbdncknooeplaaGreatDoor
open Go.RowKit Go.Maps Go.WideMaps
set_option linter.unusedVariables false
set_option linter.unusedSimpArgs false
structure Clean (F:AF) (l:List UInt8):Prop where
 seen:F.seen=l
 safe:F.safe=l
 dirty:∀s,F.dirty s=false
def p0:AP:=⟨false,false,0,0,0⟩
end Go.Proofs.YtjbdncknooeplaaGreatDoor
namespace Go.Proofs.YtjbdncknooeplaaGreatDoor.Fr
open Go.RowKit C
set_option linter.unusedVariables false
set_option maxHeartbeats 1000000 in
theorem put_any (n:Nat) (hn:n≤8) (X:Int) (x:Nat) (hX:X=(x:Int)) (v:Value) (l:List UInt8) (B:Nat) (w:World) (hB:Bytes w B v l) (hs:B≤w.heap.size) (hl:l.length+8≤140737488355328) (N:Int) (hN:N=(n:Int)) :
 Calls Tryz.prog 118 #[v,.int .i64 X,.int .i64 N] w fun e w'=>∃v',e=.returned v'∧Bytes w' B v' (l++nb x n)∧Mv w v w' v':=by
 have HL:=hide hl;have HX:=hide hX;have HN:=hide hn
 have h1:wrap64 (N - 1)=(n:Int) - 1:=by rw [hN];unfold wrap64;omega
 have H1:=hide h1;clear hl hX hN hn h1
 go_enter Tryz.func118,Tryz.ntmps118
 go_wp2
 go_loopw [0,7] (fun b i wr=>∃k:Nat,k≤n∧i=.int .i64 ((k:Int) - 1)∧Bytes wr B b (l++(List.range (n - k)).map (digit x n))∧Mv w v wr b) (fun _ i _=>(intOf i+1).toNat)
 case atStart=>exact ⟨n,Nat.le_refl _,by rw [H1.out],by rw [Nat.sub_self,List.range_zero,List.map_nil,List.append_nil];exact hB,Mv.refl _ _⟩
 case round=>
  clear hB;obtain ⟨k,hk,rfl,hB,hM⟩:=hrel;have hs':B≤wr.heap.size:=Nat.le_trans hs hM.gr.size;have hn8:=HN.out
  by_cases hlt:0<k
  ·have h1:(0:Int)≤(k:Int) - 1:=by omega
   have hd:decide ((k:Int) - 1≥0)=true:=by simp;omega
   have hm8:wrap64 (8 * ((k:Int) - 1))=((8 * (k - 1):Nat):Int):=by unfold wrap64;omega
   obtain ⟨Z,hZ⟩:∃Z:Int,X / (2:Int) ^ (8 * (k - 1))=Z:=⟨_,rfl⟩
   have hc:∀w:World,(convert 2 5 (.int .i64 Z)).run Tryz.prog w=.ok (.int .u8 ((digit x n (n - k)).toNat:Int)) w:=fun w=>by
    rw [←wrap8_digit x n (n - k) (8 * (k - 1)) (by omega),←HX.out,hZ]
    exact conv_u8 2 .i64 Z (by kernel_rfl) w
   have HZ:=hide hZ;have HC:=hide hc
   have hks:8 * (k - 1)≤64:=by omega
   have HKS:=hide hks;clear hZ hc;have hll:=HL.out;obtain ⟨L,hL⟩:∃L,l++(List.range (n - k)).map (digit x n)=L:=⟨_,rfl⟩
   have HLL:Hid (L.length+1≤140737488355328):=by
    show _≤_
    rw [←hL,List.length_append,List.length_map,List.length_range];omega
   rw [hL] at hB;have HE:=hide hL;clear hll hL hks
   go_wp2_with (first | (refine wpList_shr rfl _ _ _ _ rfl .i64 .i64 X _ Z (by rfl) (by rfl) (8 * (k - 1)) (by omega) (by show _≤64;omega) HZ.out ?_) | (refine wpList_conv rfl _ _ _ rfl .i64 .u8 Z _ (by rfl) (HC.out _) ?_) | (at_builtin;refine wpList_append_byte rfl _ _ rfl B _ L (digit x n (n - k)) _ rfl (by rfl) hB (by rfl) rfl HLL.out hs' ?_;intro g cap w5 hB5 hM5))
   go_roundw
   case rel=>
    refine ⟨k - 1,by omega,by congr 1;omega,?_,hM.trans hM5⟩
    rw [←HE.out,List.append_assoc,range_snoc,show n - k+1=n - (k - 1) by omega] at hB5
    rw [HE.out] at hB5;exact hB5
   case measure=>simp [intOf];omega
  ·have hk0:k=0:=by omega
   subst hk0;go_wp2;go_ret;exact ⟨_,rfl,hB,hM⟩
theorem room_any (k:Nat) (w:World) (hk:k≤281474976710656) (K:Int) (hK:K=(k:Int)) (R:Int) (hR:R=(room k:Int)):Calls Tryz.prog 121 #[.int .i64 K] w fun e w'=>e=.returned (.int .i64 R)∧w=w':=by
 have hd:room k=(k+79) / 64 * 64:=rfl
 have h0:0≤K:=by omega
 have h1:wrap64 (16+K)=16+K:=by unfold wrap64;omega
 have h2:wrap64 (16+K+64)=16+K+64:=by unfold wrap64;omega
 have h3:wrap64 (16+K+64 - 1)=16+K+64 - 1:=by unfold wrap64;omega
 have h4:Int.tdiv (16+K+64 - 1) 64=(16+K+64 - 1) / 64:=Int.tdiv_eq_ediv_of_nonneg (by omega)
 have h5:wrap64 ((16+K+64 - 1) / 64 * 64)=R:=by unfold wrap64;omega
 have HR:Hid (wrap64 (wrap64 ((16+K+64 - 1) / 64) * 64)=R):=by
  show _=_
  unfold wrap64;omega
 clear hd hK hR
 go_enter Tryz.func121,Tryz.ntmps121
 go_wp2;go_ret;exact ⟨ret_int HR.out,rfl⟩
def lenV:Value→Nat
 | .slice _ n _=>n
 | _=>0
theorem Bytes.len {w:World} {B n c:Nat} {ad:Option Addr} {l:List UInt8} (h:Bytes w B (.slice ad n c) l):n=l.length:=by
 rcases h.2 with hn | ⟨g,cap,cur,he,_⟩
 ·have h1:=hn.1
  have h2:=hn.2;cases h1;exact h2.symm
 ·cases he
  rfl
theorem refSum32 (s:ByteArray) (w:World) (hs:s.size≤maxLen) (Z:Int) (hZ:Z=((on 0#32 s.data.toList).toNat:Int)):Calls Tryz.prog 120 #[.string s] w fun e w'=>e=.returned (.int .u32 Z)∧w'=w:=by
 rw [hZ];exact refSum_any num32 s w hs
theorem refOn32 (x:BitVec 32) (s:ByteArray) (w:World) (hs:s.size≤maxLen) (X Z:Int) (hX:X=(x.toNat:Int)) (hZ:Z=((on x s.data.toList).toNat:Int)):Calls Tryz.prog 119 #[.int .u32 X,.string s] w fun e w'=>e=.returned (.int .u32 Z)∧w'=w:=by
 rw [hZ,hX];exact refOn_any num32 x s w hs
set_option maxHeartbeats 2000000 in
theorem rframe_ok (m:Nat) (p:ByteArray) (w:World) (hm:m<9223372036854775808) (hp:p.size≤65536) :
 Calls Tryz.prog 86 #[.int .i64 (m:Int),.string p] w fun e w'=>e=.returned (.tuple #[.string ⟨(frameL m p.data.toList).toArray⟩,.int .i64 0])∧Below w.heap.size w w':=by
 have hd:decide ((m:Int)<0)=false:=decide_eq_false (by omega)
 have hd2:decide ((p.size:Int) > 65536)=false:=decide_eq_false (by omega)
 have hd3:decide ((65536:Int)<(p.size:Int))=false:=decide_eq_false (by omega)
 have hd4:decide (65536<p.size)=false:=decide_eq_false (by omega)
 have HP:=hide hp;have HM:=hide hm;obtain ⟨M,hM⟩:∃M:Int,M=(m:Int):=⟨_,rfl⟩;have HMM:=hide hM;rw [←hM] at hd ⊢;obtain ⟨k,hk⟩:∃k:Nat,p.size=k:=⟨_,rfl⟩;have HK:=hide hk;rw [hk] at hd2 hd3 hd4;clear hp hm hM
 have HPs:Hid (p.size≤maxLen):=by
  show _≤_
  have:=HP.out
  unfold maxLen;omega
 go_enter Tryz.func86,Tryz.ntmps86
 go_wp2_with fail
 refine (put_any 4 (by decide) (k:Int) k rfl _ [] w.heap.size _ (Bytes.nil _ _) (Nat.le_refl _) (by decide) 4 rfl).mono ?_
 rintro e w1 ⟨v1,rfl,h1,hM1⟩;obtain ⟨ad1,n1,c1,rfl⟩:=h1.shape;go_wp2_with fail
 refine (put_any 8 (by decide) M m HMM.out _ _ w.heap.size _ h1 hM1.gr.size (by simp [nb_length]) 8 rfl).mono ?_
 rintro e w2 ⟨v2,rfl,h2,hM2⟩;obtain ⟨ad2,n2,c2,rfl⟩:=h2.shape;have hcv:=h2.conv;obtain ⟨Hd,hHd⟩:∃Hd:ByteArray,Hd=⟨([]++nb k 4++nb m 8).toArray⟩:=⟨_,rfl⟩;rw [←hHd] at hcv
 have HH:Hid (Hd.data.toList=nb k 4++nb m 8):=by
  show _=_
  rw [hHd];simp
 obtain ⟨S1,hS1⟩:∃S1:Int,S1=((on 0#32 Hd.data.toList).toNat:Int):=⟨_,rfl⟩;obtain ⟨S2,hS2⟩:∃S2:Int,S2=((on (on 0#32 Hd.data.toList) p.data.toList).toNat:Int):=⟨_,rfl⟩;have HS1:=hide hS1;have HS2:=hide hS2
 have HHs:Hid (Hd.size≤maxLen):=by
  show _≤_
  rw [←str_len,HH.out,List.length_append,nb_length,nb_length];unfold maxLen;omega
 obtain ⟨s2,hs2⟩:∃s2:Nat,s2=(on (on 0#32 Hd.data.toList) p.data.toList).toNat:=⟨_,rfl⟩
 have hs2l:s2<4294967296:=by rw [hs2];exact (on (on 0#32 Hd.data.toList) p.data.toList).isLt
 have hc:∀w:World,(convert 142 2 (.int .u32 S2)).run Tryz.prog w=.ok (.int .i64 S2) w:=fun w=>by
  have h:=run_convert_int (P:=Tryz.prog) (w:=w) 142 2 .u32 S2 (by kernel_rfl) (by kernel_rfl)
  have e2:IntKind.i64.wrap S2=S2:=by rw [IntKind.wrap_i64,hS2,←hs2];omega
  rw [show Tryz.prog.intKind 2=.i64 by kernel_rfl,e2] at h
  exact h
 have HC:=hide hc
 have HS3:Hid (S2=(s2:Int)):=by show _=_;rw [hS2,hs2]
 have Hs2:=hide hs2;clear hS1 hS2 hHd hc hs2 hs2l;go_wp2_with fail;refine (refSum32 Hd _ HHs.out S1 HS1.out).mono ?_;rintro e w3 ⟨rfl,hw3⟩;obtain rfl:=hw3;go_wp2_with fail;refine (refOn32 _ p _ HPs.out S1 S2 HS1.out HS2.out).mono ?_;rintro e w4 ⟨rfl,hw4⟩;obtain rfl:=hw4;clear hcv
 go_wp2_with (first | (refine wpList_conv rfl _ _ _ rfl .u32 .i64 S2 S2 (by rfl) (HC.out _) ?_) | fail)
 refine (put_any 4 (by decide) S2 s2 HS3.out _ _ w.heap.size _ h2 (Nat.le_trans hM1.gr.size hM2.gr.size) (by simp [nb_length]) 4 rfl).mono ?_
 rintro e w5 ⟨v5,rfl,h5,hM5⟩;obtain ⟨ad5,n5,c5,rfl⟩:=h5.shape;have q5:w.heap.size≤w5.heap.size:=Nat.le_trans (Nat.le_trans hM1.gr.size hM2.gr.size) hM5.gr.size;obtain ⟨L5,hL5⟩:∃L5:List UInt8,[]++nb k 4++nb m 8++nb s2 4=L5:=⟨_,rfl⟩;rw [hL5] at h5
 have HL5:Hid (L5=nb k 4++(nb m 8++nb s2 4)):=by
  show _=_
  rw [←hL5];simp
 have HL5l:Hid (L5.length=16):=by
  show _=_
  rw [HL5.out];simp [nb_length]
 have HLL:Hid (L5.length+p.data.toList.length≤140737488355328):=by
  show _≤_
  rw [str_len,HL5l.out]
  have:=HP.out
  omega
 clear hL5
 have HB5:Hid (Below w.heap.size w w5):=by
  show Below _ _ _
  have a1:=hM1.below (B:=w.heap.size) (by simp [Value.ownBlock]) (Nat.le_refl _)
  have a2:=hM2.below (B:=w.heap.size) h1.block hM1.gr.size;have a5:=hM5.below (B:=w.heap.size) h2.block (Nat.le_trans hM1.gr.size hM2.gr.size);exact (a1.trans a2).trans a5
 go_wp2_with (at_builtin;refine wpList_append_src rfl _ _ 9 rfl w.heap.size _ L5 (by rfl) h5 (.string p) p.data.toList (by rfl) (src_text p _) HLL.out q5 ?_;intro ad6 n6 c6 w6 h6 hM6)
 obtain ⟨L6,hL6⟩:∃L6:List UInt8,L5++p.data.toList=L6:=⟨_,rfl⟩;rw [hL6] at h6;have HL6:=hide hL6
 have HL6l:Hid (L6.length=16+k):=by
  show _=_
  rw [←hL6,List.length_append,HL5l.out,str_len,HK.out]
 have HB6:Hid (Below w.heap.size w w6):=HB5.out.trans (hM6.below h5.block q5);have HO:=hide h6;clear hL6 h1 h2 h5 hM1 hM2 hM5 hM6
 go_loopw [6] (fun v wr=>∃j:Nat,j≤room k - (16+k)∧Bytes wr w.heap.size v (L6++List.replicate j 0)∧Below w.heap.size w wr) (fun v _=>room k - lenV v)
 case atStart=>exact ⟨0,Nat.zero_le _,by rw [List.replicate_zero,List.append_nil];exact HO.out,HB6.out⟩
 case round=>
  obtain ⟨j,hj,hBy,hbw⟩:=hrel;obtain ⟨ad7,n7,c7,rfl⟩:=hBy.shape;have hn7:=hBy.len;rw [List.length_append,HL6l.out,List.length_replicate] at hn7;have HBy:=hide hBy;have HJ:=hide hj;have HBw:=hide hbw;have HN7:=hide hn7;obtain ⟨R,hR⟩:∃R:Nat,R=room k:=⟨_,rfl⟩;have HR:=hide hR;have hrg:=room_ge k
  by_cases hlt:j<room k - (16+k)
  ·have dd:decide ((n7:Int)<(R:Int))=true:=decide_eq_true (by omega)
   have dd2:decide (n7<R)=true:=decide_eq_true (by omega)
   have HLj:Hid ((L6++List.replicate j 0).length+1≤140737488355328):=by
    show _≤_
    rw [List.length_append,HL6l.out,List.length_replicate]
    have:=HP.out
    have:=HK.out
    omega
   have HLt:=hide hlt;clear hBy hj hbw hn7 hR hrg hlt;go_wp2_with fail
   refine (room_any k _ (by have:=HP.out;have:=HK.out;omega) (k:Int) rfl (R:Int) (by rw [HR.out])).mono ?_
   rintro e w8 ⟨rfl,hw8⟩;obtain rfl:=hw8;obtain ⟨Lj,hLj⟩:∃Lj:List UInt8,L6++List.replicate j 0=Lj:=⟨_,rfl⟩;rw [hLj] at HBy HLj;have HBy':Hid (Bytes wr w.heap.size (.slice ad7 n7 c7) Lj):=HBy
   go_wp2_with (at_builtin;refine wpList_append_byte rfl _ _ rfl w.heap.size _ Lj 0 0 rfl (by rfl) HBy'.out (by rfl) rfl HLj.out HBw.out.size ?_;intro g cap w9 hB9 hM9)
   go_roundw
   case rel=>
    refine ⟨j+1,by have:=HLt.out;omega,?_,HBw.out.trans (hM9.below HBy'.out.block HBw.out.size)⟩
    rw [←hLj,List.append_assoc] at hB9;rw [List.replicate_succ',hLj] at *;exact hB9
   case measure=>
    have h1:=HN7.out;have h2:=HLt.out;have h3:=HL6l.out
    show room k - (Lj.length+1)<room k - n7
    rw [←hLj,List.length_append,List.length_replicate];omega
  ·have hje:j=room k - (16+k):=by omega
   have dd:decide ((n7:Int)<(R:Int))=false:=decide_eq_false (by omega)
   have dd2:decide (n7<R)=false:=decide_eq_false (by omega)
   have hcv:=hBy.conv;obtain ⟨S,hS⟩:∃S:ByteArray,S=⟨(L6++List.replicate j 0).toArray⟩:=⟨_,rfl⟩;rw [←hS] at hcv
   have HE:Hid (S=⟨(frameL m p.data.toList).toArray⟩):=by
    show _=_
    have e1:s2=sumL m p.data.toList:=by
     rw [Hs2.out];unfold sumL;rw [on_append,HH.out,str_len,HK.out]
    rw [hS,hje,←HL6.out,HL5.out,e1];unfold frameL fillL;rw [str_len,HK.out];simp only [List.append_assoc]
   clear hBy hj hbw hn7 hR hrg hlt hje hS;go_wp2_with fail
   refine (room_any k _ (by have:=HP.out;have:=HK.out;omega) (k:Int) rfl (R:Int) (by rw [HR.out])).mono ?_
   rintro e w8 ⟨rfl,hw8⟩;obtain rfl:=hw8;go_wp2;go_ret2;refine ⟨?_,HBw.out⟩;rw [←HE.out];rfl
set_option maxHeartbeats 1000000 in
theorem rframe_any (X:Int) (p:ByteArray) (w:World) (hX:X<9223372036854775808) :
 Calls Tryz.prog 86 #[.int .i64 X,.string p] w fun e w'=>e=.returned (.tuple #[.string (frameS X p),.int .i64 (frameE X p)])∧Below w.heap.size w w':=by
 by_cases h0:X<0
 ·have e1:frameS X p=nil8:=by unfold frameS;rw [if_pos h0]
  have e2:frameE X p=1:=by unfold frameE;rw [if_pos h0]
  rw [e1,e2];have hd:decide (X<0)=true:=decide_eq_true h0;clear e1 e2 h0 hX
  go_enter Tryz.func86,Tryz.ntmps86
  go_wp2;go_ret2;exact ⟨rfl,Below.refl _ _⟩
 ·by_cases hp:65536<p.size
  ·have e1:frameS X p=nil8:=by unfold frameS;rw [if_neg h0,if_pos hp]
   have e2:frameE X p=3:=by unfold frameE;rw [if_neg h0,if_pos hp]
   rw [e1,e2];have hd:decide (X<0)=false:=decide_eq_false h0
   have hd2:decide ((p.size:Int) > 65536)=true:=decide_eq_true (by omega)
   have hd3:decide ((65536:Int)<(p.size:Int))=true:=decide_eq_true (by omega)
   have hd4:decide (65536<p.size)=true:=decide_eq_true hp;clear e1 e2 h0 hX hp
   go_enter Tryz.func86,Tryz.ntmps86
   go_wp2;go_ret2;exact ⟨rfl,Below.refl _ _⟩
  ·obtain ⟨m,rfl⟩:=Int.eq_ofNat_of_zero_le (show 0≤X by omega)
   have e1:frameS (m:Int) p=⟨(frameL m p.data.toList).toArray⟩:=by unfold frameS;rw [if_neg h0,if_neg hp];rfl
   have e2:frameE (m:Int) p=0:=by unfold frameE;rw [if_neg h0,if_neg hp]
   rw [e1,e2]
   exact rframe_ok m p w (by omega) (by omega)
theorem ext_mid (b:ByteArray) (k r:Nat):(b.extract k (k+r)).data.toList=(b.data.toList.drop k).take r:=by
 rw [ByteArray.data_extract,Array.toList_extract,List.extract,Nat.add_sub_cancel_left]
theorem be_take_succ (l:List UInt8) (q:Nat) (h:q<l.length):be (l.take (q+1))=be (l.take q) * 256+(l[q]).toNat:=by
 rw [List.take_succ_eq_append_getElem h,be_snoc]
theorem be_take_lt (l:List UInt8) (q:Nat):be (l.take q)<256 ^ q:=by
 have h:=be_lt (l.take q)
 have:256 ^ (l.take q).length≤256 ^ q:=Nat.pow_le_pow_right (by decide) (by rw [List.length_take];omega)
 omega
theorem be_take_small (l:List UInt8) (q:Nat) (h:q<4):be (l.take q)<16777216:=by
 have h1:=be_take_lt l q
 have h2:256 ^ q≤256 ^ 3:=Nat.pow_le_pow_right (by decide) (by omega)
 exact Nat.lt_of_lt_of_le h1 (Nat.le_trans h2 (by decide))
theorem whole_len {n:Int} {T p:List UInt8} (h:Whole n T p):be (T.take 4)=p.length:=by
 obtain ⟨a1,_⟩:=frame_head h.2.2.2
 rw [a1,be_nb,Nat.mod_eq_of_lt (by have:=h.2.2.1;omega)]
theorem doc_none1 (T:List UInt8) (n:Int) (h:65536<be (T.take 4)):wholeT T n=none:=by
 rw [wholeT_none];intro p hp
 have:=whole_len hp
 have:=hp.2.2.1
 omega
theorem doc_none2 (T:List UInt8) (n:Int) (h:T.length<room (be (T.take 4))):wholeT T n=none:=by
 rw [wholeT_none];intro p hp;have h1:=whole_len hp;have h2:=hp.len;rw [h1] at h;omega
theorem doc_iff (T:List UInt8) (m s:Nat) (hm:m<9223372036854775808) (hs:be (T.take 4)=s) (h1:s≤65536) (h2:room s≤T.length):wholeT T m=if frameL m ((T.drop 16).take s)=T.take (room s) then some ((T.drop 16).take s) else none:=by
 have hr:=room_ge s
 have hl:((T.drop 16).take s).length=s:=by rw [List.length_take,List.length_drop];omega
 split
 ·rename_i h
  refine wholeT_some.2 ⟨by omega,by omega,by rw [hl];exact h1,?_⟩
  rw [Int.toNat_natCast,h];exact List.take_prefix _ _
 ·rename_i h
  rw [wholeT_none];intro p hp;have e1:=whole_len hp;rw [hs] at e1;have e2:=hp.payload;unfold payloadL at e2;rw [hs] at e2;have e3:=hp.split;rw [Int.toNat_natCast] at e3;apply h;rw [e2]
  have e4:T.take (room s)=frameL m p:=by
   rw [e3,List.take_left' (by rw [frameL_length,e1])]
  rw [e4]
theorem wrap_nat (x:Int) (j:Nat) (h:x=(j:Int)) (hj:j<9223372036854775808):wrap64 x=(j:Int):=by
 subst h;unfold wrap64;omega
set_option maxHeartbeats 2000000 in
theorem rnext_mid (b:ByteArray) (k m:Nat) (w:World) (hm:m<9223372036854775808) (hbs:b.size≤281474976710656) (hk:k+16≤b.size):Calls Tryz.prog 137 #[.string b,.int .i64 (k:Int),.int .i64 (m:Int)] w fun e w'=>e=.returned (nx b.data.toList k m)∧Below w.heap.size w w':=by
 have HM:=hide hm;have HBS:=hide hbs;have HK:=hide hk
 have d0:((k:Int) == (b.size:Int))=false:=beq_eq_false_iff_ne.2 (by omega)
 have d1:decide ((k:Int)<0)=false:=decide_eq_false (by omega)
 have d2:decide ((k:Int) > (b.size:Int))=false:=decide_eq_false (by omega)
 have d3:decide ((b.size:Int)<(k:Int))=false:=decide_eq_false (by omega)
 have d4:decide (b.size<k)=false:=decide_eq_false (by omega)
 have d5:decide ((m:Int)<0)=false:=decide_eq_false (by omega)
 obtain ⟨r,hr⟩:∃r:Nat,b.size - k=r:=⟨_,rfl⟩
 have e6:wrap64 ((b.size:Int) - (k:Int))=(r:Int):=by unfold wrap64;omega
 have d6:decide ((r:Int)<16)=false:=decide_eq_false (by omega)
 have HR:=hide hr;obtain ⟨T,hT⟩:∃T:List UInt8,b.data.toList.drop k=T:=⟨_,rfl⟩;have HT:=hide hT
 have HTl:Hid (T.length=r):=by show _=_;rw [←hT,List.length_drop,str_len];exact hr
 obtain ⟨M,hM⟩:∃M:Int,(m:Int)=M:=⟨_,rfl⟩;have HMM:=hide hM;rw [hM] at d5 ⊢
 have e0:nextA b.data.toList (k:Int) m=match wholeT T m with
  | some p=>(p,room p.length,1)
  | none=>([],0,2):=by
  unfold nextA
  rw [if_neg (by rw [str_len];omega),if_neg (by rw [str_len];omega),Int.toNat_natCast,hT]
  generalize wholeT T (m:Int)=o
  cases o<;>rfl
 have E0:=hide e0;obtain ⟨V,hV⟩:∃V:Value,nx b.data.toList (k:Int) M=V:=⟨_,rfl⟩;have HV:=hide hV;rw [hV];clear hV;clear hm hbs hk hr hT hM e0
 go_enter Tryz.func137,Tryz.ntmps137
 go_wp2
 go_loop [9,10] (fun s i=>∃q:Nat,q≤4∧i=.int .i64 (q:Int)∧s=.int .i64 (be (T.take q):Int)) (fun _ i=>4 - (intOf i).toNat)
 case atStart=>exact ⟨0,by omega,rfl,rfl⟩
 case round=>
  obtain ⟨q,hq,rfl,rfl⟩:=hrel
  by_cases hlt:q<4
  ·have hl:=HTl.out
   have hrr:=HR.out;have hkk:=HK.out;have hb4:=be_take_small T q hlt
   have hqT:q<T.length:=by omega
   obtain ⟨j,hj⟩:∃j:Nat,k+q=j:=⟨_,rfl⟩
   have hjb:j<b.size:=by omega
   have g0:(0:Int)≤(j:Int):=by omega
   have g1:(j:Int)<(b.size:Int):=by omega
   have dq:decide ((q:Int)<4)=true:=decide_eq_true (by omega)
   have hw1:wrap64 ((k:Int)+(q:Int))=(j:Int):=by have:=HBS.out;unfold wrap64;omega
   have hbj:(T[q]).toNat=(b[j]).toNat:=by
    have e:T[q]?=b.data.toList[k+q]?:=by rw [←HT.out,List.getElem?_drop]
    rw [List.getElem?_eq_getElem hqT,hj,List.getElem?_eq_getElem (by rw [str_len];exact hjb)] at e
    have e2:=Option.some.inj e;rw [e2];rfl
   obtain ⟨S,hS⟩:∃S:Nat,be (T.take q)=S:=⟨_,rfl⟩;have hc8:=(b[j]).toNat_lt
   have hw2:wrap64 (256 * (S:Int))=256 * (S:Int):=by unfold wrap64;omega
   have hw3:wrap64 (256 * (S:Int)+((b[j]).toNat:Int))=256 * (S:Int)+((b[j]).toNat:Int):=by unfold wrap64;omega
   have hsu:=be_take_succ T q hqT
   have HE:Hid ((256 * (S:Int)+((b[j]).toNat:Int))=(be (T.take (q+1)):Int)):=by show _=_;rw [hsu,hS,hbj];clear hsu;omega
   rw [hS];clear hS hsu hb4 hbj hj hl hrr hkk hqT;go_wp2
   go_round
   case rel=>exact ⟨q+1,by omega,by go_num,by rw [←HE.out,hw3]⟩
   case measure=>simp [intOf];omega
  ·have hq4:q=4:=by omega
   subst hq4;obtain ⟨s,hs⟩:∃s:Nat,be (T.take 4)=s:=⟨_,rfl⟩;have dq:decide ((4:Int)<4)=false:=rfl;have HS:=hide hs;rw [hs];clear hlt hq hs
   by_cases hbig:65536<s
   ·have e:nextA b.data.toList (k:Int) M=([],0,2):=by rw [←HMM.out,E0.out,doc_none1 T m (by rw [HS.out];exact hbig)]
    have EV:Hid (V=.tuple #[.string nil8,.int .i64 0,.int .i64 2]):=by show _=_;rw [←HV.out];exact nx_of e nil8 rfl 0 rfl
    have b1:decide ((s:Int) > 65536)=true:=decide_eq_true (by omega)
    have b2:decide ((65536:Int)<(s:Int))=true:=decide_eq_true (by omega)
    have b3:decide (65536<s)=true:=decide_eq_true hbig;clear e hbig;go_wp2;go_ret3
    exact ⟨by rw [EV.out];rfl,Below.refl _ _⟩
   ·have b1:decide ((s:Int) > 65536)=false:=decide_eq_false (by omega)
    have b2:decide ((65536:Int)<(s:Int))=false:=decide_eq_false (by omega)
    have b3:decide (65536<s)=false:=decide_eq_false hbig;obtain ⟨R,hR⟩:∃R:Nat,room s=R:=⟨_,rfl⟩;have HRR:=hide hR
    have hs5:s≤65536:=by omega
    have ra:=fun w=>room_any s w (by omega) (s:Int) rfl (R:Int) (by rw [hR])
    have RA:=hide ra;have HBig:=hide hs5;clear hbig hR ra hs5
    by_cases hgt:r<R
    ·have e:nextA b.data.toList (k:Int) M=([],0,2):=by rw [←HMM.out,E0.out,doc_none2 T m (by rw [HS.out,HTl.out,HRR.out];exact hgt)]
     have EV:Hid (V=.tuple #[.string nil8,.int .i64 0,.int .i64 2]):=by show _=_;rw [←HV.out];exact nx_of e nil8 rfl 0 rfl
     have c1:decide ((R:Int) > (r:Int))=true:=decide_eq_true (by omega)
     have c2:decide ((r:Int)<(R:Int))=true:=decide_eq_true (by omega)
     have c3:decide (r<R)=true:=decide_eq_true hgt;clear e hgt;go_wp2_with fail;refine (RA.out _).mono ?_;rintro e w1 ⟨rfl,hw1⟩;obtain rfl:=hw1;go_wp2;go_ret3
     exact ⟨by rw [EV.out];rfl,Below.refl _ _⟩
    ·have c1:decide ((R:Int) > (r:Int))=false:=decide_eq_false (by omega)
     have c2:decide ((r:Int)<(R:Int))=false:=decide_eq_false (by omega)
     have c3:decide (r<R)=false:=decide_eq_false hgt;have hrg:=room_ge s;rw [HRR.out] at hrg;have hkk:=HK.out;have hrr:=HR.out;have hbb:=HBS.out;have hbig:=HBig.out;obtain ⟨j1,hj1⟩:∃j:Nat,k+16=j:=⟨_,rfl⟩;obtain ⟨j2,hj2⟩:∃j:Nat,k+16+s=j:=⟨_,rfl⟩;obtain ⟨j3,hj3⟩:∃j:Nat,k+R=j:=⟨_,rfl⟩
     have y1:(k:Int)+16=(j1:Int):=by clear e6;omega
     have y2:(j1:Int)+(s:Int)=(j2:Int):=by clear e6;omega
     have y3:(k:Int)+(R:Int)=(j3:Int):=by clear e6;omega
     have z1:j1<9223372036854775808:=by clear e6;omega
     have z2:j2<9223372036854775808:=by clear e6;omega
     have z3:j3<9223372036854775808:=by clear e6;omega
     have g1:(0:Int)≤(j1:Int):=by omega
     have g2:(j1:Int)≤(j2:Int):=by omega
     have g3:(j2:Int)≤(b.size:Int):=by omega
     have g4:(0:Int)≤(k:Int):=by omega
     have g5:(k:Int)≤(j3:Int):=by omega
     have g6:(j3:Int)≤(b.size:Int):=by omega
     obtain ⟨P,hP⟩:∃P:ByteArray,b.extract j1 j2=P:=⟨_,rfl⟩
     have hPl:P.data.toList=(T.drop 16).take s:=by
      rw [←hP,←hj2,←hj1,ext_mid,←HT.out,List.drop_drop]
     have hPs:P.size≤65536:=by rw [←str_len,hPl,List.length_take];omega
     have fa:=fun w=>rframe_ok m P w HM.out hPs
     obtain ⟨F,hF⟩:∃F:ByteArray,F=⟨(frameL m P.data.toList).toArray⟩:=⟨_,rfl⟩;rw [←hF,HMM.out] at fa;have FA:=hide fa;obtain ⟨G,hG⟩:∃G:ByteArray,b.extract k j3=G:=⟨_,rfl⟩
     have hGl:G.data.toList=T.take R:=by rw [←hG,←hj3,ext_mid,←HT.out]
     have hi:=doc_iff T m s HM.out HS.out hbig (by rw [HTl.out,HRR.out];omega)
     rw [HRR.out,←hPl,←hGl,←show F.data.toList=frameL m P.data.toList by rw [hF]] at hi
     have HP:=hide hP;have HG:=hide hG
     have hRl:(R:Int)=(room P.data.toList.length:Int):=by
      rw [hPl,List.length_take,List.length_drop,HTl.out,Nat.min_eq_left (by omega),HRR.out]
     have w1:=wrap_nat _ _ y1 z1;have w2:=wrap_nat _ _ y2 z2;have w3:=wrap_nat _ _ y3 z3;clear y1 y2 y3 z1 z2 z3
     by_cases heq:F.data.toList=G.data.toList
     ·rw [if_pos heq] at hi
      have e:nextA b.data.toList (k:Int) M=(P.data.toList,room P.data.toList.length,1):=by rw [←HMM.out,E0.out,hi]
      have EV:Hid (V=.tuple #[.string P,.int .i64 (R:Int),.int .i64 1]):=by show _=_;rw [←HV.out];exact nx_of e P rfl (R:Int) hRl
      have q1:(F.toList == G.toList)=true:=by rw [beq_iff_eq,ByteArray.toList_eq,ByteArray.toList_eq];exact heq
      clear e hi heq hRl hGl hG hF hPl hP hPs fa hj1 hj2 hj3 hkk hrr hbb hbig hrg hgt;go_wp2_with fail;refine (RA.out _).mono ?_;rintro e w1 ⟨rfl,hw1⟩;obtain rfl:=hw1;go_wp2_with fail;rw [HP.out];refine (FA.out _).mono ?_;rintro e w2 ⟨rfl,hb2⟩;go_wp2_with fail;refine (RA.out _).mono ?_;rintro e w3 ⟨rfl,hw3⟩;obtain rfl:=hw3;have hG:=HG.out;go_wp2_with fail;refine (RA.out _).mono ?_;rintro e w4 ⟨rfl,hw4⟩;obtain rfl:=hw4;go_wp2;go_ret3
      exact ⟨by rw [EV.out];rfl,hb2⟩
     ·rw [if_neg heq] at hi
      have e:nextA b.data.toList (k:Int) M=([],0,2):=by rw [←HMM.out,E0.out,hi]
      have EV:Hid (V=.tuple #[.string nil8,.int .i64 0,.int .i64 2]):=by show _=_;rw [←HV.out];exact nx_of e nil8 rfl 0 rfl
      have q1:(F.toList == G.toList)=false:=by rw [beq_eq_false_iff_ne,ByteArray.toList_eq,ByteArray.toList_eq];exact heq
      clear e hi heq hRl hGl hG hF hPl hP hPs fa hj1 hj2 hj3 hkk hrr hbb hbig hrg hgt;go_wp2_with fail;refine (RA.out _).mono ?_;rintro e w1 ⟨rfl,hw1⟩;obtain rfl:=hw1;go_wp2_with fail;rw [HP.out];refine (FA.out _).mono ?_;rintro e w2 ⟨rfl,hb2⟩;go_wp2_with fail;refine (RA.out _).mono ?_;rintro e w3 ⟨rfl,hw3⟩;obtain rfl:=hw3;have hG:=HG.out;go_wp2;go_ret3
      exact ⟨by rw [EV.out];rfl,hb2⟩
set_option maxHeartbeats 1000000 in
theorem rnext_any (b:ByteArray) (at_ n:Int) (w:World) (hn:n<9223372036854775808) (hbs:b.size≤281474976710656):Calls Tryz.prog 137 #[.string b,.int .i64 at_,.int .i64 n] w fun e w'=>e=.returned (nx b.data.toList at_ n)∧Below w.heap.size w w':=by
 by_cases h0:at_=(b.size:Int)
 ·have e:nextA b.data.toList at_ n=([],0,0):=by unfold nextA;rw [if_pos (by rw [str_len];exact h0)]
  rw [nx_of e nil8 rfl 0 rfl];subst h0;clear e hn
  go_enter Tryz.func137,Tryz.ntmps137
  go_wp2;go_ret3;exact ⟨rfl,Below.refl _ _⟩
 ·have hq0:(at_ == (b.size:Int))=false:=beq_eq_false_iff_ne.2 h0
  have el:¬at_=(b.data.toList.length:Int):=by rw [str_len];exact h0
  by_cases h1:at_<0
  ·have e:nextA b.data.toList at_ n=([],0,2):=by unfold nextA;rw [if_neg el,if_pos (.inl h1)]
   rw [nx_of e nil8 rfl 0 rfl];have d1:decide (at_<0)=true:=decide_eq_true h1;clear e hn el h0 h1
   go_enter Tryz.func137,Tryz.ntmps137
   go_wp2;go_ret3;exact ⟨rfl,Below.refl _ _⟩
  ·have d1:decide (at_<0)=false:=decide_eq_false h1
   by_cases h2:(b.size:Int)<at_
   ·have e:nextA b.data.toList at_ n=([],0,2):=by unfold nextA;rw [if_neg el,if_pos (.inr (by rw [str_len];exact h2))]
    rw [nx_of e nil8 rfl 0 rfl];have d2:decide (at_ > (b.size:Int))=true:=decide_eq_true h2;have d3:decide ((b.size:Int)<at_)=true:=decide_eq_true h2;clear e hn el h0 h1 h2
    go_enter Tryz.func137,Tryz.ntmps137
    go_wp2;go_ret3;exact ⟨rfl,Below.refl _ _⟩
   ·obtain ⟨k,rfl⟩:=Int.eq_ofNat_of_zero_le (show 0≤at_ by omega)
    have d2:decide ((k:Int) > (b.size:Int))=false:=decide_eq_false (by omega)
    have d3:decide ((b.size:Int)<(k:Int))=false:=decide_eq_false (by omega)
    have d4:decide (b.size<k)=false:=decide_eq_false (by omega)
    have e0:nextA b.data.toList (k:Int) n=match wholeT (b.data.toList.drop k) n with
     | some p=>(p,room p.length,1)
     | none=>([],0,2):=by
     unfold nextA
     rw [if_neg el,if_neg (by rw [str_len];omega)]
     rfl
    by_cases h3:n<0
    ·have e:nextA b.data.toList (k:Int) n=([],0,2):=by rw [e0,none_neg h3]
     rw [nx_of e nil8 rfl 0 rfl];have d5:decide (n<0)=true:=decide_eq_true h3;clear e e0 hn el h0 h1 h2 h3
     go_enter Tryz.func137,Tryz.ntmps137
     go_wp2;go_ret3;exact ⟨rfl,Below.refl _ _⟩
    ·obtain ⟨m,rfl⟩:=Int.eq_ofNat_of_zero_le (show 0≤n by omega)
     by_cases h4:b.size - k<16
     ·have e:nextA b.data.toList (k:Int) m=([],0,2):=by
       rw [e0,wholeT_none.2];intro q hq;have q1:=hq.len;have q2:=room_ge q.length;rw [List.length_drop,str_len] at q1;omega
      rw [nx_of e nil8 rfl 0 rfl];have d5:decide ((m:Int)<0)=false:=decide_eq_false h3;obtain ⟨r,hr⟩:∃r:Nat,b.size - k=r:=⟨_,rfl⟩
      have e6:wrap64 ((b.size:Int) - (k:Int))=(r:Int):=by unfold wrap64;omega
      have d6:decide ((r:Int)<16)=true:=decide_eq_true (by omega)
      clear e e0 hn el h0 h1 h2 h3 hbs h4 hr
      go_enter Tryz.func137,Tryz.ntmps137
      go_wp2;go_ret3;exact ⟨rfl,Below.refl _ _⟩
     ·exact rnext_mid b k m w (by omega) hbs (by omega)
set_option maxHeartbeats 2000000 in
theorem rscan_few (b:ByteArray) (n:Int) (w:World) (hn:n<9223372036854775808) (hbs:b.size≤281474976710656) (few:∀ps t',Told b.data.toList n ps t'→ps.length * 16≤140737488355328) :
 Calls Tryz.prog 111 #[.string b,.int .i64 n] w fun e w'=>∃ad cap ps t',e=.returned (.tuple #[.slice ad ps.length cap,.int .i64 ((b.size - t'.length:Nat):Int),.bool (!t'.isEmpty)]) ∧
  w'.ownsRow w.heap.size 9 1 (.slice ad ps.length cap) ps.length (ps.map encStr)∧Found b.data.toList n ps t'∧Below w.heap.size w w':=by
 have HN0:=hide hn;have HBS:=hide hbs;have HFew:=hide few;clear hn hbs few
 go_enter Tryz.func111,Tryz.ntmps111
 go_wp2
 go_loopw [1,7,8] (fun vn v vat wr=>∃(ps:List Key) (t':List UInt8),n+ps.length<9223372036854775808∧vn=.int .i64 (n+ps.length)∧vat=.int .i64 ((b.size - t'.length:Nat):Int)∧wr.ownsRow w.heap.size 9 1 v ps.length (ps.map encStr)∧Told b.data.toList n ps t'∧Below w.heap.size w wr) (fun _ _ vat _=>b.size - (intOf vat).toNat)
 case atStart=>
  refine ⟨[],b.data.toList,?_,?_,?_,World.ownsRow_nil w _ 9 1,rfl,Below.refl _ _⟩
  ·have:=HN0.out;simpa using this
  ·simp
  ·rw [str_len,Nat.sub_self];rfl
 case round=>
  obtain ⟨ps,t',hlt,rfl,rfl,hown,htold,hbw⟩:=hrel;obtain ⟨ad,cap,rfl,hrow,_,_,_⟩:=own_at hown;have HO:=hide hown;have HT:=hide htold;have HB:=hide hbw;obtain ⟨hs1,hs2⟩:=htold.suffix;rw [str_len] at hs1 hs2;obtain ⟨K,hK⟩:∃K:Nat,b.size - t'.length=K:=⟨_,rfl⟩;have HK:=hide hK;obtain ⟨N,hN⟩:∃N:Int,n+(ps.length:Int)=N:=⟨_,rfl⟩;have HN:=hide hN
  have HNl:Hid (N<9223372036854775808):=by show _<_;rw [←hN];exact hlt
  have HW:Hid (wholeT t' N=wholeT t' (n+ps.length)):=by show _=_;rw [←hN]
  clear hlt
  have HD:Hid (b.data.toList.drop K=t'):=by show _=_;rw [←hK];exact hs1.symm
  rw [hK,hN];have HS2:=hide hs2;clear hown htold hbw hs1 hs2 hrow hK hN;go_wp2_with fail;refine (rnext_any b (K:Int) N _ HNl.out HBS.out).mono ?_;rintro e w1 ⟨rfl,hb1⟩;have hb1':=HB.out.trans (hb1.mono HB.out.size);have hrow1:=row_below HO.out hb1
  by_cases hE:t'=[]
  ·have e1:nextA b.data.toList (K:Int) N=([],0,0):=by
    unfold nextA
    have:=HK.out
    rw [hE] at this
    rw [if_pos (by rw [str_len];simp at this;omega)]
   rw [nx_of e1 nil8 rfl 0 rfl]
   have dK:decide ((K:Int)<(b.size:Int))=false:=decide_eq_false (by have h1:=HK.out;rw [hE] at h1;simp at h1;omega)
   have dK2:decide (K<b.size)=false:=decide_eq_false (by have h1:=HK.out;rw [hE] at h1;simp at h1;omega)
   clear e1;go_wp2
   (try rw [Exit.noGoto_ret])
   go_ret3
   refine ⟨ad,cap,ps,t',?_,hrow1,⟨HT.out,by rw [←HW.out,hE];exact none_empty _⟩,hb1'⟩
   rw [HK.out,hE];rfl
  ·have hKb:K<b.size:=by
    have:=HS2.out
    have:=HK.out
    have:0<t'.length:=List.length_pos_iff.2 hE
    omega
   have e0:nextA b.data.toList (K:Int) N=match wholeT t' N with
    | some p=>(p,room p.length,1)
    | none=>([],0,2):=by
    unfold nextA
    rw [if_neg (by rw [str_len];omega),if_neg (by rw [str_len];omega),Int.toNat_natCast,HD.out]
    rfl
   cases hw:wholeT t' N with
   | none=>
    rw [hw] at e0;rw [nx_of e0 nil8 rfl 0 rfl]
    have HX:Hid (wholeT t' (n+ps.length)=none):=by show _=_;rw [←HW.out];exact hw
    have HY:Hid ((!t'.isEmpty)=true):=by
     show _=_
     cases t' with
     | nil=>exact absurd rfl hE
     | cons=>rfl
    have dK:decide ((K:Int)<(b.size:Int))=true:=decide_eq_true (by omega)
    have dK2:decide (K<b.size)=true:=decide_eq_true hKb;clear e0 hw hE hKb;go_wp2
    (try rw [Exit.noGoto_ret])
    go_ret3;refine ⟨ad,cap,ps,t',?_,hrow1,⟨HT.out,HX.out⟩,hb1'⟩;rw [HK.out,HY.out];rfl
   | some p=>
    rw [hw] at e0;obtain ⟨P,hP⟩:∃P:ByteArray,P=⟨p.toArray⟩:=⟨_,rfl⟩;obtain ⟨R,hR⟩:∃R:Int,R=(room p.length:Int):=⟨_,rfl⟩;rw [nx_of e0 P hP R hR]
    have hwh:Whole (n+ps.length) t' p:=wholeT_some.1 (by rw [←HW.out];exact hw)
    have HWh:=hide hwh;have hlen:=hwh.len;have hrm:=room_ge p.length;have hKt:=HK.out;have hst:=HS2.out
    have HR':Hid (wrap64 ((K:Int)+R)=((b.size - (t'.drop (room p.length)).length:Nat):Int)):=by
     show _=_
     have:=HBS.out
     rw [hR,List.length_drop];unfold wrap64;omega
    have HR1:Hid ((K:Int)+R=((b.size - (t'.drop (room p.length)).length:Nat):Int)):=by
     show _=_
     have:=HBS.out
     rw [hR,List.length_drop];omega
    have HP:=hide hP;have HRR:=hide hR
    have HMe:Hid (b.size - (b.size - (t'.drop (room p.length)).length)<b.size - K):=by
     show _<_
     rw [List.length_drop];omega
    have hnr:=Told.range (HT.out.snoc hwh) (by simp)
    have HNR:=hide hnr
    have HLn:Hid ((ps.length+1) * 16≤140737488355328):=by
     show _≤_
     have:=HFew.out _ _ (HT.out.snoc hwh)
     rwa [List.length_append,List.length_singleton] at this
    have HBw:=hide (show w.heap.size≤w1.heap.size from hb1'.size)
    obtain ⟨K',hK'⟩:∃K':Nat,b.size - (t'.drop (room p.length)).length=K':=⟨_,rfl⟩;rw [hK'] at HR' HR1 HMe;have HK':=hide hK'
    have hK'b:Hid (decide (K' < b.size) = !(t'.drop (room p.length)).isEmpty):=by
     show _=_
     have h2:(t'.drop (room p.length)).length≤b.size:=by rw [List.length_drop];omega
     cases hd:t'.drop (room p.length) with
     | nil=>rw [hd] at hK';simp at hK';rw [decide_eq_false (by omega)];rfl
     | cons x xs=>rw [hd] at hK' h2;simp at hK' h2;rw [decide_eq_true (by omega)];rfl
    have hN1:=HN.out;have hNl:=HNl.out
    have hK'lt:K' < 9223372036854775808:=by have:=HBS.out;omega
    have HK'l:=hide hK'lt
    have h2l:((ps++[p]).length:Int)=(ps.length:Int)+1:=by simp
    by_cases hmax:N=9223372036854775807
    ·have dm:(N == 9223372036854775807)=true:=beq_iff_eq.2 hmax
     have HNo:Hid (wholeT (t'.drop (room p.length)) (n+(ps++[p]).length)=none):=by
      show _=_
      rw [h2l]
      exact none_big (by omega) _
     clear e0 hw hE hKb hP hR hwh hlen hrm hKt hst hnr hK' hN1 hNl hmax hK'lt h2l;have xr:=HR'.out
     go_wp2_with (at_builtin;refine wpList_append_one rfl _ _ 34 9 _ 16 rfl Tryz.underlying34 info9 rfl w.heap.size _ ps.length (ps.map encStr) (.string P) rfl (by rfl) hrow1 (by rfl) rfl HLn.out (by decide) HBw.out ?_;intro g cap2 w2 hown2 hM2)
     (try rw [Exit.noGoto_ret])
     go_ret3;refine ⟨some ⟨g,0,none⟩,cap2,ps++[p],t'.drop (room p.length),?_,?_,⟨HT.out.snoc HWh.out,HNo.out⟩,?_⟩
     ·rw [HK'.out,List.length_append,List.length_singleton,←hK'b.out]
      rw [xr];rfl
     ·rw [List.length_append,List.length_singleton,List.map_append]
      have e:[p].map encStr=[.string P]:=by rw [HP.out];rfl
      rw [e];exact hown2
     ·exact hb1'.trans (hM2.below (World.ownsRow.lt hrow1 · · |>.1) HBw.out)
    ·have dm:(N == 9223372036854775807)=false:=beq_eq_false_iff_ne.2 hmax
     have HNE:Hid (wrap64 (N+1)=n+((ps++[p]).length:Nat)):=by
      show _=_
      rw [h2l];unfold wrap64;omega
     have HNL:Hid (n+((ps++[p]).length:Int)<9223372036854775808):=by
      show _<_
      rw [h2l];omega
     clear e0 hw hE hKb hP hR hwh hlen hrm hKt hst hnr hK' hN1 hNl hmax hK'lt h2l;have xr:=HR'.out
     go_wp2_with (at_builtin;refine wpList_append_one rfl _ _ 34 9 _ 16 rfl Tryz.underlying34 info9 rfl w.heap.size _ ps.length (ps.map encStr) (.string P) rfl (by rfl) hrow1 (by rfl) rfl HLn.out (by decide) HBw.out ?_;intro g cap2 w2 hown2 hM2)
     go_roundw
     case rel=>
      refine ⟨ps++[p],t'.drop (room p.length),HNL.out,?_,?_,?_,HT.out.snoc HWh.out,?_⟩
      ·rw [←HNE.out]
      ·rw [HK'.out,←HR'.out]
      ·rw [List.length_append,List.length_singleton,List.map_append]
       have e:[p].map encStr=[.string P]:=by rw [HP.out];rfl
       rw [e];exact hown2
      ·exact hb1'.trans (hM2.below (World.ownsRow.lt hrow1 · · |>.1) HBw.out)
     case measure=>
      rw [HR'.out]
      show b.size - ((K':Nat):Int).toNat<b.size - ((K:Nat):Int).toNat
      rw [Int.toNat_natCast,Int.toNat_natCast];exact HMe.out
end Go.Proofs.YtjbdncknooeplaaGreatDoor.Fr
