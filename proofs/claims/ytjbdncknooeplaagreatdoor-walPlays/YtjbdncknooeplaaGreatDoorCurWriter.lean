import Derived.Test.YtjbdncknooeplaaGreatDoorCurBase
import Derived.Laws.BitsLemmas
namespace Go.Proofs.YtjbdncknooeplaaGreatDoor.Fr
open Go.RowKit
def digit (x n j:Nat):UInt8:=UInt8.ofNat (x / 2 ^ (8 * (n - 1 - j)))
def nb (x n:Nat):List UInt8:=(List.range n).map (digit x n)
def be (l:List UInt8):Nat:=l.foldl (fun a c=>a * 256+c.toNat) 0
theorem range_snoc {α:Type} (f:Nat→α) (k:Nat):(List.range k).map f++[f k]=(List.range (k+1)).map f:=by rw [List.range_succ,List.map_append];rfl
theorem nb_length (x n:Nat):(nb x n).length=n:=by simp [nb]
theorem be_snoc (l:List UInt8) (c:UInt8):be (l++[c])=be l * 256+c.toNat:=by simp [be]
theorem be_nil:be []=0:=rfl
theorem be_fold (l:List UInt8):∀a:Nat,l.foldl (fun a c=>a * 256+c.toNat) a=a * 256 ^ l.length+be l:=by
 induction l with
 | nil=>intro a;simp [be]
 | cons c l ih=>
  intro a;unfold be;rw [List.foldl_cons,List.foldl_cons,ih,ih (0 * 256+c.toNat),List.length_cons,Nat.pow_succ,Nat.add_mul,Nat.zero_mul,Nat.zero_add,Nat.mul_assoc,Nat.mul_comm 256];omega
theorem be_cons (c:UInt8) (l:List UInt8):be (c :: l)=c.toNat * 256 ^ l.length+be l:=by
 have:=be_fold l (0 * 256+c.toNat)
 unfold be at this ⊢;rw [List.foldl_cons,this,Nat.zero_mul,Nat.zero_add]
theorem be_lt (l:List UInt8):be l<256 ^ l.length:=by
 induction l with
 | nil=>simp [be]
 | cons c l ih=>
  rw [be_cons,List.length_cons,Nat.pow_succ]
  have:=c.toNat_lt
  have h2:c.toNat * 256 ^ l.length≤255 * 256 ^ l.length:=Nat.mul_le_mul_right _ (by omega)
  omega
theorem pow8 (b:Nat):2 ^ (8 * b)=256 ^ b:=by rw [Nat.pow_mul]
theorem nb_succ (x n:Nat):nb x (n+1)=nb (x / 256) n++[UInt8.ofNat x]:=by
 unfold nb;rw [List.range_succ,List.map_append]
 congr 1
 ·apply List.map_congr_left
  intro j hj;have hj':j<n:=List.mem_range.1 hj;unfold digit
  congr 1
  rw [Nat.div_div_eq_div_mul]
  congr 1
  rw [show n+1 - 1 - j=(n - 1 - j)+1 by omega,Nat.mul_add,Nat.pow_add]
  omega
 ·simp [digit]
theorem nb_zero (x:Nat):nb x 0=[]:=rfl
theorem toNat_ofNat8 (x:Nat):(UInt8.ofNat x).toNat=x % 256:=by simp
theorem be_nb (x n:Nat):be (nb x n)=x % 256 ^ n:=by
 induction n generalizing x with
 | zero=>rw [nb_zero,be_nil,Nat.pow_zero];omega
 | succ n ih=>
  rw [nb_succ,be_snoc,ih,toNat_ofNat8,Nat.pow_succ,Nat.mul_comm (256 ^ n) 256,Nat.mod_mul];omega
section
variable {P:Program} {ops:Array Oper} {rest:List Oper} {o:Oper} {a:Act} {w:World} {Q:Exit→Act→World→Prop}
theorem wpList_shr (hgd:o.guard=none) (t:TypeId) (x y:Operand) (u:TypeId) (ho:o.op=.binOp .shr t x y u) (k yk:IntKind) (X Y Z:Int) (hx:a.eval x=.int k X) (hy:a.eval y=.int yk Y) (m:Nat) (hY:Y=(m:Int)) (hm:m≤k.bits) (hZ:X / (2:Int) ^ m=Z)
 (h:wpList P ops Q rest (a.put o.dst (.int k Z)) w):wpList P ops Q (o :: rest) a w:=by
 refine wpList_plain hgd fun K hK=>?_
 have hs:Op.shift .shr k X yk Y=pure (.int k Z):=by
  rw [shift_shr_any k yk X Y (by omega),hY,Int.toNat_natCast,Nat.min_eq_left hm,hZ]
 unfold Oper.wp execOp;simp only [ho,hx,hy,eqGuard_shr,binOp_shr,hs,Sem.run_bind,Sem.run_pure,Result.andThen_ok];exact hK _ _ h
theorem wpList_shl (hgd:o.guard=none) (t:TypeId) (x y:Operand) (u:TypeId) (ho:o.op=.binOp .shl t x y u) (k yk:IntKind) (X Y Z:Int) (hx:a.eval x=.int k X) (hy:a.eval y=.int yk Y) (m:Nat) (hY:Y=(m:Int)) (hm:m≤k.bits) (hZ:k.wrap (X * (2:Int) ^ m)=Z)
 (h:wpList P ops Q rest (a.put o.dst (.int k Z)) w):wpList P ops Q (o :: rest) a w:=by
 refine wpList_plain hgd fun K hK=>?_
 have hs:Op.shift .shl k X yk Y=pure (.int k Z):=by
  rw [shift_shl_any k yk X Y (by omega),hY,Int.toNat_natCast,Nat.min_eq_left hm,hZ]
 unfold Oper.wp execOp;simp only [ho,hx,hy,eqGuard_shl,binOp_shl,hs,Sem.run_bind,Sem.run_pure,Result.andThen_ok];exact hK _ _ h
theorem wpList_or (hgd:o.guard=none) (t:TypeId) (x y:Operand) (u:TypeId) (ho:o.op=.binOp .or t x y u) (k:IntKind) (X Y Z:Int) (hx:a.eval x=.int k X) (hy:a.eval y=.int k Y) (hZ:bits .or k X Y=Z)
 (h:wpList P ops Q rest (a.put o.dst (.int k Z)) w):wpList P ops Q (o :: rest) a w:=by
 refine wpList_plain hgd fun K hK=>?_
 unfold Oper.wp execOp;simp only [ho,hx,hy,eqGuard_or,binOp_or,intBits_or,hZ,Sem.run_bind,Sem.run_pure,Result.andThen_ok];exact hK _ _ h
theorem wpList_conv (hgd:o.guard=none) (s d:TypeId) (x:Operand) (ho:o.op=.convert s d x) (k kd:IntKind) (X Z:Int) (hx:a.eval x=.int k X) (hr:(convert s d (.int k X)).run P w=.ok (.int kd Z) w)
 (h:wpList P ops Q rest (a.put o.dst (.int kd Z)) w):wpList P ops Q (o :: rest) a w:=by
 refine wpList_plain hgd fun K hK=>?_
 unfold Oper.wp execOp;simp only [ho,hx,hr,Sem.run_bind,Sem.run_pure,Result.andThen_ok];exact hK _ _ h
end
end Go.Proofs.YtjbdncknooeplaaGreatDoor.Fr
namespace Go.Proofs.YtjbdncknooeplaaGreatDoor.Fr
open Go.RowKit C
def room (k:Nat):Nat:=(k+79) / 64 * 64
def sumL (n:Nat) (p:List UInt8):Nat:=(on 0#32 (nb p.length 4++nb n 8++p)).toNat
def fillL (k:Nat):List UInt8:=List.replicate (room k - (16+k)) 0
def frameL (n:Nat) (p:List UInt8):List UInt8:=nb p.length 4++(nb n 8++(nb (sumL n p) 4++(p++fillL p.length)))
theorem room_ge (k:Nat):16+k≤room k∧room k<80+k∧64≤room k∧room k % 64=0:=by unfold room;omega
theorem frameL_length (n:Nat) (p:List UInt8):(frameL n p).length=room p.length:=by
 have:=room_ge p.length
 unfold frameL fillL;simp only [List.length_append,nb_length,List.length_replicate];omega
theorem nb_inj {x y k:Nat} (h:nb x k=nb y k) (hx:x<256 ^ k) (hy:y<256 ^ k):x=y:=by
 have:=congrArg be h
 rwa [be_nb,be_nb,Nat.mod_eq_of_lt hx,Nat.mod_eq_of_lt hy] at this
theorem frame_head {n:Nat} {p l:List UInt8} (h:frameL n p <+: l):l.take 4=nb p.length 4∧(l.drop 4).take 8=nb n 8∧(l.drop 12).take 4=nb (sumL n p) 4∧(l.drop 16).take p.length=p∧room p.length≤l.length:=by
 obtain ⟨r,rfl⟩:=h;refine ⟨?_,?_,?_,?_,?_⟩
 ·unfold frameL
  rw [List.append_assoc,List.take_left' (nb_length _ _)]
 ·unfold frameL
  rw [List.append_assoc,List.drop_left' (nb_length _ _),List.append_assoc,List.take_left' (nb_length _ _)]
 ·unfold frameL
  rw [List.append_assoc,show 12=4+8 from rfl,←List.drop_drop,List.drop_left' (nb_length _ _),List.append_assoc,List.drop_left' (nb_length _ _),List.append_assoc,List.take_left' (nb_length _ _)]
 ·unfold frameL
  rw [List.append_assoc,show 16=4+(8+4) from rfl,←List.drop_drop,←List.drop_drop,List.drop_left' (nb_length _ _),List.append_assoc,List.drop_left' (nb_length _ _),List.append_assoc,List.drop_left' (nb_length _ _),List.append_assoc,List.take_left' rfl]
 ·rw [List.length_append,frameL_length];omega
theorem frame_inj {n m:Nat} {p q l:List UInt8} (h:frameL n p <+: l) (k:frameL m q <+: l) (hp:p.length<256 ^ 4) (hq:q.length<256 ^ 4) (hn:n<256 ^ 8) (hm:m<256 ^ 8):p=q∧n=m:=by
 obtain ⟨a1,a2,_,a4,_⟩:=frame_head h;obtain ⟨b1,b2,_,b4,_⟩:=frame_head k;have e1:p.length=q.length:=nb_inj (a1.symm.trans b1) hp hq;refine ⟨?_,nb_inj (a2.symm.trans b2) hn hm⟩;rw [←a4,←b4,e1]
def payloadL (t:List UInt8):List UInt8:=(t.drop 16).take (be (t.take 4))
abbrev Whole (n:Int) (t p:List UInt8):Prop:=0≤n∧n<9223372036854775808∧p.length≤65536∧frameL n.toNat p <+: t
theorem Whole.payload {n:Int} {t p:List UInt8} (h:Whole n t p):payloadL t=p:=by
 obtain ⟨a1,_,_,a4,_⟩:=frame_head h.2.2.2;unfold payloadL
 rw [a1,be_nb,Nat.mod_eq_of_lt (by have:=h.2.2.1;omega),a4]
theorem Whole.inj {n m:Int} {t p q:List UInt8} (h:Whole n t p) (k:Whole m t q):p=q∧n=m:=by
 obtain ⟨e1,e2⟩:=frame_inj h.2.2.2 k.2.2.2 (by have:=h.2.2.1;omega) (by have:=k.2.2.1;omega) (by have:=h.1;have:=h.2.1;omega) (by have:=k.1;have:=k.2.1;omega)
 exact ⟨e1,by have:=h.1;have:=k.1;omega⟩
def wholeT (t:List UInt8) (n:Int):Option (List UInt8):=if Whole n t (payloadL t) then some (payloadL t) else none
theorem wholeT_some {t:List UInt8} {n:Int} {p:List UInt8}:wholeT t n=some p↔Whole n t p:=by
 unfold wholeT
 constructor
 ·intro h
  split at h
  ·rename_i hw
   cases h;exact hw
  ·cases h
 ·intro h
  have e:=h.payload;rw [e,if_pos h]
theorem wholeT_none {t:List UInt8} {n:Int}:wholeT t n=none↔∀p,¬Whole n t p:=by
 constructor
 ·intro h p hp
  rw [wholeT_some.2 hp] at h;cases h
 ·intro h
  unfold wholeT;rw [if_neg (h _)]
theorem Whole.len {n:Int} {t p:List UInt8} (h:Whole n t p):room p.length≤t.length:=(frame_head h.2.2.2).2.2.2.2
theorem Whole.split {n:Int} {t p:List UInt8} (h:Whole n t p):t=frameL n.toNat p++t.drop (room p.length):=by
 obtain ⟨r,hr⟩:=h.2.2.2;rw [←hr,List.drop_left' (frameL_length _ _)]
def nextA (l:List UInt8) (at_ n:Int):List UInt8×Nat×Int:=
 if at_=l.length then ([],0,0) else if at_<0∨(l.length:Int)<at_ then ([],0,2) else
 match wholeT (l.drop at_.toNat) n with
 | some p=>(p,room p.length,1)
 | none=>([],0,2)
def Told:List UInt8→Int→List (List UInt8)→List UInt8→Prop
 | t,_,[],t'=>t'=t
 | t,n,p :: ps,t'=>Whole n t p∧Told (t.drop (room p.length)) (n+1) ps t'
theorem Told.snoc {p:List UInt8}:∀{ps:List (List UInt8)} {t t':List UInt8} {n:Int},Told t n ps t'→Whole (n+ps.length) t' p→Told t n (ps++[p]) (t'.drop (room p.length))
 | [],t,t',n,h,hw=>by
  have e:t'=t:=h;subst e;simp only [List.length_nil,Int.natCast_zero,Int.add_zero] at hw;exact ⟨hw,rfl⟩
 | q :: ps,t,t',n,h,hw=>by
  refine ⟨h.1,Told.snoc h.2 ?_⟩;rw [List.length_cons] at hw
  rw [show n+1+(ps.length:Int)=n+((ps.length+1:Nat):Int) by omega]
  exact hw
theorem Told.le:∀{ps qs:List (List UInt8)} {t t' t'':List UInt8} {n:Int},Told t n ps t'→wholeT t' (n+ps.length)=none→Told t n qs t''→qs.length≤ps.length
 | _,[],_,_,_,_,_,_,_=>Nat.zero_le _
 | [],q :: qs,t,t',t'',n,h,hn,k=>by
  have e1:t'=t:=h;subst e1;simp only [List.length_nil,Int.natCast_zero,Int.add_zero] at hn;rw [wholeT_some.2 k.1] at hn;cases hn
 | p :: ps,q :: qs,t,t',t'',n,h,hn,k=>by
  obtain ⟨rfl,_⟩:=h.1.inj k.1
  rw [List.length_cons,show n+((ps.length+1:Nat):Int)=n+1+(ps.length:Int) by omega] at hn
  have:=Told.le h.2 hn k.2
  rw [List.length_cons,List.length_cons];omega
theorem Told.suffix:∀{ps:List (List UInt8)} {t t':List UInt8} {n:Int},Told t n ps t'→t'=t.drop (t.length - t'.length)∧t'.length+64 * ps.length≤t.length
 | [],t,t',n,h=>by
  have e:t'=t:=h;subst e
  simp
 | p :: ps,t,t',n,h=>by
  obtain ⟨h1,h2⟩:=Told.suffix h.2;have h3:=h.1.len;have h4:=room_ge p.length;rw [List.length_drop] at h1 h2
  refine ⟨?_,by rw [List.length_cons];omega⟩
  rw [List.drop_drop] at h1
  rw [show t.length - t'.length=room p.length+(t.length - room p.length - t'.length) by omega]
  exact h1
theorem Told.range:∀{ps:List (List UInt8)} {t t':List UInt8} {n:Int},Told t n ps t'→ps≠[]→0≤n∧n+ps.length≤9223372036854775808
 | [],_,_,_,_,h=>absurd rfl h
 | p :: ps,t,t',n,h,_=>by
  have h1:=h.1.1;have h2:=h.1.2.1;rw [List.length_cons]
  cases ps with
  | nil=>simp only [List.length_nil];omega
  | cons q qs=>
   have:=Told.range h.2 (by simp)
   omega
theorem none_empty (n:Int):wholeT [] n=none:=by
 rw [wholeT_none];intro q hq
 have:=hq.len
 have:=room_ge q.length
 simp only [List.length_nil] at *;omega
theorem none_neg {n:Int} (h:n<0) (t:List UInt8):wholeT t n=none:=by
 rw [wholeT_none];intro q hq
 have:=hq.1
 omega
theorem none_big {n:Int} (h:9223372036854775808≤n) (t:List UInt8):wholeT t n=none:=by
 rw [wholeT_none];intro q hq
 have:=hq.2.1
 omega
open Go.RowKit
section
variable {P:Program}
theorem wpList_index_lit {ops:Array Oper} {rest:List Oper} {o:Oper} {a:Act} {w:World} {Q:Exit→Act→World→Prop} (hgd:o.guard=none) (t:TypeId) (s x:Operand) (ho:o.op=.index t s x) (r:Value)
 (hr:(Instr.index t (a.eval s) (a.eval x)).run P w=.ok r w) (h:wpList P ops Q rest (a.put o.dst r) w):wpList P ops Q (o :: rest) a w:=by
 refine wpList_plain hgd fun K hK=>?_
 unfold Oper.wp execOp;simp only [ho,Sem.run_bind,Sem.run_pure,Result.andThen_ok,hr];exact hK _ _ h
end
set_option maxRecDepth 20000 in
set_option maxHeartbeats 1000000 in
theorem len64_32 (w:World):Calls Tryz.prog 150 #[.int .u64 4294967295] w fun e w'=>e=.returned (.int .i64 32)∧w=w':=by
 go_enter Tryz.func150,Tryz.ntmps150
 go_wp2_with (refine wpList_index_lit rfl _ _ _ rfl (.int .u8 8) ?_ ?_;· kernel_rfl)
 go_ret;exact ⟨rfl,rfl⟩
theorem width_32 (w:World):Calls Tryz.prog 188 #[] w fun e w'=>e=.returned (.int .i64 4)∧w=w':=by
 go_enter Tryz.func188,Tryz.ntmps188
 go_wp2_with fail;refine (len64_32 _).mono ?_;rintro e w1 ⟨rfl,rfl⟩;go_wp2;go_ret;exact ⟨rfl,rfl⟩
set_option maxRecDepth 20000 in
set_option maxHeartbeats 1000000 in
theorem len64_64 (w:World):Calls Tryz.prog 150 #[.int .u64 18446744073709551615] w fun e w'=>e=.returned (.int .i64 64)∧w=w':=by
 go_enter Tryz.func150,Tryz.ntmps150
 go_wp2_with (refine wpList_index_lit rfl _ _ _ rfl (.int .u8 8) ?_ ?_;· kernel_rfl)
 go_ret;exact ⟨rfl,rfl⟩
theorem width_64 (w:World):Calls Tryz.prog 189 #[] w fun e w'=>e=.returned (.int .i64 8)∧w=w':=by
 go_enter Tryz.func189,Tryz.ntmps189
 go_wp2_with fail;refine (len64_64 _).mono ?_;rintro e w1 ⟨rfl,rfl⟩;go_wp2;go_ret;exact ⟨rfl,rfl⟩
end Go.Proofs.YtjbdncknooeplaaGreatDoor.Fr
namespace Go.Proofs.YtjbdncknooeplaaGreatDoor.Fr
open Go.RowKit
theorem wrap8_digit (x n j m:Nat) (hm:8 * (n - 1 - j)=m):IntKind.u8.wrap ((x:Int) / (2:Int) ^ m)=((digit x n j).toNat:Int):=by
 unfold digit;rw [hm,toNat_ofNat8]
 have e:(x:Int) / (2:Int) ^ m=((x / 2 ^ m:Nat):Int):=by simp
 rw [e]
 simp [IntKind.wrap,IntKind.bits,IntKind.signed]
theorem conv_u8 (t:TypeId) (k:IntKind) (Z:Int) (ht:(Tryz.prog.underlying t).isSome=true) (w:World):(convert t 5 (.int k Z)).run Tryz.prog w=.ok (.int .u8 (IntKind.u8.wrap Z)) w:=by
 have h:=run_convert_int (P:=Tryz.prog) (w:=w) t 5 k Z ht (by kernel_rfl)
 rw [show Tryz.prog.intKind 5=.u8 by kernel_rfl] at h
 exact h
set_option maxHeartbeats 1000000 in
theorem lay_32 (X:Int) (x:Nat) (hX:X=(x:Int)) (v:Value) (l:List UInt8) (B:Nat) (w:World) (hB:Bytes w B v l) (hs:B≤w.heap.size) (hl:l.length+4≤140737488355328) :
 Calls Tryz.prog 155 #[v,.int .u32 X] w fun e w'=>∃v',e=.returned v'∧Bytes w' B v' (l++nb x 4)∧Mv w v w' v':=by
 have HL:=hide hl;have HX:=hide hX;clear hl hX
 go_enter Tryz.func155,Tryz.ntmps155
 go_wp2_with fail;refine (width_32 _).mono ?_;rintro e w1 ⟨rfl,rfl⟩;go_wp2
 go_loopw [0,5] (fun b i wr=>∃k:Nat,k≤4∧i=.int .i64 ((k:Int) - 1)∧Bytes wr B b (l++(List.range (4 - k)).map (digit x 4))∧Mv w v wr b) (fun _ i _=>(intOf i+1).toNat)
 case atStart=>exact ⟨4,by omega,rfl,by rw [Nat.sub_self,List.range_zero,List.map_nil,List.append_nil];exact hB,Mv.refl _ _⟩
 case round=>
  clear hB;obtain ⟨k,hk,rfl,hB,hM⟩:=hrel;have hs':B≤wr.heap.size:=Nat.le_trans hs hM.gr.size
  by_cases hlt:0<k
  ·have h1:(0:Int)≤(k:Int) - 1:=by omega
   have hd:decide ((k:Int) - 1≥0)=true:=by simp;omega
   obtain ⟨Z,hZ⟩:∃Z:Int,X / (2:Int) ^ (8 * (k - 1))=Z:=⟨_,rfl⟩
   have hc:∀w:World,(convert 142 5 (.int .u32 Z)).run Tryz.prog w=.ok (.int .u8 ((digit x 4 (4 - k)).toNat:Int)) w:=fun w=>by
    rw [←wrap8_digit x 4 (4 - k) (8 * (k - 1)) (by omega),←HX.out,hZ]
    exact conv_u8 142 .u32 Z (by kernel_rfl) w
   have HZ:=hide hZ;have HC:=hide hc;clear hZ hc;have hll:=HL.out;obtain ⟨L,hL⟩:∃L,l++(List.range (4 - k)).map (digit x 4)=L:=⟨_,rfl⟩
   have HLL:Hid (L.length+1≤140737488355328):=by
    show _≤_
    rw [←hL,List.length_append,List.length_map,List.length_range];omega
   rw [hL] at hB;have HE:=hide hL;clear hll hL
   go_wp2_with (first | (refine wpList_shr rfl _ _ _ _ rfl .u32 .i64 X _ Z (by rfl) (by rfl) (8 * (k - 1)) (by omega) (by show _≤32;omega) HZ.out ?_) | (refine wpList_conv rfl _ _ _ rfl .u32 .u8 Z _ (by rfl) (HC.out _) ?_) | (at_builtin;refine wpList_append_byte rfl _ _ rfl B _ L (digit x 4 (4 - k)) _ rfl (by rfl) hB (by rfl) rfl HLL.out hs' ?_;intro g cap w5 hB5 hM5))
   go_roundw
   case rel=>
    refine ⟨k - 1,by omega,by congr 1;omega,?_,hM.trans hM5⟩
    rw [←HE.out,List.append_assoc,range_snoc,show 4 - k+1=4 - (k - 1) by omega] at hB5
    rw [HE.out] at hB5;exact hB5
   case measure=>simp [intOf];omega
  ·have hk0:k=0:=by omega
   subst hk0;go_wp2;go_ret;exact ⟨_,rfl,hB,hM⟩
set_option maxHeartbeats 1000000 in
theorem lay_64 (X:Int) (x:Nat) (hX:X=(x:Int)) (v:Value) (l:List UInt8) (B:Nat) (w:World) (hB:Bytes w B v l) (hs:B≤w.heap.size) (hl:l.length+8≤140737488355328) :
 Calls Tryz.prog 156 #[v,.int .u64 X] w fun e w'=>∃v',e=.returned v'∧Bytes w' B v' (l++nb x 8)∧Mv w v w' v':=by
 have HL:=hide hl;have HX:=hide hX;clear hl hX
 go_enter Tryz.func156,Tryz.ntmps156
 go_wp2_with fail;refine (width_64 _).mono ?_;rintro e w1 ⟨rfl,rfl⟩;go_wp2
 go_loopw [0,5] (fun b i wr=>∃k:Nat,k≤8∧i=.int .i64 ((k:Int) - 1)∧Bytes wr B b (l++(List.range (8 - k)).map (digit x 8))∧Mv w v wr b) (fun _ i _=>(intOf i+1).toNat)
 case atStart=>exact ⟨8,by omega,rfl,by rw [Nat.sub_self,List.range_zero,List.map_nil,List.append_nil];exact hB,Mv.refl _ _⟩
 case round=>
  clear hB;obtain ⟨k,hk,rfl,hB,hM⟩:=hrel;have hs':B≤wr.heap.size:=Nat.le_trans hs hM.gr.size
  by_cases hlt:0<k
  ·have h1:(0:Int)≤(k:Int) - 1:=by omega
   have hd:decide ((k:Int) - 1≥0)=true:=by simp;omega
   obtain ⟨Z,hZ⟩:∃Z:Int,X / (2:Int) ^ (8 * (k - 1))=Z:=⟨_,rfl⟩
   have hc:∀w:World,(convert 178 5 (.int .u64 Z)).run Tryz.prog w=.ok (.int .u8 ((digit x 8 (8 - k)).toNat:Int)) w:=fun w=>by
    rw [←wrap8_digit x 8 (8 - k) (8 * (k - 1)) (by omega),←HX.out,hZ]
    exact conv_u8 178 .u64 Z (by kernel_rfl) w
   have HZ:=hide hZ;have HC:=hide hc;clear hZ hc;have hll:=HL.out;obtain ⟨L,hL⟩:∃L,l++(List.range (8 - k)).map (digit x 8)=L:=⟨_,rfl⟩
   have HLL:Hid (L.length+1≤140737488355328):=by
    show _≤_
    rw [←hL,List.length_append,List.length_map,List.length_range];omega
   rw [hL] at hB;have HE:=hide hL;clear hll hL
   go_wp2_with (first | (refine wpList_shr rfl _ _ _ _ rfl .u64 .i64 X _ Z (by rfl) (by rfl) (8 * (k - 1)) (by omega) (by show _≤64;omega) HZ.out ?_) | (refine wpList_conv rfl _ _ _ rfl .u64 .u8 Z _ (by rfl) (HC.out _) ?_) | (at_builtin;refine wpList_append_byte rfl _ _ rfl B _ L (digit x 8 (8 - k)) _ rfl (by rfl) hB (by rfl) rfl HLL.out hs' ?_;intro g cap w5 hB5 hM5))
   go_roundw
   case rel=>
    refine ⟨k - 1,by omega,by congr 1;omega,?_,hM.trans hM5⟩
    rw [←HE.out,List.append_assoc,range_snoc,show 8 - k+1=8 - (k - 1) by omega] at hB5
    rw [HE.out] at hB5;exact hB5
   case measure=>simp [intOf];omega
  ·have hk0:k=0:=by omega
   subst hk0;go_wp2;go_ret;exact ⟨_,rfl,hB,hM⟩
def Two (T:TypeId) (w:World) (p:Nat) (v:Value) (f:Int):Prop:=w.heap[p]?=some (.cells #[v,.int .i64 f] T (0,0))
section
variable {T:TypeId} {w w':World} {p:Nat} {v v':Value} {f:Int}
theorem Two.c0 (h:Two T w p v f):w.cell? ⟨p,0,none⟩=some v:=by rw [cell_of_row w p 0 _ T (0,0) h];rfl
theorem Two.c1 (h:Two T w p v f):w.cell? ⟨p,1,none⟩=some (.int .i64 f):=by rw [cell_of_row w p 1 _ T (0,0) h];rfl
theorem Two.fz (h:Two T w p v f) (i:Nat):w.frozen? ⟨p,i,none⟩=false:=frozen_of_row w p i _ T h
theorem Two.lt (h:Two T w p v f):p<w.heap.size:=by
 rcases Nat.lt_or_ge p w.heap.size with hl | hl
 ·exact hl
 ·unfold Two at h;rw [Array.getElem?_eq_none hl] at h;cases h
theorem Two.set0 (h:Two T w p v f) (u:Value):Two T (w.setCell ⟨p,0,none⟩ u) p u f:=by
 unfold Two;rw [heap_setCell_same w p 0 _ T _ h];rfl
theorem Two.set1 (h:Two T w p v f) (g:Int):Two T (w.setCell ⟨p,1,none⟩ (.int .i64 g)) p v g:=by
 unfold Two;rw [heap_setCell_same w p 1 _ T _ h];rfl
theorem Two.same (h:Two T w p v f) (e:w'.heap[p]?=w.heap[p]?):Two T w' p v f:=by unfold Two;rw [e];exact h
theorem Two.new (w:World) (T:TypeId) (v:Value) (f:Int):Two T (w.alloc (.cells #[v,.int .i64 f] T)) w.heap.size v f:=heap_alloc_new w _
end
structure Mw (p:Nat) (w:World) (v:Value) (w':World) (v':Value):Prop where
 os:w'.os=w.os
 tape:w'.tape=w.tape
 output:w'.output=w.output
 size:w.heap.size≤w'.heap.size
 block:∀k,k<w.heap.size→k≠p→v.ownBlock≠some k→w'.heap[k]?=w.heap[k]?
 own:∀g,v'.ownBlock=some g→v.ownBlock=some g∨w.heap.size≤g
theorem Mw.refl (p:Nat) (w:World) (v:Value):Mw p w v w v:=⟨rfl,rfl,rfl,Nat.le_refl _,fun _ _ _ _=>rfl,fun _ h=>.inl h⟩
theorem Mw.trans {p:Nat} {w w1 w2:World} {v v1 v2:Value} (h:Mw p w v w1 v1) (k:Mw p w1 v1 w2 v2):Mw p w v w2 v2:=by
 refine ⟨k.os.trans h.os,k.tape.trans h.tape,k.output.trans h.output,Nat.le_trans h.size k.size,fun i hi hp hn=>?_,fun g hg=>?_⟩
 ·refine (k.block i (Nat.lt_of_lt_of_le hi h.size) hp (fun e=>?_)).trans (h.block i hi hp hn)
  rcases h.own i e with h1 | h1
  ·exact hn h1
  ·omega
 ·have:=h.size
  rcases k.own g hg with h1 | h1
  ·exact h.own g h1
  ·exact .inr (by omega)
theorem Mw.below {p B:Nat} {w w':World} {v v':Value} (h:Mw p w v w' v') (hp:B≤p) (hB:B≤w.heap.size) (hv:∀k,v.ownBlock=some k→B≤k):Below B w w':=
 ⟨h.os,h.tape,h.output,h.size,fun k hk=>h.block k (by omega) (by omega) (fun e=>by have:=hv k e;omega)⟩
theorem Mw.of_below {p:Nat} {w w':World} {v:Value} (h:Below w.heap.size w w'):Mw p w v w' v:=⟨h.os,h.tape,h.output,h.size,fun k hk _ _=>h.block k hk,fun _ h=>.inl h⟩
def CW (w:World) (p:Nat) (v:Value):Option (List UInt8)→Prop
 | some l=>Two 175 w p v 0∧Bytes w (p+1) v l
 | none=>Two 175 w p v 3∧v=.slice none 0 0
theorem CW.lt {w:World} {p:Nat} {v:Value} {s:Option (List UInt8)} (h:CW w p v s):p<w.heap.size:=by
 cases s with
 | none=>exact h.1.lt
 | some l=>exact h.1.lt
theorem CW.own {w:World} {p:Nat} {v:Value} {s:Option (List UInt8)} (h:CW w p v s):∀k,v.ownBlock=some k→p+1≤k∧k<w.heap.size:=by
 cases s with
 | none=>intro k hk;rw [h.2] at hk;simp [Value.ownBlock] at hk
 | some l=>exact fun k hk=>⟨h.2.block k hk,h.2.lt k hk⟩
theorem Bytes.same {w w':World} {B:Nat} {v:Value} {l:List UInt8} (h:Bytes w B v l) (e:∀k,v.ownBlock=some k→w'.heap[k]?=w.heap[k]?):Bytes w' B v l:=by
 refine ⟨h.1,?_⟩
 rcases h.2 with hn | ⟨g,cap,cur,rfl,hb,hgg,rest⟩
 ·exact .inl hn
 ·exact .inr ⟨g,cap,cur,rfl,hb,by rw [e g rfl];exact hgg,rest⟩
theorem Bytes.shape {w:World} {B:Nat} {v:Value} {l:List UInt8} (h:Bytes w B v l):∃ad n c,v=.slice ad n c:=by
 rcases h.2 with hn | ⟨g,cap,cur,rfl,_⟩
 ·exact ⟨none,0,0,hn.1⟩
 ·exact ⟨_,_,_,rfl⟩
theorem CW.same {w w':World} {p:Nat} {v:Value} {s:Option (List UInt8)} (h:CW w p v s) (e1:w'.heap[p]?=w.heap[p]?) (e2:∀k,v.ownBlock=some k→w'.heap[k]?=w.heap[k]?):CW w' p v s:=by
 cases s with
 | none=>exact ⟨h.1.same e1,h.2⟩
 | some l=>exact ⟨h.1.same e1,h.2.same e2⟩
theorem CW.below {w w':World} {p:Nat} {v:Value} {s:Option (List UInt8)} (h:CW w p v s) (hb:Below w.heap.size w w'):CW w' p v s:=
 h.same (hb.block p h.lt) (fun k hk=>hb.block k (h.own k hk).2)
theorem stored {T:TypeId} {f:Int} {w w1:World} {p:Nat} {v v1:Value} {l l':List UInt8} (h:Two T w p v f) (hB:Bytes w (p+1) v l) (hM:Mv w v w1 v1) (hB1:Bytes w1 (p+1) v1 l') :
 Two T w1 p v f∧Two T (w1.setCell ⟨p,0,none⟩ v1) p v1 f∧Bytes (w1.setCell ⟨p,0,none⟩ v1) (p+1) v1 l'∧Mw p w v (w1.setCell ⟨p,0,none⟩ v1) v1:=by
 have e:w1.heap[p]?=w.heap[p]?:=hM.gr.block p h.lt (fun e=>by have:=hB.block p e.symm;omega)
 have h1:=h.same e
 refine ⟨h1,h1.set0 v1,ownsRow_setCell_below hB1 (by show p<p+1;omega) v1,?_⟩
 refine ⟨hM.gr.os,hM.gr.tape,hM.gr.output,by simpa using hM.gr.size,fun k hk hp hn=>?_,hM.own⟩
 rw [Below.heap_setCell w1 ⟨p,0,none⟩ v1 k hp]
 exact hM.gr.block k hk (fun e=>hn e.symm)
set_option maxHeartbeats 1000000 in
theorem put_32 (X:Int) (x:Nat) (hX:X=(x:Int)) (p:Nat) (v:Value) (s:Option (List UInt8)) (w:World) (h:CW w p v s) (hl:∀l,s=some l→l.length+4≤140737488355328) :
 Calls Tryz.prog 127 #[.pointer (some ⟨p,0,none⟩),.int .u32 X] w fun e w'=>e=.returned (.tuple #[])∧∃v',CW w' p v' (s.map (·++nb x 4))∧Mw p w v w' v':=by
 have HX:=hide hX;have HL:=hide hl;clear hl hX
 cases s with
 | none=>
  have c1:=h.1.c1
  go_enter Tryz.func127,Tryz.ntmps127
  go_wp2
  go_end0
  exact ⟨rfl,v,h,Mw.refl _ _ _⟩
 | some l=>
  have c1:=h.1.c1;have c0:=h.1.c0
  go_enter Tryz.func127,Tryz.ntmps127
  go_wp2_with fail
  refine (lay_32 X x HX.out v l (p+1) _ h.2 (by have:=h.1.lt;omega) (HL.out l rfl)).mono ?_
  rintro e w1 ⟨v1,rfl,hB1,hM⟩;obtain ⟨ad,n1,c1',rfl⟩:=hB1.shape;obtain ⟨t1,t2,t3,t4⟩:=stored h.1 h.2 hM hB1;have d0:=t1.c0;have df:=t1.fz 0;go_wp2
  go_end0
  exact ⟨rfl,_,⟨t2,t3⟩,t4⟩
theorem wU32 (X:Int) (x:Nat) (hX:X=(x:Int)) (p:Nat) (v:Value) (s:Option (List UInt8)) (w:World) (h:CW w p v s) (hl:∀l,s=some l→l.length+4≤140737488355328) :
 Calls Tryz.prog 92 #[.pointer (some ⟨p,0,none⟩),.int .u32 X] w fun e w'=>e=.returned (.tuple #[])∧∃v',CW w' p v' (s.map (·++nb x 4))∧Mw p w v w' v':=by
 have HL:=hide hl;have HX:=hide hX;clear hl hX
 go_enter Tryz.func92,Tryz.ntmps92
 go_wp2_with fail;refine (put_32 X x HX.out p v s _ h HL.out).mono ?_;rintro e w1 ⟨rfl,h1⟩;go_wp2
 go_end0
 exact ⟨rfl,h1⟩
set_option maxHeartbeats 1000000 in
theorem put_64 (X:Int) (x:Nat) (hX:X=(x:Int)) (p:Nat) (v:Value) (s:Option (List UInt8)) (w:World) (h:CW w p v s) (hl:∀l,s=some l→l.length+8≤140737488355328) :
 Calls Tryz.prog 128 #[.pointer (some ⟨p,0,none⟩),.int .u64 X] w fun e w'=>e=.returned (.tuple #[])∧∃v',CW w' p v' (s.map (·++nb x 8))∧Mw p w v w' v':=by
 have HX:=hide hX;have HL:=hide hl;clear hl hX
 cases s with
 | none=>
  have c1:=h.1.c1
  go_enter Tryz.func128,Tryz.ntmps128
  go_wp2
  go_end0
  exact ⟨rfl,v,h,Mw.refl _ _ _⟩
 | some l=>
  have c1:=h.1.c1;have c0:=h.1.c0
  go_enter Tryz.func128,Tryz.ntmps128
  go_wp2_with fail
  refine (lay_64 X x HX.out v l (p+1) _ h.2 (by have:=h.1.lt;omega) (HL.out l rfl)).mono ?_
  rintro e w1 ⟨v1,rfl,hB1,hM⟩;obtain ⟨ad,n1,c1',rfl⟩:=hB1.shape;obtain ⟨t1,t2,t3,t4⟩:=stored h.1 h.2 hM hB1;have d0:=t1.c0;have df:=t1.fz 0;go_wp2
  go_end0
  exact ⟨rfl,_,⟨t2,t3⟩,t4⟩
end Go.Proofs.YtjbdncknooeplaaGreatDoor.Fr
