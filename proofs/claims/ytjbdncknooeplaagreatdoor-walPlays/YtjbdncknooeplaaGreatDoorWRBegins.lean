import Derived.Test.YtjbdncknooeplaaGreatDoorWRNumM
import Derived.Test.YtjbdncknooeplaaGreatDoorWIter
import Derived.Test.YtjbdncknooeplaaGreatDoorRScan
namespace Go.Proofs.YtjbdncknooeplaaGreatDoor
open Go.RowKit Go.Maps
set_option linter.unusedVariables false
set_option maxRecDepth 100000 in
set_option maxHeartbeats 2000000 in
theorem rnumber_any {B:Nat} (l:Nat) (f nm:ByteArray) (w:World) (hc:w.cell? ⟨l,1,none⟩=some (.string nm)) (hl:l<w.heap.size) (hnm:nm.size≤24) (hf:f.size≤100) (he:Env B w) (hB:B≤w.heap.size) :
 Calls Tryz.prog 136 #[.pointer (some ⟨l,0,none⟩),.string f] w fun e w'=>∃x,e=.returned (.tuple #[.int .i64 x,.bool (numD f.data.toList nm.data.toList).isSome])∧(∀v,numD f.data.toList nm.data.toList=some v→x=v)∧Below w.heap.size w w':=by
 obtain ⟨Z,hZ⟩:∃Z:ByteArray,nm++(⟨#[46]⟩:ByteArray)=Z:=⟨_,rfl⟩
 have hadd:∀w:World,(Op.stringOp .add nm ⟨#[46]⟩).run Tryz.prog w=.ok (.string Z) w:=fun w=>by rw [←hZ];exact run_string_add_sum w nm ⟨#[46]⟩ (by show nm.size+1≤_;omega)
 have hpl:Z.data.toList=nm.data.toList++[46]:=by
  rw [←hZ];have e:nm=⟨nm.data.toList.toArray⟩:=rfl
  conv=>lhs;rw [e,show (⟨#[46]⟩:ByteArray)=⟨[46].toArray⟩ from rfl,ByteArray.mk_append_mk]
 obtain ⟨m,hm⟩:∃m,nm.size=m:=⟨_,rfl⟩
 have hZs:Z.size=m+1:=by rw [←hZ,ByteArray.size_append,hm];rfl
 obtain ⟨n,hn⟩:∃n,f.size=n:=⟨_,rfl⟩;have HPL:=hide hpl;have HE:=hide he;have HC:=hide hc;have HF:=hide hn;have HM:=hide hm;rw [hn] at hf;rw [hm] at hnm;clear he hpl hZ
 have HSZ:Hid (f.data.toList.length=n∧nm.data.toList.length=m):=⟨by rw [str_len];exact HF.out,by rw [str_len];exact HM.out⟩
 by_cases h1:n≤m+1
 ·have HN:Hid (numD f.data.toList nm.data.toList=none):=by
   show _=_;unfold numD;rw [HSZ.out.1,HSZ.out.2,if_neg (by omega)]
  have d1:decide ((n:Int)≤(m:Int)+1)=true:=decide_eq_true (by omega)
  go_enter Tryz.func136,Tryz.ntmps136
  go_wp2;go_ret2
  exact ⟨0,by rw [HN.out];rfl,fun v hv=>by (rw [HN.out] at hv;cases hv),Below.refl _ _⟩
 have d1:decide ((n:Int)≤(m:Int)+1)=false:=decide_eq_false (by omega)
 by_cases h2:m+8<n
 ·have HN:Hid (numD f.data.toList nm.data.toList=none):=by
   show _=_;unfold numD;rw [HSZ.out.1,HSZ.out.2,if_neg (by omega)]
  have d2:decide ((m:Int)+1+7<(n:Int))=true:=decide_eq_true (by omega)
  go_enter Tryz.func136,Tryz.ntmps136
  go_wp2;go_ret2
  exact ⟨0,by rw [HN.out];rfl,fun v hv=>by (rw [HN.out] at hv;cases hv),Below.refl _ _⟩
 have d2:decide ((m:Int)+1+7<(n:Int))=false:=decide_eq_false (by omega)
 obtain ⟨b,hb⟩:∃b,((f.extract 0 (m+1)).toList == Z.toList)=b:=⟨_,rfl⟩
 have hpre:Lib.hasPrefix f.data.toList (nm.data.toList++[46])=b:=by
  rw [←hb,←HPL.out,ByteArray.toList_eq,ByteArray.toList_eq]
  have e:(f.extract 0 (m+1)).data.toList=f.data.toList.take (m+1):=by simp
  rw [e];unfold Lib.hasPrefix;rw [Bool.eq_iff_iff,List.isPrefixOf_iff_prefix,beq_iff_eq,List.prefix_iff_eq_take,str_len,hZs];exact eq_comm
 have HP:=hide hpre;clear hpre
 cases b with
 | false=>
  have HN:Hid (numD f.data.toList nm.data.toList=none):=by
   show _=_;unfold numD;rw [HP.out,if_neg (by simp)]
  go_enter Tryz.func136,Tryz.ntmps136
  go_wp2;go_ret2
  exact ⟨0,by rw [HN.out];rfl,fun v hv=>by (rw [HN.out] at hv;cases hv),Below.refl _ _⟩
 | true=>
  obtain ⟨D,hD⟩:∃D,f.data.toList.drop (m+1)=D:=⟨_,rfl⟩
  have HN:Hid (numD f.data.toList nm.data.toList=match Lib.decFrom 0 D with | some x=>if Lib.itoa (x:Int)=D then some (x:Int) else none | none=>none):=by
   show _=_;unfold numD;rw [HP.out,HSZ.out.1,HSZ.out.2,if_pos ⟨by omega,by omega,rfl⟩,hD]
   cases Lib.decFrom 0 D<;>rfl
  have HDL:Hid (D.length=n - (m+1)):=by show _=_;rw [←hD,List.length_drop,HSZ.out.1]
  have HG:Hid (∀i,i<n→f[i]?=some (byteAt f.data.toList i)):=fun i hi=>str_get f i (by rw [HF.out];exact hi)
  have HDG:Hid (∀i,m+1≤i→i<n→D[i - (m+1)]?=some (byteAt f.data.toList i)):=fun i h0 hi=>by
   rw [←hD,List.getElem?_drop,show m+1+(i - (m+1))=i by omega,List.getElem?_eq_getElem (by rw [HSZ.out.1];exact hi)]
   unfold byteAt
   rw [List.getD_eq_getElem?_getD,List.getElem?_eq_getElem (by rw [HSZ.out.1];exact hi)]
   rfl
  have HDD:=hide hD;clear hD
  go_enter Tryz.func136,Tryz.ntmps136
  go_wp2
  go_loopw [7,8] (fun x i wr=>∃k v:Nat,m+1≤k∧k≤n∧i=.int .i64 (k:Int)∧x=.int .i64 (v:Int)∧v<10000000∧Hid (Lib.decFrom 0 (D.take (k - (m+1)))=some v)∧wr=w) (fun x i _=>n - (intOf i).toNat)
  case atStart=>exact ⟨m+1,0,by omega,by omega,by simp,rfl,by omega,by show _=_;rw [Nat.sub_self];rfl,rfl⟩
  case round=>
   obtain ⟨k,v,hk0,hk,rfl,rfl,hv,HV,rfl⟩:=hrel
   by_cases hlt:k<n
   ·have hx:∀w':World,(Instr.index 9 (.string f) (.int .i64 (k:Int))).run Tryz.prog w'=.ok (.int .u8 ((byteAt f.data.toList k).toNat:Int)) w':=fun w'=>run_index_str w' f .i64 k _ (HG.out k hlt)
    have hd3:decide ((k:Int)<(n:Int))=true:=decide_eq_true (by omega)
    have HK:=hide (HDG.out k hk0 hlt);obtain ⟨c,hc'⟩:∃c,byteAt f.data.toList k=c:=⟨_,rfl⟩;rw [hc'] at hx HK;clear hc'
    by_cases b1:c.toNat<48
    ·have e1:decide ((c.toNat:Int)<48)=true:=decide_eq_true (by omega)
     have HNN:Hid (numD f.data.toList nm.data.toList=none):=by
      show _=_
      rw [HN.out]
      cases hq:Lib.decFrom 0 D with
      | none=>rfl
      | some q=>
       obtain ⟨d,hd⟩:=Lib.digit_of_decFrom D 0 q hq _ _ HK.out;unfold Lib.digitVal at hd
       rw [if_neg (by omega)] at hd
       cases hd
     go_wp2;go_ret2
     exact ⟨0,by rw [HNN.out];rfl,fun v hv=>by (rw [HNN.out] at hv;cases hv),Below.refl _ _⟩
    ·have e1:decide ((c.toNat:Int)<48)=false:=decide_eq_false (by omega)
     by_cases b2:57<c.toNat
     ·have e2:decide ((57:Int)<(c.toNat:Int))=true:=decide_eq_true (by omega)
      have HNN:Hid (numD f.data.toList nm.data.toList=none):=by
       show _=_
       rw [HN.out]
       cases hq:Lib.decFrom 0 D with
       | none=>rfl
       | some q=>
        obtain ⟨d,hd⟩:=Lib.digit_of_decFrom D 0 q hq _ _ HK.out;unfold Lib.digitVal at hd
        rw [if_neg (by omega)] at hd
        cases hd
      go_wp2;go_ret2
      exact ⟨0,by rw [HNN.out];rfl,fun v hv=>by (rw [HNN.out] at hv;cases hv),Below.refl _ _⟩
     ·have e2:decide ((57:Int)<(c.toNat:Int))=false:=decide_eq_false (by omega)
      obtain ⟨d,hd⟩:∃d:Nat,c.toNat=48+d:=⟨c.toNat - 48,by omega⟩
      have hd9:d≤9:=by omega
      have HV2:Hid (Lib.decFrom 0 (D.take (k+1 - (m+1)))=some (v * 10+d)):=by
       show _=_
       rw [show k+1 - (m+1)=(k - (m+1))+1 by omega]
       refine Lib.decFrom_take D _ 0 v c d HV.out HK.out ?_;unfold Lib.digitVal
       rw [if_pos (by omega)]
       congr 1;omega
      have hv2:v * 10+d<10000000:=by
       have h3:=Lib.decFrom_lt _ 0 _ HV2.out
       have h4:(D.take (k+1 - (m+1))).length≤7:=by rw [List.length_take];omega
       have hpow:10 ^ (D.take (k+1 - (m+1))).length≤10 ^ 7:=Nat.pow_le_pow_right (by omega) h4
       have h7:(10:Nat) ^ 7=10000000:=by decide
       omega
      clear b1 b2;go_wp2;go_roundw
      case rel=>
       refine ⟨k+1,v * 10+d,by omega,by omega,by go_num,?_,hv2,HV2,by first | rfl | trivial⟩
       congr 1
       omega
      case measure=>simp [intOf];omega
   ·have hd3:decide ((k:Int)<(n:Int))=false:=decide_eq_false (by omega)
    have hkn:k=n:=by omega
    have HNN:Hid (numD f.data.toList nm.data.toList=if Lib.itoa (v:Int)=D then some (v:Int) else none):=by
     show _=_
     have e:=HV.out
     rw [List.take_of_length_le (by rw [HDL.out];omega)] at e
     rw [HN.out,e]
    have HEQ:Hid ((fileB nm (v:Int)).data.toList=f.data.toList↔Lib.itoa (v:Int)=D):=by
     show _↔_
     rw [fileB_list];have hpp:=HP.out;unfold Lib.hasPrefix at hpp;obtain ⟨t,ht⟩:=List.isPrefixOf_iff_prefix.1 hpp
     have hDt:D=t:=by rw [←HDD.out,←ht,←HSZ.out.2,←List.length_singleton (a:=(46:UInt8)),←List.length_append,List.drop_left]
     rw [hDt,←ht];unfold fileL
     simp
    clear hlt HV;go_wp2_with fail
    refine (rfile_any l (v:Int) nm _ HC.out (by omega) (by rw [HM.out];omega) (by omega) (by omega) HE.out (by omega)).mono ?_
    rintro e w1 ⟨rfl,hb1⟩;have HB1:=hide hb1;clear hb1;obtain ⟨X,hX⟩:∃X,fileB nm (v:Int)=X:=⟨_,rfl⟩;rw [hX] at HEQ ⊢;clear hX;go_wp2;go_ret2
    refine ⟨(v:Int),?_,fun u hu=>?_,HB1.out⟩
    ·rw [HNN.out]
     have hTL:(X.toList == f.toList)=(X.data.toList == f.data.toList):=by rw [ByteArray.toList_eq,ByteArray.toList_eq]
     by_cases h3:Lib.itoa (v:Int)=D
     ·rw [if_pos h3,hTL,beq_iff_eq.2 (HEQ.out.2 h3)];rfl
     ·rw [if_neg h3,hTL,beq_eq_false_iff_ne.2 (fun h=>h3 (HEQ.out.1 h))];rfl
    ·rw [HNN.out] at hu
     split at hu
     ·cases hu;rfl
     ·cases hu
open Go.RowKit Go.Maps Fr
theorem whole_neg (t:List UInt8):wholeT t (-1)=none:=by
 rw [wholeT_none];intro p hp
 have:=hp.1
 omega
set_option maxRecDepth 5000 in
set_option maxHeartbeats 2000000 in
theorem rbegins_any (t:ByteArray) (ht:t.size≤281474976710656) (w:World):Calls Tryz.prog 110 #[.string t] w fun e w'=>∃x,e=.returned (.tuple #[.int .i64 x,.bool (wholeT t.data.toList (firstN t.data.toList)).isSome])∧((wholeT t.data.toList (firstN t.data.toList)).isSome=true→x=firstN t.data.toList)∧Below w.heap.size w w':=by
 by_cases h16:t.size<16
 ·have hd:decide ((t.size:Int)<16)=true:=decide_eq_true (by omega)
  have HE:Hid ((wholeT t.data.toList (firstN t.data.toList)).isSome=false):=by
   show _=_
   rw [show firstN t.data.toList=-1 by unfold firstN;rw [str_len,if_pos h16],whole_neg];rfl
  clear h16 ht
  go_enter Tryz.func110,Tryz.ntmps110
  go_wp2;go_ret2
  exact ⟨0,by rw [HE.out];rfl,fun h=>by (rw [HE.out] at h;cases h),Below.refl _ _⟩
 have hd:decide ((t.size:Int)<16)=false:=decide_eq_false (by omega)
 obtain ⟨T,hT⟩:∃T,(t.data.toList.drop 4)=T:=⟨_,rfl⟩
 have hTl:12≤T.length:=by rw [←hT,List.length_drop,str_len];omega
 have HGET:Hid (∀k,k<8→∀w',(Instr.index 9 (.string t) (.int .i64 ((4+k:Nat):Int))).run Tryz.prog w'=.ok (.int .u8 ((byteAt T k).toNat:Int)) w'):=fun k hk w'=>by
  refine run_index_str w' t .i64 (4+k) _ ?_
  rw [str_get t (4+k) (by omega),←hT]
  unfold byteAt;rw [List.getD_eq_getElem?_getD,List.getD_eq_getElem?_getD,List.getElem?_drop]
 have HTL:=hide hTl;obtain ⟨F,hF⟩:∃F,firstN t.data.toList=F:=⟨_,rfl⟩
 have HFN:Hid (F=if 1152921504606846976≤Fr.be (T.take 8) then -1 else (Fr.be (T.take 8):Int)):=by
  show _=_
  rw [←hF];unfold firstN;rw [str_len,if_neg h16,hT]
 rw [hF]
 have HXT:Hid (nextA t.data.toList 0 F=match wholeT t.data.toList F with | some p=>(p,room p.length,1) | none=>([],0,2)):=by
  show _=_
  unfold nextA
  rw [str_len,if_neg (by omega),if_neg (by omega)]
  rfl
 have HTZ:=hide ht;clear hT hF hTl h16 ht
 go_enter Tryz.func110,Tryz.ntmps110
 go_wp2
 go_loopw [4,5] (fun n i wr=>∃k:Nat,k≤8∧i=.int .i64 ((4+k:Nat):Int)∧n=.int .u64 ((Fr.be (T.take k):Nat):Int)∧wr=w) (fun _ i _=>12 - (intOf i).toNat)
 case atStart=>exact ⟨0,by omega,rfl,rfl,rfl⟩
 case round=>
  obtain ⟨k,hk,rfl,rfl,rfl⟩:=hrel
  by_cases hlt:k<8
  ·have dk:decide (((4+k:Nat):Int)<12)=true:=decide_eq_true (by omega)
   have dk2:decide (4+(k:Int)<12)=true:=decide_eq_true (by omega)
   have hTl:=HTL.out;obtain ⟨X,hX⟩:∃X,Fr.be (T.take k)=X:=⟨_,rfl⟩
   have hXl:X<256 ^ 7:=by
    have:=Fr.be_lt (T.take k)
    rw [List.length_take,Nat.min_eq_left (by omega),hX] at this
    exact Nat.lt_of_lt_of_le this (Nat.pow_le_pow_right (by decide) (by omega))
   obtain ⟨c,hc⟩:∃c,byteAt T k=c:=⟨_,rfl⟩;obtain ⟨o1,o2⟩:=or_byte X hXl c
   have hnx:Fr.be (T.take (k+1))=X * 256+c.toNat:=by
    have e:T.take (k+1)=T.take k++[c]:=by
     rw [List.take_succ_eq_append_getElem (by omega),←hc];unfold byteAt;rw [List.getD_eq_getElem?_getD,List.getElem?_eq_getElem (by omega)];rfl
    rw [e,Fr.be_snoc,hX]
   obtain ⟨XI,hXI⟩:∃x:Int,(X:Int)=x:=⟨_,rfl⟩;obtain ⟨Y,hY⟩:∃x:Int,((X * 256:Nat):Int)=x:=⟨_,rfl⟩;obtain ⟨Z,hZ⟩:∃x:Int,((X * 256+c.toNat:Nat):Int)=x:=⟨_,rfl⟩;obtain ⟨C,hC⟩:∃x:Int,(c.toNat:Int)=x:=⟨_,rfl⟩;rw [hXI,hY] at o1;rw [hY,hC,hZ] at o2;have hix:=HGET.out k hlt;rw [hc,hC] at hix;obtain ⟨q,hq⟩:∃q:Nat,4+k=q:=⟨_,rfl⟩;rw [hq] at hix dk ⊢;have hcv:=conv_u8_u64 c;rw [hC] at hcv
   have HZ:Hid (((Fr.be (T.take (k+1)):Nat):Int)=Z):=by show _=_;rw [hnx,hZ]
   have O1:=hide o1;have O2:=hide o2;have CV:=hide hcv;rw [hX,hXI];clear hX hXl hc hnx hXI hY hZ hC hcv hTl o1 o2
   go_wp2_with (first | (refine Fr.wpList_shl rfl _ _ _ _ rfl .u64 .u64 XI _ Y (by rfl) (by rfl) 8 rfl (by decide) O1.out ?_) | (refine Fr.wpList_conv rfl _ _ _ rfl .u8 .u64 C _ (by rfl) (CV.out _) ?_) | (refine Fr.wpList_or rfl _ _ _ _ rfl .u64 Y C Z (by rfl) (by rfl) O2.out ?_))
   go_roundw
   case rel=>exact ⟨k+1,by omega,by rw [show 4+(k+1)=q+1 by omega];go_num,by rw [HZ.out],by first | rfl | trivial⟩
   case measure=>simp [intOf];omega
  ·have hk8:k=8:=by omega
   subst hk8;obtain ⟨n,hn⟩:∃n,Fr.be (T.take 8)=n:=⟨_,rfl⟩;have hfn:=HFN.out;rw [hn] at hfn ⊢
   by_cases hb:1152921504606846976≤n
   ·have d12:decide (((4+8:Nat):Int)<12)=false:=by decide
    have HF:Hid ((wholeT t.data.toList F).isSome=false):=by show _=_;rw [hfn,if_pos hb,whole_neg];rfl
    have dn:decide ((n:Int)≥1152921504606846976)=true:=decide_eq_true (by omega)
    have dn':decide ((1152921504606846976:Int)≤(n:Int))=true:=decide_eq_true (by omega)
    clear hfn hn hb HFN;go_wp2;go_ret2
    exact ⟨0,by rw [HF.out];rfl,fun h=>by (rw [HF.out] at h;cases h),Below.refl _ _⟩
   ·have HF:Hid (F=(n:Int)):=by show _=_;rw [hfn,if_neg hb]
    have dn:decide ((n:Int)≥1152921504606846976)=false:=decide_eq_false (by omega)
    have dn':decide ((1152921504606846976:Int)≤(n:Int))=false:=decide_eq_false (by omega)
    have hcv:=conv_u64_i64 n (by omega)
    have HLT:Hid ((n:Int)<9223372036854775808):=by show _<_;omega
    obtain ⟨NN,hNN⟩:∃x:Int,(n:Int)=x:=⟨_,rfl⟩;rw [hNN] at hcv dn dn' HLT ⊢;have CV:=hide hcv;have HNN:=hide hNN
    have HFF:Hid (F=NN):=by show _=_;rw [HF.out,hNN]
    clear hfn hn hb HFN hcv hNN
    go_wp2_with (refine Fr.wpList_conv rfl _ _ _ rfl .u64 .i64 NN _ (by rfl) (CV.out _) ?_)
    refine (rnext_any t 0 NN _ HLT.out HTZ.out).mono ?_;rintro e w1 ⟨rfl,hb1⟩;have HB1:=hide hb1;clear hb1;have hxt:=HXT.out;rw [HFF.out] at hxt
    cases hq:wholeT t.data.toList NN with
    | none=>
     rw [hq] at hxt;rw [nx_of hxt nil8 rfl 0 rfl];clear hxt
     go_wp2_with (refine Fr.wpList_conv rfl _ _ _ rfl .u64 .i64 NN _ (by rfl) (CV.out _) ?_)
     go_ret2
     exact ⟨NN,by rw [HFF.out,hq];rfl,fun h=>HFF.out.symm,HB1.out⟩
    | some p=>
     rw [hq] at hxt;rw [nx_of hxt ⟨p.toArray⟩ rfl _ rfl];clear hxt
     go_wp2_with (refine Fr.wpList_conv rfl _ _ _ rfl .u64 .i64 NN _ (by rfl) (CV.out _) ?_)
     go_ret2
     exact ⟨NN,by rw [HFF.out,hq];rfl,fun h=>HFF.out.symm,HB1.out⟩
end Go.Proofs.YtjbdncknooeplaaGreatDoor
