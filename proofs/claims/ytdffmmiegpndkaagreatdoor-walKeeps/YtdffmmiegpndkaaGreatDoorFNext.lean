import Derived.Test.YtdffmmiegpndkaaGreatDoorFFrame
namespace Go.Proofs.YtdffmmiegpndkaaGreatDoor.Fr
open Go.RowKit C
def payS (b:ByteArray):ByteArray:=
 let s0:RS:=(b,0)
 let k:=be (takeA 4 s0).data.toList
 if 65536<k then nil8 else rawA k (takeS 4 (takeS 8 (takeS 4 s0)))
set_option maxHeartbeats 1000000 in
theorem payloadOf_any (b:ByteArray) (w:World):Calls Tryz.prog 109 #[.string b] w fun e w'=>e=.returned (.string (payS b))∧Below w.heap.size w w':=by
 obtain ⟨Z,hZ⟩:∃Z:Int,(be (takeA 4 (b,0)).data.toList:Int)=Z:=⟨_,rfl⟩
 have hg:=fun (p:Nat) (w:World) (h:CR w p (b,0))=>rU32 p (b,0) w h
 have hlt:be (takeA 4 (b,0)).data.toList<4294967296:=by
  have h:=be_lt (takeA 4 (b,0)).data.toList;have h2:=takeA_le 4 (b,0);rw [str_len] at h;have h3:(takeA ((4:Nat):Int) (b,0)).size=(takeA 4 (b,0)).size:=rfl
  have:256 ^ (takeA 4 (b,0)).size≤256 ^ 4:=Nat.pow_le_pow_right (by decide) (by omega)
  omega
 have hc:∀w:World,(convert 90 3 (.int .u32 Z)).run Tryz.prog w=.ok (.int .i64 Z) w:=fun w=>by
  have h:=run_convert_int (P:=Tryz.prog) (w:=w) 90 3 .u32 Z (by kernel_rfl) (by kernel_rfl)
  have e2:IntKind.i64.wrap Z=Z:=by rw [IntKind.wrap_i64];omega
  rw [show Tryz.prog.intKind 3=.i64 by kernel_rfl,e2] at h
  exact h
 simp only [hZ] at hg;have HG:=hide hg;have HC:=hide hc;have HZ:=hide hZ
 by_cases hb:65536<be (takeA 4 (b,0)).data.toList
 ·have e1:payS b=nil8:=by simp only [payS];rw [if_pos hb]
  rw [e1]
  have hd:decide (Z > 65536)=true:=decide_eq_true (by omega)
  have hd1:decide (65536<Z)=true:=decide_eq_true (by omega)
  clear e1 hb hc hg hZ hlt
  go_enter Tryz.func109,Tryz.ntmps109
  go_wp2_with fail;refine (rOpen b _).mono ?_;rintro e w1 ⟨rfl,h1,hb1,hs1⟩;clear hs1;go_wp2_with fail;refine (HG.out _ _ h1).mono ?_;rintro e w2 ⟨rfl,h2,hM2⟩;go_wp2;go_ret;exact ⟨rfl,hb1.trans (hM2.below (Nat.le_refl _) hb1.size)⟩
 ·have e1:payS b=rawA (be (takeA 4 (b,0)).data.toList) (takeS 4 (takeS 8 (takeS 4 (b,0)))):=by simp only [payS];rw [if_neg hb]
  rw [e1,hZ]
  have hd:decide (Z > 65536)=false:=decide_eq_false (by omega)
  have hd1:decide (65536<Z)=false:=decide_eq_false (by omega)
  have HS:Hid ((rawA Z (takeS 4 (takeS 8 (takeS 4 (b,0))))).size≤281474976710656):=by
   show _≤_
   rw [←hZ];have h1:=takeA_le (be (takeA 4 (b,0)).data.toList) (rawMid (be (takeA 4 (b,0)).data.toList) (takeS 4 (takeS 8 (takeS 4 (b,0)))));unfold rawA;omega
  clear e1 hb hc hg hZ hlt
  go_enter Tryz.func109,Tryz.ntmps109
  go_wp2_with fail;refine (rOpen b _).mono ?_;rintro e w1 ⟨rfl,h1,hb1,hs1⟩;clear hs1;go_wp2_with fail;refine (HG.out _ _ h1).mono ?_;rintro e w2 ⟨rfl,h2,hM2⟩;go_wp2_with fail;refine (rI64 _ _ _ h2 _ rfl).mono ?_;rintro e w3 ⟨rfl,h3,hM3⟩;go_wp2_with fail;refine (rU32 _ _ _ h3).mono ?_;rintro e w4 ⟨rfl,h4,hM4⟩
  go_wp2_with (first | (refine wpList_conv rfl _ _ _ rfl .u32 .i64 Z Z (by rfl) (HC.out _) ?_) | fail)
  refine (rRaw Z _ _ _ h4 HS.out).mono ?_;rintro e w5 ⟨rfl,h5,hM5⟩;go_wp2;go_ret;exact ⟨rfl,hb1.trans ((((hM2.trans hM3).trans hM4).trans hM5).below (Nat.le_refl _) hb1.size)⟩
theorem toList_inj (a b:ByteArray):a.toList=b.toList↔a=b:=by
 constructor
 ·intro h
  rw [ByteArray.toList_eq,ByteArray.toList_eq] at h;exact ByteArray.ext (Array.ext' h)
 ·intro h
  rw [h]
theorem pre_iff (s t:ByteArray):(s.extract 0 t.size=t)↔t.data.toList <+: s.data.toList:=by
 rw [List.prefix_iff_eq_take]
 have e:(s.extract 0 t.size).data.toList=s.data.toList.take t.data.toList.length:=by
  rw [ByteArray.data_extract,Array.toList_extract,str_len]
  simp [List.extract]
 constructor
 ·intro hx
  rw [←e,hx]
 ·intro hx
  apply ByteArray.ext;apply Array.ext';rw [e,←hx]
set_option maxHeartbeats 1000000 in
theorem prefix_in (s t:ByteArray) (w:World):Calls Tryz.prog 116 #[.string s,.string t] w fun e w'=>e=.returned (.bool (decide (t.data.toList <+: s.data.toList)))∧w=w':=by
 by_cases h:t.size≤s.size
 ·have hd:decide ((t.size:Int)≤(s.size:Int))=true:=decide_eq_true (by omega)
  have hd1:decide ((s.size:Int)≥(t.size:Int))=true:=decide_eq_true (by omega)
  have hd2:decide (t.size≤s.size)=true:=decide_eq_true h
  have h0:(0:Int)≤(t.size:Int):=by omega
  have h1:(t.size:Int)≤(s.size:Int):=by omega
  have HI:Hid (((s.extract 0 t.size).toList == t.toList)=decide (t.data.toList <+: s.data.toList)):=by
   show _=_
   rw [Bool.eq_iff_iff,beq_iff_eq,decide_eq_true_iff,←pre_iff s t,toList_inj]
  go_enter Tryz.func116,Tryz.ntmps116
  go_wp2;go_ret;refine ⟨?_,rfl⟩;rw [←HI.out];rfl
 ·have hd:decide ((t.size:Int)≤(s.size:Int))=false:=decide_eq_false (by omega)
  have hd1:decide ((s.size:Int)≥(t.size:Int))=false:=decide_eq_false (by omega)
  have hd2:decide (t.size≤s.size)=false:=decide_eq_false h
  have e:decide (t.data.toList <+: s.data.toList)=false:=decide_eq_false (fun hx=>h (by have:=hx.length_le;rwa [str_len,str_len] at this))
  rw [e];clear h e
  go_enter Tryz.func116,Tryz.ntmps116
  go_wp2;go_ret;exact ⟨rfl,rfl⟩
theorem prefix_any (s t:ByteArray) (w:World) (b:Bool) (hb:decide (t.data.toList <+: s.data.toList)=b):Calls Tryz.prog 88 #[.string s,.string t] w fun e w'=>e=.returned (.bool b)∧w=w':=by
 have h:=prefix_in s t w;rw [hb] at h;have H:=hide h;clear h hb
 go_enter Tryz.func88,Tryz.ntmps88
 go_wp2_with fail;refine H.out.mono ?_;rintro e w1 ⟨rfl,rfl⟩;go_wp2;go_ret;exact ⟨rfl,rfl⟩
theorem ext_list (s:ByteArray) (m:Nat):(s.extract m s.size).data.toList=s.data.toList.drop m:=by
 rw [ByteArray.data_extract,Array.toList_extract]
 have:s.size=s.data.toList.length:=(str_len s).symm
 rw [List.extract,List.take_of_length_le (by rw [List.length_drop];omega)]
theorem ext_list0 (s:ByteArray) (m:Nat):(s.extract 0 m).data.toList=s.data.toList.take m:=by
 rw [ByteArray.data_extract,Array.toList_extract]
 simp [List.extract]
theorem takeA_ok (m:Nat) (s:ByteArray) (h:m≤s.size):(takeA (m:Int) (s,0)).data.toList=s.data.toList.take m:=by
 unfold takeA
 rw [if_pos rfl,if_neg (by simp only;omega)]
 exact ext_list0 s m
theorem takeS_ok (m:Nat) (s:ByteArray) (h:m≤s.size):takeS (m:Int) (s,0)=(s.extract m s.size,0):=by
 unfold takeS
 rw [if_pos rfl,if_neg (by simp only;omega)]
 rfl
theorem ext_size (s:ByteArray) (m:Nat):(s.extract m s.size).size=s.size - m:=by rw [ByteArray.size_extract];omega
theorem pay_whole (n:Int) (b:ByteArray) (q:List UInt8) (h:Whole n b.data.toList q):(payS b).data.toList=q:=by
 obtain ⟨a1,_,_,a4,a5⟩:=frame_head h.2.2.2;have hr:=room_ge q.length;rw [str_len] at a5
 have k1:be (takeA 4 (b,0)).data.toList=q.length:=by
  rw [show takeA 4 (b,0)=takeA ((4:Nat):Int) (b,0) from rfl,takeA_ok 4 b (by omega),a1,be_nb,Nat.mod_eq_of_lt (by have:=h.2.2.1;omega)]
 have k2:takeS 4 (takeS 8 (takeS 4 (b,0)))=(((b.extract 4 b.size).extract 8 (b.extract 4 b.size).size).extract 4 ((b.extract 4 b.size).extract 8 (b.extract 4 b.size).size).size,0):=by
  rw [show takeS 4 (b,0)=takeS ((4:Nat):Int) (b,0) from rfl,takeS_ok 4 b (by omega)]
  rw [show takeS 8 (b.extract 4 b.size,0)=takeS ((8:Nat):Int) (b.extract 4 b.size,0) from rfl,takeS_ok 8 _ (by rw [ext_size];omega)]
  exact takeS_ok 4 _ (by rw [ext_size,ext_size];omega)
 simp only [payS]
 rw [k1,k2,if_neg (by have:=h.2.2.1;omega)]
 unfold rawA rawMid
 rw [if_neg (by omega),takeA_ok _ _ (by rw [ext_size,ext_size,ext_size];omega),ext_list,ext_list,ext_list,List.drop_drop,List.drop_drop]
 exact a4
theorem pay_size (b:ByteArray):(payS b).size≤65536:=by
 simp only [payS]
 split
 ·exact Nat.zero_le _
 ·rename_i hk
  have h1:=takeA_le (be (takeA 4 (b,0)).data.toList) (rawMid (be (takeA 4 (b,0)).data.toList) (takeS 4 (takeS 8 (takeS 4 (b,0)))));unfold rawA;omega
theorem pay_iff (n:Nat) (b:ByteArray) (hn:n<9223372036854775808):wholeT b.data.toList n=if frameL n (payS b).data.toList <+: b.data.toList then some (payS b).data.toList else none:=by
 split
 ·rename_i h
  have:=pay_size b
  exact wholeT_some.2 ⟨by omega,by omega,by rw [str_len];omega,by simpa using h⟩
 ·rename_i h
  rw [wholeT_none];intro q hq;have e:=pay_whole n b q hq;apply h
  have:=hq.2.2.2
  rw [e]
  simpa using this
def nx (l:List UInt8) (at_ n:Int):Value:=.tuple #[.string ⟨(nextA l at_ n).1.toArray⟩,.int .i64 (nextA l at_ n).2.1,.int .i64 (nextA l at_ n).2.2]
theorem nx_of {l:List UInt8} {at_ n:Int} {p:List UInt8} {k:Nat} {c:Int} (h:nextA l at_ n=(p,k,c)) (s:ByteArray) (hs:s=⟨p.toArray⟩) (K:Int) (hK:K=(k:Int)):nx l at_ n=.tuple #[.string s,.int .i64 K,.int .i64 c]:=by
 unfold nx;rw [h,hs,hK]
set_option maxHeartbeats 1000000 in
theorem next_any (b:ByteArray) (at_ n:Int) (w:World) (hn:n<9223372036854775808):Calls Tryz.prog 82 #[.string b,.int .i64 at_,.int .i64 n] w fun e w'=>e=.returned (nx b.data.toList at_ n)∧Below w.heap.size w w':=by
 by_cases h0:at_=(b.size:Int)
 ·have e:nextA b.data.toList at_ n=([],0,0):=by unfold nextA;rw [if_pos (by rw [str_len];exact h0)]
  rw [nx_of e nil8 rfl 0 rfl];subst h0;clear e hn
  go_enter Tryz.func82,Tryz.ntmps82
  go_wp2;go_ret3;exact ⟨rfl,Below.refl _ _⟩
 ·have hq0:(at_ == (b.size:Int))=false:=beq_eq_false_iff_ne.2 h0
  have hq1:decide (at_=(b.size:Int))=false:=decide_eq_false h0
  have el:¬at_=(b.data.toList.length:Int):=by rw [str_len];exact h0
  by_cases hr:at_<0∨(b.size:Int)<at_
  ·have e:nextA b.data.toList at_ n=([],0,2):=by unfold nextA;rw [if_neg el,if_pos (by rw [str_len];exact hr)]
   rw [nx_of e nil8 rfl 0 rfl];clear e hn el h0
   by_cases h1:at_<0
   ·have d1:decide (at_<0)=true:=decide_eq_true h1
    clear hr h1
    go_enter Tryz.func82,Tryz.ntmps82
    go_wp2;go_ret3;exact ⟨rfl,Below.refl _ _⟩
   ·have h2:=hr.resolve_left h1
    have d1:decide (at_<0)=false:=decide_eq_false h1;have d2:decide (at_ > (b.size:Int))=true:=decide_eq_true h2;have d3:decide ((b.size:Int)<at_)=true:=decide_eq_true h2;clear hr h1 h2
    go_enter Tryz.func82,Tryz.ntmps82
    go_wp2;go_ret3;exact ⟨rfl,Below.refl _ _⟩
  ·obtain ⟨k,rfl⟩:=Int.eq_ofNat_of_zero_le (show 0≤at_ by omega)
   have hk:k<b.size:=by omega
   have d1:decide ((k:Int)<0)=false:=decide_eq_false (by omega)
   have d2:decide ((k:Int) > (b.size:Int))=false:=decide_eq_false (by omega)
   have d3:decide ((b.size:Int)<(k:Int))=false:=decide_eq_false (by omega)
   have d4:decide (b.size<k)=false:=decide_eq_false (by omega)
   have g0:(0:Int)≤(k:Int):=by omega
   have g1:(k:Int)≤(b.size:Int):=by omega
   have e0:nextA b.data.toList (k:Int) n=match wholeT (b.extract k b.size).data.toList n with
    | some p=>(p,room p.length,1)
    | none=>([],0,2):=by
    unfold nextA
    rw [if_neg el,if_neg (by rw [str_len];omega),ext_list]
    rfl
   have E0:=hide e0;have HN:=hide hn;obtain ⟨T,hT⟩:∃T:ByteArray,b.extract k b.size=T:=⟨_,rfl⟩;have HT:=hide hT;obtain ⟨P,hP⟩:∃P:ByteArray,payS T=P:=⟨_,rfl⟩;have HP:=hide hP;clear hP hT e0 el h0 hr hn
   by_cases hneg:n<0
   ·have f1:frameE n P=1:=by unfold frameE;rw [if_pos hneg]
    have f2:frameS n P=nil8:=by unfold frameS;rw [if_pos hneg]
    have fa:=fun w=>frame_any n P w HN.out
    rw [f1,f2] at fa;have FA:=hide fa
    have e:nextA b.data.toList (k:Int) n=([],0,2):=by rw [E0.out,none_neg hneg]
    rw [nx_of e nil8 rfl 0 rfl];clear f1 f2 fa e hneg
    go_enter Tryz.func82,Tryz.ntmps82
    go_wp2_with fail;rw [HT.out];refine (payloadOf_any T _).mono ?_;rintro e w1 ⟨rfl,hb1⟩;rw [HP.out];go_wp2_with fail;refine (FA.out _).mono ?_;rintro e w2 ⟨rfl,hb2⟩;go_wp2;go_ret3;exact ⟨rfl,hb1.trans (hb2.mono hb1.size)⟩
   ·obtain ⟨m,rfl⟩:=Int.eq_ofNat_of_zero_le (show 0≤n by omega)
    have hps:P.size≤65536:=by rw [←HP.out];exact pay_size T
    have fa:=fun w=>frame_ok m P w (by have:=HN.out;omega) hps
    have FA:=hide fa;obtain ⟨F,hF⟩:∃F:ByteArray,F=⟨(frameL m P.data.toList).toArray⟩:=⟨_,rfl⟩;have HF:=hide hF
    have hi:=pay_iff m T (by have:=HN.out;omega)
    rw [HP.out] at hi
    have hFl:F.data.toList=frameL m P.data.toList:=by rw [hF]
    have hFs:(F.size:Int)=(room P.data.toList.length:Int):=by rw [←str_len,hFl,frameL_length]
    rw [←hFl] at hi;rw [←hF] at fa;have FA:=hide fa;obtain ⟨M,hM⟩:∃M:Int,(m:Int)=M:=⟨_,rfl⟩;rw [hM] at fa E0 HN hi ⊢
    by_cases hw:F.data.toList <+: T.data.toList
    case' pos=>
     rw [if_pos hw] at hi
     have hpx:=fun w=>prefix_any T F w true (decide_eq_true hw)
     have e:nextA b.data.toList (k:Int) M=(P.data.toList,room P.data.toList.length,1):=by rw [E0.out,HT.out,hi]
     rw [nx_of e P rfl (F.size:Int) hFs]
    case' neg=>
     rw [if_neg hw] at hi
     have hpx:=fun w=>prefix_any T F w false (decide_eq_false hw)
     have e:nextA b.data.toList (k:Int) M=([],0,2):=by rw [E0.out,HT.out,hi]
     rw [nx_of e nil8 rfl 0 rfl]
    all_goals
     have FA:=hide fa;have HX:=hide hpx;clear fa hi hpx e hFs hFl hF hw hM hneg hps
     go_enter Tryz.func82,Tryz.ntmps82
     go_wp2_with fail;rw [HT.out];refine (payloadOf_any T _).mono ?_;rintro e w1 ⟨rfl,hb1⟩;rw [HP.out];go_wp2_with fail;refine (FA.out _).mono ?_;rintro e w2 ⟨rfl,hb2⟩;go_wp2_with fail;rw [HT.out];refine (HX.out _).mono ?_;rintro e w3 ⟨rfl,rfl⟩;go_wp2;go_ret3;exact ⟨rfl,hb1.trans (hb2.mono hb1.size)⟩
end Go.Proofs.YtdffmmiegpndkaaGreatDoor.Fr
