import Derived.Test.YtjbdncknooeplaaGreatDoorWLoad
import Derived.Test.YtjbdncknooeplaaGreatDoorWAgainQ
namespace Go.Proofs.YtjbdncknooeplaaGreatDoor
open Go.RowKit Go.Maps
set_option linter.unusedVariables false
set_option linter.unusedSimpArgs false
structure ROpen where
 log:Option AL
 pay:List Key
 err:Int
 disk:AD
def openA (A:AD) (nm:ByteArray) (sz first:Int):ROpen:=
 if lnameOk nm.data.toList=false∨sz<64∨1048576<sz∨first<0∨1152921504606846976<first then ⟨none,[],1,A⟩
 else if A.pow.off=true then ⟨none,[],9,A⟩
 else
  let Z:=loadA A ⟨nm,sz,[],0,false⟩ first
  if Z.2.1≠0 then ⟨none,[],Z.2.1,Z.2.2.1⟩ else ⟨some Z.2.2.2,Z.1,0,Z.2.2.1⟩
def OpenPost (B:Nat) (w:World) (L:List Item) (i p:Nat) (R:ROpen) (e:Ending) (w':World):Prop:=
 (match R.log with
   | none=>e=.returned (.tuple #[.pointer none,.slice none 0 0,.int .i64 R.err])∧Lies B w' (L.set i (.disk p R.disk))
   | some g=>∃l v,e=.returned (.tuple #[.pointer (some ⟨l,0,none⟩),v,.int .i64 0])∧Lies B w' (L.set i (.disk p R.disk)++[.log l p g,.sub v R.pay]))∧Below B w w'
section
variable {B:Nat} {w:World} {L:List Item} {i j l p:Nat} {A:AD} {g:AL}
theorem Lies.toLog {q:Nat} {nm:ByteArray} {sz:Int} (h:Lies B w L) (hq:L[q]?=some (.block l (.cells #[.pointer (some ⟨p,0,none⟩),.string nm,.int .i64 sz,.slice none 0 0,.int .i64 0,.bool false] 76 (0,0)))):Lies B w (L.set q (.log l p ⟨nm,sz,[],0,false⟩)):=by
 obtain ⟨S,⟨hb,hS⟩,hB,_,hu⟩:=h.upd hq
 refine (hu w (.log l p ⟨nm,sz,[],0,false⟩) S ⟨.slice none 0 0,none,⟨hb,SegRow.nil w,by simp⟩,fun b=>?_⟩ ⟨Turn.refl _ _,fun b hb=>.inl hb⟩).1
 rw [hS b];unfold logFoot
 simp
set_option maxRecDepth 100000 in
set_option maxHeartbeats 8000000 in
theorem open_any (h:Lies B w L) (hi:L[i]?=some (.disk p A)) (he:Env B w) (nm:ByteArray) (hn:nm.size≤140737488355328) (sz first:Int) (hs:-9223372036854775808≤sz∧sz≤9223372036854775807) (hf:-9223372036854775808≤first∧first≤9223372036854775807) (R:ROpen) (hR:openA A nm sz first=R) :
 Calls Tryz.prog 10 #[.pointer (some ⟨p,0,none⟩),.string nm,.int .i64 sz,.int .i64 first] w fun e w'=>OpenPost B w L i p R e w':=by
 have hK:Lies B w (L.set i (.disk p A)):=by rw [hset_keep hi];exact h
 have HBAD:Hid (∀(W:World) (c:Int) (A':AD),R=⟨none,[],c,A'⟩→Lies B W (L.set i (.disk p A'))→Below B w W→OpenPost B w L i p R (.returned (.tuple #[.pointer none,.slice none 0 0,.int .i64 c])) W):=fun W c A' hr hl hb=>by
  rw [hr];exact ⟨⟨rfl,hl⟩,hb⟩
 have hnc:=fun W=>wName_any nm W
 have HN:=hide hnc;have HENV0:=hide he
 cases hb1:lnameOk nm.data.toList with
 | false=>
  rw [hb1] at HN
  have HRR:Hid (R=⟨none,[],1,A⟩):=by show _=_;rw [←hR];unfold openA;rw [if_pos (.inl hb1)]
  have HK:=hide hK;clear h hR hK hnc HENV0
  go_enter Tryz.func10,Tryz.ntmps10
  go_wp2_with fail;refine (HN.out _).mono ?_;rintro e w1 ⟨rfl,rfl⟩;go_wp2;go_ret3;exact HBAD.out _ _ _ HRR.out HK.out (Below.refl _ _)
 | true=>
  rw [hb1] at HN
  by_cases hb2:sz<64
  ·have k2:decide (sz<64)=true:=decide_eq_true hb2
   have HRR:Hid (R=⟨none,[],1,A⟩):=by show _=_;rw [←hR];unfold openA;rw [if_pos (.inr (.inl hb2))]
   have HK:=hide hK;clear h hR hK hnc HENV0
   go_enter Tryz.func10,Tryz.ntmps10
   go_wp2_with fail;refine (HN.out _).mono ?_;rintro e w1 ⟨rfl,rfl⟩;go_wp2;go_ret3;exact HBAD.out _ _ _ HRR.out HK.out (Below.refl _ _)
  have k2:decide (sz<64)=false:=decide_eq_false hb2
  by_cases hb3:1048576<sz
  ·have k3:decide (1048576<sz)=true:=decide_eq_true hb3
   have HRR:Hid (R=⟨none,[],1,A⟩):=by show _=_;rw [←hR];unfold openA;rw [if_pos (.inr (.inr (.inl hb3)))]
   have HK:=hide hK;clear h hR hK hnc HENV0
   go_enter Tryz.func10,Tryz.ntmps10
   go_wp2_with fail;refine (HN.out _).mono ?_;rintro e w1 ⟨rfl,rfl⟩;go_wp2;go_ret3;exact HBAD.out _ _ _ HRR.out HK.out (Below.refl _ _)
  have k3:decide (1048576<sz)=false:=decide_eq_false hb3
  by_cases hb4:first<0
  ·have k4:decide (first<0)=true:=decide_eq_true hb4
   have HRR:Hid (R=⟨none,[],1,A⟩):=by show _=_;rw [←hR];unfold openA;rw [if_pos (.inr (.inr (.inr (.inl hb4))))]
   have HK:=hide hK;clear h hR hK hnc HENV0
   go_enter Tryz.func10,Tryz.ntmps10
   go_wp2_with fail;refine (HN.out _).mono ?_;rintro e w1 ⟨rfl,rfl⟩;go_wp2;go_ret3;exact HBAD.out _ _ _ HRR.out HK.out (Below.refl _ _)
  have k4:decide (first<0)=false:=decide_eq_false hb4
  by_cases hb5:1152921504606846976<first
  ·have k5:decide (1152921504606846976<first)=true:=decide_eq_true hb5
   have HRR:Hid (R=⟨none,[],1,A⟩):=by show _=_;rw [←hR];unfold openA;rw [if_pos (.inr (.inr (.inr (.inr hb5))))]
   have HK:=hide hK;clear h hR hK hnc HENV0
   go_enter Tryz.func10,Tryz.ntmps10
   go_wp2_with fail;refine (HN.out _).mono ?_;rintro e w1 ⟨rfl,rfl⟩;go_wp2;go_ret3;exact HBAD.out _ _ _ HRR.out HK.out (Below.refl _ _)
  have k5:decide (1152921504606846976<first)=false:=decide_eq_false hb5
  have hall:¬(lnameOk nm.data.toList=false∨sz<64∨1048576<sz∨first<0∨1152921504606846976<first):=by
   rintro (hc | hc | hc | hc | hc)
   ·rw [hb1] at hc;cases hc
   ·exact hb2 hc
   ·exact hb3 hc
   ·exact hb4 hc
   ·exact hb5 hc
  have hno:nm.size≤24:=by
   have h2:=hb1;unfold lnameOk at h2;simp only [Bool.and_eq_true,decide_eq_true_eq] at h2;rw [str_len] at h2;exact h2.1.2
  have hof:=s_off h hi;have HOF:=hide hof
  cases hb6:A.pow.off with
  | true=>
   rw [hb6] at HOF
   have HRR:Hid (R=⟨none,[],9,A⟩):=by show _=_;rw [←hR];unfold openA;rw [if_neg hall,if_pos hb6]
   have HK:=hide hK;clear h hR hK hnc hof HENV0 hall hb6
   go_enter Tryz.func10,Tryz.ntmps10
   go_wp2_with fail;refine (HN.out _).mono ?_;rintro e w1 ⟨rfl,rfl⟩;go_wp2_with fail;refine (HOF.out).mono ?_;rintro e w1 ⟨rfl,rfl⟩;go_wp2;go_ret3;exact HBAD.out _ _ _ HRR.out HK.out (Below.refl _ _)
  | false=>
   rw [hb6] at HOF;obtain ⟨Z,hZ⟩:∃x,loadA A ⟨nm,sz,[],0,false⟩ first=x:=⟨_,rfl⟩
   have HRZ:Hid (R=if Z.2.1≠0 then ⟨none,[],Z.2.1,Z.2.2.1⟩ else ⟨some Z.2.2.2,Z.1,0,Z.2.2.1⟩):=by show _=_;rw [←hR];unfold openA;rw [if_neg hall,if_neg (by rw [hb6];decide)];simp only;rw [hZ]
   have HZ:=hide hZ;have HL:=hide h;have HI:=hide hi;have HNO:=hide hno;have HB6:=hide hb6
   have HFF:Hid (0≤first∧first≤1152921504606846976):=⟨by omega,by omega⟩
   have HCL:=hide (fun W=>clone_any nm W (by omega))
   clear h hR hK hnc hof hall hb6 hZ hi hno
   go_enter Tryz.func10,Tryz.ntmps10
   go_wp2_with fail;refine (HN.out _).mono ?_;rintro e w1 ⟨rfl,rfl⟩;go_wp2_with fail;refine (HOF.out).mono ?_;rintro e w1 ⟨rfl,rfl⟩;go_wp2_with fail;refine (HCL.out _).mono ?_;rintro e W1 ⟨rfl,hb1⟩;have hl1:=HL.out.below hb1;have hbb1:=hb1.mono HL.out.base;obtain ⟨l,hl⟩:∃x,W1.heap.size=x:=⟨_,rfl⟩;obtain ⟨W2,hW2⟩:∃x,W1.alloc (.cells #[.pointer (some ⟨p,0,none⟩),.string nm,.int .i64 sz,.slice none 0 0,.int .i64 0,.bool false] 76)=x:=⟨_,rfl⟩;obtain ⟨hl2,hb2⟩:=hl1.newCells #[.pointer (some ⟨p,0,none⟩),.string nm,.int .i64 sz,.slice none 0 0,.int .i64 0,.bool false] 76;rw [hW2,hl] at hl2;rw [hW2] at hb2
   have hl3:=hl2.toLog (q:=L.length+0) (by rw [get_tail];rfl)
   rw [List.set_append_right _ _ (by omega),Nat.add_sub_cancel_left] at hl3
   change Lies B W2 (L++[.log l p ⟨nm,sz,[],0,false⟩]) at hl3
   have hil:=(List.getElem?_eq_some_iff.1 HI.out).1
   have hld:=load_any hl3 (get_head HI.out) (j:=L.length+0) (by rw [get_tail];rfl) (by omega) (HENV0.out.below (hbb1.trans hb2)) rfl rfl HNO.out HB6.out first HFF.out Z HZ.out
   rw [hset_app _ hil,Nat.add_zero,List.set_append_right _ _ (by rw [List.length_set];omega),List.length_set,Nat.sub_self] at hld
   change Calls Tryz.prog 37 _ _ fun e w'=>∃v,e=.returned (.tuple #[v,.int .i64 Z.2.1])∧(Z.2.1≠0→v=.slice none 0 0)∧Lies B w' ((L.set i (.disk p Z.2.2.1)++[.log l p Z.2.2.2])++[.sub v Z.1])∧Below B W2 w' at hld
   have HLD:=hide hld;have HBB2:=hide (hbb1.trans hb2);obtain ⟨E,hE⟩:∃x,Z.2.1=x:=⟨_,rfl⟩;rw [hE] at HLD HRZ;clear hl1 hb1 hbb1 hl2 hb2 hl3 hil hld hE HL;go_wp2_with fail;refine (HLD.out).mono ?_;rintro e W3 ⟨v,rfl,hvn,hl4,hb4⟩;have hbb4:=HBB2.out.trans hb4
   by_cases hE0:E=0
   ·subst hE0
    have HRR:Hid (R=⟨some Z.2.2.2,Z.1,0,Z.2.2.1⟩):=by show _=_;rw [HRZ.out,if_neg (by simp)]
    have HL4:=hide hl4;have HB4:=hide hbb4;clear hl4 hb4 hbb4 hvn;go_wp2;go_ret3;rw [HRR.out];refine ⟨⟨l,v,rfl,?_⟩,HB4.out⟩
    have:=HL4.out
    rw [List.append_assoc] at this;exact this
   ·have HRR:Hid (R=⟨none,[],E,Z.2.2.1⟩):=by show _=_;rw [HRZ.out,if_pos hE0]
    have q1:(E != 0)=true:=by simpa using hE0
    have hd:=hl4.drop.drop;have HL4:=hide hd;have HB4:=hide hbb4;clear hl4 hb4 hbb4 hvn hd;go_wp2;go_ret3;exact HBAD.out _ _ _ HRR.out HL4.out HB4.out
end
end Go.Proofs.YtjbdncknooeplaaGreatDoor
namespace Go.Proofs.YtjbdncknooeplaaGreatDoor
open Go.RowKit Go.Maps
set_option linter.unusedVariables false
set_option linter.unusedSimpArgs false
section
variable {B:Nat} {w:World} {L:List Item} {i q p:Nat} {A:AD}
end
end Go.Proofs.YtjbdncknooeplaaGreatDoor
namespace Go.Proofs.YtjbdncknooeplaaGreatDoor
open Go.RowKit Go.Maps
set_option linter.unusedVariables false
def loadN (ns:List Int) (A:AD) (g:AL) (first:Int):List Key×Int×AD×AL:=
 if consec ns=false then ([],60,A,{ g with segs:=ns.map seg0 })
 else
  let R:=rdFin A g.name.data.toList ⟨[],0,ns.map seg0,false⟩ ns.length 0
  if R.2.torn=true∧R.1<ns.length then ([],60,A,{ g with segs:=R.2.segs,next:=R.2.next })
  else
   let nx:=if R.2.pay=[] then first else R.2.next
   let g3:AL:={ g with segs:=R.2.segs,next:=nx }
   if first<nx - R.2.pay.length∨nx<first then ([],60,A,g3)
   else
    let T:=if R.2.torn=true then A.trunc (fileL g.name.data.toList (R.2.segs.getLastD ⟨0,0,0⟩).num) (R.2.segs.getLastD ⟨0,0,0⟩).size else (0,A)
    if T.1≠0 then ([],T.1,T.2,g3)
    else if (T.2.syncs g3.files).1≠0 then ([],(T.2.syncs g3.files).1,(T.2.syncs g3.files).2,g3)
    else (R.2.pay.drop (first - (nx - R.2.pay.length)).toNat,0,(T.2.syncs g3.files).2,g3)
theorem loadA_N (A:AD) (g:AL) (first:Int):loadA A g first=loadN (numsL A g.name.data.toList) A g first:=rfl
theorem sortN_sorted {ns:List Int} (h:ns.Pairwise (·≤·)):sortN ns=ns:=by
 unfold sortN
 exact List.mergeSort_of_pairwise (h.imp (fun h=>decide_eq_true h))
def nmLog:ByteArray:=⟨#[108,111,103]⟩
def fA0:AD:=⟨100000,[],p0⟩
def fg1:AL:=⟨nmLog,64,[],0,false⟩
def fR1:Int×AD×AL:=appA fA0 fg1 ⟨#[97]⟩
def fR2:Int×AD×AL:=appA (fR1.2.1.fallen 2) fR1.2.2 ⟨#[98]⟩
def fA3:AD:=(fR2.2.1.crash []).on
def fR4:List Key×Int×AD×AL:=loadN [0,1] fA3 fg1 0
def fR5:Int×AD×AL:=appA fR4.2.2.1 fR4.2.2.2 ⟨#[99]⟩
def fR6:List Key×Int×AD×AL:=loadN [0,1] fR5.2.1 fg1 1
set_option maxRecDepth 100000 in
theorem f_err:fR1.1=0∧fR2.1=9∧fR4.2.1=0∧fR5.1=0∧fR6.2.1=0:=by decide +kernel
set_option maxRecDepth 100000 in
theorem f_pay:fR4.1=[[97]]∧fR6.1=[[99]]∧fR4.2.2.2.next=1:=by decide +kernel
set_option maxRecDepth 100000 in
theorem f_names:fR5.2.2.files=[[108,111,103,46,48],[108,111,103,46,49]]:=by decide +kernel
set_option maxRecDepth 100000 in
theorem f_found:foundL fA3 nmLog.data.toList=[0,1]∧foundL fR5.2.1 nmLog.data.toList=[0,1]:=by decide +kernel
set_option maxRecDepth 100000 in
theorem f_off:fA3.pow.off=false∧fR5.2.1.pow.off=false:=by decide +kernel
theorem f_nums3:numsL fA3 nmLog.data.toList=[0,1]:=by unfold numsL;rw [f_found.1];exact sortN_sorted (by decide)
theorem f_nums5:numsL fR5.2.1 nmLog.data.toList=[0,1]:=by unfold numsL;rw [f_found.2];exact sortN_sorted (by decide)
set_option maxRecDepth 100000 in
theorem f_args:¬(lnameOk nmLog.data.toList=false∨(64:Int)<64∨(1048576:Int)<64∨(0:Int)<0∨(1152921504606846976:Int)<0):=by decide +kernel
set_option maxRecDepth 100000 in
theorem f_args1:¬(lnameOk nmLog.data.toList=false∨(64:Int)<64∨(1048576:Int)<64∨(1:Int)<0∨(1152921504606846976:Int)<1):=by decide +kernel
theorem f_open1:openA fA0 nmLog 64 0=⟨some fg1,[],0,fA0⟩:=by
 have h0:numsL fA0 nmLog.data.toList=[]:=by
  have:foundL fA0 nmLog.data.toList=[]:=rfl
  unfold numsL;rw [this];exact sortN_sorted (by simp)
 unfold openA
 rw [if_neg f_args,if_neg (by decide),loadA_N]
 show (let Z:=loadN (numsL fA0 nmLog.data.toList) fA0 ⟨nmLog,64,[],0,false⟩ 0;if Z.2.1≠0 then (⟨none,[],Z.2.1,Z.2.2.1⟩:ROpen) else ⟨some Z.2.2.2,Z.1,0,Z.2.2.1⟩)=_
 rw [h0];rfl
theorem f_open3:openA fA3 nmLog 64 0=⟨some fR4.2.2.2,[[97]],0,fR4.2.2.1⟩:=by
 have hz:loadN [0,1] fA3 ⟨nmLog,64,[],0,false⟩ 0=fR4:=rfl;unfold openA
 rw [if_neg f_args,if_neg (by rw [f_off.1];decide),loadA_N]
 show (let Z:=loadN (numsL fA3 nmLog.data.toList) fA3 ⟨nmLog,64,[],0,false⟩ 0;if Z.2.1≠0 then (⟨none,[],Z.2.1,Z.2.2.1⟩:ROpen) else ⟨some Z.2.2.2,Z.1,0,Z.2.2.1⟩)=_
 rw [f_nums3,hz];simp only
 rw [if_neg (by rw [f_err.2.2.1];simp),f_pay.1]
theorem f_open5:openA fR5.2.1 nmLog 64 1=⟨some fR6.2.2.2,[[99]],0,fR6.2.2.1⟩:=by
 have hz:loadN [0,1] fR5.2.1 ⟨nmLog,64,[],0,false⟩ 1=fR6:=rfl;unfold openA
 rw [if_neg f_args1,if_neg (by rw [f_off.2];decide),loadA_N]
 show (let Z:=loadN (numsL fR5.2.1 nmLog.data.toList) fR5.2.1 ⟨nmLog,64,[],0,false⟩ 1;if Z.2.1≠0 then (⟨none,[],Z.2.1,Z.2.2.1⟩:ROpen) else ⟨some Z.2.2.2,Z.1,0,Z.2.2.1⟩)=_
 rw [f_nums5,hz];simp only
 rw [if_neg (by rw [f_err.2.2.2.2];simp),f_pay.2.1]
def AL.fitB (g:AL):Bool:=decide (g.name.size≤24) && g.segs.all (fun s=>decide (0≤s.size) && decide (s.size≤1048576) && decide (0≤s.num) && decide (s.num≤9999999)) && decide (g.segs.length≤10000000) && decide (-1≤g.next) && decide (g.next≤1152921504606846976+1000000)
theorem AL.fit_of {g:AL} (h:g.fitB=true):g.Fit:=by
 unfold AL.fitB at h;simp only [Bool.and_eq_true,decide_eq_true_eq,List.all_eq_true] at h
 exact ⟨h.1.1.1.1,fun s hs=>⟨⟨(h.1.1.1.2 s hs).1.1.1,(h.1.1.1.2 s hs).1.1.2⟩,(h.1.1.1.2 s hs).1.2,(h.1.1.1.2 s hs).2⟩,h.1.1.2,h.1.2,h.2⟩
set_option maxRecDepth 100000 in
theorem f_fits:fg1.fitB=true∧fR1.2.2.fitB=true∧fR4.2.2.2.fitB=true∧fR5.2.2.fitB=true:=by decide +kernel
set_option linter.unusedSimpArgs false
theorem n_new {B:Nat} {w:World} {L:List Item} (h:Lies B w L) (cap:Int) (h0:0≤cap) (h1:cap≤16777216):Calls Tryz.prog 6 #[.int .i64 cap] w fun e w'=>∃p,e=.returned (.tuple #[.pointer (some ⟨p,0,none⟩),.int .i64 0])∧Lies B w' (L++[.disk p (AD.fresh cap)])∧Below B w w':=by
 refine (new_good w cap h0 h1).mono ?_;rintro e w' ⟨rfl,hd,hb⟩
 refine ⟨_,rfl,h.push (S':=foot (w.heap.size+1) w.heap.size (fun _=>FC.void) (AD.fresh cap).fs) hb ⟨w.heap.size,_,hd,fun _=>Iff.rfl⟩ ?_,hb.mono h.base⟩
 rintro b (rfl | rfl | ⟨k,F,hk,_⟩)
 ·exact Nat.le_succ _
 ·exact Nat.le_refl _
 ·simp [AD.fresh,fget] at hk
theorem open_some {B:Nat} {w:World} {L:List Item} {i p:Nat} {A A':AD} {g:AL} {ks:List Key} (h:Lies B w L) (hi:L[i]?=some (.disk p A)) (he:Env B w) (nm:ByteArray) (hn:nm.size≤140737488355328) (sz first:Int) (hs:-9223372036854775808≤sz∧sz≤9223372036854775807) (hf:-9223372036854775808≤first∧first≤9223372036854775807) (hR:openA A nm sz first=⟨some g,ks,0,A'⟩) :
 Calls Tryz.prog 10 #[.pointer (some ⟨p,0,none⟩),.string nm,.int .i64 sz,.int .i64 first] w fun e w'=>∃l ad cap,e=.returned (.tuple #[.pointer (some ⟨l,0,none⟩),.slice ad ks.length cap,.int .i64 0])∧RowAt w' ad (ks.map encStr)∧Lies B w' (L.set i (.disk p A')++[.log l p g,.sub (.slice ad ks.length cap) ks])∧Below B w w':=by
 refine (open_any h hi he nm hn sz first hs hf _ rfl).mono ?_;rintro e w' ⟨h1,hb⟩;rw [hR] at h1;obtain ⟨l,v,rfl,hl⟩:=h1
 obtain ⟨ad,cap,rfl,hr,_⟩:=hl.subAt (q:=(L.set i (.disk p A')).length+1) (by rw [get_tail];rfl)
 exact ⟨l,ad,cap,rfl,hr,hl,hb⟩
set_option maxRecDepth 100000 in
set_option maxHeartbeats 8000000 in
theorem wfirst_any {B:Nat} (w:World) (he0:Env B w) (hB:B≤w.heap.size):Calls Tryz.prog 7 #[] w fun e w'=>e=.returned (.bool true)∧Below w.heap.size w w':=by
 have he:Env w.heap.size w:=⟨he0.tab,he0.syn,he0.rng,Nat.le_trans he0.low hB⟩;obtain ⟨b,hb⟩:∃b,w.heap.size=b:=⟨_,rfl⟩;rw [hb] at he ⊢;have hl0:Lies b w []:=Lies.nil (Nat.le_of_eq hb.symm);have HENV:=hide he
 have HNEW:=hide (n_new hl0 100000 (by decide) (by decide))
 obtain ⟨A0,hA0⟩:∃x,fA0=x:=⟨_,rfl⟩;obtain ⟨A1,hA1⟩:∃x,fR1.2.1=x:=⟨_,rfl⟩;obtain ⟨G1,hG1⟩:∃x,fR1.2.2=x:=⟨_,rfl⟩;obtain ⟨A2,hA2⟩:∃x,fR2.2.1=x:=⟨_,rfl⟩;obtain ⟨G2,hG2⟩:∃x,fR2.2.2=x:=⟨_,rfl⟩;obtain ⟨A4,hA4⟩:∃x,fR4.2.2.1=x:=⟨_,rfl⟩;obtain ⟨G4,hG4⟩:∃x,fR4.2.2.2=x:=⟨_,rfl⟩;obtain ⟨A5,hA5⟩:∃x,fR5.2.1=x:=⟨_,rfl⟩;obtain ⟨G5,hG5⟩:∃x,fR5.2.2=x:=⟨_,rfl⟩;obtain ⟨A6,hA6⟩:∃x,fR6.2.2.1=x:=⟨_,rfl⟩;obtain ⟨G6,hG6⟩:∃x,fR6.2.2.2=x:=⟨_,rfl⟩;obtain ⟨g1,hg1⟩:∃x,fg1=x:=⟨_,rfl⟩
 have HO1:Hid (openA A0 ⟨#[108,111,103]⟩ 64 0=⟨some g1,[],0,A0⟩):=by show _=_;rw [←hA0,←hg1];exact f_open1
 have HR1:Hid (appA A0 g1 ⟨#[97]⟩=(0,A1,G1)):=by show _=_;rw [←hA0,←hg1,←hA1,←hG1];exact Prod.ext f_err.1 rfl
 have HR2:Hid (appA (A1.fallen 2) G1 ⟨#[98]⟩=(9,A2,G2)):=by show _=_;rw [←hA1,←hG1,←hA2,←hG2];exact Prod.ext f_err.2.1 rfl
 have HO3:Hid (openA (A2.crash []).on ⟨#[108,111,103]⟩ 64 0=⟨some G4,[[97]],0,A4⟩):=by show _=_;rw [←hA2,←hA4,←hG4];exact f_open3
 have HR5:Hid (appA A4 G4 ⟨#[99]⟩=(0,A5,G5)):=by show _=_;rw [←hA4,←hG4,←hA5,←hG5];exact Prod.ext f_err.2.2.2.1 rfl
 have HO6:Hid (openA A5 ⟨#[108,111,103]⟩ 64 1=⟨some G6,[[99]],0,A6⟩):=by show _=_;rw [←hA5,←hA6,←hG6];exact f_open5
 have HF1:Hid g1.Fit:=by show AL.Fit _;rw [←hg1];exact AL.fit_of f_fits.1
 have HF2:Hid G1.Fit:=by show AL.Fit _;rw [←hG1];exact AL.fit_of f_fits.2.1
 have HF4:Hid G4.Fit:=by show AL.Fit _;rw [←hG4];exact AL.fit_of f_fits.2.2.1
 have HF5:Hid G5.Fit:=by show AL.Fit _;rw [←hG5];exact AL.fit_of f_fits.2.2.2
 have HNX:Hid (G4.next=1):=by show _=_;rw [←hG4];exact f_pay.2.2
 have HNM:Hid (G5.files=[[108,111,103,46,48],[108,111,103,46,49]]):=by show _=_;rw [←hG5];exact f_names
 have HA0:Hid (AD.fresh 100000=A0):=by show _=_;rw [←hA0];rfl
 clear hA0 hA1 hG1 hA2 hG2 hA4 hG4 hA5 hG5 hA6 hG6 hg1 hl0 he he0
 go_enter Tryz.func7,Tryz.ntmps7
 go_wp2_with fail;refine (HNEW.out).mono ?_;rintro e w1 ⟨p,rfl,hl1,hb1⟩;rw [HA0.out] at hl1
 change Lies b w1 [.disk p A0] at hl1
 have HB1:=hide hb1
 have HC:=hide (open_some hl1 (i:=0) rfl (HENV.out.below hb1) ⟨#[108,111,103]⟩ (by decide) 64 0 (by omega) (by omega) HO1.out)
 clear hl1 hb1;go_wp2_with fail;refine (HC.out).mono ?_;rintro e w2 ⟨l1,ad1,cap1,rfl,_,hl2,hb2⟩
 change Lies b w2 [.disk p A0,.log l1 p g1,.sub (.slice ad1 0 cap1) []] at hl2
 have hbb2:=HB1.out.trans hb2;have HB2:=hide hbb2
 have HC2:=hide (append_any hl2 (i:=0) (j:=1) rfl rfl (by decide) (HENV.out.below hbb2) HF1.out ⟨#[97]⟩ _ HR1.out)
 clear hl2 hb2 hbb2;simp only [List.length_nil];go_wp2_with fail;refine (HC2.out).mono ?_;rintro e w3 ⟨rfl,hl3,hb3⟩
 change Lies b w3 [.disk p A1,.log l1 p G1,.sub (.slice ad1 0 cap1) []] at hl3
 have HB3:=hide (HB2.out.trans hb3)
 have HC3:=hide (s_fall hl3 (i:=0) rfl 2 (by omega))
 clear hl3 hb3;go_wp2_with fail;refine (HC3.out).mono ?_;rintro e w4 ⟨rfl,hl4,hb4⟩
 change Lies b w4 [.disk p (A1.fallen 2),.log l1 p G1,.sub (.slice ad1 0 cap1) []] at hl4
 have hbb4:=HB3.out.trans hb4;have HB4:=hide hbb4
 have HC4:=hide (append_any hl4 (i:=0) (j:=1) rfl rfl (by decide) (HENV.out.below hbb4) HF2.out ⟨#[98]⟩ _ HR2.out)
 clear hl4 hb4 hbb4;go_wp2_with fail;refine (HC4.out).mono ?_;rintro e w5 ⟨rfl,hl5,hb5⟩
 change Lies b w5 [.disk p A2,.log l1 p G2,.sub (.slice ad1 0 cap1) []] at hl5
 have HB5:=hide (HB4.out.trans hb5);have HC5:=hide (s_crash0 hl5 (i:=0) rfl);clear hl5 hb5;go_wp2_with fail;refine (HC5.out).mono ?_;rintro e w6 ⟨rfl,hl6,hb6⟩
 change Lies b w6 [.disk p (A2.crash []),.log l1 p G2,.sub (.slice ad1 0 cap1) []] at hl6
 have HB6:=hide (HB5.out.trans hb6);have HC6:=hide (s_on hl6 (i:=0) rfl);clear hl6 hb6;go_wp2_with fail;refine (HC6.out).mono ?_;rintro e w7 ⟨rfl,hl7,hb7⟩
 change Lies b w7 [.disk p (A2.crash []).on,.log l1 p G2,.sub (.slice ad1 0 cap1) []] at hl7
 have hbb7:=HB6.out.trans hb7;have HB7:=hide hbb7
 have HC7:=hide (open_some hl7 (i:=0) rfl (HENV.out.below hbb7) ⟨#[108,111,103]⟩ (by decide) 64 0 (by omega) (by omega) HO3.out)
 clear hl7 hb7 hbb7;go_wp2_with fail;refine (HC7.out).mono ?_;rintro e w8 ⟨l2,ad2,cap2,rfl,hr8,hl8,hb8⟩
 change Lies b w8 [.disk p A4,.log l1 p G2,.sub (.slice ad1 0 cap1) [],.log l2 p G4,.sub (.slice ad2 1 cap2) [[97]]] at hl8
 have HB8:=hide (HB7.out.trans hb8);have HL8:=hide hl8;have HR8:=hide hr8;clear hl8 hb8 hr8;go_wp2_with fail;have hx9:Below w8.heap.size w8 (w8.alloc (.cells #[.string ⟨#[97]⟩] 9)):=(Below.refl _ _).alloc (Nat.le_refl _) _
 have hy9:RowAt (w8.alloc (.cells #[.string ⟨#[97]⟩] 9)) ad2 (([[97]]:List Key).map encStr):=HR8.out.same (Turn.of_below hx9 (fun _=>False)) (fun _ _ _=>id)
 have hz9:RowAt (w8.alloc (.cells #[.string ⟨#[97]⟩] 9)) (some ⟨w8.heap.size,0,none⟩) (([[97]]:List Key).map encStr):=.inr ⟨_,0,rfl,by simp,fun i hi=>by
  rw [cell_of_row _ w8.heap.size _ _ _ (0,0) (heap_alloc_new w8 _)];have hi':i<1:=hi
  match i,hi' with
  | 0,_=>rfl⟩
 refine (sameTexts_any _ ad2 _ cap2 1 [[97]] [[97]] hy9 hz9 (by decide) (by decide)).mono ?_
 rintro e w9 ⟨rfl,hw9⟩
 rw [show (([[97]]:List Key) == [[97]])=true by decide]
 have hl9:=(HL8.out.below hx9).below hw9;have hbb9:=HB8.out.trans ((hx9.mono HL8.out.base).trans (hw9.mono (HL8.out.below hx9).base));have HL9:=hide hl9;have HB9:=hide hbb9;have hnx:=wnext_any hl9 (j:=3) rfl;rw [HNX.out] at hnx;have HC9:=hide hnx;clear hx9 hy9 hz9 hw9 hl9 hbb9 hnx;go_wp2_with fail;refine (HC9.out).mono ?_;rintro e w10 ⟨rfl,rfl⟩
 have HC10:=hide (append_any HL9.out (i:=0) (j:=3) rfl rfl (by decide) (HENV.out.below HB9.out) HF4.out ⟨#[99]⟩ _ HR5.out)
 go_wp2_with fail;refine (HC10.out).mono ?_;rintro e w11 ⟨rfl,hl11,hb11⟩
 change Lies b w11 [.disk p A5,.log l1 p G2,.sub (.slice ad1 0 cap1) [],.log l2 p G5,.sub (.slice ad2 1 cap2) [[97]]] at hl11
 have hbb11:=HB9.out.trans hb11;have HB11:=hide hbb11
 have HC11:=hide (names_any hl11 (j:=3) rfl ⟨HF5.out.name,fun s hs=>by have:=HF5.out.segs s hs;omega,HF5.out.len⟩ (HENV.out.below hbb11))
 clear hl11 hb11 hbb11;go_wp2_with fail;refine (HC11.out).mono ?_;rintro e w12 ⟨v,rfl,hl12,hb12⟩;rw [HNM.out] at hl12;have hrow:=hl12.rowOf (i:=5) (e:=9) (v:=v) (xs:=([[108,111,103,46,48],[108,111,103,46,49]]:List Key).map encStr) rfl;obtain ⟨ad3,cap3,hv,hr12,_,_⟩:=row_at hrow
 change v=.slice ad3 2 cap3 at hv
 subst hv
 change Lies b w12 [.disk p A5,.log l1 p G2,.sub (.slice ad1 0 cap1) [],.log l2 p G5,.sub (.slice ad2 1 cap2) [[97]],.row 9 (.slice ad3 2 cap3) (([[108,111,103,46,48],[108,111,103,46,49]]:List Key).map encStr)] at hl12
 have hbb12:=HB11.out.trans hb12;have HB12:=hide hbb12
 have HC12:=hide (open_some hl12 (i:=0) rfl (HENV.out.below hbb12) ⟨#[108,111,103]⟩ (by decide) 64 1 (by omega) (by omega) HO6.out)
 clear hl12 hb12 hbb12 hrow hr12;go_wp2_with fail;refine (HC12.out).mono ?_;rintro e w13 ⟨l3,ad4,cap4,rfl,hr13,hl13,hb13⟩
 change Lies b w13 [.disk p A6,.log l1 p G2,.sub (.slice ad1 0 cap1) [],.log l2 p G5,.sub (.slice ad2 1 cap2) [[97]],.row 9 (.slice ad3 2 cap3) (([[108,111,103,46,48],[108,111,103,46,49]]:List Key).map encStr),.log l3 p G6,.sub (.slice ad4 1 cap4) [[99]]] at hl13
 have HB13:=hide (HB12.out.trans hb13);have HL13:=hide hl13;have HR13:=hide hr13;clear hl13 hb13 hr13;go_wp2_with fail;have hx14:Below w13.heap.size w13 (w13.alloc (.cells #[.string ⟨#[99]⟩] 9)):=(Below.refl _ _).alloc (Nat.le_refl _) _
 have hy14:RowAt (w13.alloc (.cells #[.string ⟨#[99]⟩] 9)) ad4 (([[99]]:List Key).map encStr):=HR13.out.same (Turn.of_below hx14 (fun _=>False)) (fun _ _ _=>id)
 have hz14:RowAt (w13.alloc (.cells #[.string ⟨#[99]⟩] 9)) (some ⟨w13.heap.size,0,none⟩) (([[99]]:List Key).map encStr):=.inr ⟨_,0,rfl,by simp,fun i hi=>by
  rw [cell_of_row _ w13.heap.size _ _ _ (0,0) (heap_alloc_new w13 _)];have hi':i<1:=hi
  match i,hi' with
  | 0,_=>rfl⟩
 refine (sameTexts_any _ ad4 _ cap4 1 [[99]] [[99]] hy14 hz14 (by decide) (by decide)).mono ?_
 rintro e w14 ⟨rfl,hw14⟩
 rw [show (([[99]]:List Key) == [[99]])=true by decide]
 have hl14:=(HL13.out.below hx14).below hw14;have hbb14:=HB13.out.trans ((hx14.mono HL13.out.base).trans (hw14.mono (HL13.out.below hx14).base));have HL14:=hide hl14;have HB14:=hide hbb14;have hrow:=hl14.rowOf (i:=5) (e:=9) (v:=.slice ad3 2 cap3) (xs:=([[108,111,103,46,48],[108,111,103,46,49]]:List Key).map encStr) rfl;obtain ⟨ad5,cap5,hv,hr14,_,_⟩:=row_at hrow;cases hv;have HR14:=hide hr14;clear hx14 hy14 hz14 hw14 hl14 hbb14 hrow hr14;go_wp2_with fail;have hx15:Below w14.heap.size w14 (w14.alloc (.cells #[.string ⟨#[108,111,103,46,48]⟩,.string ⟨#[108,111,103,46,49]⟩] 9)):=(Below.refl _ _).alloc (Nat.le_refl _) _
 have hy15:RowAt (w14.alloc (.cells #[.string ⟨#[108,111,103,46,48]⟩,.string ⟨#[108,111,103,46,49]⟩] 9)) ad3 (([[108,111,103,46,48],[108,111,103,46,49]]:List Key).map encStr):=HR14.out.same (Turn.of_below hx15 (fun _=>False)) (fun _ _ _=>id)
 have hz15:RowAt (w14.alloc (.cells #[.string ⟨#[108,111,103,46,48]⟩,.string ⟨#[108,111,103,46,49]⟩] 9)) (some ⟨w14.heap.size,0,none⟩) (([[108,111,103,46,48],[108,111,103,46,49]]:List Key).map encStr):=.inr ⟨_,0,rfl,by simp,fun i hi=>by
  rw [cell_of_row _ w14.heap.size _ _ _ (0,0) (heap_alloc_new w14 _)];have hi':i<2:=hi
  match i,hi' with
  | 0,_=>rfl
  | 1,_=>rfl⟩
 refine (sameTexts_any _ ad3 _ cap3 2 [[108,111,103,46,48],[108,111,103,46,49]] [[108,111,103,46,48],[108,111,103,46,49]] hy15 hz15 (by decide) (by decide)).mono ?_
 rintro e w15 ⟨rfl,hw15⟩
 rw [show (([[108,111,103,46,48],[108,111,103,46,49]]:List Key) == [[108,111,103,46,48],[108,111,103,46,49]])=true by decide]
 have hl15:=(HL14.out.below hx15).below hw15;have hbb15:=HB14.out.trans ((hx15.mono HL14.out.base).trans (hw15.mono (HL14.out.below hx15).base));have HB15:=hide hbb15;clear hx15 hy15 hz15 hw15 hl15 hbb15;go_wp2;go_ret;exact ⟨rfl,HB15.out⟩
end Go.Proofs.YtjbdncknooeplaaGreatDoor
