import Derived.Test.YtdffmmiegpndkaaGreatDoorWApp
import Derived.Test.YtdffmmiegpndkaaGreatDoorWNames
namespace Go.Proofs.YtdffmmiegpndkaaGreatDoor
open Go.RowKit Go.Maps
set_option linter.unusedVariables false
set_option linter.unusedSimpArgs false
def belowA (s:ASeg) (n:Int):Bool:=s.size == 0 || decide (s.fin≤n)
def resetL (nm:Key) (n:Int):AD→List ASeg→Int×AD×List ASeg×Bool
 | A,[]=>(0,A,[],false)
 | A,s :: r=>if belowA s n=true then (if (A.remove (fileL nm s.num)).1≠0 then ((A.remove (fileL nm s.num)).1,(A.remove (fileL nm s.num)).2,s :: r,true) else resetL nm n (A.remove (fileL nm s.num)).2 r) else (0,A,s :: r,false)
def resetA (A:AD) (g:AL) (n:Int):Int×AD×AL:=
 if g.dead=true then (60,A,g)
 else if n<0∨g.next<n then (1,A,g)
 else
  let r:=resetL g.name.data.toList n A g.segs
  (r.1,r.2.1,{ g with segs:=r.2.2.1,dead:=r.2.2.2 })
theorem allBelow_any (s:ASeg) (n:Int) (w:World):Calls Tryz.prog 38 #[.agg #[.int .i64 s.num,.int .i64 s.size,.int .i64 s.fin],.int .i64 n] w fun e w'=>e=.returned (.bool (belowA s n))∧Below w.heap.size w w':=by
 unfold belowA
 by_cases h0:s.size=0
 ·have k0:(s.size == 0)=true:=by simpa using h0
  rw [k0,Bool.true_or];clear h0
  go_enter Tryz.func38,Tryz.ntmps38
  go_wp2;go_ret
  exact ⟨rfl,by first | exact Below.refl _ _ | exact (Below.refl _ _).alloc (Nat.le_refl _) _⟩
 ·have k0:(s.size == 0)=false:=by simpa using h0
  rw [k0,Bool.false_or];clear h0
  go_enter Tryz.func38,Tryz.ntmps38
  go_wp2;go_ret
  exact ⟨rfl,by first | exact Below.refl _ _ | exact (Below.refl _ _).alloc (Nat.le_refl _) _⟩
def lenAt (l:Nat) (w:World):Nat:=match w.cell? ⟨l,3,none⟩ with
 | some (.slice _ n _)=>n
 | _=>0
theorem lenAt_set {w:World} {l n cap:Nat} {ad:Option Addr} {v:Value} (h:(w.cell? ⟨l,3,none⟩).isSome=true) (hv:v=.slice ad n cap:=by rfl):lenAt l (w.setCell ⟨l,3,none⟩ v)=n:=by
 unfold lenAt;rw [World.cell?_setCell_same' _ _ _ h,hv]
theorem SegRow.tail {w:World} {b off n cap:Nat} {s:ASeg} {gs:List ASeg} {r:Option Nat} (h:SegRow w (.slice (some ⟨b,off,none⟩) (n+1) (cap+1)) (s :: gs) r):SegRow w (.slice (if cap=0 then some ⟨b,off,none⟩ else some ⟨b,off+3,none⟩) n cap) gs r:=by
 obtain ⟨ad,cp,hv,hle,h1⟩:=h;cases hv
 rcases h1 with ⟨e1,_⟩ | ⟨b',off',e1,e2,hbl,hcs,hsm,hfz⟩
 ·cases e1
 cases e1;simp only [List.length_cons] at hle
 by_cases h0:cap=0
 ·rw [if_pos h0]
  exact ⟨_,cap,rfl,by omega,.inr ⟨b,off,rfl,e2,hbl,fun q hq=>by omega,fun q hq=>by omega,hfz⟩⟩
 rw [if_neg h0]
 refine ⟨_,cap,rfl,by omega,.inr ⟨b,off+3,rfl,e2,hbl,fun q hq=>?_,fun q hq=>?_,hfz⟩⟩
 ·rw [show off+3+q=off+(3+q) by omega,hcs (3+q) (by simp only [List.length_cons];omega)]
  show (s.cs++cellsG gs)[3+q]?=_
  rw [List.getElem?_append_right (by show 3≤_;omega)]
  congr 1
  show 3+q - 3=q
  omega
 ·rw [show off+3+q=off+(3+q) by omega];exact hsm (3+q) (by omega)
section
variable {B:Nat} {w:World} {L:List Item} {i j l p:Nat} {A:AD} {g:AL}
set_option maxRecDepth 100000 in
set_option maxHeartbeats 4000000 in
theorem reset_any (h:Lies B w L) (hi:L[i]?=some (.disk p A)) (hj:L[j]?=some (.log l p g)) (hij:i≠j) (he:Env B w) (hg:g.Fit) (n:Int) (hn:-9223372036854775808≤n∧n≤9223372036854775807) (R:Int×AD×AL) (hR:resetA A g n=R) :
 Calls Tryz.prog 22 #[.pointer (some ⟨l,0,none⟩),.int .i64 n] w fun e w'=>e=.returned (.int .i64 R.1)∧Lies B w' ((L.set i (.disk p R.2.1)).set j (.log l p R.2.2))∧Below B w w':=by
 obtain ⟨v0,r0,hat0,hBl⟩:=h.logAt hj;have c5:=hat0.c5;have c4:=hat0.c4
 have hK:Lies B w ((L.set i (.disk p A)).set j (.log l p g)):=by rw [hset_keep hi,hset_keep hj];exact h
 have HL:=hide hK
 cases hd:g.dead with
 | true=>
  have hRR:R=(60,A,g):=by rw [←hR];unfold resetA;rw [if_pos hd]
  rw [hd] at c5;clear h hat0 hR hd hK
  go_enter Tryz.func22,Tryz.ntmps22
  go_wp2;go_ret
  try rw [hRR]
  exact ⟨rfl,HL.out,Below.refl _ _⟩
 | false=>
  rw [hd] at c5
  by_cases hbad:n<0∨g.next<n
  ·have hRR:R=(1,A,g):=by rw [←hR];unfold resetA;rw [if_neg (by rw [hd];decide),if_pos hbad]
   clear h hat0 hR hd hK
   by_cases hb1:n<0
   ·have k1:decide (n<0)=true:=decide_eq_true hb1
    clear hbad
    go_enter Tryz.func22,Tryz.ntmps22
    go_wp2;go_ret
    try rw [hRR]
    exact ⟨rfl,HL.out,Below.refl _ _⟩
   ·have k1:decide (n<0)=false:=decide_eq_false hb1
    have k2:decide (g.next<n)=true:=decide_eq_true (hbad.resolve_left hb1);clear hbad
    go_enter Tryz.func22,Tryz.ntmps22
    go_wp2;go_ret
    try rw [hRR]
    exact ⟨rfl,HL.out,Below.refl _ _⟩
  ·have k1:decide (n<0)=false:=decide_eq_false (fun hc=>hbad (.inl hc))
   have k2:decide (g.next<n)=false:=decide_eq_false (fun hc=>hbad (.inr hc))
   obtain ⟨RL,hRL⟩:∃x,resetL g.name.data.toList n A g.segs=x:=⟨_,rfl⟩
   have hRR:R=(RL.1,RL.2.1,{ g with segs:=RL.2.2.1,dead:=RL.2.2.2 }):=by
    rw [←hR];unfold resetA;rw [if_neg (by rw [hd];decide),if_neg hbad];simp only;rw [hRL]
   have HRR:=hide hRR;have HRL:=hide hRL;have HD:=hide hd;have HI:=hide hi;have HJ:=hide hj;have HIJ:=hide hij;have HENV:=hide he;have HG:=hide hg;clear h hat0 hR hd hK hbad hRL hRR hi hj hij he hg
   go_enter Tryz.func22,Tryz.ntmps22
   go_wp2
   go_loopw [5] (fun x wr=>∃(gs:List ASeg) (Ak:AD),(∀s∈gs,s∈g.segs)∧resetL g.name.data.toList n Ak gs=RL∧Lies B wr ((L.set i (.disk p Ak)).set j (.log l p { g with segs:=gs }))∧Below B w wr) (fun x wr=>lenAt l wr)
   case atStart=>exact ⟨g.segs,A,fun s h=>h,HRL.out,HL.out,Below.refl _ _⟩
   case round=>
    obtain ⟨gs,Ak,hin,hq,hLr,hbr⟩:=hrel;have hil:=(List.getElem?_eq_some_iff.1 HI.out).1;have hjl:=(List.getElem?_eq_some_iff.1 HJ.out).1
    have hjr:((L.set i (.disk p Ak)).set j (.log l p { g with segs:=gs }))[j]?=some (.log l p { g with segs:=gs }):=List.getElem?_set_self (by rw [List.length_set];exact hjl)
    have hir:((L.set i (.disk p Ak)).set j (.log l p { g with segs:=gs }))[i]?=some (.disk p Ak):=by rw [List.getElem?_set_ne (fun e=>HIJ.out e.symm)];exact List.getElem?_set_self hil
    obtain ⟨v,hp⟩:=hLr.pin hjr
    obtain ⟨LP,hLP⟩:∃x,((L.set i (.disk p Ak)).set j (.log l p { g with segs:=gs })).set j (.logv l p { g with segs:=gs } v)=x:=⟨_,rfl⟩
    rw [hLP] at hp
    have hPi:LP[i]?=some (.disk p Ak):=by rw [←hLP,List.getElem?_set_ne (fun e=>HIJ.out e.symm)];exact hir
    have hPj:LP[j]?=some (.logv l p { g with segs:=gs } v):=by rw [←hLP];exact List.getElem?_set_self (by rw [List.length_set,List.length_set];exact hjl)
    have HLIST:Hid (∀(A':AD) (Z:Item),(LP.set i (.disk p A')).set j Z=(L.set i (.disk p A')).set j Z):=fun A' Z=>by
     rw [←hLP,List.set_set,List.set_comm _ _ (fun e=>HIJ.out e.symm),List.set_set,List.set_set]
    have HPJ:Hid (∀(A':AD),(LP.set i (.disk p A'))[j]?=some (.logv l p { g with segs:=gs } v)):=fun A'=>by rw [List.getElem?_set_ne HIJ.out];exact hPj
    obtain ⟨r,hat,_⟩:=hp.logv hPj;have c3:=hat.c3;have c0:=hat.c0
    cases gs with
    | nil=>
     obtain ⟨ad,cap,hv,_⟩:=hat.row;subst hv
     have hRL0:RL=(0,Ak,[],false):=by rw [←hq];rfl
     have HLr:Hid (Lies B wr ((L.set i (.disk p R.2.1)).set j (.log l p R.2.2))):=by
      show Lies _ _ _
      rw [HRR.out,hRL0,←HD.out];exact hLr
     have hR1:R.1=0:=by rw [HRR.out,hRL0]
     have HBR:=hide hbr;clear hat hp hLr hbr hq hjr hir hin hPi hPj hLP HLIST HPJ;simp only [List.length_nil] at c3;go_wp2;go_ret
     try rw [hR1]
     exact ⟨rfl,HLr.out,HBR.out⟩
    | cons s gs=>
     obtain ⟨ad,cap,b,off,hv,had⟩:=form_of hat;subst hv
     obtain rfl:=had (by simp)
     obtain ⟨m,hm⟩:∃m,gs.length=m:=⟨_,rfl⟩
     have c3':wr.cell? ⟨l,3,none⟩=some (.slice (some ⟨b,off,none⟩) (m+1) cap):=by rw [←hm];exact c3
     obtain ⟨hbl,_,⟨d0,d1,d2⟩,df⟩:=seg3 hat 0 (s:=s) rfl;simp only [Nat.zero_mul,Nat.add_zero] at d0 d1 d2;have hsf:=HG.out.segs s (hin s (List.mem_cons_self))
     have q1:decide ((0:Int)<((m+1:Nat):Int))=true:=decide_eq_true (by omega)
     cases hbel:belowA s n with
     | false=>
      have hRL0:RL=(0,Ak,s :: gs,false):=by rw [←hq];unfold resetL;rw [if_neg (by rw [hbel];decide)]
      have HLr:Hid (Lies B wr ((L.set i (.disk p R.2.1)).set j (.log l p R.2.2))):=by
       show Lies _ _ _
       rw [HRR.out,hRL0,←HD.out];exact hLr
      have hR1:R.1=0:=by rw [HRR.out,hRL0]
      have hab:=allBelow_any s n wr;rw [hbel] at hab;have HAB:=hide hab;have HBR:=hide hbr;clear hat hp hbr hq hjr hir hin had c3 hab hm df hPi hPj hLP HLIST HPJ;go_wp2_with fail;refine (HAB.out).mono ?_;rintro e w2 ⟨rfl,hb2⟩;have HL2:=hide (HLr.out.below hb2);have HB2:=hide (HBR.out.trans (hb2.mono hLr.base));clear hLr hb2;go_wp2;go_ret
      try rw [hR1]
      exact ⟨rfl,HL2.out,HB2.out⟩
     | true=>
      have hab:=allBelow_any s n wr;rw [hbel] at hab;have HAB:=hide hab;have HBR:=hide hbr;have HLR:=hide hp;have HJR:=hide hPj;have HIR:=hide hPi
      have HSS:Hid (∀(W:World) (it:Item),Lies B W (LP.set i it)→(W.cell? ⟨l,0,none⟩=some (.pointer (some ⟨p,0,none⟩))∧W.cell? ⟨l,3,none⟩=some (.slice (some ⟨b,off,none⟩) (m+1) cap)∧W.cell? ⟨b,off,none⟩=some (.int .i64 s.num)∧W.cell? ⟨b,off+1,none⟩=some (.int .i64 s.size)∧W.cell? ⟨b,off+2,none⟩=some (.int .i64 s.fin))):=fun W it hl=>by
       obtain ⟨r2,hat2,_⟩:=hl.logv (by rw [List.getElem?_set_ne HIJ.out];exact hPj)
       obtain ⟨_,_,⟨a0,a1,a2⟩,_⟩:=seg3 hat2 0 (s:=s) rfl;simp only [Nat.zero_mul,Nat.add_zero] at a0 a1 a2;refine ⟨hat2.c0,?_,a0,a1,a2⟩
       rw [←hm];exact hat2.c3
      have HIN:=hide hin;have HQ:=hide hq;have HSF:=hide hsf;have HBEL:=hide hbel;have HM:=hide hm;have HBL:=hide hbl;have hlw:l<wr.heap.size:=lt_of_some hat.cells;have HLW:=hide hlw
      have HLEN:Hid (lenAt l wr=m+1):=by show _=_;unfold lenAt;rw [c3']
      clear hat hp hbr hq hjr hir hin had c3 hab df hLr hsf hbel hm hbl hlw hPi hPj hLP;go_wp2_with fail;refine (HAB.out).mono ?_;rintro e w2 ⟨rfl,hb2⟩;have hl2:=HLR.out.below hb2;have hbb2:=HBR.out.trans (hb2.mono HLR.out.base);obtain ⟨V0,hV0⟩:∃x,w2.drew=x:=⟨_,rfl⟩
      have hv0:=hl2.same (w':=w2.drew) (Nat.le_refl _) (fun _ _ _=>rfl)
      rw [hV0] at hv0
      have hvb0:Below B w V0:=by rw [←hV0];exact hbb2.drew
      have HC0:Hid (∀(q k:Nat),q<wr.heap.size→V0.cell? ⟨q,k,none⟩=wr.cell? ⟨q,k,none⟩):=fun q k hq=>by rw [←hV0];exact World.cell?_of_block (hb2.block q hq)
      have e0:=(HC0.out l 0 HLW.out).trans c0;have e3:=(HC0.out l 3 HLW.out).trans c3';have f0:=(HC0.out b off HBL.out).trans d0;have f1:=(HC0.out b (off+1) HBL.out).trans d1;have f2:=(HC0.out b (off+2) HBL.out).trans d2;obtain ⟨r4,hat4,_⟩:=hv0.logv HJR.out
      have hFz:(fileB g.name s.num).size≤maxLen:=by have:=fileB_size (b:=g.name) HG.out.name HSF.out.2.1 (by have:=HSF.out.2.2;omega);unfold maxLen;omega
      have hfile:=file_any (B:=B) l s.num s.size s.fin g.name V0 hat4.c1 (lt_of_some hat4.cells) HG.out.name HSF.out.2.1 (by have:=HSF.out.2.2;omega) (HENV.out.below hvb0) hv0.base
      have HFILE:=hide hfile;have HFZ:=hide hFz;have HV0:=hide hV0;have HL0:=hide hv0;have HVB:=hide hvb0
      have hvs:l<V0.heap.size∧b<V0.heap.size:=⟨lt_of_some hat4.cells,by
       have:=hb2.size;have h3:=HBL.out;rw [←hV0];show b<w2.heap.size;omega⟩
      have HVS:=hide hvs;clear hl2 hbb2 hb2 hv0 hvb0 hV0 hat4 hfile hFz c0 c3' d0 d1 d2 hvs;go_wp2;refine wp_region_noPanic ?_
      refine wp_region_held_drew (S:=fun wx=>wx.cell? ⟨l,0,none⟩=some (.pointer (some ⟨p,0,none⟩))∧wx.cell? ⟨l,3,none⟩=some (.slice (some ⟨b,off,none⟩) (m+1) cap)∧wx.cell? ⟨b,off,none⟩=some (.int .i64 s.num)∧wx.cell? ⟨b,off+1,none⟩=some (.int .i64 s.size)∧wx.cell? ⟨b,off+2,none⟩=some (.int .i64 s.fin)) (by kernel_rfl) (by rw [HV0.out];exact ⟨e0,e3,f0,f1,f2⟩) (fun hHeld=>?_)
      rw [HV0.out] at hHeld ⊢;refine tK 0 (some 36) (.pointer (some ⟨l,0,none⟩)) rfl hHeld ?_;simp only [Act.put,pA,pB,pC];refine tK 1 (some 37) (.pointer (some ⟨l,0,none⟩)) rfl hHeld ?_;simp only [Act.put,pA,pB,pC];refine tK 2 (some 38) (.pointer (some ⟨l,0,none⟩)) rfl hHeld ?_;simp only [Act.put,pA,pB,pC]
      refine tH 3 (some 39) (.pointer (some ⟨p,0,none⟩)) rfl (fun w hw=>by obtain ⟨hw1,hw2,hw3,hw4,hw5⟩:=hw;first | rfl | (go_simp;done) | (go_simp;rfl)) hHeld ?_
      simp only [Act.put,pA,pB,pC];refine tK 4 (some 40) (.pointer (some ⟨l,0,none⟩)) rfl hHeld ?_;simp only [Act.put,pA,pB,pC];refine tK 5 (some 41) (.pointer (some ⟨l,0,none⟩)) rfl hHeld ?_;simp only [Act.put,pA,pB,pC];refine tK 6 (some 42) (.pointer (some ⟨l,0,none⟩)) rfl hHeld ?_;simp only [Act.put,pA,pB,pC];refine tK 7 (some 43) (.pointer (some ⟨l,3,none⟩)) rfl hHeld ?_;simp only [Act.put,pA,pB,pC]
      refine tH 8 (some 44) (.slice (some ⟨b,off,none⟩) (m+1) cap) rfl (fun w hw=>by obtain ⟨hw1,hw2,hw3,hw4,hw5⟩:=hw;first | rfl | (go_simp;done) | (go_simp;rfl)) hHeld ?_
      simp only [Act.put,pA,pB,pC]
      refine tH 9 (some 45) (.pointer (some ⟨b,off,none⟩)) rfl (fun w hw=>by first | rfl | (go_simp;done) | (go_simp;rfl) | (go_simp;intro hbad;exfalso;omega)) hHeld ?_
      simp only [Act.put,pA,pB,pC]
      refine tH 10 (some 46) (.agg #[.int .i64 s.num,.int .i64 s.size,.int .i64 s.fin]) rfl (fun w hw=>by obtain ⟨hw1,hw2,hw3,hw4,hw5⟩:=hw;first | rfl | (go_simp;done) | (go_simp;rfl)) hHeld ?_
      simp only [Act.put,pA,pB,pC]
      refine rdH 11 rfl (fun K hK=>?_)
      go_simp
      refine (HFILE.out).mono ?_;rintro e W2 ⟨rfl,hb2⟩
      try go_wp2_with fail
      refine hK.out _ _ (⟨(World.cell?_of_block (hb2.block l HVS.out.1)).trans e0,(World.cell?_of_block (hb2.block l HVS.out.1)).trans e3,(World.cell?_of_block (hb2.block b HVS.out.2)).trans f0,(World.cell?_of_block (hb2.block b HVS.out.2)).trans f1,(World.cell?_of_block (hb2.block b HVS.out.2)).trans f2⟩) (fun hH=>?_)
      clear hK K hHeld;have hHeld:=hH;clear hH
      refine rdH 12 rfl (fun K hK=>?_)
      go_simp
      refine (s_remove (HL0.out.below hb2) HIR.out (fileB g.name s.num) HFZ.out).mono ?_;rintro e W3 ⟨rfl,hl3,hb3⟩
      try go_wp2_with fail
      refine hK.out _ _ (HSS.out W3 _ hl3) (fun hH=>?_)
      clear hK K hHeld;have hHeld:=hH;clear hH;refine tK 13 (some 5) (.int .i64 (Ak.remove (fileB g.name s.num).data.toList).1) rfl hHeld ?_;simp only [Act.put,pA,pB,pC]
      refine ⟨by kernel_rfl,?_⟩
      refine NoPanic.normal ?_;have hbb3:=HVB.out.trans ((hb2.mono HL0.out.base).trans hb3);obtain ⟨E,A',hQ⟩:∃e a,Ak.remove (fileB g.name s.num).data.toList=(e,a):=⟨_,_,rfl⟩;rw [hQ] at hl3 ⊢;have hQ':Ak.remove (fileL g.name.data.toList s.num)=(E,A'):=hQ;have hu:=hl3.unpin (HPJ.out A');rw [HLIST.out] at hu
      have hju:((L.set i (.disk p A')).set j (.log l p { g with segs:=s :: gs }))[j]?=some (.log l p { g with segs:=s :: gs }):=List.getElem?_set_self (by rw [List.length_set];exact hjl)
      have hcs:=HSS.out _ _ hl3
      by_cases hE:E=0
      ·subst hE
       have hq2:resetL g.name.data.toList n A' gs=RL:=by
        rw [←HQ.out];conv=>rhs;unfold resetL
        rw [if_pos HBEL.out,hQ'];simp only
        rw [if_neg (by simp)]
       obtain ⟨v9,r9,hat9,_,hnew,_⟩:=hu.newSegs hju
       have hv9:v9=.slice (some ⟨b,off,none⟩) (m+1) cap:=by have a:=hat9.c3;rw [hcs.2.1] at a;cases a;rfl
       subst hv9
       obtain ⟨cp,hcp⟩:∃cp,cap=cp+1:=by
        obtain ⟨_,_,hv,hle,_⟩:=hat9.row;cases hv;simp only [List.length_cons] at hle
        exact ⟨cap - 1,by omega⟩
       subst hcp
       obtain ⟨hc3,hf3,hL4,hb4⟩:=hnew W3 (.slice (if cp=0 then some ⟨b,off,none⟩ else some ⟨b,off+3,none⟩) m cp) r9 gs hat9.row.tail (Turn.refl _ _) (fun b hb=>.inl hb)
       rw [List.set_set] at hL4;have HL4:=hide hL4;have HB4:=hide (hbb3.trans hb4);have HQ2:=hide hq2;clear hl3 hb3 hb2 hbb3 hQ hQ' hu hju hcs hq2 hat9 hnew hL4 hb4 hHeld
       have HLT:=hide (lenAt_set (w:=W3) (l:=l) (v:=.slice (if cp=0 then some ⟨b,off,none⟩ else some ⟨b,off+3,none⟩) m cp) (by rw [hc3];rfl))
       go_wp2
       first
       | (go_roundw
          case rel=>exact ⟨gs,A',fun x hx=>HIN.out x (List.mem_cons_of_mem _ hx),HQ2.out,HL4.out,HB4.out⟩
          case measure=>rw [HLT.out,HLEN.out];exact Nat.lt_succ_self m)
       | exact ⟨⟨gs,A',fun x hx=>HIN.out x (List.mem_cons_of_mem _ hx),HQ2.out,HL4.out,HB4.out⟩,by rw [HLT.out,HLEN.out];exact Nat.lt_succ_self m⟩
      ·have hRL0:RL=(E,A',s :: gs,true):=by
        rw [←HQ.out];unfold resetL
        rw [if_pos HBEL.out,hQ'];simp only
        rw [if_pos hE]
       obtain ⟨v9,r9,hat9,_⟩:=hu.logAt hju;have x5:=hat9.c5;have x5f:=hat9.fz 5
       obtain ⟨hL4,hb4⟩:=hu.setLog hju 5 (.bool true) (g':={ g with segs:=s :: gs,dead:=true }) (fun v=>rfl) rfl
       rw [List.set_set] at hL4
       have HL4:Hid (Lies B (W3.setCell ⟨l,5,none⟩ (.bool true)) ((L.set i (.disk p R.2.1)).set j (.log l p R.2.2))):=by
        show Lies _ _ _
        rw [HRR.out,hRL0];exact hL4
       have hR1:R.1=E:=by rw [HRR.out,hRL0]
       have HR1:=hide hR1;have HB4:=hide (hbb3.trans hb4)
       have q9:(E != 0)=true:=by simpa using hE
       clear hl3 hb3 hb2 hbb3 hQ hQ' hu hju hcs hat9 hL4 hb4 hHeld hRL0 hR1;go_wp2;go_ret;rw [HR1.out];exact ⟨rfl,HL4.out,HB4.out⟩
end
end Go.Proofs.YtdffmmiegpndkaaGreatDoor
namespace Go.Proofs.YtdffmmiegpndkaaGreatDoor
open Go.RowKit Go.Maps
set_option linter.unusedVariables false
set_option linter.unusedSimpArgs false
def Item.sub (v:Value) (ks:List Key):Item:=
 ⟨fun w S=>∃ad cap,v=.slice ad ks.length cap∧RowAt w ad (ks.map encStr)∧(ks.length≤maxLen∧ks.length≤cap)∧(∀b o,ks≠[]→ad=some ⟨b,o,none⟩→∀q,w.frozen? ⟨b,q,none⟩=false)∧∀b,S b↔ks≠[]∧∃o,ad=some ⟨b,o,none⟩,
  fun w S ⟨ad,cap,hv,hr,hl,_,hS⟩ b hb=>by
   obtain ⟨h1,o,h2⟩:=(hS b).1 hb
   rcases hr with h3 | ⟨b',o',h3,h4,_⟩
   ·exact absurd (List.map_eq_nil_iff.1 h3) h1
   ·rw [h3] at h2;cases h2;exact h4,
  fun w w' S ⟨ad,cap,hv,hr,hl,hfz,hS⟩ e=>by
   refine ⟨ad,cap,hv,?_,hl,fun b o h1 h2 q=>by rw [frozen_of_block (e b ((hS b).2 ⟨h1,o,h2⟩))];exact hfz b o h1 h2 q,hS⟩
   rcases hr with h3 | ⟨b,o,h3,h4,h5⟩
   ·exact .inl h3
   ·by_cases h1:ks=[]
    ·exact .inl (by rw [h1];rfl)
    have hb:=e b ((hS b).2 ⟨h1,o,h3⟩);obtain ⟨ob,hob⟩:∃ob,w.heap[b]?=some ob:=⟨_,Array.getElem?_eq_getElem h4⟩
    exact .inr ⟨b,o,h3,lt_of_some (hb.trans hob),fun k hk=>by rw [←h5 k hk];exact World.cell?_of_block hb⟩⟩
section
variable {B:Nat} {w:World} {L:List Item} {q:Nat}
theorem Lies.subAt {v:Value} {ks:List Key} (h:Lies B w L) (hq:L[q]?=some (.sub v ks)):∃ad cap,v=.slice ad ks.length cap∧RowAt w ad (ks.map encStr)∧ks.length≤maxLen:=by
 obtain ⟨S,⟨ad,cap,hv,hr,hl,_,_⟩,_⟩:=h.get hq;exact ⟨ad,cap,hv,hr,hl.1⟩
theorem Lies.subCap {ad:Option Addr} {n cap:Nat} {ks:List Key} (h:Lies B w L) (hq:L[q]?=some (.sub (.slice ad n cap) ks)):n≤cap:=by
 obtain ⟨S,⟨ad',cap',hv,hr,hl,_,_⟩,_⟩:=h.get hq;cases hv;exact hl.2
def dropAd (ad:Option Addr) (k cap:Nat):Option Addr:=if cap=k then ad else ad.map fun a=>⟨a.block,a.off+k,none⟩
theorem Lies.toSub {v:Value} {xs:List Key} (h:Lies B w L) (hq:L[q]?=some (.row 9 v (xs.map encStr))) (k:Nat) (hk:k≤xs.length):∃ad cap,v=.slice ad xs.length cap∧xs.length≤cap∧cap≤maxLen∧(∀a,ad=some a→∃b,a=⟨b,0,none⟩)∧(ad=none→cap=0)∧Lies B w (L.set q (.sub (.slice (dropAd ad k cap) (xs.length - k) (cap - k)) (xs.drop k))):=by
 obtain ⟨S,⟨hrow,hS⟩,hB,_,hu⟩:=h.upd hq;have hlen:=hrow.1;rw [List.length_map,Nat.mul_one] at hlen
 rcases hrow.2 with ⟨rfl,hn⟩ | ⟨g,cap,cur,rfl,hb,hg,hnc,hcm,hcs,htk⟩
 ·rw [List.length_map] at hn
  have hx:xs=[]:=List.length_eq_zero_iff.1 hn;subst hx
  refine ⟨none,0,rfl,Nat.le_refl _,Nat.zero_le _,fun a ha=>(by cases ha),fun _=>rfl,?_⟩
  refine (hu w _ (fun _=>False) ?_ ⟨Turn.refl _ _,fun b hb=>hb.elim⟩).1
  refine ⟨dropAd none k 0,0 - k,by simp,.inl (by simp),by simp,fun b o h1=>absurd (by simp) h1,fun b=>⟨fun hb=>hb.elim,fun hb=>hb.1 (by simp)⟩⟩
 ·rw [List.length_map] at hnc htk
  refine ⟨some ⟨g,0,none⟩,cap,by rw [List.length_map],hnc,hcm,fun a ha=>⟨g,by cases ha;rfl⟩,fun ha=>(by cases ha),?_⟩
  refine (hu w _ (fun b=>xs.drop k≠[]∧b=g) ?_ ⟨Turn.refl _ _,fun b hb=>.inl ((hS b).2 (by rw [hb.2];rfl))⟩).1
  have hd:xs.drop k≠[]→cap≠k:=fun hne e=>hne (List.drop_eq_nil_of_le (by omega))
  refine ⟨_,cap - k,by rw [List.length_drop],?_,by rw [List.length_drop];omega,fun b o h1 h2 q=>?_,fun b=>⟨fun hb=>⟨hb.1,k,?_⟩,fun hb=>⟨hb.1,?_⟩⟩⟩
  ·by_cases hne:xs.drop k=[]
   ·exact .inl (by rw [hne];rfl)
   ·refine .inr ⟨g,k,?_,lt_of_some hg,fun i hi=>?_⟩
    ·unfold dropAd;rw [if_neg (hd hne)];simp
    ·rw [List.length_map,List.length_drop] at hi
     rw [cell_of_row w g _ _ _ (0,0) hg];rw [←Array.getElem?_toList,List.map_drop,List.getElem?_drop,←htk,List.getElem?_take]
     rw [if_pos (by rw [Nat.mul_one];omega)]
  ·unfold dropAd at h2
   rw [if_neg (hd h1)] at h2;simp at h2;rw [←h2.1];exact frozen_of_row w g q _ _ hg
  ·unfold dropAd;rw [if_neg (hd hb.1),hb.2];simp
  ·obtain ⟨h1,o,h2⟩:=hb
   unfold dropAd at h2;rw [if_neg (hd h1)] at h2;simp at h2;exact h2.1.symm
end
theorem rdFin_is (A:AD) (nm:Key) (s:RSt):∀(f k:Nat),∃k',k≤k'∧k'≤k+f∧(0<f→k<k')∧rdFin A nm s f k=(k',rdK A nm s k')
 | 0,k=>⟨k,Nat.le_refl _,Nat.le_refl _,fun h=>by omega,rfl⟩
 | f+1,k=>by
  unfold rdFin
  split
  ·exact ⟨k+1,by omega,by omega,fun _=>by omega,rfl⟩
  ·obtain ⟨k',h1,h2,_,h3⟩:=rdFin_is A nm s f (k+1)
   exact ⟨k',by omega,by omega,fun _=>by omega,h3⟩
theorem numOf_file {f k:Key} {v:Int} (h:numOf f k=some v):f=fileL k v:=by
 unfold numOf at h
 split at h
 ·rename_i hp
  split at h
  ·split at h
   ·rename_i hh
    cases h;have h3:=hh.2.2;unfold Lib.hasPrefix at hp;obtain ⟨t,ht⟩:=List.isPrefixOf_iff_prefix.1 hp;unfold fileL;rw [h3,←ht,List.append_assoc,List.singleton_append]
    congr 2
    rw [show k.length+1=(k++[46]).length by simp,show k++46 :: t=(k++[46])++t by simp,List.drop_left]
   ·cases h
  ·cases h
 ·cases h
def loadA (A:AD) (g:AL) (first:Int):List Key×Int×AD×AL:=
 let ns:=numsL A g.name.data.toList
 if consec ns=false then ([],60,A,{ g with segs:=ns.map seg0 })
 else
  let R:=rdFin A g.name.data.toList ⟨[],0,ns.map seg0,false⟩ ns.length 0
  if R.2.torn=true∧R.1<ns.length then ([],60,A,{ g with segs:=R.2.segs,next:=R.2.next })
  else
   let nx:=if R.2.pay=[] then first else R.2.next
   let g3:AL:={ g with segs:=R.2.segs,next:=nx }
   if first<nx - R.2.pay.length∨nx<first then ([],60,A,g3)
   else
    let T:=if R.2.torn=true then A.trunc (fileL g.name.data.toList (R.2.segs.getLastD ⟨0,0,0⟩).num) (R.2.segs.getLastD ⟨0,0,0⟩).size else (0,A)
    if T.1≠0 then ([],T.1,T.2,g3)
    else if (T.2.syncs g3.files).1≠0 then ([],(T.2.syncs g3.files).1,(T.2.syncs g3.files).2,g3)
    else (R.2.pay.drop (first - (nx - R.2.pay.length)).toNat,0,(T.2.syncs g3.files).2,g3)
end Go.Proofs.YtdffmmiegpndkaaGreatDoor
namespace Go.Proofs.YtdffmmiegpndkaaGreatDoor
open Go.RowKit Go.Maps
set_option linter.unusedVariables false
structure Cut (a b:RSt):Prop where
 pay:b.pay=a.pay
 torn:b.torn=false
 next:a.pay≠[]→b.next=a.next
def rdOf (A:AD) (nm:Key):Nat×RSt:=rdFin A nm ⟨[],0,(numsL A nm).map seg0,false⟩ (numsL A nm).length 0
theorem text_seen {A:AD} {nm:Key} {n:Int} {F:AF} (h:A.pow.off=false) (hk:fget A.fs (fileL nm n)=some F) (hF:F.seen.length≤1048576):textOf A nm n=F.seen:=by
 unfold textOf AD.read;rw [h,hk];simp only [Bool.false_eq_true,if_false]
 rw [if_neg (by decide)]
 exact List.take_of_length_le hF
structure Left (A A9:AD) (nm:Key):Prop where
 pow:A9.pow=p0
 cap:A9.cap=A.cap
 keys:fkeys A9.fs=fkeys A.fs
 clean:∀n∈numsL A nm,∃F,fget A9.fs (fileL nm n)=some F∧Clean F (textOf A9 nm n)
 same:∀n∈numsL A nm,((rdOf A nm).2.torn=false∨(numsL A nm).getLast?≠some n)→textOf A9 nm n=textOf A nm n
 cut:∀s,(rdOf A nm).2.torn=true→(rdOf A nm).2.segs.getLast?=some s→textOf A9 nm s.num=(textOf A nm s.num).take s.size.toNat
structure Alike (A A':AD) (nm:Key):Prop where
 pow:A'.pow=p0
 keys:fkeys A'.fs=fkeys A.fs
 text:∀n∈numsL A nm,textOf A' nm n=textOf A nm n
structure Tidy (A:AD) (nm:Key):Prop where
 pow:A.pow=p0
 con:consec (numsL A nm)=true
 torn:(rdOf A nm).2.torn=false
 clean:∀n∈numsL A nm,∃F,fget A.fs (fileL nm n)=some F∧Clean F (textOf A nm n)
open Go.RowKit
def SegEq (s s':ASeg):Prop:=s.num=s'.num∧s.size=s'.size∧(s.size≠0→s.fin=s'.fin)
theorem SegEq.refl (s:ASeg):SegEq s s:=⟨rfl,rfl,fun _=>rfl⟩
inductive SegsEq:List ASeg→List ASeg→Prop where
 | nil:SegsEq [] []
 | cons {s s':ASeg} {l l':List ASeg}:SegEq s s'→SegsEq l l'→SegsEq (s :: l) (s' :: l')
theorem SegsEq.refl:∀l:List ASeg,SegsEq l l
 | []=>.nil
 | s :: l=>.cons (SegEq.refl s) (SegsEq.refl l)
theorem SegsEq.len {l l':List ASeg} (h:SegsEq l l'):l.length=l'.length:=by
 induction h with
 | nil=>rfl
 | cons _ _ ih=>simp [ih]
theorem SegsEq.snoc {l l':List ASeg} {s s':ASeg} (h:SegsEq l l') (hs:SegEq s s'):SegsEq (l++[s]) (l'++[s']):=by
 induction h with
 | nil=>exact .cons hs .nil
 | cons h1 _ ih=>exact .cons h1 ih
theorem SegsEq.last {l l':List ASeg} (h:SegsEq l l'):(l.getLast?=none∧l'.getLast?=none)∨∃s s',l.getLast?=some s∧l'.getLast?=some s'∧SegEq s s':=by
 induction h with
 | nil=>exact .inl ⟨rfl,rfl⟩
 | @cons s s' t t' h1 h2 ih=>
  right
  rcases ih with ⟨e1,e2⟩ | ⟨a,b,e1,e2,hab⟩
  ·rw [List.getLast?_eq_none_iff] at e1 e2
   subst e1 e2;exact ⟨s,s',rfl,rfl,h1⟩
  ·refine ⟨a,b,?_,?_,hab⟩
   ·rw [List.getLast?_cons,e1];rfl
   ·rw [List.getLast?_cons,e2];rfl
theorem SegsEq.set {l l':List ASeg} (h:SegsEq l l') (x:ASeg):∀i,SegsEq (l.set i x) (l'.set i x):=by
 induction h with
 | nil=>intro i;exact .nil
 | cons h1 h2 ih=>
  intro i
  cases i with
  | zero=>exact .cons (SegEq.refl x) h2
  | succ i=>exact .cons h1 (ih i)
structure LogEq (g g':AL):Prop where
 name:g.name=g'.name
 room:g.room=g'.room
 next:g.next=g'.next
 dead:g.dead=g'.dead
 segs:SegsEq g.segs g'.segs
end Go.Proofs.YtdffmmiegpndkaaGreatDoor
