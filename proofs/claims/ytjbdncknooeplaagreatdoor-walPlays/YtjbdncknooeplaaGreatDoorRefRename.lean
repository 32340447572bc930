import Derived.Test.YtjbdncknooeplaaGreatDoorRefCalls3
namespace Go.Proofs.YtjbdncknooeplaaGreatDoor
open Go.RowKit Go.Maps Go.WideMaps
set_option linter.unusedVariables false
set_option linter.unusedSimpArgs false
section
variable {w w1 w2:World} {r:Nat} {s:RS} {xs:List RF} {S:Nat→Prop} {A:AD}
theorem own_base {w:World} {B B' e sz n:Nat} {v:Value} {l:List Value} (h:w.ownsRow B e sz v n l) (hb:B'≤B):w.ownsRow B' e sz v n l:=by
 refine ⟨h.1,?_⟩
 rcases h.2 with h | ⟨g,c,cur,h1,h2,rest⟩
 ·exact .inl h
 ·exact .inr ⟨g,c,cur,h1,Nat.le_trans hb h2,rest⟩
theorem RefAt.relist (h:RefAt w r s xs S) (hr:RRel s xs A) (hb1:Below w.heap.size w w1) {v:Value} {ys:List RF} (ho:w2.ownsRow w1.heap.size 135 4 v ys.length (cellsF ys)) (hb2:Below w1.heap.size w1 w2)
 (hy:∀y∈ys,y∈xs∨(RowAt w1 y.ad (y.ds.map (Value.int .i64))∧(y.ds≠[]→∀b o,y.ad=some ⟨b,o,none⟩→(S b∧b≠r)∨w.heap.size≤b)∧y.ds=dirtyI y.abs.2)) (fs:FList) (hfs:ys.map RF.abs=fs) :
 ∃s' S',RefAt (w2.setCell ⟨r,1,none⟩ v) r s' ys S'∧RRel s' ys { A with fs:=fs }∧Step S S' w (w2.setCell ⟨r,1,none⟩ v):=by
 have hb:Below w.heap.size w w2:=hb1.trans (hb2.mono hb1.size)
 obtain ⟨ad,c,S',rfl,h1,h2⟩:=h.list w2 hb (own_base ho hb1.size) (fun y hm=>by
  rcases hy y hm with hx | ⟨hx,_⟩
  ·exact (h.files.dirty y hx).below hb
  ·exact hx.below hb2) (fun y hm hd b o ha=>by
  rcases hy y hm with hx | ⟨_,hx,_⟩
  ·exact .inl (h.use b (.inr ⟨y,hx,hd,o,ha⟩))
  ·exact hx hd b o ha)
 refine ⟨_,S',h1,⟨rfl,hr.cap,⟨hr.pow.arm,hr.pow.fall,hr.pow.off,hr.pow.opn,hr.pow.what⟩,hfs.symm,fun y hm=>?_⟩,h2⟩
 rcases hy y hm with hx | ⟨_,_,hx⟩
 ·exact hr.ds y hx
 ·exact hx
theorem step_self (h:RefAt w r s xs S) (ht:Turn (fun b=>b=r) w w1):Step S S w w1:=⟨ht.mono (fun b hb=>by rw [hb];exact h.self),fun b hb=>.inl hb⟩
theorem dirtyI_none (a b:List UInt8):dirtyI ⟨a,b,fun s=>([]:List Int).contains (s:Int)⟩=[]:=by
 unfold dirtyI AF.dirtyL;rw [List.map_eq_nil_iff,List.filter_eq_nil_iff];intro x _
 show ¬false=true
 simp
set_option maxRecDepth 5000 in
set_option maxHeartbeats 4000000 in
theorem rRemove_any (h:RefAt w r s xs S) (hr:RRel s xs A) (hok:A.Ok) (t:ByteArray):Calls Tryz.prog 85 #[.pointer (some ⟨r,0,none⟩),.string t] w fun e w'=>e=.returned (.int .i64 (A.remove t.data.toList).1)∧∃s' xs' S',RefAt w' r s' xs' S'∧RRel s' xs' (A.remove t.data.toList).2∧Step S S' w w':=by
 have c1:w.cell? ⟨r,1,none⟩=some (.slice s.ad xs.length s.c):=by rw [←hr.n];exact h.c 1
 have c5:w.cell? ⟨r,5,none⟩=some (.bool A.pow.off):=by rw [←hr.pow.off];exact h.c 5
 have f1:=h.fz 1
 have hl:xs.length≤16:=by have:=hok.few;rw [hr.fs,List.length_map] at this;exact this
 have hfind:=rFind_any h hr.n (by omega) t
 have hwo:=without_any w s.ad s.c xs h.files (by omega) t
 obtain ⟨ad,had⟩:∃ad,s.ad=ad:=⟨_,rfl⟩;rw [had] at c1 hwo;have HH:=hide h;have HR:=hide hr;have HFS:=hide hr.fs;have HLT:=hide (h.lt r h.self);clear h hr had hok;unfold AD.remove
 cases hoff:A.pow.off with
 | true=>
  rw [hoff] at c5;rw [if_pos rfl];clear hfind hoff hwo
  go_enter Tryz.func85,Tryz.ntmps85
  go_wp2;go_ret;exact ⟨rfl,s,xs,S,HH.out,HR.out,Step.refl _ _⟩
 | false=>
  rw [hoff] at c5
  rw [if_neg (by simp)]
  cases hg:fget A.fs t.data.toList with
  | none=>
   rw [HFS.out] at hg;rw [find_none hg] at hfind;clear hg hoff hwo
   go_enter Tryz.func85,Tryz.ntmps85
   go_wp2_with fail;refine hfind.mono ?_;rintro e w1 ⟨rfl,rfl⟩;clear hfind;go_wp2;go_ret;exact ⟨rfl,s,xs,S,HH.out,HR.out,Step.refl _ _⟩
  | some F=>
   rw [HFS.out] at hg;obtain ⟨i,hi,hfi,hab⟩:=find_some hg;rw [hfi] at hfind
   have hk0:(0:Int)≤(i:Int):=by omega
   have dk:decide ((i:Int)<0)=false:=decide_eq_false (by omega)
   clear hg hoff hab hfi
   go_enter Tryz.func85,Tryz.ntmps85
   go_wp2_with fail;refine hfind.mono ?_;rintro e w1 ⟨rfl,rfl⟩;clear hfind;go_wp2_with fail;refine hwo.mono ?_;rintro e w2 ⟨v,rfl,ho,hb⟩
   have g1:w2.frozen? ⟨r,1,none⟩=false:=frozen_of_row w2 r 1 _ _ (by rw [hb.block r HLT.out];exact HH.out.cells)
   have g2:w2.cell? ⟨r,1,none⟩=some (.slice ad xs.length s.c):=(World.cell?_of_block (hb.block r HLT.out)).trans c1
   have hfin:=HH.out.relist HR.out (Below.refl _ _) ho hb (fun y hy=>.inl (delR_mem hy)) _ ((delR_abs _ _).trans (by rw [←HFS.out]))
   obtain ⟨ad2,c2,rfl,_,_,_⟩:=own_at ho;have HFI:=hide hfin;clear hwo ho hb hfin c1 c5 f1;go_wp2;go_ret;obtain ⟨s',S',q1,q2,q3⟩:=HFI.out;exact ⟨rfl,s',_,S',q1,q2,q3⟩
set_option maxRecDepth 5000 in
set_option maxHeartbeats 4000000 in
theorem rSync_any (h:RefAt w r s xs S) (hr:RRel s xs A) (hok:A.Ok) (t:ByteArray):Calls Tryz.prog 84 #[.pointer (some ⟨r,0,none⟩),.string t] w fun e w'=>e=.returned (.int .i64 (A.sync t.data.toList).1)∧∃s' xs' S',RefAt w' r s' xs' S'∧RRel s' xs' (A.sync t.data.toList).2∧Step S S' w w':=by
 have c5:w.cell? ⟨r,5,none⟩=some (.bool A.pow.off):=by rw [←hr.pow.off];exact h.c 5
 have hl:xs.length≤16:=by have:=hok.few;rw [hr.fs,List.length_map] at this;exact this
 have hfind:=rFind_any h hr.n (by omega) t
 have href:=refused_any h hr hok.pow 2;have HH:=hide h;have HR:=hide hr;have HOK:=hide hok;have HFS:=hide hr.fs;clear h hr hok;unfold AD.sync
 cases hoff:A.pow.off with
 | true=>
  rw [hoff] at c5;rw [if_pos rfl];clear hfind hoff href
  go_enter Tryz.func84,Tryz.ntmps84
  go_wp2;go_ret;exact ⟨rfl,s,xs,S,HH.out,HR.out,Step.refl _ _⟩
 | false=>
  rw [hoff] at c5
  rw [if_neg (by simp)]
  cases hg:fget A.fs t.data.toList with
  | none=>
   rw [HFS.out] at hg;rw [find_none hg] at hfind;clear hg hoff href
   go_enter Tryz.func84,Tryz.ntmps84
   go_wp2_with fail;refine hfind.mono ?_;rintro e w1 ⟨rfl,rfl⟩;clear hfind;go_wp2;go_ret;exact ⟨rfl,s,xs,S,HH.out,HR.out,Step.refl _ _⟩
  | some F=>
   have HG:=hide hg;rw [HFS.out] at hg;obtain ⟨i,hi,hfi,hab⟩:=find_some hg;rw [hfi] at hfind
   have hk0:(0:Int)≤(i:Int):=by omega
   have hk1:(i:Int)<(xs.length:Int):=by omega
   have dk:decide ((i:Int)<0)=false:=decide_eq_false (by omega)
   obtain ⟨x,hx⟩:∃x,xs[i]=x:=⟨_,rfl⟩;rw [hx] at hab;have HX:=hide hx;have HAB:=hide hab;obtain ⟨cn,hcn⟩:∃cn,(A.pow.count 2).1=cn:=⟨_,rfl⟩;obtain ⟨P,hP⟩:∃P,(A.pow.count 2).2=P:=⟨_,rfl⟩;rw [hcn,hP] at href;simp only;rw [hcn,hP];clear hg hoff hab hfi hx hcn hP
   by_cases hc0:cn=0
   ·subst hc0
    rw [if_neg (by simp)]
    go_enter Tryz.func84,Tryz.ntmps84
    go_wp2_with fail;refine hfind.mono ?_;rintro e w1 ⟨rfl,rfl⟩;clear hfind;go_wp2_with fail;refine href.mono ?_;rintro e w2 ⟨rfl,s2,h2,hr2,ht2⟩
    have c1:w2.cell? ⟨r,1,none⟩=some (.slice s2.ad xs.length s2.c):=by rw [←hr2.n];exact h2.c 1
    have HH2:=hide h2;have HR2:=hide hr2;have HST:=hide (step_self HH.out ht2);have hff:=h2.files;obtain ⟨ad,had⟩:∃ad,s2.ad=ad:=⟨_,rfl⟩;rw [had] at c1 hff;have HAD:=hide had;obtain ⟨b,o,rfl,hbl,hcs⟩:=hff.cells hi;rw [HX.out] at hcs
    have f0:w2.cell? ⟨b,o+i * 4,none⟩=some (.string x.name):=hcs 0 (by omega)
    have f1:w2.cell? ⟨b,o+i * 4+1,none⟩=some (.string x.seen):=hcs 1 (by omega)
    have f2:w2.cell? ⟨b,o+i * 4+2,none⟩=some (.string x.safe):=hcs 2 (by omega)
    have f3:w2.cell? ⟨b,o+i * 4+3,none⟩=some (.slice x.ad x.ds.length x.cap):=hcs 3 (by omega)
    obtain ⟨g,hg⟩:∃g,w2.heap.size=g:=⟨_,rfl⟩;obtain ⟨w3,hw3⟩:∃w3,w2.alloc (.cells x.cs 135)=w3:=⟨_,rfl⟩
    have hb3:Below w2.heap.size w2 w3:=by rw [←hw3];exact (Below.refl _ _).alloc (Nat.le_refl _) _
    have hblk:w3.heap[g]?=some (.cells x.cs 135 (0,0)):=by rw [←hw3,←hg];exact heap_alloc_new w2 _
    have hlt:r<w2.heap.size:=h2.lt r h2.self
    have HS1:Hid (w3.cell? ⟨r,1,none⟩=some (.slice (some ⟨b,o,none⟩) xs.length s2.c)∧w3.cell? ⟨g,1,none⟩=some (.string x.seen)):=⟨by rw [World.cell?_of_block (hb3.block r hlt)];exact c1,by rw [cell_of_row w3 g 1 _ _ (0,0) hblk];rfl⟩
    have hput:=put_any w3.drew (some ⟨b,o,none⟩) s2.c xs ((hff.below hb3).below ⟨rfl,rfl,rfl,Nat.le_refl _,fun _ _=>rfl⟩) (by omega) ⟨t,x.seen,x.seen,none,0,[]⟩
    have HBD:Hid (∀w4,Below w3.drew.heap.size w3.drew w4→Below w3.heap.size w3 w4):=fun w4 hb=>⟨hb.os,hb.tape,hb.output,hb.size,hb.block⟩
    have hgl:g<w3.heap.size:=lt_of_some hblk;have HGL:=hide hgl;have HLT:=hide hlt;have HB3:=hide hb3;have HPUT:=hide hput;have HW3:=hide hw3;have HGE:=hide hg;unfold RF.cs at hw3;clear href h2 hr2 ht2 hff had hcs c5 hb3 hblk hlt hput hgl;go_wp2;clear hw3 hg;refine wp_region_noPanic ?_
    refine wp_region_T (S:=fun wx=>wx.cell? ⟨r,1,none⟩=some (.slice (some ⟨b,o,none⟩) xs.length s2.c)∧wx.cell? ⟨g,1,none⟩=some (.string x.seen)) 14 (by kernel_rfl) HS1.out (fun hHeld=>?_)
    refine tT 0 (some 29) (.pointer (some ⟨r,0,none⟩)) rfl hHeld ?_;simp only [Act.put,pA,pB,pC];refine tT 1 (some 30) (.pointer (some ⟨r,0,none⟩)) rfl hHeld ?_;simp only [Act.put,pA,pB,pC];refine tT 2 (some 31) (.pointer (some ⟨r,0,none⟩)) rfl hHeld ?_;simp only [Act.put,pA,pB,pC];refine tT 3 (some 32) (.pointer (some ⟨r,1,none⟩)) rfl hHeld ?_;simp only [Act.put,pA,pB,pC]
    refine tU 4 (some 33) (.slice (some ⟨b,o,none⟩) xs.length s2.c) rfl (fun w hw=>by have hw':=hw.1;first | rfl | (go_simp;done) | (go_simp;rfl)) hHeld ?_
    simp only [Act.put,pA,pB,pC];refine tT 5 (some 34) (.string t) rfl hHeld ?_;simp only [Act.put,pA,pB,pC];refine tT 6 (some 35) (.pointer (some ⟨g,1,none⟩)) rfl hHeld ?_;simp only [Act.put,pA,pB,pC]
    refine tU 7 (some 36) (.string x.seen) rfl (fun w hw=>by have hw':=hw.2;first | rfl | (go_simp;done) | (go_simp;rfl)) hHeld ?_
    simp only [Act.put,pA,pB,pC];refine tT 8 (some 37) (.pointer (some ⟨g,1,none⟩)) rfl hHeld ?_;simp only [Act.put,pA,pB,pC]
    refine tU 9 (some 38) (.string x.seen) rfl (fun w hw=>by have hw':=hw.2;first | rfl | (go_simp;done) | (go_simp;rfl)) hHeld ?_
    simp only [Act.put,pA,pB,pC];refine tT 10 (some 39) (.agg #[.string t,.string x.seen,.string x.seen,.slice none 0 0]) rfl hHeld ?_;simp only [Act.put,pA,pB,pC]
    refine readyT 11 (by kernel_rfl) rfl (by rfl) (fun K hK=>?_)
    go_simp
    refine HPUT.out.mono ?_;rintro e w4 ⟨v,rfl,ho,hb⟩
    try go_wp2_with fail
    have hb4:=HBD.out _ hb
    have HS4:Hid (w4.cell? ⟨r,1,none⟩=some (.slice (some ⟨b,o,none⟩) xs.length s2.c)∧w4.cell? ⟨g,1,none⟩=some (.string x.seen)):=⟨by rw [World.cell?_of_block (hb4.block r (Nat.lt_of_lt_of_le HLT.out HB3.out.size))];exact HS1.out.1,by rw [World.cell?_of_block (hb4.block g HGL.out)];exact HS1.out.2⟩
    have hfin:=HH2.out.relist HR2.out HB3.out ho hb4 (fun y hy=>by
     rcases putR_mem hy with rfl | hy
     ·exact .inr ⟨.inl rfl,fun hd=>absurd rfl hd,(dirtyI_none _ _).symm⟩
     ·exact .inl hy) _ (putR_abs _ _)
    obtain ⟨ad4,cap4,rfl,_,_,_⟩:=own_at ho;have HFI:=hide hfin
    have g1:w4.frozen? ⟨r,1,none⟩=false:=frozen_of_row w4 r 1 _ _ (by rw [hb4.block r (Nat.lt_of_lt_of_le HLT.out HB3.out.size),HB3.out.block r HLT.out];exact HH2.out.cells)
    refine hK.out _ _ (fun _=>HS4.out) (fun hH=>?_)
    have hHeld:=hH (by decide)
    clear hK K hH ho hb hb4 hfin;have g2:=HS4.out.1
    refine readyT 12 (by kernel_rfl) rfl (by rfl) (fun K hK=>?_)
    go_simp
    refine hK.out _ _ (fun _=>hHeld) (fun hH=>?_)
    clear hHeld
    have hHeld:=hH (by decide)
    clear hK K hH
    refine readyT 13 (by kernel_rfl) rfl (by rfl) (fun K hK=>?_)
    go_simp
    refine hK.out _ _ (fun _=>hHeld) (fun hH=>?_)
    clear hHeld
    have hHeld:=hH (by decide)
    clear hK K hH
    refine readyT 14 (by kernel_rfl) rfl (by rfl) (fun K hK=>?_)
    go_simp
    refine hK.out _ _ (fun hx=>absurd rfl hx) (fun hH=>?_)
    refine ⟨by kernel_rfl,?_⟩
    refine NoPanic.normal ?_;clear hHeld hK K hH g1 g2;go_wp2;go_ret;obtain ⟨s',S',q1,q2,q3⟩:=HFI.out;have e1:fput A.fs t.data.toList F.sync=fset A.fs t.data.toList F.sync:=fput_fset HOK.out.sorted HG.out;refine ⟨rfl,s',_,S',q1,?_,HST.out.trans q3⟩;rw [←e1]
    have e2:(⟨t,x.seen,x.seen,none,0,[]⟩:RF).abs=(t.data.toList,F.sync):=by
     have e3:x.abs.2.seen=F.seen:=by rw [HAB.out]
     have e4:x.seen.data.toList=F.seen:=e3
     show (t.data.toList,(⟨x.seen.data.toList,x.seen.data.toList,fun s=>([]:List Int).contains (s:Int)⟩:AF))=_
     rw [e4];rfl
    have e5:(⟨t,x.seen,x.seen,none,0,[]⟩:RF).abs.1=t.data.toList:=rfl
    have e6:(⟨t,x.seen,x.seen,none,0,[]⟩:RF).abs.2=F.sync:=by rw [e2]
    rw [e5,e6,←HFS.out] at q2;exact q2
   ·have dc:(cn == 0)=false:=beq_eq_false_iff_ne.2 hc0
    have dc2:(cn != 0)=true:=by unfold bne;rw [dc];rfl
    rw [if_pos hc0];clear hc0
    go_enter Tryz.func84,Tryz.ntmps84
    go_wp2_with fail;refine hfind.mono ?_;rintro e w1 ⟨rfl,rfl⟩;clear hfind;go_wp2_with fail;refine href.mono ?_;rintro e w2 ⟨rfl,s2,h2,hr2,ht2⟩;have H2:=hide h2;have HR2:=hide hr2;have HST:=hide (step_self HH.out ht2);clear href h2 hr2 ht2;go_wp2;go_ret;exact ⟨rfl,s2,xs,S,H2.out,HR2.out,HST.out⟩
end
end Go.Proofs.YtjbdncknooeplaaGreatDoor
namespace Go.Proofs.YtjbdncknooeplaaGreatDoor
open Go.RowKit Go.Maps Go.WideMaps
set_option linter.unusedVariables false
set_option linter.unusedSimpArgs false
section
variable {w w1 w2:World} {r:Nat} {s:RS} {xs:List RF} {S:Nat→Prop} {A:AD}
-- left out in this seat: rRename_any
end
end Go.Proofs.YtjbdncknooeplaaGreatDoor
