import Derived.Test.YtjbdncknooeplaaGreatDoorRefBehind
import Derived.Test.YtjbdncknooeplaaGreatDoorRefTrunc
import Derived.WalkKit
import Derived.Test.YtjbdncknooeplaaGreatDoorProg
import Derived.WalkSpells
import Derived.WalkLawsBesides
import Derived.Laws.CopyRow
import Derived.Laws.BytesArg
import Derived.Laws.OwnMore
import Derived.Deep.AppendLies
import Derived.Deep.AppendSrc
import Derived.Deep.Upon
import Derived.Deep.QuietTactic
import Derived.BigQuiet
namespace Go.Proofs.YtjbdncknooeplaaGreatDoor
open Go.RowKit Go.Maps Go.WideMaps
set_option linter.unusedVariables false
set_option linter.unusedSimpArgs false
section
variable {w w1 w2:World} {r:Nat} {s:RS} {xs:List RF} {S:Nat→Prop} {A:AD}
def crashP (l:List AFate) (p:Key×AF):Key×AF:=(p.1,p.2.crash (fateOf l p.1))
set_option maxRecDepth 5000 in
set_option maxHeartbeats 4000000 in
theorem rCrash_any (h:RefAt w r s xs S) (hr:RRel s xs A) (hok:A.Ok) (ad2:Option Addr) (cap2:Nat) (ls:List FT) (hfa:FatesAt w ad2 ls) (hfl:ls.length≤9223372036854775807):Calls Tryz.prog 80 #[.pointer (some ⟨r,0,none⟩),.slice ad2 ls.length cap2] w fun e w'=>e=.returned (.tuple #[])∧∃s' xs' S',RefAt w' r s' xs' S'∧RRel s' xs' (A.crash (ls.map FT.abs))∧Step S S' w w':=by
 have c5:w.cell? ⟨r,5,none⟩=some (.bool A.pow.off):=by rw [←hr.pow.off];exact h.c 5
 have c6:w.cell? ⟨r,6,none⟩=some (.bool A.pow.opn):=by rw [←hr.pow.opn];exact h.c 6
 have HH:=hide h;have HR:=hide hr;unfold AD.crash
 by_cases hq:A.pow.off=true∧A.pow.opn=false
 ·rw [if_pos hq]
  rw [hq.1] at c5;rw [hq.2] at c6;clear h hr hok hfa hq
  go_enter Tryz.func80,Tryz.ntmps80
  go_wp2
  (try simp only [Exit.inBlock,Exit.then])
  refine bodyPost_ret (results_none rfl _ _ _) rfl ?_;exact ⟨rfl,s,xs,S,HH.out,HR.out,Step.refl _ _⟩
 ·rw [if_neg hq]
  have hl:xs.length≤16:=by have:=hok.few;rw [hr.fs,List.length_map] at this;exact this
  have HFO:Hid (∀x∈xs,x.abs.2.Ok):=fun x hx=>hok.files x.abs (by rw [hr.fs];exact List.mem_map.2 ⟨x,hx,rfl⟩)
  obtain ⟨B,hB⟩:∃B,w.heap.size=B:=⟨_,rfl⟩;have HBE:=hide hB;obtain ⟨ad,had⟩:∃ad,s.ad=ad:=⟨_,rfl⟩
  have hlt:r<B:=by rw [←hB];exact h.lt r h.self
  have HC1:Hid (∀w',Below B w w'→w'.cell? ⟨r,1,none⟩=some (.slice ad xs.length s.c)):=fun w' hb=>by
   rw [←hr.n,←had];exact (World.cell?_of_block (hb.block r hlt)).trans (h.c 1)
  have HF:Hid (∀w',Below B w w'→Files w' ad xs):=fun w' hb=>by rw [←had];exact h.files.below (by rw [hB];exact hb)
  have HFA:Hid (∀w',Below B w w'→FatesAt w' ad2 ls):=fun w' hb=>by
   by_cases he:ls=[]
   ·exact .inl he
   ·rcases hfa with h | ⟨b,o,ha,hl,hc⟩
    ·exact absurd h he
    ·exact .inr ⟨b,o,ha,Nat.lt_of_lt_of_le hl hb.size,fun i hi j hj=>by rw [←hc i hi j hj];exact World.cell?_of_block (hb.block b (by rw [←hB];exact hl))⟩
  have HFZ:Hid (∀w',Below B w w'→RC w' r s):=fun w' hb=>by unfold RC;rw [hb.block r hlt];exact h.cells
  have HFIN:Hid (∀(w':World) (ys:List RF) (v:Value),Below B w w'→w'.ownsRow B 135 4 v ys.length (cellsF ys)→ys.map RF.abs=(xs.map RF.abs).map (crashP (ls.map FT.abs))→(∀y∈ys,y.ds=[])→∃s' xs' S',RefAt (((((w'.setCell ⟨r,1,none⟩ v).setCell ⟨r,2,none⟩ (.int .i64 0)).setCell ⟨r,4,none⟩ (.int .i64 0)).setCell ⟨r,5,none⟩ (.bool true)).setCell ⟨r,6,none⟩ (.bool false)) r s' xs' S'∧RRel s' xs' ⟨A.cap,A.fs.map (fun p=>(p.1,p.2.crash (fateOf (ls.map FT.abs) p.1))),⟨true,false,0,0,0⟩⟩∧Step S S' w (((((w'.setCell ⟨r,1,none⟩ v).setCell ⟨r,2,none⟩ (.int .i64 0)).setCell ⟨r,4,none⟩ (.int .i64 0)).setCell ⟨r,5,none⟩ (.bool true)).setCell ⟨r,6,none⟩ (.bool false))):=fun w' ys v hb ho ha hd=>by
   rw [←hB] at hb ho
   obtain ⟨adv,cv,S',rfl,h1,hst⟩:=h.list w' hb ho (fun y hy=>by rw [hd y hy];exact .inl rfl) (fun y hy hne=>absurd (hd y hy) hne)
   obtain ⟨h2,t2⟩:=h1.field 2 (.int .i64 0) { s with ad:=adv,n:=ys.length,c:=cv,arm:=0 } rfl rfl
   obtain ⟨h3,t3⟩:=h2.field 4 (.int .i64 0) { s with ad:=adv,n:=ys.length,c:=cv,arm:=0,fall:=0 } rfl rfl
   obtain ⟨h4,t4⟩:=h3.field 5 (.bool true) { s with ad:=adv,n:=ys.length,c:=cv,arm:=0,fall:=0,off:=true } rfl rfl
   obtain ⟨h5,t5⟩:=h4.field 6 (.bool false) { s with ad:=adv,n:=ys.length,c:=cv,arm:=0,fall:=0,off:=true,opn:=false } rfl rfl
   refine ⟨_,ys,S',h5,⟨rfl,hr.cap,⟨rfl,rfl,rfl,rfl,fun hx=>absurd hx (by show ¬(0:Int)<0;omega)⟩,?_,fun y hy=>?_⟩,(((hst.trans (step_self h1 t2)).trans (step_self h2 t3)).trans (step_self h3 t4)).trans (step_self h4 t5)⟩
   ·rw [ha,←hr.fs];rfl
   ·rw [hd y hy]
    show []=dirtyI ⟨y.seen.data.toList,y.safe.data.toList,fun s=>y.ds.contains (s:Int)⟩
    rw [hd y hy];exact (dirtyI_none _ _).symm
  have HDS:=hide hr.ds
  have hgo:(A.pow.off=false)∨(A.pow.off=true∧A.pow.opn=true):=by
   cases h1:A.pow.off with
   | false=>exact .inl rfl
   | true=>cases h2:A.pow.opn with
    | false=>exact absurd ⟨h1,h2⟩ hq
    | true=>exact .inr ⟨rfl,rfl⟩
  clear h hr hok hfa hB had hq
  go_enter Tryz.func80,Tryz.ntmps80
  go_upto_region 0 with fail
  go_cut [16] from 6 (fun s16 wx=>s16=.bool false∧wx=w)
  case first=>
   rcases hgo with h1 | ⟨h1,h2⟩
   ·rw [h1] at c5
    go_wp2_with fail
    go_meet
    exact ⟨rfl,rfl⟩
   ·rw [h1] at c5
    rw [h2] at c6;go_wp2_with fail
    go_meet
    exact ⟨rfl,rfl⟩
  case rest=>
  obtain ⟨rfl,hcut2⟩:=hcut;have hcw:w=wc:=hcut2.symm;subst hcw;clear hcut2 hgo c5 c6;go_wp2
  go_loopw [4,5] (fun v i wr=>∃(k:Nat) (ys:List RF) (vo:Value),vo=v∧k≤xs.length∧i=.int .i64 (k:Int)∧ys.length=k∧ys.map RF.abs=((xs.take k).map RF.abs).map (crashP (ls.map FT.abs))∧(∀y∈ys,y.ds=[])∧wr.ownsRow B 135 4 vo ys.length (cellsF ys)∧Below B w wr) (fun _ i _=>xs.length - (intOf i).toNat)
  case atStart=>exact ⟨0,[],_,rfl,by omega,rfl,rfl,rfl,by simp,World.ownsRow_nil _ _ _ _,Below.refl _ _⟩
  case round=>
   obtain ⟨k,ys,vo,rfl,hk,rfl,hyl,hya,hyd,hown,hbr⟩:=hrel;have c1:=HC1.out wr hbr
   by_cases hlt2:k<xs.length
   ·have dk:decide ((k:Int)<(xs.length:Int))=true:=decide_eq_true (by omega)
    have hk0:(0:Int)≤(k:Int):=by omega
    have hk1:(k:Int)<(xs.length:Int):=by omega
    have hfr:=HF.out wr hbr;obtain ⟨b,o,rfl,hbl,hcs⟩:=hfr.cells hlt2;have hsn:=take_snoc xs k hlt2;obtain ⟨x,hx⟩:∃x,xs[k]=x:=⟨_,rfl⟩
    have hxm:x∈xs:=by rw [←hx];exact List.getElem_mem hlt2
    rw [hx] at hcs hsn
    have f0:wr.cell? ⟨b,o+k * 4,none⟩=some (.string x.name):=hcs 0 (by omega)
    have f1:wr.cell? ⟨b,o+k * 4+1,none⟩=some (.string x.seen):=hcs 1 (by omega)
    have f2:wr.cell? ⟨b,o+k * 4+2,none⟩=some (.string x.safe):=hcs 2 (by omega)
    have f3:wr.cell? ⟨b,o+k * 4+3,none⟩=some (.slice x.ad x.ds.length x.cap):=hcs 3 (by omega)
    have hbe:=rBehind_any wr x x.abs.2 (HFO.out x hxm) rfl (HDS.out x hxm) (hfr.dirty x hxm) ad2 cap2 ls (HFA.out wr hbr) hfl;unfold RF.cs at hbe;have HYA:=hide hya;have HYD:=hide hyd;have HOW:=hide hown;have HBR:=hide hbr;have HSN:=hide hsn;clear hya hyd hown hbr hsn hcs hx hxm hfr hbl;go_wp2_with fail;refine hbe.mono ?_;rintro e w6 ⟨Y,rfl,hYl,hb⟩
    have hB6:=HBR.out.trans (hb.mono (by rw [←HBE.out];exact HBR.out.size))
    have ho6:w6.ownsRow B 135 4 vo ys.length (cellsF ys):=row_same HOW.out (fun b hb'=>hb.block b (World.ownsRow.lt HOW.out b hb').2)
    obtain ⟨g1,hg1⟩:∃g,w6.heap.size=g:=⟨_,rfl⟩;obtain ⟨y,hy⟩:∃y:RF,y=⟨x.name,Y,Y,none,0,[]⟩:=⟨_,rfl⟩;obtain ⟨wa,hwa⟩:∃w1,w6.alloc (.cells y.cs 135)=w1:=⟨_,rfl⟩
    obtain ⟨v2,w7,hap,hr7,hb7⟩:=app_file ho6 (by rw [←HBE.out];exact hB6.size) (by omega) y 91 hwa hg1
    have hyab:y.abs=crashP (ls.map FT.abs) x.abs:=by
     rw [hy]
     show (x.name.data.toList,(⟨Y.data.toList,Y.data.toList,fun s=>([]:List Int).contains (s:Int)⟩:AF))=_
     rw [hYl];rfl
    have HYA2:Hid ((ys++[y]).map RF.abs=((xs.take (k+1)).map RF.abs).map (crashP (ls.map FT.abs))):=by
     show _=_
     rw [HSN.out,List.map_append,List.map_append,List.map_append,HYA.out]
     show _++[y.abs]=_++[crashP _ x.abs]
     rw [hyab]
    have HYD2:Hid (∀z∈ys++[y],z.ds=[]):=fun z hz=>by
     rcases List.mem_append.1 hz with hz | hz
     ·exact HYD.out z hz
     ·rw [List.mem_singleton.1 hz,hy]
    have HLN:Hid ((ys++[y]).length=k+1):=by show _=_;rw [List.length_append,hyl];rfl
    have HO7:=hide hr7;have HB7:=hide (hB6.trans hb7);rw [hy] at hwa;unfold RF.cs at hwa;simp only [List.length_nil] at hwa;clear hbe hYl hb hB6 ho6 hy hr7 hb7 hyab
    go_wp2_with (at_builtin;refine wpList_app rfl _ _ _ rfl hap ?_;try go_frame)
    go_roundw
    case rel=>exact ⟨k+1,ys++[y],_,rfl,by omega,by go_num,HLN.out,HYA2.out,HYD2.out,HO7.out,HB7.out⟩
    case measure=>simp [intOf];omega
   ·have hkl:k=xs.length:=by omega
    subst hkl
    have dk:decide ((xs.length:Int)<(xs.length:Int))=false:=decide_eq_false (by omega)
    rw [List.take_length] at hya;have hcr:=HFZ.out wr hbr;obtain ⟨adv,cv,hv,_,_,_⟩:=own_at hown;have hfin:=HFIN.out wr ys vo hbr hown hya hyd;subst hv;have e1:wr.frozen? ⟨r,1,none⟩=false:=frozen_of_row wr r 1 _ _ hcr;have e2:wr.frozen? ⟨r,2,none⟩=false:=frozen_of_row wr r 2 _ _ hcr;have e4:wr.frozen? ⟨r,4,none⟩=false:=frozen_of_row wr r 4 _ _ hcr;have e5:wr.frozen? ⟨r,5,none⟩=false:=frozen_of_row wr r 5 _ _ hcr;have e6:wr.frozen? ⟨r,6,none⟩=false:=frozen_of_row wr r 6 _ _ hcr
    have q2:wr.cell? ⟨r,2,none⟩=some (.int .i64 s.arm):=by rw [cell_of_row wr r 2 _ _ (0,0) hcr];rfl
    have q4:wr.cell? ⟨r,4,none⟩=some (.int .i64 s.fall):=by rw [cell_of_row wr r 4 _ _ (0,0) hcr];rfl
    have q5:wr.cell? ⟨r,5,none⟩=some (.bool s.off):=by rw [cell_of_row wr r 5 _ _ (0,0) hcr];rfl
    have q6:wr.cell? ⟨r,6,none⟩=some (.bool s.opn):=by rw [cell_of_row wr r 6 _ _ (0,0) hcr];rfl
    have HFI:=hide hfin;clear hown hbr hcr hya hyd hfin hyl;go_wp2
    go_end0
    exact ⟨rfl,HFI.out⟩
set_option maxRecDepth 5000 in
theorem rOn_any (h:RefAt w r s xs S) (hr:RRel s xs A) (hok:A.Ok):Calls Tryz.prog 81 #[.pointer (some ⟨r,0,none⟩)] w fun e w'=>e=.returned (.tuple #[])∧∃s' xs' S',RefAt w' r s' xs' S'∧RRel s' xs' A.on∧Step S S' w w':=by
 have c6:w.cell? ⟨r,6,none⟩=some (.bool A.pow.opn):=by rw [←hr.pow.opn];exact h.c 6
 have c5:w.cell? ⟨r,5,none⟩=some (.bool s.off):=h.c 5;have f5:=h.fz 5
 have hcr:=rCrash_any h hr hok none 0 [] (.inl rfl) (by decide)
 have HH:=hide h;have HR:=hide hr;clear h hr hok;unfold AD.on
 cases ho:A.pow.opn with
 | false=>
  rw [ho] at c6;clear hcr ho
  go_enter Tryz.func81,Tryz.ntmps81
  go_wp2
  go_end0
  obtain ⟨h1,t1⟩:=HH.out.field 5 (.bool false) { s with off:=false } rfl rfl
  exact ⟨rfl,_,xs,S,h1,⟨HR.out.n,HR.out.cap,⟨HR.out.pow.arm,HR.out.pow.fall,rfl,HR.out.pow.opn,HR.out.pow.what⟩,HR.out.fs,HR.out.ds⟩,step_self HH.out t1⟩
 | true=>
  rw [ho] at c6;clear ho
  go_enter Tryz.func81,Tryz.ntmps81
  go_wp2_with fail;refine hcr.mono ?_;rintro e w1 ⟨rfl,s1,xs1,S1,h1,hr1,hst1⟩;have d5:w1.cell? ⟨r,5,none⟩=some (.bool s1.off):=h1.c 5;have g5:=h1.fz 5;have H1:=hide h1;have HR1:=hide hr1;have HS1:=hide hst1;clear hcr h1 hr1 hst1 c5 c6 f5;go_wp2
  go_end0
  obtain ⟨h2,t2⟩:=H1.out.field 5 (.bool false) { s1 with off:=false } rfl rfl
  exact ⟨rfl,_,xs1,S1,h2,⟨HR1.out.n,HR1.out.cap,⟨HR1.out.pow.arm,HR1.out.pow.fall,rfl,HR1.out.pow.opn,HR1.out.pow.what⟩,HR1.out.fs,HR1.out.ds⟩,HS1.out.trans (step_self H1.out t2)⟩
end
theorem rNew_bad (w:World) (cap:Int) (h:cap<0∨16777216<cap):Calls Tryz.prog 23 #[.int .i64 cap] w fun e w'=>e=.returned (.tuple #[.pointer none,.int .i64 1])∧w'=w:=by
 by_cases h1:cap<0
 ·have d1:decide (cap<0)=true:=decide_eq_true h1
  clear h h1
  go_enter Tryz.func23,Tryz.ntmps23
  go_wp2;go_ret2;exact ⟨rfl,rfl⟩
 ·have d1:decide (cap<0)=false:=decide_eq_false h1
  have d2:decide (16777216<cap)=true:=decide_eq_true (by omega)
  clear h h1
  go_enter Tryz.func23,Tryz.ntmps23
  go_wp2;go_ret2;exact ⟨rfl,rfl⟩
theorem rNew_good (w:World) (cap:Int) (h0:0≤cap) (h1:cap≤16777216):Calls Tryz.prog 23 #[.int .i64 cap] w fun e w'=>e=.returned (.tuple #[.pointer (some ⟨w.heap.size,0,none⟩),.int .i64 0])∧(∃s,RefAt w' w.heap.size s [] (fun b=>b=w.heap.size)∧RRel s [] (AD.fresh cap))∧Below w.heap.size w w':=by
 have d1:decide (cap<0)=false:=decide_eq_false (by omega)
 have d2:decide (16777216<cap)=false:=decide_eq_false (by omega)
 obtain ⟨g,hg⟩:∃g,w.heap.size=g:=⟨_,rfl⟩;obtain ⟨w3,hw3⟩:∃w3,w.alloc (.cells #[.int .i64 cap,.slice none 0 0,.int .i64 0,.int .i64 0,.int .i64 0,.bool false,.bool false] 93)=w3:=⟨_,rfl⟩
 have hb3:Below w.heap.size w w3:=by rw [←hw3];exact (Below.refl _ _).alloc (Nat.le_refl _) _
 have hk3:w3.heap[g]?=some (.cells #[.int .i64 cap,.slice none 0 0,.int .i64 0,.int .i64 0,.int .i64 0,.bool false,.bool false] 93 (0,0)):=by rw [←hw3,←hg];exact heap_alloc_new w _
 have HB3:=hide hb3
 have HFI:Hid (∃s,RefAt w3 g s [] (fun b=>b=g)∧RRel s [] (AD.fresh cap)):=⟨⟨cap,none,0,0,0,0,0,false,false⟩,⟨hk3,⟨.inl rfl,by simp⟩,fun b hb=>by rw [hb];exact lt_of_some hk3,rfl,fun b hb=>by rcases hb with ⟨hx,_⟩ | ⟨x,hx,_⟩<;>simp at hx⟩,⟨rfl,rfl,⟨rfl,rfl,rfl,rfl,fun hx=>absurd hx (by show ¬(0:Int)<0;omega)⟩,rfl,by simp⟩⟩
 rw [hg] at HB3 ⊢;clear hb3 hk3
 go_enter Tryz.func23,Tryz.ntmps23
 go_wp2;go_ret2;exact ⟨rfl,HFI.out,HB3.out⟩
section
variable {B:Nat} {w:World} {L:List Item} {i r:Nat} {A:AD}
theorem r_write (h:Lies B w L) (hi:L[i]?=some (.ref r A)) (hok:A.Ok) (t:ByteArray) (hz:t.size≤maxLen) (a:Int) (ha:-9223372036854775808≤a∧a<9223372036854775808) (u:ByteArray) (hu:u.size≤140737488355328) :
 Calls Tryz.prog 82 #[.pointer (some ⟨r,0,none⟩),.string t,.int .i64 a,.string u] w fun e w'=>e=.returned (.int .i64 (A.write t.data.toList a u.data.toList).1)∧Lies B w' (L.set i (.ref r (A.write t.data.toList a u.data.toList).2))∧Below B w w':=
 h.rcall (R:=fun e=>e=_) hi (fun s xs S hr hrel _=>rWrite_any hr hrel hok t hz a ha u hu)
theorem r_sync (h:Lies B w L) (hi:L[i]?=some (.ref r A)) (hok:A.Ok) (t:ByteArray) :
 Calls Tryz.prog 84 #[.pointer (some ⟨r,0,none⟩),.string t] w fun e w'=>e=.returned (.int .i64 (A.sync t.data.toList).1)∧Lies B w' (L.set i (.ref r (A.sync t.data.toList).2))∧Below B w w':=
 h.rcall (R:=fun e=>e=_) hi (fun s xs S hr hrel _=>rSync_any hr hrel hok t)
theorem r_trunc (h:Lies B w L) (hi:L[i]?=some (.ref r A)) (hok:A.Ok) (t:ByteArray) (n:Int) :
 Calls Tryz.prog 83 #[.pointer (some ⟨r,0,none⟩),.string t,.int .i64 n] w fun e w'=>e=.returned (.int .i64 (A.trunc t.data.toList n).1)∧Lies B w' (L.set i (.ref r (A.trunc t.data.toList n).2))∧Below B w w':=
 h.rcall (R:=fun e=>e=_) hi (fun s xs S hr hrel _=>rTrunc_any hr hrel hok t n)
-- left out in this seat: r_rename
theorem r_remove (h:Lies B w L) (hi:L[i]?=some (.ref r A)) (hok:A.Ok) (t:ByteArray) :
 Calls Tryz.prog 85 #[.pointer (some ⟨r,0,none⟩),.string t] w fun e w'=>e=.returned (.int .i64 (A.remove t.data.toList).1)∧Lies B w' (L.set i (.ref r (A.remove t.data.toList).2))∧Below B w w':=
 h.rcall (R:=fun e=>e=_) hi (fun s xs S hr hrel _=>rRemove_any hr hrel hok t)
theorem r_crash (h:Lies B w L) (hi:L[i]?=some (.ref r A)) (hok:A.Ok) (ad:Option Addr) (cap:Nat) (ls:List FT) (hfa:FatesAt w ad ls) (hfl:ls.length≤9223372036854775807) :
 Calls Tryz.prog 80 #[.pointer (some ⟨r,0,none⟩),.slice ad ls.length cap] w fun e w'=>e=.returned (.tuple #[])∧Lies B w' (L.set i (.ref r (A.crash (ls.map FT.abs))))∧Below B w w':=
 h.rcall (R:=fun e=>e=_) hi (fun s xs S hr hrel _=>rCrash_any hr hrel hok ad cap ls hfa hfl)
theorem r_on (h:Lies B w L) (hi:L[i]?=some (.ref r A)) (hok:A.Ok) :
 Calls Tryz.prog 81 #[.pointer (some ⟨r,0,none⟩)] w fun e w'=>e=.returned (.tuple #[])∧Lies B w' (L.set i (.ref r A.on))∧Below B w w':=
 h.rcall (R:=fun e=>e=_) hi (fun s xs S hr hrel _=>rOn_any hr hrel hok)
theorem r_arm (h:Lies B w L) (hi:L[i]?=some (.ref r A)) (n x:Int) :
 Calls Tryz.prog 78 #[.pointer (some ⟨r,0,none⟩),.int .i64 n,.int .i64 x] w fun e w'=>e=.returned (.tuple #[])∧Lies B w' (L.set i (.ref r (A.armed n x)))∧Below B w w':=
 h.rcall (R:=fun e=>e=_) hi (fun s xs S hr hrel _=>(rArm_any hr hrel n x).mono (fun e w' ⟨he,s',h1,h2,ht⟩=>⟨he,s',xs,S,h1,h2,step_self hr ht⟩))
theorem r_fall (h:Lies B w L) (hi:L[i]?=some (.ref r A)) (n:Int) :
 Calls Tryz.prog 79 #[.pointer (some ⟨r,0,none⟩),.int .i64 n] w fun e w'=>e=.returned (.tuple #[])∧Lies B w' (L.set i (.ref r (A.fallen n)))∧Below B w w':=
 h.rcall (R:=fun e=>e=_) hi (fun s xs S hr hrel _=>(rFall_any hr hrel n).mono (fun e w' ⟨he,s',h1,h2,ht⟩=>⟨he,s',xs,S,h1,h2,step_self hr ht⟩))
theorem r_off (h:Lies B w L) (hi:L[i]?=some (.ref r A)) :
 Calls Tryz.prog 51 #[.pointer (some ⟨r,0,none⟩)] w fun e w'=>e=.returned (.bool A.pow.off)∧w'=w:=by
 obtain ⟨S,⟨s,xs,hr,hrel⟩,hB⟩:=h.get hi;rw [←hrel.pow.off];exact rOff_any hr
theorem r_used (h:Lies B w L) (hi:L[i]?=some (.ref r A)) (hok:A.Ok) :
 Calls Tryz.prog 53 #[.pointer (some ⟨r,0,none⟩)] w fun e w'=>e=.returned (.int .i64 (fused A.fs:Int))∧w'=w:=by
 obtain ⟨S,⟨s,xs,hr,hrel⟩,hB⟩:=h.get hi;exact rUsed_any hr hrel hok
-- left out in this seat: r_size
theorem r_read (h:Lies B w L) (hi:L[i]?=some (.ref r A)) (hok:A.Ok) (t:ByteArray) (a n:Int) :
 Calls Tryz.prog 55 #[.pointer (some ⟨r,0,none⟩),.string t,.int .i64 a,.int .i64 n] w fun e w'=>e=.returned (.tuple #[.string ⟨(A.read t.data.toList a n).1.toArray⟩,.int .i64 (A.read t.data.toList a n).2])∧w'=w:=by
 obtain ⟨S,⟨s,xs,hr,hrel⟩,hB⟩:=h.get hi;exact rRead_any hr hrel hok t a n
theorem r_list (h:Lies B w L) (hi:L[i]?=some (.ref r A)) (hok:A.Ok) :
 Calls Tryz.prog 49 #[.pointer (some ⟨r,0,none⟩)] w fun e w'=>∃v,e=.returned v∧w'.ownsRow 0 9 1 v (A.list.map encStr).length (A.list.map encStr)∧Lies B w' (L++[.row 9 v (A.list.map encStr)])∧Below B w w':=
 h.rtold hi (fun s ys S hr hrel=>rList_any hr hrel hok)
theorem r_dirty (h:Lies B w L) (hi:L[i]?=some (.ref r A)) (hok:A.Ok) (t:ByteArray) :
 Calls Tryz.prog 58 #[.pointer (some ⟨r,0,none⟩),.string t] w fun e w'=>∃v,e=.returned v∧w'.ownsRow 0 3 1 v ((A.dirtyI t.data.toList).map (Value.int .i64)).length ((A.dirtyI t.data.toList).map (Value.int .i64))∧Lies B w' (L++[.row 3 v ((A.dirtyI t.data.toList).map (Value.int .i64))])∧Below B w w':=
 h.rtold hi (fun s ys S hr hrel=>rDirty_any hr hrel hok t)
end
end Go.Proofs.YtjbdncknooeplaaGreatDoor
namespace Go.Proofs.YtjbdncknooeplaaGreatDoor
open Go.RowKit Go.Maps Go.WideMaps
set_option linter.unusedVariables false
set_option linter.unusedSimpArgs false
theorem get_push {α:Type} {L M:List α} {i:Nat} {x:α} (h:L[i]?=some x):(L++M)[i]?=some x:=by
 rw [List.getElem?_append_left (List.getElem?_eq_some_iff.1 h).1];exact h
theorem get_last {α:Type} (L:List α) (x:α):(L++[x])[L.length]?=some x:=by simp
theorem dirty_len {A:AD} (h:A.Ok) (k:Key):(A.dirtyI k).length≤maxLen:=by
 unfold AD.dirtyI AD.dirty;rw [List.length_map]
 split
 ·exact Nat.zero_le _
 ·cases hg:fget A.fs k with
  | none=>exact Nat.zero_le _
  | some F=>exact Nat.le_trans (AF.dirtyL_length (h.files _ (fget_mem hg))) (by unfold maxLen;omega)
theorem list_len {A:AD} (h:A.Ok):A.list.length≤maxLen:=by
 unfold AD.list
 split
 ·exact Nat.zero_le _
 ·unfold fkeys
  rw [List.length_map]
  exact Nat.le_trans h.few (by unfold maxLen;omega)
theorem Lies.pick {B:Nat} {w:World} {L M:List Item} (h:Lies B w L) (f:Nat→Nat) (hf:∀i j,i<M.length→j<M.length→f i=f j→i=j) (hM:∀i (x:Item),M[i]?=some x→L[f i]?=some x):Lies B w M:=by
 obtain ⟨hb,S,h1,h2,h3⟩:=h
 have lt:∀i,i<M.length→f i<L.length:=fun i hi=>(List.getElem?_eq_some_iff.1 (hM i M[i] (List.getElem?_eq_getElem hi))).1
 exact ⟨hb,fun i=>S (f i),fun i x hi=>h1 (f i) x (hM i x hi),fun i b hi hs=>h2 (f i) b (lt i hi) hs,fun i j b hi hj hne=>h3 (f i) (f j) b (lt i hi) (lt j hj) (fun e=>hne (hf i j hi hj e))⟩
section
variable {B:Nat} {w:World} {L:List Item} {i j p r:Nat} {A:AD}
-- left out in this seat: told_any
end
section
variable {B:Nat} {w:World} {L:List Item} {i j p r:Nat} {A:AD}
end
end Go.Proofs.YtjbdncknooeplaaGreatDoor
namespace Go.Proofs.YtjbdncknooeplaaGreatDoor.Fr
namespace C
def poly:BitVec 32:=0x82f63b78#32
def st (x:BitVec 32):BitVec 32:=if x.getLsbD 0 then x >>> 1 ^^^ poly else x >>> 1
def stN:Nat→BitVec 32→BitVec 32
 | 0,x=>x
 | n+1,x=>stN n (st x)
def B (c:UInt8):BitVec 32:=BitVec.ofNat 32 c.toNat
def tn (x:BitVec 32):List UInt8→BitVec 32
 | []=>x
 | c :: l=>tn (stN 8 (x ^^^ B c)) l
def on (s:BitVec 32) (l:List UInt8):BitVec 32 := ~~~ (tn (~~~ s) l)
theorem xor_swap (a b c d:BitVec 32):(a ^^^ b) ^^^ (c ^^^ d)=(a ^^^ c) ^^^ (b ^^^ d):=by
 rw [BitVec.xor_assoc,BitVec.xor_assoc,←BitVec.xor_assoc b c d,BitVec.xor_comm b c,BitVec.xor_assoc]
theorem st_xor (x y:BitVec 32):st (x ^^^ y)=st x ^^^ st y:=by
 unfold st;rw [BitVec.getLsbD_xor,BitVec.ushiftRight_xor_distrib]
 cases x.getLsbD 0<;>cases y.getLsbD 0<;>simp
 ·rw [BitVec.xor_assoc]
 ·rw [BitVec.xor_assoc,BitVec.xor_assoc,BitVec.xor_comm poly]
 ·rw [xor_swap,BitVec.xor_self,BitVec.xor_zero]
theorem stN_xor (n:Nat):∀x y,stN n (x ^^^ y)=stN n x ^^^ stN n y:=by
 induction n with
 | zero=>intro x y;rfl
 | succ n ih=>intro x y;simp only [stN];rw [st_xor,ih]
theorem stN_add (m n:Nat):∀x,stN (m+n) x=stN n (stN m x):=by
 induction m with
 | zero=>intro x;rw [Nat.zero_add];rfl
 | succ m ih=>intro x;rw [Nat.succ_add];simp only [stN];rw [ih]
theorem stN_succ (n:Nat) (x:BitVec 32):stN (n+1) x=st (stN n x):=by rw [stN_add];rfl
theorem tn_append (x:BitVec 32) (a b:List UInt8):tn x (a++b)=tn (tn x a) b:=by
 induction a generalizing x with
 | nil=>rfl
 | cons c a ih=>simp only [List.cons_append,tn];rw [ih]
theorem on_append (s:BitVec 32) (a b:List UInt8):on s (a++b)=on (on s a) b:=by
 unfold on;rw [tn_append,BitVec.not_not]
theorem st_even (x:BitVec 32) (h:x.getLsbD 0=false):st x=x >>> 1:=by
 unfold st;rw [h];rfl
theorem stN_low (k:Nat):∀x:BitVec 32,(∀i,i<k→x.getLsbD i=false)→stN k x=x >>> k:=by
 induction k with
 | zero=>intro x _;simp [stN]
 | succ k ih=>
  intro x h;simp only [stN]
  rw [st_even x (h 0 (by omega)),ih]
  ·rw [←BitVec.shiftRight_add,Nat.add_comm]
  ·intro i hi
   rw [BitVec.getLsbD_ushiftRight]
   exact h _ (by omega)
theorem low_high (x:BitVec 32) (k:Nat):x=(x >>> k) <<< k ^^^ (x &&& BitVec.ofNat 32 (2 ^ k - 1)):=by
 apply BitVec.eq_of_getLsbD_eq;intro i hi;rw [BitVec.getLsbD_xor,BitVec.getLsbD_shiftLeft,BitVec.getLsbD_ushiftRight,BitVec.getLsbD_and,BitVec.getLsbD_ofNat,Nat.testBit_two_pow_sub_one]
 by_cases h:i<k
 ·simp [hi,h]
 ·simp [hi,h,show k+(i - k)=i by omega]
theorem stN_cut (x:BitVec 32) (k:Nat):stN k x=x >>> k ^^^ stN k (x &&& BitVec.ofNat 32 (2 ^ k - 1)):=by
 have h:=congrArg (stN k) (low_high x k);rw [stN_xor,stN_low k ((x >>> k) <<< k)] at h
 ·rw [h]
  congr 1
  apply BitVec.eq_of_getLsbD_eq;intro i hi;rw [BitVec.getLsbD_ushiftRight,BitVec.getLsbD_shiftLeft,BitVec.getLsbD_ushiftRight,BitVec.getLsbD_ushiftRight]
  by_cases h:k+i<32
  ·simp [h]
  ·simp [h,BitVec.getLsbD_of_ge x (k+i) (by omega)]
 ·intro i hi
  rw [BitVec.getLsbD_shiftLeft]
  simp [hi]
-- a table of what a linear function makes of each bit
def one (i:Nat):BitVec 32:=1#32 <<< i
def low (x:BitVec 32) (k:Nat):BitVec 32:=x &&& BitVec.ofNat 32 (2 ^ k - 1)
end C
namespace C
def over (l:List UInt8) (p:Nat) (f:Nat→UInt8) (k:Nat):List UInt8:=l.mapIdx fun i c=>if p≤i∧i<p+k then c ^^^ f (i - p) else c
end C
open Go.RowKit
theorem hide {p:Prop} (h:p):Hid p:=h
theorem ret_int {k:IntKind} {a b:Int} (h:a=b):Ending.returned (.int k a)=.returned (.int k b):=by rw [h]
def byteV (c:UInt8):Value:=.int .u8 (c.toNat:Int)
def byteAt (l:List UInt8) (i:Nat):UInt8:=l.getD i 0
def Bytes (w:World) (B:Nat) (v:Value) (l:List UInt8):Prop:=w.ownsRow B 5 1 v l.length (l.map byteV)
theorem info5:(Tryz.prog.info? 5).map (fun i=>(i.zero,i.size,i.bytes))=some (some (.int .u8 0),1,1):=by kernel_rfl
theorem Bytes.nil (w:World) (B:Nat):Bytes w B (.slice none 0 0) []:=World.ownsRow_nil w B 5 1
theorem grown_below {w w':World} {row:Option Nat} {B:Nat} (hg:w.grownBy w' row) (hr:∀k,row=some k→B≤k) (hB:B≤w.heap.size):Below B w w':=
 ⟨hg.os,hg.tape,hg.output,hg.size,fun k hk=>hg.block k (by omega) (fun e=>by have:=hr k e.symm;omega)⟩
theorem grown_alloc (w:World) (o:Obj) (row:Option Nat):w.grownBy (w.alloc o) row:=
 ⟨rfl,rfl,rfl,by simp,fun i hi _=>Below.heap_alloc w o i hi⟩
theorem grown_trans {w w1 w2:World} {row:Option Nat} (h:w.grownBy w1 row) (k:w1.grownBy w2 row):w.grownBy w2 row:=
 ⟨k.os.trans h.os,k.tape.trans h.tape,k.output.trans h.output,Nat.le_trans h.size k.size,fun i hi hn=>(k.block i (Nat.lt_of_lt_of_le hi h.size) hn).trans (h.block i hi hn)⟩
theorem Bytes.block {w:World} {B:Nat} {v:Value} {l:List UInt8} (h:Bytes w B v l):∀k,v.ownBlock=some k→B≤k:=fun k hk=>(World.ownsRow.lt h k hk).1
theorem Bytes.lt {w:World} {B:Nat} {v:Value} {l:List UInt8} (h:Bytes w B v l):∀k,v.ownBlock=some k→k<w.heap.size:=fun k hk=>(World.ownsRow.lt h k hk).2
structure Mv (w:World) (v:Value) (w':World) (v':Value):Prop where
 gr:w.grownBy w' v.ownBlock
 own:∀g,v'.ownBlock=some g→v.ownBlock=some g∨w.heap.size≤g
theorem Mv.refl (w:World) (v:Value):Mv w v w v:=⟨⟨rfl,rfl,rfl,Nat.le_refl _,fun _ _ _=>rfl⟩,fun _ h=>.inl h⟩
theorem Mv.trans {w w1 w2:World} {v v1 v2:Value} (h:Mv w v w1 v1) (k:Mv w1 v1 w2 v2):Mv w v w2 v2:=by
 refine ⟨⟨k.gr.os.trans h.gr.os,k.gr.tape.trans h.gr.tape,k.gr.output.trans h.gr.output,Nat.le_trans h.gr.size k.gr.size,fun i hi hn=>?_⟩,fun g hg=>?_⟩
 ·refine (k.gr.block i (Nat.lt_of_lt_of_le hi h.gr.size) (fun e=>?_)).trans (h.gr.block i hi hn)
  rcases h.own i e.symm with h1 | h1
  ·exact hn h1.symm
  ·omega
 ·have:=h.gr.size
  rcases k.own g hg with h1 | h1
  ·exact h.own g h1
  ·exact .inr (by omega)
theorem wpList_append_byte {ops:Array Oper} {rest:List Oper} {o:Oper} {a:Act} {w w0:World} {Q:Exit→Act→World→Prop} (hgd:o.guard=none) (s x:Operand)
 (ho:o.op=.call { callee:=.builtin .append,args:=#[s,x],argTypes:=#[114,114] }) (B:Nat) (v:Value) (l:List UInt8) (c:UInt8) (X:Int) (hX:X=(c.toNat:Int)) (hs:a.eval s=v) (hown:Bytes w0 B v l)
 (hx:a.eval x=.slice (some ⟨w0.heap.size,0,none⟩) 1 1) (hw:w=w0.alloc (.cells #[.int .u8 X] 5)) (hlen:l.length+1≤140737488355328) (hB:B≤w0.heap.size)
 (h:∀g cap w',Bytes w' B (.slice (some ⟨g,0,none⟩) (l.length+1) cap) (l++[c])→Mv w0 v w' (.slice (some ⟨g,0,none⟩) (l.length+1) cap)→wpList Tryz.prog ops Q rest (a.put o.dst (.slice (some ⟨g,0,none⟩) (l.length+1) cap)) w'):wpList Tryz.prog ops Q (o :: rest) a w:=by
 subst hX hw;have hh:=info5
 cases hq:Tryz.prog.info? 5 with
 | none=>rw [hq] at hh;cases hh
 | some i=>
  rw [hq] at hh;simp only [Option.map_some,Option.some.injEq,Prod.mk.injEq] at hh;obtain ⟨hz0,hz1,hz2⟩:=hh
  have hown':(w0.alloc (.cells #[.int .u8 (c.toNat:Int)] 5)).ownsRow B 5 1 v l.length (l.map byteV):=World.ownsRow.kept hown (grown_alloc w0 _ none) (by cases v.ownBlock<;>simp)
  refine wpList_append_lies (P:=Tryz.prog) _ hgd s x 114 ho B 5 i (.int .u8 0) 1 1 Tryz.underlying114 hq hz0 hz1 hz2 rfl (by omega) v l.length (l.map byteV) hs hown' ⟨w0.heap.size,0,none⟩ 1 1 [byteV c] hx rfl ?_ ?_ (by omega) (by unfold maxLen;omega) (by omega) (by simp;omega) (w0.heap.size+1) (by simp) ?_
  ·intro j u hu
   exact World.news_of_block (heap_alloc_new w0 _) j u hu
  ·intro u hu
   simp at hu;subst hu;rfl
  ·intro g cap w' h1 h2 h3 h4
   refine h g cap w' ?_ ⟨grown_trans (grown_alloc w0 _ v.ownBlock) h2,fun g' hg'=>?_⟩
   ·unfold Bytes
    rw [List.length_append,List.map_append];exact h1
   ·have e:g'=g:=by simpa [Value.ownBlock] using hg'.symm
    subst e
    rcases h3 with h3 | h3
    ·exact .inl h3
    ·exact .inr (by omega)
theorem run_append_bytes (w:World) (B:Nat) (ty tx:TypeId) (v:Value) (l news:List UInt8) (hown:Bytes w B v l) (x:Value) (hs:Src Tryz.prog 1 tx x news.length (news.map byteV) w) (hlen:l.length+news.length≤140737488355328) (hB:B≤w.heap.size) :
 ∃v' w',(Builtin.append_ #[114,tx] ty #[v,x]).run Tryz.prog w=.ok v' w'∧Bytes w' B v' (l++news)∧Mv w v w' v':=by
 obtain ⟨i,hi,hz0,hz1,hz2⟩:=info_parts info5;rw [←hz1] at hs
 by_cases hn:news=[]
 ·subst hn
  have hh:=hown.2
  rcases hh with ⟨rfl,hl⟩ | ⟨g,cap,cur,rfl,hb,hg,hnc,hcm,hcs,htake⟩
  ·exact ⟨_,_,run_append_nothing (P:=Tryz.prog) w 114 tx ty 5 i Tryz.underlying114 hi none 0 0 (Nat.le_refl _) x hs,by rw [List.append_nil];exact hown,Mv.refl _ _⟩
  ·exact ⟨_,_,run_append_nothing (P:=Tryz.prog) w 114 tx ty 5 i Tryz.underlying114 hi (some ⟨g,0,none⟩) l.length cap hnc x hs,by rw [List.append_nil];exact hown,Mv.refl _ _⟩
 have hpos:0<news.length:=List.length_pos_iff.2 hn;have hlen':(l++news).map byteV=l.map byteV++news.map byteV:=List.map_append
 have grown:∀(old:Nat),old<l.length+news.length →
  Bytes (w.drew.alloc (.cells ((l.map byteV++news.map byteV).toArray++Builtin.zeroCells (Value.int .u8 0).cells (grownCap w (l.length+news.length) old 5 - (l.length+news.length))) 5)) B
   (.slice (some ⟨w.heap.size,0,none⟩) (l.length+news.length) (grownCap w (l.length+news.length) old 5)) (l++news) ∧
  ∀row:Option Nat,w.grownBy (w.drew.alloc (.cells ((l.map byteV++news.map byteV).toArray++Builtin.zeroCells (Value.int .u8 0).cells (grownCap w (l.length+news.length) old 5 - (l.length+news.length))) 5)) row:=by
  intro old ho;have hge:=grownCap_ge w (l.length+news.length) old 5
  have hcm:grownCap w (l.length+news.length) old 5≤maxLen:=grownCap_le_maxLen w _ old 5 (by unfold maxLen;omega)
  refine ⟨?_,fun row=>⟨rfl,rfl,rfl,by simp,fun k hk _=>Below.heap_alloc w.drew _ k hk⟩⟩
  unfold Bytes;rw [List.length_append]
  refine ⟨by simp,.inr ⟨w.heap.size,_,_,rfl,hB,heap_alloc_new w.drew _,hge,hcm,?_,?_⟩⟩
  ·simp only [Array.size_append,List.size_toArray,size_zeroCells,List.length_append,List.length_map]
   rw [show (Value.int .u8 0).cells.size=1 from rfl]
   omega
  ·rw [hlen',Array.toList_append]
   have e:(l.length+news.length) * 1=(l.map byteV++news.map byteV).length:=by simp
   rw [e];exact List.take_left
 have hh:=hown.2
 rcases hh with ⟨rfl,hl⟩ | ⟨g,cap,cur,rfl,hb,hg,hnc,hcm,hcs,htake⟩
 ·have hl0:l=[]:=List.length_eq_zero_iff.1 hl
  subst hl0
  have hr:=run_append_grow_src (P:=Tryz.prog) w 114 tx ty 5 i (.int .u8 0) Tryz.underlying114 hi hz0 none 0 0 [] (run_firstCells_none w.drew i.size 0 0 0) x news.length (news.map byteV) hs (by omega) (by omega) (by
   rw [hz2,Nat.zero_add,Nat.mul_one]
   rw [nextslicecap_zero hpos];simp only [List.length_nil,Nat.zero_add] at hlen;omega)
  obtain ⟨g1,g2⟩:=grown 0 (by omega)
  simp only [List.length_nil,Nat.zero_add,List.map_nil] at g1 g2 hr
  refine ⟨_,_,hr,g1,g2 _,fun g' hg'=>.inr ?_⟩
  have e:g'=w.heap.size:=by simpa [Value.ownBlock] using hg'.symm
  omega
 ·have hc:=World.ownsRow.cells hown (g:=g) rfl
  by_cases hroom:l.length+news.length≤cap
  ·have hst:=run_storeCells_at Tryz.prog g (l.length * i.size) 5 (news.map byteV) 0 cur w hg (by simp [hz1];omega) hs.one
   rw [Nat.add_zero] at hst
   have hr:(Builtin.append_ #[114,tx] ty #[.slice (some ⟨g,0,none⟩) l.length cap,x]).run Tryz.prog w=.ok (.slice (some ⟨g,0,none⟩) (l.length+news.length) cap) (w.setRow g (cur.toList.take (l.length * i.size)++news.map byteV++cur.toList.drop (l.length * i.size+(news.map byteV).length)).toArray):=by
    rcases hs.kind with ⟨e',hk⟩ | hk<;>simp [Builtin.append_,run_underlying Tryz.underlying114,run_underlying hk,sizeOf,typeInfo,hi,hs.len,hroom,hs.cells,Addr.add_lit,hst]
   refine ⟨_,_,hr,?_,⟨rfl,rfl,rfl,by simp,fun k _ hk=>setRow_other w g k _ (fun e=>hk (by simp [Value.ownBlock,e]))⟩,fun g' hg'=>.inl ?_⟩
   ·unfold Bytes
    rw [List.length_append]
    refine ⟨by simp,.inr ⟨g,cap,_,rfl,hb,setRow_heap w g cur _ 5 _ hg,hroom,hcm,?_,?_⟩⟩
    ·simp only [List.size_toArray,List.length_append,List.length_take,List.length_drop,Array.length_toList,List.length_map,hz1]
     omega
    ·rw [hz1,htake,hlen']
     have e:(l.length+news.length) * 1=(l.map byteV++news.map byteV).length:=by simp
     rw [e];exact List.take_left
   ·simpa [Value.ownBlock] using hg'
  ·have hr:=run_append_grow_src (P:=Tryz.prog) w 114 tx ty 5 i (.int .u8 0) Tryz.underlying114 hi hz0 (some ⟨g,0,none⟩) l.length cap (l.map byteV) (by
    have:=run_firstCells_some (P:=Tryz.prog) w.drew i.size l.length ⟨g,0,none⟩ l.length cap (l.map byteV) (by simp [hz1]) hc
    exact this) x news.length (news.map byteV) hs (by omega) (by omega) (growslice_fits (by omega) (by rw [hz2];omega))
   obtain ⟨g1,g2⟩:=grown cap (by omega)
   refine ⟨_,_,hr,g1,g2 _,fun g' hg'=>.inr ?_⟩
   have e:g'=w.heap.size:=by simpa [Value.ownBlock] using hg'.symm
   omega
end Go.Proofs.YtjbdncknooeplaaGreatDoor.Fr
