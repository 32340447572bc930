import Derived.Test.YtjbdncknooeplaaGreatDoorWFirst
import Derived.Test.YtjbdncknooeplaaGreatDoorCurBase
import Derived.Lib.Atoi
namespace Go.Proofs.YtjbdncknooeplaaGreatDoor
open Go.RowKit Go.Maps
set_option linter.unusedVariables false
set_option linter.unusedSimpArgs false
structure WOp where
 kind:Int
 text:ByteArray
 name:ByteArray
 at_:Int
 n:Int
 first:Int
 ad:Option Addr
 fates:List FT
 cap:Nat
def WOp.cs (o:WOp):Array Value:=#[.int .i64 o.kind,.string o.text,.string o.name,.int .i64 o.at_,.int .i64 o.n,.int .i64 o.first,.slice o.ad o.fates.length o.cap]
structure WOp.Ok (o:WOp):Prop where
 k0:-9223372036854775808≤o.kind
 k1:o.kind<9223372036854775808
 name:o.name.size≤maxLen
 text:o.text.size≤140737488355328
 a0:-9223372036854775808≤o.at_
 a1:o.at_<9223372036854775808
 n0:-9223372036854775808≤o.n
 n1:o.n<9223372036854775808
 f0:-9223372036854775808≤o.first
 f1:o.first<9223372036854775808
 fates:∀x∈o.fates,x.Ok
 len:o.fates.length≤9223372036854775807
structure WOp.Lie (B:Nat) (w:World) (o:WOp):Prop where
 at_:FatesAt w o.ad o.fates
 lt:o.fates≠[]→∀b f,o.ad=some ⟨b,f,none⟩→b<B
theorem WOp.Lie.below {B:Nat} {w w':World} {o:WOp} (h:o.Lie B w) (hb:Below B w w'):o.Lie B w':=⟨h.at_.later hb h.lt,h.lt⟩
def WOpsAt (w:World) (ad:Option Addr) (os:List WOp):Prop:=os=[]∨∃b o,ad=some ⟨b,o,none⟩∧b<w.heap.size∧∀i (h:i<os.length) j,j<7→w.cell? ⟨b,o+i * 7+j,none⟩=(os[i].cs)[j]?
structure WScript (B:Nat) (w:World) (ad:Option Addr) (os:List WOp):Prop where
 at_:WOpsAt w ad os
 lt:os≠[]→∀b o,ad=some ⟨b,o,none⟩→b<B
 ok:∀o∈os,o.Ok
 lie:∀o∈os,o.Lie B w
 len:os.length≤maxLen
theorem WScript.below {B:Nat} {w w':World} {ad:Option Addr} {os:List WOp} (h:WScript B w ad os) (hb:Below B w w'):WScript B w' ad os:=by
 refine ⟨?_,h.lt,h.ok,fun o ho=>(h.lie o ho).below hb,h.len⟩
 rcases h.at_ with x | ⟨b,o,ha,hlt,hc⟩
 ·exact .inl x
 ·refine .inr ⟨b,o,ha,Nat.lt_of_lt_of_le hlt hb.size,fun i hi j hj=>?_⟩
  rw [←hc i hi j hj]
  exact World.cell?_of_block (hb.block b (h.lt (fun e=>by rw [e] at hi;simp at hi) b o ha))
theorem WScript.cells {B:Nat} {w:World} {ad:Option Addr} {os:List WOp} (h:WScript B w ad os) (k:Nat) (hk:k<os.length):∃b o,ad=some ⟨b,o,none⟩∧w.cell? ⟨b,o+k * 7,none⟩=some (.int .i64 (os[k]).kind)∧w.cell? ⟨b,o+k * 7+1,none⟩=some (.string (os[k]).text)∧w.cell? ⟨b,o+k * 7+2,none⟩=some (.string (os[k]).name)∧w.cell? ⟨b,o+k * 7+3,none⟩=some (.int .i64 (os[k]).at_)∧w.cell? ⟨b,o+k * 7+4,none⟩=some (.int .i64 (os[k]).n)∧w.cell? ⟨b,o+k * 7+5,none⟩=some (.int .i64 (os[k]).first)∧w.cell? ⟨b,o+k * 7+6,none⟩=some (.slice (os[k]).ad (os[k]).fates.length (os[k]).cap):=by
 rcases h.at_ with x | ⟨b,o,ha,hlt,hc⟩
 ·rw [x] at hk;simp at hk
 ·exact ⟨b,o,ha,hc k hk 0 (by omega),hc k hk 1 (by omega),hc k hk 2 (by omega),hc k hk 3 (by omega),hc k hk 4 (by omega),hc k hk 5 (by omega),hc k hk 6 (by omega)⟩
section
variable {B:Nat} {w:World} {L:List Item} {q j l p:Nat} {g:AL}
theorem row_text {ad:Option Addr} {n cap:Nat} {fs:List Key} (h:Lies B w L) (hq:L[q]?=some (.row 9 (.slice ad n cap) (fs.map encStr))):RowAt w ad (fs.map encStr)∧fs.length=n∧fs.length≤maxLen:=by
 obtain ⟨ad',cap',hv,hr,hl,hm⟩:=row_at (h.rowOf hq);rw [List.length_map] at hv hm;cases hv;exact ⟨hr,rfl,hm⟩
theorem names_at (h:Lies B w L) (hj:L[j]?=some (.log l p g)) (hg:g.Ok) (he:Env B w) {fs:List Key} {fn:Nat} (hfs:g.files=fs) (hfn:fs.length=fn) :
 Calls Tryz.prog 12 #[.pointer (some ⟨l,0,none⟩)] w fun e w'=>∃ad cap,e=.returned (.slice ad fn cap)∧Lies B w' (L++[.row 9 (.slice ad fn cap) (fs.map encStr)])∧Below B w w':=by
 refine (names_any h hj hg he).mono ?_;rintro e w' ⟨v,rfl,hl,hb⟩;rw [hfs] at hl
 obtain ⟨ad,cap,hv,hr,_⟩:=row_at (hl.rowOf (i:=L.length) (by rw [List.getElem?_append_right (Nat.le_refl _),Nat.sub_self];rfl))
 rw [List.length_map,hfn] at hv;subst hv;exact ⟨ad,cap,rfl,hl,hb⟩
theorem texts_same (h:Lies B w L) {ad1 ad2:Option Addr} {cap1 cap2 n:Nat} {ks:List Key} (h1:RowAt w ad1 (ks.map encStr)) (h2:RowAt w ad2 (ks.map encStr)) (hn:ks.length=n) (hm:ks.length≤maxLen) :
 Calls Tryz.prog 15 #[.slice ad1 n cap1,.slice ad2 n cap2] w fun e w'=>e=.returned (.bool true)∧Lies B w' L∧Below B w w':=by
 subst hn;refine (sameTexts_any w ad1 ad2 cap1 cap2 ks ks h1 h2 hm hm).mono ?_;rintro e w' ⟨rfl,hb⟩
 exact ⟨by simp,h.below hb,hb.mono h.base⟩
theorem Lies.rowSub {v:Value} {xs:List Key} (h:Lies B w L) (hq:L[q]?=some (.row 9 v (xs.map encStr))):Lies B w (L.set q (.sub v xs)):=by
 obtain ⟨ad,cap,hv,h1,h2,h3,h4,h5⟩:=h.toSub hq 0 (Nat.zero_le _)
 have e:(.slice (dropAd ad 0 cap) (xs.length - 0) (cap - 0):Value)=v:=by
  rw [hv,Nat.sub_zero,Nat.sub_zero];unfold dropAd
  split
  ·rfl
  ·cases ad with
   | none=>rfl
   | some a=>
    obtain ⟨b,rfl⟩:=h3 a rfl;rfl
 rw [e,List.drop_zero] at h5;exact h5
end
end Go.Proofs.YtjbdncknooeplaaGreatDoor
namespace Go.Proofs.YtjbdncknooeplaaGreatDoor
open Go.RowKit Go.Maps
set_option linter.unusedVariables false
structure RLogAt (w:World) (l p:Nat) (g:AL) (v:Value) (r:Option Nat):Prop where
 cells:w.heap[l]?=some (.cells (logCs p v g) 102 (0,0))
 row:SegRow w v g.segs r
 ne:r≠some l
section
variable {w w':World} {l p:Nat} {g:AL} {v:Value} {r:Option Nat}
theorem RLogAt.c0 (h:RLogAt w l p g v r):w.cell? ⟨l,0,none⟩=some (.pointer (some ⟨p,0,none⟩)):=by rw [cell_of_row w l 0 _ _ (0,0) h.cells];rfl
theorem RLogAt.c1 (h:RLogAt w l p g v r):w.cell? ⟨l,1,none⟩=some (.string g.name):=by rw [cell_of_row w l 1 _ _ (0,0) h.cells];rfl
theorem RLogAt.c2 (h:RLogAt w l p g v r):w.cell? ⟨l,2,none⟩=some (.int .i64 g.room):=by rw [cell_of_row w l 2 _ _ (0,0) h.cells];rfl
theorem RLogAt.c3 (h:RLogAt w l p g v r):w.cell? ⟨l,3,none⟩=some v:=by rw [cell_of_row w l 3 _ _ (0,0) h.cells];rfl
theorem RLogAt.c4 (h:RLogAt w l p g v r):w.cell? ⟨l,4,none⟩=some (.int .i64 g.next):=by rw [cell_of_row w l 4 _ _ (0,0) h.cells];rfl
theorem RLogAt.c5 (h:RLogAt w l p g v r):w.cell? ⟨l,5,none⟩=some (.bool g.dead):=by rw [cell_of_row w l 5 _ _ (0,0) h.cells];rfl
theorem RLogAt.fz (h:RLogAt w l p g v r) (i:Nat):w.frozen? ⟨l,i,none⟩=false:=frozen_of_row w l i _ _ h.cells
theorem RLogAt.lt (h:RLogAt w l p g v r):∀b,logFoot l r b→b<w.heap.size:=by
 rintro b (rfl | hb)
 ·exact lt_of_some h.cells
 ·exact h.row.lt b hb
theorem RLogAt.same (h:RLogAt w l p g v r) (e:∀b,logFoot l r b→w'.heap[b]?=w.heap[b]?):RLogAt w' l p g v r:=
 ⟨by rw [e l (.inl rfl)];exact h.cells,h.row.same (fun b hb=>e b (.inr hb)),h.ne⟩
end
def Item.rlog (l p:Nat) (g:AL):Item:=⟨fun w S=>∃v r,RLogAt w l p g v r∧∀b,S b↔logFoot l r b,fun w S ⟨v,r,h,hS⟩ b hb=>h.lt b ((hS b).1 hb),fun w w' S ⟨v,r,h,hS⟩ e=>⟨v,r,h.same (fun b hb=>e b ((hS b).2 hb)),hS⟩⟩
theorem Lies.setRLog {B:Nat} {w:World} {L:List Item} {i l p:Nat} {g g':AL} (h:Lies B w L) (hi:L[i]?=some (.rlog l p g)) (k:Nat) (x:Value)
 (hk:∀v,(logCs p v g).set! k x=logCs p v g') (hs:g'.segs=g.segs):Lies B (w.setCell ⟨l,k,none⟩ x) (L.set i (.rlog l p g'))∧Below B w (w.setCell ⟨l,k,none⟩ x):=by
 obtain ⟨S,⟨v,r,hat,hS⟩,hB,_,hu⟩:=h.upd hi;have hl:=lt_of_some hat.cells;have h1:=heap_setCell_same w l k _ _ x hat.cells
 have h2:∀b,b≠l→(w.setCell ⟨l,k,none⟩ x).heap[b]?=w.heap[b]?:=fun b hb=>Below.heap_setCell w ⟨l,k,none⟩ x b hb
 refine hu _ (.rlog l p g') S ⟨v,r,⟨?_,?_,hat.ne⟩,hS⟩ ⟨⟨rfl,rfl,rfl,by simp [World.setCell],fun b hb hn=>?_⟩,fun b hb=>.inl hb⟩
 ·rw [←hk v];exact h1
 ·rw [hs];exact hat.row.same (fun b hb=>h2 b (fun e=>hat.ne (by rw [hb,e])))
 ·exact h2 b (fun e=>hn ((hS b).2 (.inl e)))
def Item.rlogv (l p:Nat) (g:AL) (v:Value):Item:=⟨fun w S=>∃r,RLogAt w l p g v r∧∀b,S b↔logFoot l r b,fun w S ⟨r,h,hS⟩ b hb=>h.lt b ((hS b).1 hb),fun w w' S ⟨r,h,hS⟩ e=>⟨r,h.same (fun b hb=>e b ((hS b).2 hb)),hS⟩⟩
section
variable {B:Nat} {w:World} {L:List Item} {i j l p:Nat} {g:AL} {v:Value}
theorem Lies.rpin (h:Lies B w L) (hj:L[j]?=some (.rlog l p g)):∃v,Lies B w (L.set j (.rlogv l p g v)):=by
 obtain ⟨S,⟨v,r,hat,hS⟩,hB,_,hu⟩:=h.upd hj;exact ⟨v,(hu w (.rlogv l p g v) S ⟨r,hat,hS⟩ (Step.refl _ _)).1⟩
theorem Lies.runpin (h:Lies B w L) (hj:L[j]?=some (.rlogv l p g v)):Lies B w (L.set j (.rlog l p g)):=by
 obtain ⟨S,⟨r,hat,hS⟩,hB,_,hu⟩:=h.upd hj;exact (hu w (.rlog l p g) S ⟨v,r,hat,hS⟩ (Step.refl _ _)).1
theorem Lies.rlogv (h:Lies B w L) (hj:L[j]?=some (.rlogv l p g v)):∃r,RLogAt w l p g v r∧B≤l:=by
 obtain ⟨S,⟨r,hat,hS⟩,hB⟩:=h.get hj;exact ⟨r,hat,hB l ((hS l).2 (.inl rfl))⟩
end
theorem Lies.rlogAt {B:Nat} {w:World} {L:List Item} {i l p:Nat} {g:AL} (h:Lies B w L) (hi:L[i]?=some (.rlog l p g)):∃v r,RLogAt w l p g v r∧B≤l:=by
 obtain ⟨S,⟨v,r,hat,hS⟩,hB⟩:=h.get hi;exact ⟨v,r,hat,hB l ((hS l).2 (.inl rfl))⟩
section
variable {B:Nat} {w:World} {L:List Item} {j l p:Nat} {g:AL}
theorem rnext_log (h:Lies B w L) (hj:L[j]?=some (.rlog l p g)):Calls Tryz.prog 26 #[.pointer (some ⟨l,0,none⟩)] w fun e w'=>e=.returned (.int .i64 g.next)∧w'=w:=by
 obtain ⟨v,r,hat,_⟩:=h.rlogAt hj;have c4:=hat.c4;clear hat h
 go_enter Tryz.func26,Tryz.ntmps26
 go_wp2;go_ret
 exact ⟨rfl,by first | rfl | trivial⟩
end
end Go.Proofs.YtjbdncknooeplaaGreatDoor
namespace Go.Proofs.YtjbdncknooeplaaGreatDoor
open Go.RowKit Go.Maps
set_option linter.unusedVariables false
set_option maxRecDepth 100000 in
set_option maxHeartbeats 2000000 in
theorem rfile_any {B:Nat} (l:Nat) (n:Int) (nm:ByteArray) (w:World) (hc:w.cell? ⟨l,1,none⟩=some (.string nm)) (hl:l<w.heap.size) (hnm:nm.size≤24) (h0:0≤n) (h1:n≤10000000) (he:Env B w) (hB:B≤w.heap.size) :
 Calls Tryz.prog 59 #[.pointer (some ⟨l,0,none⟩),.int .i64 n] w fun e w'=>e=.returned (.string (fileB nm n))∧Below w.heap.size w w':=by
 have hln:=itoa_length h0 h1
 have HX:Hid (nm++⟨#[46]⟩++⟨(Lib.itoa n).toArray⟩=fileB nm n):=by
  show _=_
  unfold fileB fileL;have e:nm=⟨nm.data.toList.toArray⟩:=rfl
  conv=>lhs;rw [e]
  rw [show (⟨#[46]⟩:ByteArray)=⟨[46].toArray⟩ from rfl,ByteArray.mk_append_mk,ByteArray.mk_append_mk]
  simp
 have hadd:∀w:World,(Op.stringOp .add nm ⟨#[46]⟩).run Tryz.prog w=.ok (.string (nm++⟨#[46]⟩)) w:=fun w=>run_string_add_sum w nm ⟨#[46]⟩ (by show nm.size+1≤_;omega)
 have hadd2:∀w:World,(Op.stringOp .add (nm++⟨#[46]⟩) ⟨(Lib.itoa n).toArray⟩).run Tryz.prog w=.ok (.string (nm++⟨#[46]⟩++⟨(Lib.itoa n).toArray⟩)) w:=fun w=>run_string_add_sum w _ _ (by
  rw [ByteArray.size_append];show nm.size+1+(Lib.itoa n).toArray.size≤_;rw [List.size_toArray];omega)
 have HA:=hide hadd;have HA2:=hide hadd2;have HC:=hide hc;have HE:=hide he;clear hadd hadd2 hc he hln
 go_enter Tryz.func59,Tryz.ntmps59
 go_wp2;refine wp_region_noPanic ?_
 refine wp_region_held_drew (S:=fun wx=>wx.cell? ⟨l,1,none⟩=some (.string nm)∧Env B wx∧Below w.heap.size w wx) (by kernel_rfl) (⟨HC.out,HE.out.below ((Below.refl B w).drew),(Below.refl _ _).drew⟩) (fun hHeld=>?_)
 refine tK 0 (some 5) (.pointer (some ⟨l,0,none⟩)) rfl hHeld ?_;simp only [Act.put,pA,pB,pC];refine tK 1 (some 6) (.pointer (some ⟨l,0,none⟩)) rfl hHeld ?_;simp only [Act.put,pA,pB,pC];refine tK 2 (some 7) (.pointer (some ⟨l,1,none⟩)) rfl hHeld ?_;simp only [Act.put,pA,pB,pC]
 refine tH 3 (some 8) (.string nm) rfl (fun w hw=>by have hw1:=hw.1;first | rfl | (go_simp;done) | (go_simp;rfl)) hHeld ?_
 simp only [Act.put,pA,pB,pC]
 refine tH 4 (some 9) (.string (nm++⟨#[46]⟩)) rfl (fun w hw=>by have ha:=HA.out;first | rfl | (go_simp;done) | (go_simp;rfl)) hHeld ?_
 simp only [Act.put,pA,pB,pC];refine tK 5 (some 10) (.int .i64 n) rfl hHeld ?_;simp only [Act.put,pA,pB,pC]
 refine rdH 6 rfl (fun K hK=>?_)
 go_simp
 refine (itoa_any n (by omega) (by omega) _ hHeld.2.1).mono ?_
 rintro e x1 ⟨rfl,hb⟩
 try go_wp2_with fail
 refine hK.out _ _ (⟨by rw [World.cell?_of_block (hb.block l (Nat.lt_of_lt_of_le hl hHeld.2.2.size))];exact hHeld.1,hHeld.2.1.below (hb.mono (Nat.le_trans hB hHeld.2.2.size)),hHeld.2.2.trans (hb.mono hHeld.2.2.size)⟩) (fun hH=>?_)
 clear hK K hHeld;have hHeld:=hH;clear hH
 refine tH 7 (some 12) (.string (nm++⟨#[46]⟩++⟨(Lib.itoa n).toArray⟩)) rfl (fun w hw=>by have ha:=HA2.out;first | rfl | (go_simp;done) | (go_simp;rfl)) hHeld ?_
 simp only [Act.put,pA,pB,pC];refine tK 8 (some 4) (.string (nm++⟨#[46]⟩++⟨(Lib.itoa n).toArray⟩)) rfl hHeld ?_;simp only [Act.put,pA,pB,pC]
 refine ⟨by kernel_rfl,?_⟩
 refine NoPanic.normal ?_;go_wp2;go_ret;refine ⟨?_,hHeld.2.2⟩;rw [←HX.out]
 first | rfl | simp
section
variable {B:Nat} {w:World} {L:List Item} {j l p:Nat} {g:AL}
set_option maxRecDepth 100000 in
set_option maxHeartbeats 4000000 in
theorem rNames_any (h:Lies B w L) (hj:L[j]?=some (.rlog l p g)) (hg:g.Ok) (he:Env B w) :
 Calls Tryz.prog 27 #[.pointer (some ⟨l,0,none⟩)] w fun e w'=>∃v,e=.returned v∧Lies B w' (L++[.row 9 v (g.files.map encStr)])∧Below B w w':=by
 have hjl:=(List.getElem?_eq_some_iff.1 hj).1;obtain ⟨v0,hp⟩:=h.rpin hj;obtain ⟨M,hM⟩:∃M,L.set j (.rlogv l p g v0)=M:=⟨_,rfl⟩;rw [hM] at hp
 have hMj:M[j]?=some (.rlogv l p g v0):=by rw [←hM,List.getElem?_set_self hjl]
 have hMl:j<M.length:=by rw [←hM,List.length_set];exact hjl
 have HBACK:Hid (∀(W:World) (X:List Item),Lies B W (M++X)→Lies B W (L++X)):=fun W X hl=>by
  have h1:=hl.runpin (j:=j) (by rw [List.getElem?_append_left hMl];exact hMj)
  rw [List.set_append_left _ _ hMl,←hM,List.set_set,hset_keep hj] at h1;exact h1
 obtain ⟨r0,hat0,hBl⟩:=hp.rlogv hMj;obtain ⟨ad,cap,hv0,hcap,hform⟩:=hat0.row;obtain ⟨n,hn⟩:∃n,g.segs.length=n:=⟨_,rfl⟩;rw [hn] at hv0 hcap
 have hn7:n≤10000000:=by rw [←hn];exact hg.len
 have HCELLS:Hid (∀(W:World) (X:List Item),Lies B W (M++X)→W.cell? ⟨l,1,none⟩=some (.string g.name)∧W.cell? ⟨l,3,none⟩=some (.slice ad n cap)∧l<W.heap.size∧∀k,k<n→∃b off,ad=some ⟨b,off,none⟩∧W.cell? ⟨b,off+k * 3,none⟩=some (.int .i64 (g.segs.getD k ⟨0,0,0⟩).num)):=fun W X hl=>by
  obtain ⟨r,hat,_⟩:=hl.rlogv (j:=j) (by rw [List.getElem?_append_left hMl];exact hMj)
  refine ⟨hat.c1,by rw [hat.c3,hv0],lt_of_some hat.cells,fun k hk=>?_⟩
  obtain ⟨ad',cap',hv',_,hrow⟩:=hat.row;rw [hv0,hn] at hv';cases hv'
  rcases hrow with ⟨h1,h2,_⟩ | ⟨b,off,h1,_,_,hcs,_,_⟩
  ·omega
  ·refine ⟨b,off,h1,?_⟩
   have:=hcs (3 * k+0) (by omega)
   rw [cellsG_get _ _ (by omega) _ (by omega),Nat.add_zero,Nat.mul_comm] at this
   rw [this,List.getD_eq_getElem?_getD,List.getElem?_eq_getElem (show k<g.segs.length by omega)]
   rfl
 have HENV:=hide he;have HOK:=hide hg
 have HFL:Hid (g.files.length=n):=by show _=_;unfold AL.files;rw [List.length_map,hn]
 have hl0:=hp.pushNil 9;have HL0:Hid (Lies B w (M++[.row 9 (.slice none 0 0) (([]:List Key).map encStr)])):=hl0;have hbase:=h.base;have HBASE:=hide hbase;clear h hj hp hat0 hform he hg hMj hMl hM hl0 hbase hn hjl hv0
 go_enter Tryz.func27,Tryz.ntmps27
 go_wp2
 go_loopw [3,4] (fun y i wr=>∃k:Nat,k≤n∧i=.int .i64 (k:Int)∧Lies B wr (M++[.row 9 y ((g.files.take k).map encStr)])∧Below B w wr) (fun y i _=>n - (intOf i).toNat)
 case atStart=>exact ⟨0,by omega,rfl,by rw [List.take_zero];exact HL0.out,Below.refl _ _⟩
 case round=>
  obtain ⟨k,hk,rfl,hLr,hbr⟩:=hrel;obtain ⟨c1,c3,hll,hsg⟩:=HCELLS.out wr _ hLr
  by_cases hlt:k<n
  ·have dk:decide ((k:Int)<(n:Int))=true:=decide_eq_true (by omega)
   have dk2:decide (k<n)=true:=decide_eq_true (by omega)
   have hk0:(0:Int)≤(k:Int):=by omega
   have hk1:(k:Int)<(n:Int):=by omega
   obtain ⟨b,off,rfl,cs⟩:=hsg k hlt;obtain ⟨num,hnum⟩:∃x,(g.segs.getD k ⟨0,0,0⟩).num=x:=⟨_,rfl⟩;have hnr:=HOK.out.num k;rw [hnum] at cs hnr;have HF:=hide (rfile_any (B:=B) l num g.name wr c1 hll HOK.out.name hnr.1 hnr.2 (HENV.out.below hbr) hLr.base);have HLr:=hide hLr;have HBr:=hide hbr;have HNUM:=hide hnum;have hnr0:=hnr.1;have hnr1:=hnr.2;clear hLr hbr hsg hnum hnr;go_wp2_with fail;refine (HF.out).mono ?_;rintro e w2 ⟨rfl,hb2⟩;have hl2:=HLr.out.below hb2;obtain ⟨Wa,hWa⟩:∃x,w2.alloc (.cells #[.string (fileB g.name num)] 9)=x:=⟨_,rfl⟩;obtain ⟨ga,hga⟩:∃x,w2.heap.size=x:=⟨_,rfl⟩
   obtain ⟨ad2,n2,cap2,W2,hap,hl3,hb3⟩:=app_text hl2 (q:=M.length) (by rw [List.getElem?_append_right (Nat.le_refl _),Nat.sub_self];rfl) (fileB g.name num) (by rw [List.length_map,List.length_take];omega) 34 hWa hga
   have hfk:k<g.files.length:=by rw [HFL.out];exact hlt
   have hfe:g.files[k]'hfk=fileL g.name.data.toList num:=by
    have h1:=AL.fileAt_list g k (by have:=HFL.out;unfold AL.files at this;rw [List.length_map] at this;omega)
    rw [List.getElem?_eq_getElem hfk] at h1;have h2:=Option.some.inj h1;rw [h2];unfold AL.fileAt;rw [HNUM.out];rfl
   have hset:(M++[Item.row 9 u3 ((g.files.take k).map encStr)]).set M.length (.row 9 (.slice ad2 n2 cap2) ((g.files.take k).map encStr++[.string (fileB g.name num)]))=M++[.row 9 (.slice ad2 n2 cap2) ((g.files.take (k+1)).map encStr)]:=by
    rw [List.set_append_right _ _ (Nat.le_refl _),Nat.sub_self,List.take_succ_eq_append_getElem hfk,List.map_append,hfe];rfl
   rw [hset] at hl3;have HL3:=hide hl3;have HB3:=hide (HBr.out.trans ((hb2.mono HLr.out.base).trans hb3));have HAP:=hide hap;have HWA:=hide hWa;have HGA:=hide hga;clear hl2 hl3 hb2 hb3 hap hset hfe hWa hga
   go_wp2_with (at_builtin;rw [HWA.out];refine wpList_appS rfl _ _ _ rfl (by show (Builtin.append_ _ _ #[_,.slice (some ⟨w2.heap.size,0,none⟩) 1 1]).run _ _=_;rw [HGA.out];exact HAP.out) ?_)
   go_roundw
   case rel=>exact ⟨k+1,by omega,by go_num,HL3.out,HB3.out⟩
   case measure=>simp [intOf];omega
  ·have hkn:n=k:=by omega
   subst hkn
   have dk:decide ((n:Int)<(n:Int))=false:=decide_eq_false (by omega)
   have HE:Hid (g.files.take n=g.files):=by show _=_;rw [←HFL.out];exact List.take_length
   have HLr:=hide hLr;have HBr:=hide hbr;clear hLr hbr hsg;go_wp2;go_ret;refine ⟨_,rfl,?_,HBr.out⟩;have h1:=HLr.out;rw [HE.out] at h1;exact HBACK.out _ _ h1
end
end Go.Proofs.YtjbdncknooeplaaGreatDoor
namespace Go.Proofs.YtjbdncknooeplaaGreatDoor
open Go.RowKit Go.Maps
set_option linter.unusedVariables false
theorem lname_name (k:Key):lnameOk k=(nameOk k && decide (k.length≤24)):=by
 rw [lnameOk_eq,nameOk_eq]
 by_cases h:k.length≤24
 ·have h2:k.length≤32:=by omega
  simp [h,h2]
 ·simp [h]
theorem rnamed_any (s:ByteArray) (hz:s.size≤maxLen) (w:World):Calls Tryz.prog 108 #[.string s] w fun e w'=>e=.returned (.bool (lnameOk s.data.toList))∧w'=w:=by
 have HC:=hide (rName_any s hz w);rw [lname_name,str_len];unfold maxLen at hz
 cases hb:nameOk s.data.toList with
 | true=>
  rw [hb] at HC
  go_enter Tryz.func108,Tryz.ntmps108
  go_wp2_with fail;refine (HC.out).mono ?_;rintro e w1 ⟨rfl,rfl⟩;go_wp2;go_ret
  exact ⟨by simp;omega,by first | rfl | trivial⟩
 | false=>
  rw [hb] at HC
  go_enter Tryz.func108,Tryz.ntmps108
  go_wp2_with fail;refine (HC.out).mono ?_;rintro e w1 ⟨rfl,rfl⟩;go_wp2;go_ret
  exact ⟨by simp,by first | rfl | trivial⟩
theorem decFrom_snoc (b:UInt8):∀(l:List UInt8) (acc:Nat),Lib.decFrom acc (l++[b])=(Lib.decFrom acc l).bind (fun m=>(Lib.digitVal b).map (fun d=>m * 10+d))
 | [],acc=>by
  simp only [List.nil_append,Lib.decFrom]
  cases Lib.digitVal b<;>rfl
 | a :: t,acc=>by
  simp only [List.cons_append,Lib.decFrom]
  cases Lib.digitVal a with
  | none=>rfl
  | some d=>exact decFrom_snoc b t _
theorem digitVal_of {d:Nat} (h:d<10):Lib.digitVal (UInt8.ofNat (48+d))=some d:=by
 unfold Lib.digitVal
 have e:(UInt8.ofNat (48+d)).toNat=48+d:=by
  rw [UInt8.toNat_ofNat'];omega
 rw [e,if_pos (by omega)]
 congr 1;omega
theorem decFrom_digits (n:Nat):Lib.decFrom 0 (Lib.decDigits n)=some n:=by
 induction n using Nat.strongRecOn with
 | _ n ih=>
  rw [Lib.decDigits]
  split
  ·rename_i h
   rw [show [UInt8.ofNat (48+n)]=[]++[UInt8.ofNat (48+n)] from rfl,decFrom_snoc,digitVal_of h]
   simp [Lib.decFrom]
  ·rename_i h
   rw [decFrom_snoc,ih (n / 10) (by omega),digitVal_of (by omega)]
   simp only [Option.bind_some,Option.map_some,Option.some.injEq];omega
theorem digits_ne (n:Nat):Lib.decDigits n≠[]:=by
 rw [Lib.decDigits]
 split<;>simp
theorem decFrom_le:∀(l:List UInt8) (acc m:Nat),Lib.decFrom acc l=some m→acc≤m
 | [],acc,m,h=>by simp only [Lib.decFrom,Option.some.injEq] at h;omega
 | a :: t,acc,m,h=>by
  simp only [Lib.decFrom] at h
  cases ha:Lib.digitVal a with
  | none=>simp [ha] at h
  | some d=>simp only [ha] at h;have:=decFrom_le t _ m h;omega
theorem parse_of:∀(l:List UInt8) (acc m:Nat),Lib.decFrom acc l=some m→m<9223372036854775808→Lib.parseUint10 acc l=.ok m
 | [],acc,m,h,hm=>by simp only [Lib.decFrom,Option.some.injEq] at h;rw [h];rfl
 | a :: t,acc,m,h,hm=>by
  simp only [Lib.decFrom] at h
  cases ha:Lib.digitVal a with
  | none=>simp [ha] at h
  | some d=>
   simp only [ha] at h;have hl:=decFrom_le t _ m h;unfold Lib.digitVal at ha
   split at ha
   ·rename_i hd
    simp only [Option.some.injEq] at ha;unfold Lib.parseUint10
    rw [if_pos hd,ha,if_neg (by omega),if_neg (by omega)]
    exact parse_of t _ m h hm
   ·cases ha
theorem atoi_of {l:List UInt8} {m:Nat} (hne:l≠[]) (h:Lib.decFrom 0 l=some m) (hm:m<9223372036854775808):Lib.atoiAll l=.ok (m:Int):=by
 cases l with
 | nil=>exact absurd rfl hne
 | cons c r=>
  have hp:=parse_of _ 0 m h hm
  have hd:48≤c.toNat∧c.toNat≤57:=by
   simp only [Lib.decFrom] at h;unfold Lib.digitVal at h
   split at h
   ·rename_i d hd
    split at hd
    ·assumption
    ·cases hd
   ·cases h
  have h1:¬(c.toNat=43∨c.toNat=45):=by omega
  have h2:¬c.toNat=45:=by omega
  have h3:¬9223372036854775808≤m:=by omega
  unfold Lib.atoiAll;simp only [h1,if_false,Lib.parseMag,hp,reduceCtorEq]
  simp [h2,h3]
def numD (f k:Key):Option Int:=
 if k.length+1<f.length∧f.length≤k.length+8∧Lib.hasPrefix f (k++[46])=true then
  match Lib.decFrom 0 (f.drop (k.length+1)) with
  | some n=>if Lib.itoa (n:Int)=f.drop (k.length+1) then some (n:Int) else none
  | none=>none
 else none
theorem itoa_nat (n:Nat):Lib.itoa (n:Int)=Lib.decDigits n:=by
 unfold Lib.itoa
 rw [if_neg (by omega)]
 rfl
theorem numOf_iff (f k:Key) (v:Int):numOf f k=some v↔Lib.hasPrefix f (k++[46])=true∧0≤v∧v≤9999999∧Lib.itoa v=f.drop (k.length+1):=by
 unfold numOf
 constructor
 ·intro h
  split at h
  ·rename_i hp
   split at h
   ·split at h
    ·rename_i hc;cases h;exact ⟨hp,hc⟩
    ·cases h
   ·cases h
  ·cases h
 ·rintro ⟨hp,h0,h1,h2⟩
  obtain ⟨n,rfl⟩:∃n:Nat,v=n:=⟨v.toNat,by omega⟩
  rw [if_pos hp,←h2,itoa_nat,atoi_of (digits_ne n) (decFrom_digits n) (by omega)]
  show (if _ then _ else _)=_
  rw [itoa_nat,if_pos ⟨h0,h1,rfl⟩]
theorem numD_iff (f k:Key) (v:Int):numD f k=some v↔Lib.hasPrefix f (k++[46])=true∧0≤v∧v≤9999999∧Lib.itoa v=f.drop (k.length+1):=by
 unfold numD
 constructor
 ·intro h
  split at h
  ·rename_i hp
   split at h
   ·rename_i n hn
    split at h
    ·rename_i hc
     cases h;have hl:=Lib.decFrom_lt _ 0 n hn;rw [List.length_drop] at hl
     have hpow:10 ^ (f.length - (k.length+1))≤10 ^ 7:=Nat.pow_le_pow_right (by omega) (by omega)
     have h7:(10:Nat) ^ 7=10000000:=by decide
     exact ⟨hp.2.2,by omega,by omega,hc⟩
    ·cases h
   ·cases h
  ·cases h
 ·rintro ⟨hp,h0,h1,h2⟩
  obtain ⟨n,rfl⟩:∃n:Nat,v=n:=⟨v.toNat,by omega⟩
  rw [itoa_nat] at h2
  have hl:=decDigits_length n 6 (by show n<10000000;omega)
  have hn:=List.length_pos_iff.2 (digits_ne n);rw [h2,List.length_drop] at hl hn
  rw [if_pos ⟨by omega,by omega,hp⟩,←h2,decFrom_digits]
  show (if _ then _ else _)=_
  rw [itoa_nat,if_pos rfl]
theorem numD_eq (f k:Key):numD f k=numOf f k:=by
 cases h:numOf f k with
 | some v=>exact (numD_iff f k v).2 ((numOf_iff f k v).1 h)
 | none=>
  cases h2:numD f k with
  | none=>rfl
  | some v=>rw [(numOf_iff f k v).2 ((numD_iff f k v).1 h2)] at h;cases h
end Go.Proofs.YtjbdncknooeplaaGreatDoor
