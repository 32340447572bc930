import Derived.Test.YtjbdncknooeplaaGreatDoorRows
import Derived.Test.YtjbdncknooeplaaGreatDoorWRNumM
import Derived.ProofKit
import Derived.OpenShut
import Derived.SizedLaws
import Derived.Deep.Slices
import Derived.Test.YtjbdncknooeplaaGreatDoorWRPlays
import Derived.Test.YtjbdncknooeplaaGreatDoorWFile
import Derived.LaidLaws
import Derived.Lib.LaidTab
namespace Go.Proofs.YtjbdncknooeplaaGreatDoor
open Go.ChangeShapes Go.WideShapes Go.ChangeAt Go.RowKit Go.Deep
theorem cellsN3:Tryz.prog.cellsOf 3=1:=by kernel_rfl
theorem cellsN9:Tryz.prog.cellsOf 9=1:=by kernel_rfl
theorem cellsNFs:Tryz.prog.cellsOf 29=1:=by kernel_rfl
theorem cellsNF:Tryz.prog.cellsOf 129=4:=by kernel_rfl
theorem cellsN2:Tryz.prog.cellsOf 2=1:=by kernel_rfl
theorem cellsNO:Tryz.prog.cellsOf 31=7:=by kernel_rfl
theorem one_cell {cs:List Value} {o:Nat} {v:Value} (h:(cs.drop o).take 1=[v]):cs[o]?=some v:=by
 have:=congrArg (fun l=>l[0]?) h
 simpa [List.getElem?_take,List.getElem?_drop] using this
def Sz {H:Type} (t:TypeId) (d:DataW H):Prop:=∀n∈d.weights Tryz.prog t,n≤reachBytes
section
variable {H:Type}
theorem Sz.arg {ts:List TypeId} {ds:List (DataW H)} (h:(DataW.weightsEach Tryz.prog ts ds).all (·≤reachBytes)=true) {j:Nat} {t:TypeId} {d:DataW H} (ht:ts[j]?=some t) (hd:ds[j]?=some d):Sz t d:=fun n hn=>by
 have:=List.all_eq_true.1 h n (DataW.weights_mem_each ht hd n hn)
 simpa using this
theorem Sz.part {t:TypeId} {fs:Array Field} {parts:List (DataW H)} (h:Sz t (.agg parts)) (hu:Tryz.prog.underlying t=some (.struct fs)) {j:Nat} {t':TypeId} {d:DataW H} (ht:(fs.toList.map (·.type))[j]?=some t') (hd:parts[j]?=some d):Sz t' d:=fun n hn=>
 h n (by simp only [DataW.weights,hu];exact DataW.weights_mem_each ht hd n hn)
theorem weights_all {e:TypeId}:∀{l:List (DataW H)} {d:DataW H},d∈l→∀n∈d.weights Tryz.prog e,n∈DataW.weightsAll Tryz.prog e l
 | [],_,h,_,_=>by simp at h
 | a :: l,d,h,n,hn=>by
  simp only [DataW.weightsAll,List.mem_append]
  rcases List.mem_cons.1 h with rfl | h
  ·exact .inl hn
  ·exact .inr (weights_all h n hn)
theorem Sz.elem {t e:TypeId} {elems spare:List (DataW H)} (h:Sz t (.slice elems spare)) (hu:Tryz.prog.underlying t=some (.slice e)) {d:DataW H} (hd:d∈elems):Sz e d:=fun n hn=>
 h n (by simp only [DataW.weights,hu,List.mem_cons,List.mem_append];exact .inr (.inl (weights_all hd n hn)))
theorem Sz.str {t:TypeId} {b:List UInt8} (h:Sz (H:=H) t (.lit (.string b))):b.length≤reachBytes:=h _ (by simp [DataW.weights])
end
section
variable {H:Type} {enc:TypeId×Value→H} {W:World} {base:Nat} {held:Bool}
theorem int_wf {n:Int} (h:(Lit.int .i64 n).wf=true):-9223372036854775808≤n∧n<9223372036854775808:=by
 have:-9223372036854775808≤n∧n≤9223372036854775807:=by simpa [Lit.wf,IntKind.min,IntKind.max,IntKind.signed,IntKind.bits] using h
 omega
theorem open_fate {spare:Nat→Bool} {n:Nat} {cs:List Value} {x:DataW H×List MemPlace} (h:DataW.trod enc Tryz.prog W base spare held n 129 cs=some x) :
 ∃y:FT,(∀j,j<4→cs[j]?=y.cs[j]?)∧y.Ok:=by
 obtain ⟨xs,m,_,hx,hl,hlen,hf⟩:=DataW.trod_struct Tryz.underlying129 h;have hl4:xs.length=4:=hlen
 have g:∀(i:Nat) (hi:i<xs.length),xs[i]?=some xs[i]:=fun i hi=>List.getElem?_eq_getElem hi
 have f0:DataW.trod enc Tryz.prog W base spare held m 9 ((cs.drop 0).take (Tryz.prog.cellsOf 9))=some xs[0]:=(hf 0 _ rfl).trans (g 0 (by omega))
 have f1:DataW.trod enc Tryz.prog W base spare held m 3 ((cs.drop 1).take (Tryz.prog.cellsOf 3))=some xs[1]:=(hf 1 _ rfl).trans (g 1 (by omega))
 have f2:DataW.trod enc Tryz.prog W base spare held m 3 ((cs.drop 2).take (Tryz.prog.cellsOf 3))=some xs[2]:=(hf 2 _ rfl).trans (g 2 (by omega))
 have f3:DataW.trod enc Tryz.prog W base spare held m 9 ((cs.drop 3).take (Tryz.prog.cellsOf 9))=some xs[3]:=(hf 3 _ rfl).trans (g 3 (by omega))
 rw [cellsN9] at f0 f3;rw [cellsN3] at f1 f2;obtain ⟨s0,e0,_,_⟩:=DataW.trod_string Tryz.underlying9 f0;obtain ⟨z1,e1,_,w1⟩:=DataW.trod_int Tryz.underlying3 f1;obtain ⟨z2,e2,_,w2⟩:=DataW.trod_int Tryz.underlying3 f2;obtain ⟨s3,e3,_,_⟩:=DataW.trod_string Tryz.underlying9 f3
 refine ⟨⟨s0,z1,z2,s3⟩,fun j hj=>?_,(int_wf w1).1,(int_wf w1).2⟩
 match j,hj with
 | 0,_=>exact one_cell e0
 | 1,_=>exact one_cell e1
 | 2,_=>exact one_cell e2
 | 3,_=>exact one_cell e3
theorem open_fates {fuel:Nat} {cs:List Value} {x:DataW H×List MemPlace} (h:DataW.trod enc Tryz.prog W 0 (fun _=>true) held fuel 29 cs=some x) (hz:Sz 29 x.1) :
 ∃(ad:Option Addr) (ls:List FT) (cap:Nat),cs=[.slice ad ls.length cap]∧FatesAt W ad ls∧(∀y∈ls,y.Ok)∧(ls.length+1) * 48≤140737488355328∧∀b o,ad=some ⟨b,o,none⟩→ls≠[]→b<W.heap.size:=by
 rcases open_slice Tryz.underlying29 h with ⟨hcs,hx⟩ | ⟨a,len,cap,m,n,D,Pl,hcs,_,hl,hm,hmm,hx,hel⟩
 ·exact ⟨none,[],0,hcs,.inl rfl,by simp,by simp,by simp⟩
 ·simp only [if_true] at hmm
  subst hmm
  have hbig:len * 48≤reachBytes:=by
   rw [hx] at hz
   have h1:=hz ((((List.range len).map D).length+((List.range (m - len)).map fun j=>D (len+j)).length) * Tryz.prog.bytesOf 129) (by
    unfold DataW.weights;rw [Tryz.underlying29]
    exact List.mem_cons_self ..)
   have hbo:Tryz.prog.bytesOf 129=48:=by kernel_rfl
   rw [hbo] at h1;simp only [List.length_map,List.length_range] at h1;omega
  rw [cellsNF] at hel
  have hex:∀i,i<len→∃y:FT,(∀j,j<4→W.cell? ((a.add (i * 4)).add j)=y.cs[j]?)∧y.Ok:=fun i hi=>by
   obtain ⟨cs',h1,h2⟩:=hel i (by omega)
   obtain ⟨_,hln,hget⟩:=World.cells?_some h1;obtain ⟨y,hy,hok⟩:=open_fate h2
   exact ⟨y,fun j hj=>by rw [hget j hj,hy j hj],hok⟩
  have hin:Inhabited FT:=⟨FT.zero⟩;obtain ⟨f,hfv⟩:=choose_lt (α:=FT) hex
  have hlen:((List.range len).map f).length=len:=by simp
  have hat:FatesAt W (some a) ((List.range len).map f)∧∀b o,(some a:Option Addr)=some ⟨b,o,none⟩→(List.range len).map f≠[]→b<W.heap.size:=by
   by_cases hl0:len=0
   ·subst hl0;exact ⟨.inl rfl,fun b o _ hne=>absurd rfl hne⟩
   ·obtain ⟨b,off,spot⟩:=a
    have hspot:spot=none:=by
     have h00:=(hfv 0 (by omega)).1 0 (by omega)
     have hs:(f 0).cs[0]?=some (.string (f 0).file):=rfl;rw [hs] at h00
     simpa [Addr.add] using World.cell?_spot h00
    subst hspot
    have hadd:∀i j,((⟨b,off,none⟩:Addr).add (i * 4)).add j=⟨b,off+i * 4+j,none⟩:=fun i j=>by
     rw [add_add];unfold Addr.add;split<;>simp_all<;>omega
    have hlt:b<W.heap.size:=by
     have h00:=(hfv 0 (by omega)).1 0 (by omega)
     have hs:(f 0).cs[0]?=some (.string (f 0).file):=rfl;rw [hadd,hs] at h00;exact World.block_lt_of_cell? _ _ h00
    refine ⟨.inr ⟨b,off,rfl,hlt,fun i hi j hj=>?_⟩,fun b' o' hb' _=>by cases hb';exact hlt⟩
    have hi':i<len:=by simpa using hi
    have:=(hfv i hi').1 j hj
    rw [hadd] at this
    simpa using this
  refine ⟨some a,(List.range len).map f,_,by rw [hlen];exact hcs,hat.1,fun y hy=>?_,by rw [hlen];unfold reachBytes at hbig;omega,hat.2⟩
  obtain ⟨i,hi,rfl⟩:=List.mem_map.1 hy;exact (hfv i (List.mem_range.1 hi)).2
end
end Go.Proofs.YtjbdncknooeplaaGreatDoor
namespace Go.Proofs.YtjbdncknooeplaaGreatDoor
open Go.ChangeShapes Go.WideShapes Go.ChangeAt Go.RowKit Go.Deep
section
variable {H:Type} {enc:TypeId×Value→H} {W:World} {base:Nat} {held:Bool}
theorem open_opP {n:Nat} {cs:List Value} {x:DataW H×List MemPlace} (h:DataW.trod enc Tryz.prog W 0 (fun _=>true) held n 31 cs=some x) (hz:Sz 31 x.1) :
 ∃o:WOp,cs.length=7∧(∀j,j<7→cs[j]?=o.cs[j]?)∧o.Ok∧o.Lie W.heap.size W∧o.Sz:=by
 obtain ⟨xs,m,_,hx,hl,hlen,hf⟩:=DataW.trod_struct Tryz.underlying31 h;have hl7:xs.length=7:=hlen
 have g:∀(i:Nat) (hi:i<xs.length),xs[i]?=some xs[i]:=fun i hi=>List.getElem?_eq_getElem hi
 have f0:DataW.trod enc Tryz.prog W 0 (fun _=>true) held m 3 ((cs.drop 0).take (Tryz.prog.cellsOf 3))=some xs[0]:=(hf 0 _ rfl).trans (g 0 (by omega))
 have f1:DataW.trod enc Tryz.prog W 0 (fun _=>true) held m 9 ((cs.drop 1).take (Tryz.prog.cellsOf 9))=some xs[1]:=(hf 1 _ rfl).trans (g 1 (by omega))
 have f2:DataW.trod enc Tryz.prog W 0 (fun _=>true) held m 9 ((cs.drop 2).take (Tryz.prog.cellsOf 9))=some xs[2]:=(hf 2 _ rfl).trans (g 2 (by omega))
 have f3:DataW.trod enc Tryz.prog W 0 (fun _=>true) held m 3 ((cs.drop 3).take (Tryz.prog.cellsOf 3))=some xs[3]:=(hf 3 _ rfl).trans (g 3 (by omega))
 have f4:DataW.trod enc Tryz.prog W 0 (fun _=>true) held m 3 ((cs.drop 4).take (Tryz.prog.cellsOf 3))=some xs[4]:=(hf 4 _ rfl).trans (g 4 (by omega))
 have f5:DataW.trod enc Tryz.prog W 0 (fun _=>true) held m 2 ((cs.drop 5).take (Tryz.prog.cellsOf 2))=some xs[5]:=(hf 5 _ rfl).trans (g 5 (by omega))
 have f6:DataW.trod enc Tryz.prog W 0 (fun _=>true) held m 29 ((cs.drop 6).take (Tryz.prog.cellsOf 29))=some xs[6]:=(hf 6 _ rfl).trans (g 6 (by omega))
 rw [cellsN9] at f1 f2;rw [cellsN3] at f0 f3 f4;rw [cellsN2] at f5;rw [cellsNFs] at f6;obtain ⟨z0,e0,_,w0⟩:=DataW.trod_int Tryz.underlying3 f0;obtain ⟨s1,e1,y1,w1⟩:=DataW.trod_string Tryz.underlying9 f1;obtain ⟨s2,e2,y2,w2⟩:=DataW.trod_string Tryz.underlying9 f2;obtain ⟨z3,e3,_,w3⟩:=DataW.trod_int Tryz.underlying3 f3;obtain ⟨z4,e4,_,w4⟩:=DataW.trod_int Tryz.underlying3 f4;obtain ⟨z5,e5,_,w5⟩:=DataW.trod_int Tryz.underlying2 f5
 have hz6:Sz 29 xs[6].1:=by
  rw [hx] at hz
  exact Sz.part hz Tryz.underlying31 (j:=6) (t':=29) rfl (d:=xs[6].1) (by rw [List.getElem?_map,g 6 (by omega)];rfl)
 obtain ⟨ad,ls,cap,e6,hfa,hok,hln,hlt⟩:=open_fates f6 hz6
 have hz1:s1.size≤140737488355328:=by
  rw [hx] at hz
  have h1:=Sz.part hz Tryz.underlying31 (j:=1) (t':=9) rfl (d:=xs[1].1) (by rw [List.getElem?_map,g 1 (by omega)];rfl)
  rw [y1] at h1
  have:=h1.str
  rw [str_len] at this;unfold reachBytes at this;omega
 have hz2:s2.size≤140737488355328:=by
  rw [hx] at hz
  have h1:=Sz.part hz Tryz.underlying31 (j:=2) (t':=9) rfl (d:=xs[2].1) (by rw [List.getElem?_map,g 2 (by omega)];rfl)
  rw [y2] at h1
  have:=h1.str
  rw [str_len] at this;unfold reachBytes at this;omega
 refine ⟨⟨z0,s1,s2,z3,z4,z5,ad,ls,cap⟩,by rw [hl];exact cellsNO,fun j hj=>?_,⟨(int_wf w0).1,(int_wf w0).2,w2,hz1,(int_wf w3).1,(int_wf w3).2,(int_wf w4).1,(int_wf w4).2,(int_wf w5).1,(int_wf w5).2,hok,by show ls.length≤_;omega⟩,⟨hfa,fun hne b f hb=>hlt b f hb hne⟩,⟨hz2,hln⟩⟩
 ·match j,hj with
  | 0,_=>exact one_cell e0
  | 1,_=>exact one_cell e1
  | 2,_=>exact one_cell e2
  | 3,_=>exact one_cell e3
  | 4,_=>exact one_cell e4
  | 5,_=>exact one_cell e5
  | 6,_=>exact one_cell e6
theorem open_scriptP {ad:Option Addr} {len cap:Nat} {d:DataW H} {p:List MemPlace} (h:DataW.Trod enc Tryz.prog W 0 (fun _=>true) held 22 (.slice ad len cap) d p) (hz:Sz 22 d) :
 ∃os:List WOp,os.length=len∧WScript W.heap.size W ad os∧∀o∈os,o.Sz:=by
 obtain ⟨fuel,hf⟩:=h
 rcases open_slice Tryz.underlying22 hf with ⟨hcs,hx⟩ | ⟨a,len',cap',m,n,D,Pl,hcs,_,hl,hm,hmm,hx,hel⟩
 ·simp [Value.cells] at hcs
  obtain ⟨rfl,rfl,rfl⟩:=hcs
  exact ⟨[],rfl,⟨.inl rfl,by simp,by simp,by simp,Nat.zero_le _⟩,by simp⟩
 ·simp [Value.cells] at hcs
  obtain ⟨rfl,rfl,rfl⟩:=hcs;simp only [if_true] at hmm;subst hmm;simp only [Prod.mk.injEq] at hx;rw [cellsNO] at hel;rw [hx.1] at hz
  have hex:∀i,i<len→∃O:WOp,(∀j,j<7→W.cell? ((a.add (i * 7)).add j)=O.cs[j]?)∧O.Ok∧O.Lie W.heap.size W∧O.Sz:=fun i hi=>by
   obtain ⟨cs',h1,h2⟩:=hel i (by omega)
   obtain ⟨_,hln,hget⟩:=World.cells?_some h1;obtain ⟨O,_,hO,hok,hlie,hoz⟩:=open_opP h2 (hz.elem Tryz.underlying22 (List.mem_map.2 ⟨i,List.mem_range.2 hi,rfl⟩))
   exact ⟨O,fun j hj=>by rw [hget j hj,hO j hj],hok,hlie,hoz⟩
  have hin:Inhabited WOp:=⟨⟨0,⟨#[]⟩,⟨#[]⟩,0,0,0,none,[],0⟩⟩;obtain ⟨f,hfv⟩:=choose_lt (α:=WOp) hex
  have hlen:((List.range len).map f).length=len:=by simp
  have hmem:∀O∈(List.range len).map f,O.Ok∧O.Lie W.heap.size W∧O.Sz:=fun O hO=>by
   obtain ⟨i,hi,rfl⟩:=List.mem_map.1 hO;exact ⟨(hfv i (List.mem_range.1 hi)).2.1,(hfv i (List.mem_range.1 hi)).2.2.1,(hfv i (List.mem_range.1 hi)).2.2.2⟩
  have hat:WOpsAt W (some a) ((List.range len).map f)∧((List.range len).map f≠[]→∀b o,(some a:Option Addr)=some ⟨b,o,none⟩→b<W.heap.size):=by
   by_cases hl0:len=0
   ·subst hl0;exact ⟨.inl rfl,fun hne=>absurd rfl hne⟩
   ·obtain ⟨b,off,spot⟩:=a
    have hs:(f 0).cs[0]?=some (.int .i64 (f 0).kind):=rfl
    have hspot:spot=none:=by
     have h00:=(hfv 0 (by omega)).1 0 (by omega)
     rw [hs] at h00
     simpa [Addr.add] using World.cell?_spot h00
    subst hspot
    have hadd:∀i j,((⟨b,off,none⟩:Addr).add (i * 7)).add j=⟨b,off+i * 7+j,none⟩:=fun i j=>by
     rw [add_add];unfold Addr.add;split<;>simp_all<;>omega
    have hlt:b<W.heap.size:=by
     have h00:=(hfv 0 (by omega)).1 0 (by omega)
     rw [hadd,hs] at h00;exact World.block_lt_of_cell? _ _ h00
    refine ⟨.inr ⟨b,off,rfl,hlt,fun i hi j hj=>?_⟩,fun _ b' o' hb'=>by cases hb';exact hlt⟩
    have hi':i<len:=by simpa using hi
    have:=(hfv i hi').1 j hj
    rw [hadd] at this
    simpa using this
  exact ⟨(List.range len).map f,hlen,⟨hat.1,hat.2,fun O hO=>(hmem O hO).1,fun O hO=>(hmem O hO).2.1,by rw [hlen];omega⟩,fun O hO=>(hmem O hO).2.2⟩
end
end Go.Proofs.YtjbdncknooeplaaGreatDoor
namespace Go.Proofs.YtjbdncknooeplaaGreatDoor
open Go.ChangeShapes Go.WideShapes Go.ChangeAt Go.RowKit
theorem gBru:Tryz.prog.globalNamed "math/bits.deBruijn64tab" = some 5:=by kernel_rfl
theorem tPow:(Tryz.prog.globals[0]?).map (·.type)=some 257:=by kernel_rfl
theorem tSyn:(Tryz.prog.globals[1]?).map (·.type)=some 183:=by kernel_rfl
theorem tRng:(Tryz.prog.globals[2]?).map (·.type)=some 183:=by kernel_rfl
theorem cellsP:Tryz.prog.cellsOf 257=20:=by kernel_rfl
theorem cellsU:Tryz.prog.cellsOf 178=1:=by kernel_rfl
theorem globs_six:Tryz.prog.globals.size=6:=by kernel_rfl
theorem var_lt {W:World} {n:String} {g:Nat} {cs:Array Value} (hg:Tryz.prog.globalNamed n=some g) (h:W.var? Tryz.prog n=some cs):g<W.heap.size:=by
 unfold World.var? at h;rw [hg] at h
 rcases Nat.lt_or_ge g W.heap.size with k | k
 ·exact k
 ·rw [Option.bind_some,Array.getElem?_eq_none k] at h;cases h
theorem laid_env {W:World} (h:laidMetH Tryz.prog Rows.walAgainRow.laid W):Env W.heap.size W:=by
 have h':laidMet Tryz.prog Rows.walAgainRow.laid W:=h;obtain ⟨ps,⟨g0,t0,cs0,f0,p0,q0,hg0,ht0,hv0,hd0,⟨g1,t1,cs1,f1,p1,q1,hg1,ht1,hv1,hd1,⟨g2,t2,cs2,f2,p2,q2,hg2,ht2,hv2,hd2,⟨g3,t3,cs3,f3,p3,q3,hg3,ht3,hv3,hd3,⟨g4,t4,cs4,f4,p4,q4,hg4,ht4,hv4,hd4,_,_⟩,_⟩,_⟩,_⟩,_⟩,_,_⟩:=h';obtain rfl:=Option.some.inj (gPow.symm.trans hg2);obtain rfl:=Option.some.inj (tPow.symm.trans ht2);obtain rfl:=Option.some.inj (gRng.symm.trans hg3);obtain rfl:=Option.some.inj (tRng.symm.trans ht3);obtain rfl:=Option.some.inj (gSyn.symm.trans hg4);obtain rfl:=Option.some.inj (tSyn.symm.trans ht4);have e2:=Lib.cells_of_tab Tryz.underlying257 Tryz.underlying178 cellsU cellsP (zs:=Lib.pow10Tab) hd2;obtain ⟨_,u3,v3,e3,_⟩:=iface_of_trod Tryz.underlying183 hd3;obtain ⟨_,u4,v4,e4,_⟩:=iface_of_trod Tryz.underlying183 hd4;refine ⟨?_,⟨u4,v4,?_⟩,⟨u3,v3,?_⟩,?_⟩
 ·unfold Lib.TabIs
  rw [hv2,←e2]
 ·rw [hv4]
  congr 1
  exact Array.ext' e4
 ·rw [hv3]
  congr 1
  exact Array.ext' e3
 ·have:=var_lt gBru hv1
  rw [globs_six];omega
def datumCells:DataW Unit→Array Value
 | .agg l=>(l.map fun d=>match d with
  | .lit (.int k z)=>Value.int k z
  | .lit (.string s)=>Value.string ⟨s.toArray⟩
  | _=>Value.bool false).toArray
 | _=>#[]
def errCells:DataW Unit→Array Value
 | .iface _ (.ptr d)=>datumCells d
 | _=>#[]
def layCells (cs:Array Value) (o:Obj):Obj:=match o with
 | .cells _ t frozen=>.cells cs t frozen
 | o=>o
def laidWorldOf (w:World):World:=
 { w with heap:=(((((((w.heap.modify 0 (layCells (datumCells Rows.laid_internal_strconv_uint64pow10))).modify 4 (layCells (datumCells Rows.laid_math_bits_deBruijn32tab))).modify 5 (layCells (datumCells Rows.laid_math_bits_deBruijn64tab))).modify 1 (layCells #[.iface 276 (.pointer (some ⟨w.heap.size,0,none⟩))])).modify 2 (layCells #[.iface 276 (.pointer (some ⟨w.heap.size+1,0,none⟩))])).push (.cells (errCells Rows.laid_strconv_ErrSyntax) 278)).push (.cells (errCells Rows.laid_strconv_ErrRange) 278)) }
set_option maxRecDepth 100000 in
theorem laid_met (os:Os) (args:Array Value):laidMet Tryz.prog Rows.walAgainRow.laid ((laidWorldOf (World.holding Tryz.prog os ⟨#[],#[],[]⟩)).forCall (fun _ _=>0) ⟨#[],args,[]⟩).memory:=
 laidMet_of_run' 8 (by kernel_rfl) (by kernel_rfl)
end Go.Proofs.YtjbdncknooeplaaGreatDoor
