import Derived.Test.YtjbdncknooeplaaGreatDoorWNum
import Derived.Test.YtjbdncknooeplaaGreatDoorShelfS
import Derived.Deep.MidRow
import Derived.Test.YtjbdncknooeplaaGreatDoorRowsOwn
namespace Go.Proofs.YtjbdncknooeplaaGreatDoor
open Go.RowKit Go.Maps
set_option linter.unusedVariables false
theorem infoS:(Tryz.prog.info? 108).map (fun i=>(i.zero,i.size,i.bytes))=some (some (.agg #[.int .i64 0,.int .i64 0,.int .i64 0]),3,24):=by kernel_rfl
theorem one_seg (s:ASeg):∀u∈s.cs,u.oneCell'=true:=by
 intro u hu
 simp [ASeg.cs] at hu
 rcases hu with rfl | rfl | rfl<;>rfl
theorem one_segs (gs:List ASeg):∀u∈cellsG gs,u.oneCell'=true:=by
 intro u hu;obtain ⟨s,_,hs⟩:=List.mem_flatMap.1 hu;exact one_seg s u hs
theorem size_setCells (b:Nat):∀(vs:List Value) (o:Nat) (w:World),(w.setCells b o vs).heap.size=w.heap.size
 | [],_,_=>rfl
 | v :: r,o,w=>by rw [World.setCells,size_setCells b r (o+1)];simp [World.setCell]
theorem tape_setCells (b:Nat):∀(vs:List Value) (o:Nat) (w:World),(w.setCells b o vs).tape=w.tape
 | [],_,_=>rfl
 | v :: r,o,w=>by rw [World.setCells,tape_setCells b r (o+1)];rfl
theorem grown_row (w:World) (gs:List ASeg) (cp:Nat) (hge:gs.length≤cp) :
 SegRow (w.alloc (.cells ((cellsG gs).toArray++Builtin.zeroCells (Value.agg #[.int .i64 0,.int .i64 0,.int .i64 0]).cells (cp - gs.length)) 108)) (.slice (some ⟨w.heap.size,0,none⟩) gs.length cp) gs (some w.heap.size):=by
 have hz:(Value.agg #[.int .i64 0,.int .i64 0,.int .i64 0]).cells.size=3:=rfl
 have hsz:((cellsG gs).toArray++Builtin.zeroCells (Value.agg #[.int .i64 0,.int .i64 0,.int .i64 0]).cells (cp - gs.length)).size=3 * cp:=by
  rw [Array.size_append,List.size_toArray,cellsG_length,size_zeroCells,hz];omega
 generalize hcs:(cellsG gs).toArray++Builtin.zeroCells (Value.agg #[.int .i64 0,.int .i64 0,.int .i64 0]).cells (cp - gs.length)=cs at hsz ⊢;have hH:=heap_alloc_new w (.cells cs 108)
 refine ⟨_,_,rfl,hge,.inr ⟨_,0,rfl,rfl,by simp,fun j hj=>?_,fun j hj=>?_,fun j=>frozen_of_row _ _ j _ _ hH⟩⟩
 ·rw [Nat.zero_add,cell_of_row _ _ j _ _ (0,0) hH,←hcs,Array.getElem?_append_left (by rw [List.size_toArray,cellsG_length];exact hj),List.getElem?_toArray]
 ·rw [Nat.zero_add,cell_of_row _ _ j _ _ (0,0) hH,Array.getElem?_eq_getElem (by omega)]
  rfl
theorem app_seg {w w1:World} {v:Value} {gs:List ASeg} {r:Option Nat} (h:SegRow w v gs r) (hn:gs.length≤10000000) (x:ASeg) (ty:TypeId) (hw1:w.alloc (.cells x.cs.toArray 108)=w1) {g1:Nat} (hg1:w.heap.size=g1) :
 ∃v' r' w',(Builtin.append_ #[74,74] ty #[v,.slice (some ⟨g1,0,none⟩) 1 1]).run Tryz.prog w1=.ok v' w'∧SegRow w' v' (gs++[x]) r'∧Turn (fun b=>r=some b) w w'∧(∀b,r'=some b→r=some b∨w.heap.size≤b):=by
 obtain ⟨i,hi,hz0,hz1,hz2⟩:=info_parts infoS
 have hb1:Below w.heap.size w w1:=by rw [←hw1];exact (Below.refl _ _).alloc (Nat.le_refl _) _
 have hsrc:Src Tryz.prog i.size 74 (.slice (some ⟨g1,0,none⟩) 1 1) 1 x.cs w1:=Src.ofSlice w1 Tryz.underlying74 ⟨g1,0,none⟩ 1 1 x.cs (by rw [hz1];rfl) (fun j u hu=>by
  rw [←hw1,←hg1]
  exact World.news_of_block (heap_alloc_new w _) j u (by simpa using hu)) (one_seg x)
 have hs1:=h.same (fun b hb=>hb1.block b (h.lt b hb))
 have hcl:x.cs.length=3:=rfl;obtain ⟨ad,cap,rfl,hlc,hf⟩:=hs1
 rcases hf with ⟨rfl,rfl,rfl⟩ | ⟨b,off,rfl,rfl,hbl,hc,hs,hfz⟩
 ·have h0:gs=[]:=List.length_eq_zero_iff.1 (by omega)
  subst h0
  have hr:=run_append_grow_src w1 74 74 ty 108 i _ Tryz.underlying74 hi hz0 none 0 0 [] (run_firstCells_none _ _ _ _ _) _ 1 x.cs hsrc (by omega) (by decide) (by rw [hz2];decide)
  have hg:=grown_row w1.drew [x] (grownCap w1 (0+1) 0 108) (grownCap_ge w1 (0+1) 0 108)
  have e:cellsG [x]=[]++x.cs:=by simp [cellsG]
  rw [e] at hg
  refine ⟨_,some w1.heap.size,_,hr,hg,?_,fun b hb=>?_⟩
  ·refine Turn.of_below ?_ _
   exact hb1.trans (((Below.refl _ w1).drew.alloc (Nat.le_refl _) _).mono hb1.size)
  ·cases hb
   exact .inr hb1.size
 ·by_cases hroom:gs.length+1≤cap
  ·have hr:=run_append_room_src w1 74 74 ty 108 i Tryz.underlying74 hi b off gs.length cap _ 1 x.cs hsrc hroom
    (fun j hj=>by rw [hz1,Nat.add_assoc];exact hs _ (by rw [hcl] at hj;omega)) (fun j hj=>hfz _)
   refine ⟨_,some b,_,hr,⟨⟨_,cap,?_,?_,.inr ⟨b,off,rfl,rfl,?_,fun j hj=>?_,fun j hj=>?_,fun j=>?_⟩⟩⟩,?_,fun b' hb'=>.inl hb'⟩
   ·rw [List.length_append];rfl
   ·rw [List.length_append];exact hroom
   ·rw [size_setCells];exact hbl
   ·rw [List.length_append,List.length_singleton] at hj
    rw [cellsG_append,hz1]
    by_cases hj2:j<3 * gs.length
    ·rw [World.cell?_setCells_out b _ _ _ _ (fun _ _=>.inl (by show off+j<off+gs.length * 3;omega)),List.getElem?_append_left (by rw [cellsG_length];exact hj2)]
     exact hc j hj2
    ·have hin:=World.cell?_setCells_in b x.cs (off+gs.length * 3) w1 (fun k hk=>by rw [Nat.add_assoc];exact hs _ (by rw [hcl] at hk;omega)) (j - 3 * gs.length) (by rw [hcl];omega)
     rw [show off+gs.length * 3+(j - 3 * gs.length)=off+j by omega] at hin
     rw [hin,List.getElem?_append_right (by rw [cellsG_length];omega),cellsG_length,←List.getElem?_eq_getElem]
     simp [cellsG]
   ·exact World.isSome_setCells b _ _ _ _ (hs j hj)
   ·rw [World.frozen?_setCells];exact hfz j
   ·refine ⟨?_,?_,?_,?_,fun k hk hne=>?_⟩
    ·rw [World.os_setCells];exact hb1.os
    ·rw [tape_setCells];exact hb1.tape
    ·rw [World.output_setCells];exact hb1.output
    ·rw [size_setCells];exact hb1.size
    ·rw [World.heap_setCells_other w1 b _ _ (Nat.lt_of_lt_of_le hk hb1.size) (fun e=>hne (by rw [e]))]
     exact hb1.block k hk
  ·have hcg:cap=gs.length:=by omega
   have hr:=run_append_grow_src w1 74 74 ty 108 i _ Tryz.underlying74 hi hz0 (some ⟨b,off,none⟩) gs.length cap (cellsG gs)
    (run_firstCells_some _ _ _ _ _ _ _ (by rw [cellsG_length,hz1];omega) (fun j u hu=>by
      have hj:j<3 * gs.length:=by rw [←cellsG_length];exact (List.getElem?_eq_some_iff.1 hu).1
      have:=hc j hj
      rw [hu] at this
      show w1.cell? _=_
      simpa [Addr.add_lit] using this)) _ 1 x.cs hsrc (by omega) (by omega) (by
       have:=nextslicecap_le (need:=gs.length+1) (old:=cap) (by omega)
       rw [hz2];omega)
   have hg:=grown_row w1.drew (gs++[x]) (grownCap w1 (gs.length+1) cap 108) (by rw [List.length_append];exact grownCap_ge w1 _ _ _)
   rw [cellsG_append,List.length_append] at hg
   have e:cellsG [x]=x.cs:=by simp [cellsG]
   rw [e] at hg
   refine ⟨_,some w1.heap.size,_,hr,hg,?_,fun b' hb'=>?_⟩
   ·refine Turn.of_below ?_ _
    exact hb1.trans (((Below.refl _ w1).drew.alloc (Nat.le_refl _) _).mono hb1.size)
   ·cases hb'
    exact .inr hb1.size
open Go.RowKit Go.Maps Go.Sort
def seg0 (n:Int):ASeg:=⟨n,0,0⟩
def encN (n:Int):List Value:=[.int .i64 n,.int .i64 0,.int .i64 0]
set_option maxHeartbeats 1000000 in
theorem cmp_any (x y:Int) (w:World):Calls Tryz.prog 103 #[.agg #[.int .i64 x,.int .i64 0,.int .i64 0],.agg #[.int .i64 y,.int .i64 0,.int .i64 0]] w fun e w'=>e=.returned (.int .i64 (Lib.compareInt x y))∧∃q os',w'=Sort.grow (w.drewN q) os':=by
 have hcon:=fun W'=>AnyG.cmp_Compare_int Tryz.cmpInt x y W'
 change ∀W',Calls Tryz.prog 104 _ _ _ at hcon
 generalize Lib.compareInt x y=r at hcon ⊢
 go_enter Tryz.func103,Tryz.ntmps103
 go_wp2_with (go_at_call 104;refine (hcon _).mono ?_;rintro e w' ⟨rfl,rfl⟩)
 go_ret
 exact ⟨rfl,0,_,by rw [Sort.alloc_eq_grow,Sort.alloc_eq_grow,Sort.grow_grow];rfl⟩
theorem ltN (x y:Int):ltOf Lib.compareInt x y=decide (x<y):=by
 unfold ltOf Lib.compareInt
 by_cases h1:x<y
 ·simp [h1]
 ·by_cases h2:y<x<;>simp [h1,h2]
theorem swoN:Sort.SWO (ltOf Lib.compareInt) where
 irrefl x:=by rw [ltN];simp
 trans x y z h1 h2:=by rw [ltN] at *;simp at *;omega
 ntrans x y z h1 h2:=by rw [ltN] at *;simp at *;omega
theorem flat_seg (ns:List Int) (t:Nat) (ht:t<3 * ns.length):some (flatK encN 3 ns.toArray)[t]! = (cellsG (ns.map seg0))[t]?:=by
 have h3:t / 3<ns.length:=by omega
 rw [get_flatK _ _ _ t (by rw [List.size_toArray];omega),←List.getElem?_toArray]
 have e:t=3 * (t / 3)+t % 3:=by omega
 have hg:=cellsG_get (ns.map seg0) (t / 3) (by rw [List.length_map];exact h3) (t % 3) (by omega)
 rw [List.getElem?_toArray]
 conv=>rhs;rw [e]
 rw [hg]
 have hx:ns.toArray[t / 3]! = ns[t / 3]:=by rw [getElem!_pos _ _ (by rw [List.size_toArray];exact h3)];rfl
 have hy:(ns.map seg0)[t / 3]'(by rw [List.length_map];exact h3)=seg0 ns[t / 3]:=by rw [List.getElem_map]
 rw [hx,hy]
 show some (encN ns[t / 3])[t % 3]! = (encN ns[t / 3])[t % 3]?
 have:t % 3<(encN ns[t / 3]).length:=by show t % 3<3;omega
 rw [List.getElem?_eq_getElem this];exact congrArg some (getElem!_pos (encN ns[t / 3]) (t % 3) this)
theorem holds_seg {w:World} {b off:Nat} (ns:List Int) (hc:∀j,j<3 * ns.length→w.cell? ⟨b,off+j,none⟩=(cellsG (ns.map seg0))[j]?) (hf:∀j,w.frozen? ⟨b,j,none⟩=false):HoldsK encN 3 w b off ns.toArray:=by
 intro t ht;rw [size_flatK,List.size_toArray] at ht
 exact ⟨by rw [hc t (by omega),←flat_seg ns t (by omega)];rfl,hf _⟩
def sortN (ns:List Int):List Int:=ns.mergeSort fun x y=>decide (x≤y)
theorem sortN_length (ns:List Int):(sortN ns).length=ns.length:=List.length_mergeSort _
theorem Lies.logAt {B:Nat} {w:World} {L:List Item} {i l p:Nat} {g:AL} (h:Lies B w L) (hi:L[i]?=some (.log l p g)):∃v r,LogAt w l p g v r∧B≤l:=by
 obtain ⟨S,⟨v,r,hat,hS⟩,hB⟩:=h.get hi;exact ⟨v,r,hat,hB l ((hS l).2 (.inl rfl))⟩
theorem Lies.newSegs {B:Nat} {w:World} {L:List Item} {i l p:Nat} {g:AL} (h:Lies B w L) (hi:L[i]?=some (.log l p g)):∃v r,LogAt w l p g v r∧B≤l ∧
 (∀(w2:World) (v':Value) (r':Option Nat) (gs':List ASeg),SegRow w2 v' gs' r'→Turn (fun b=>r=some b) w w2→(∀b,r'=some b→r=some b∨w.heap.size≤b) →
   w2.cell? ⟨l,3,none⟩=some v∧w2.frozen? ⟨l,3,none⟩=false∧Lies B (w2.setCell ⟨l,3,none⟩ v') (L.set i (.log l p { g with segs:=gs' }))∧Below B w (w2.setCell ⟨l,3,none⟩ v')) ∧
 (∀(w2:World) (gs':List ASeg),SegRow w2 v gs' r→Turn (fun b=>r=some b) w w2→Lies B w2 (L.set i (.log l p { g with segs:=gs' }))∧Below B w w2):=by
 obtain ⟨S,⟨v,r,hat,hS⟩,hB,_,hu⟩:=h.upd hi
 refine ⟨v,r,hat,hB l ((hS l).2 (.inl rfl)),fun w2 v' r' gs' hrow ht hown=>?_,fun w2 gs' hrow ht=>?_⟩
 ·have hl:w2.heap[l]?=w.heap[l]?:=ht.block l (lt_of_some hat.cells) hat.ne
  have hne:r'≠some l:=fun e=>by
   rcases hown l e with x | x
   ·exact hat.ne x
   ·have:=lt_of_some hat.cells;omega
  have hat2:w2.heap[l]?=some (.cells (logCs p v g) 76 (0,0)):=hl.trans hat.cells;have h1:=heap_setCell_same w2 l 3 _ _ v' hat2
  have h2:∀b,b≠l→(w2.setCell ⟨l,3,none⟩ v').heap[b]?=w2.heap[b]?:=fun b hb=>Below.heap_setCell w2 ⟨l,3,none⟩ v' b hb
  refine ⟨by rw [cell_of_row w2 l 3 _ _ (0,0) hat2];rfl,frozen_of_row w2 l 3 _ _ hat2,hu _ (.log l p { g with segs:=gs' }) (logFoot l r') ⟨v',r',⟨h1,hrow.same (fun b hb=>h2 b (fun e=>hne (by rw [hb,e]))),hne⟩,fun _=>Iff.rfl⟩ ⟨⟨ht.os,ht.tape,ht.output,?_,fun b hb hn=>?_⟩,fun b hb=>?_⟩⟩
  ·exact Nat.le_trans ht.size (by simp [World.setCell])
  ·rw [h2 b (fun e=>hn ((hS b).2 (.inl e)))]
   exact ht.block b hb (fun e=>hn ((hS b).2 (.inr e)))
  ·rcases hb with rfl | hb
   ·exact .inl ((hS _).2 (.inl rfl))
   ·rcases hown b hb with x | x
    ·exact .inl ((hS _).2 (.inr x))
    ·exact .inr x
 ·have hl:w2.heap[l]?=w.heap[l]?:=ht.block l (lt_of_some hat.cells) hat.ne
  exact hu _ (.log l p { g with segs:=gs' }) S ⟨v,r,⟨hl.trans hat.cells,hrow,hat.ne⟩,hS⟩ ⟨⟨ht.os,ht.tape,ht.output,ht.size,fun b hb hn=>ht.block b hb (fun e=>hn ((hS b).2 (.inr e)))⟩,fun b hb=>.inl hb⟩
theorem sort_any {B:Nat} {w:World} {L:List Item} {i l p:Nat} {g:AL} (h:Lies B w L) (hi:L[i]?=some (.log l p g)) (ns:List Int) (hns:g.segs=ns.map seg0) (hn:ns.length≤1000) {v:Value} (hv:w.cell? ⟨l,3,none⟩=some v) :
 Calls Tryz.prog 102 #[v,.func (.func 103) #[] #[]] w fun e w'=>e=.returned (.tuple #[])∧Lies B w' (L.set i (.log l p { g with segs:=(sortN ns).map seg0 }))∧Below B w w':=by
 obtain ⟨v',r,hat,hB,_,hu⟩:=h.newSegs hi;have e:=hat.c3;rw [hv] at e;cases e;obtain ⟨ad,cap,hvv,hlc,hf⟩:=hat.row
 have hlen:g.segs.length=ns.length:=by rw [hns,List.length_map]
 rw [hlen] at hvv hlc
 by_cases h0:ns=[]
 ·subst h0
  rw [hvv];refine (AnyF.slices_SortFunc_none Tryz.sortSeg ad cap _ w).mono ?_;rintro e w' ⟨rfl,rfl⟩;refine ⟨rfl,hu w' _ ?_ (Turn.refl _ _)⟩
  have:(sortN []).map seg0=g.segs:=by rw [hns];simp [sortN]
  rw [this];exact hat.row
 ·rcases hf with ⟨_,hc0,_⟩ | ⟨b,off,had,hr,hbl,hc,hs,hfz⟩
  ·exact absurd (List.length_eq_zero_iff.1 (by omega)) h0
  ·have hH:=holds_seg (w:=w) (b:=b) (off:=off) ns (fun j hj=>by rw [hc j (by rw [hlen];exact hj),hns]) hfz
   have eg:∀args w,(callFunc 103 args).run Tryz.prog w=.ok (.enter 103 args) w:=enters_of Tryz.func103 (by kernel_rfl) rfl
   have hcon:=AnyQ.slices_SortFunc_total Tryz.sortSeg 3 Tryz.isAgg108 Tryz.sizeOf108 encN (fun _=>rfl) (fun x u hu=>by simp [encN] at hu;rcases hu with rfl | rfl<;>rfl) Lib.compareInt swoN 103 #[] b off cap ns.toArray w eg (fun _ _ _ _ x y=>cmp_any x y _) hH hbl (by rw [List.size_toArray];omega) (fun x y h1 h2=>by rw [ltN] at h1 h2;simp at h1 h2;omega)
   rw [List.size_toArray,←had,←hvv] at hcon;refine hcon.mono ?_;rintro e w' ⟨rfl,n,os,rfl⟩
   have es:(ns.toArray.toList.mergeSort fun x y=>!ltOf Lib.compareInt y x)=sortN ns:=by
    unfold sortN
    congr 1
    funext x y
    rw [ltN]
    by_cases hxy:x≤y
    ·simp [hxy]
    ·simp [hxy];omega
   rw [es]
   have hsz:(sortN ns).toArray.size=ns.toArray.size:=by rw [List.size_toArray,List.size_toArray,sortN_length]
   have hH2:=holdsK_sortWorldK encN 3 w b off n ns.toArray (sortN ns).toArray os hbl hH hsz
   have hblk:∀k,k<w.heap.size→k≠b→(sortWorldK encN 3 w b off n (sortN ns).toArray os).heap[k]?=w.heap[k]?:=fun k hk hne=>by
    unfold sortWorldK
    rw [heap_grow_old _ _ (by unfold putRowK;rw [size_putRow];exact hk)]
    unfold putRowK putRow mapBlock
    show (Array.modify _ b _)[k]?=_
    rw [Array.getElem?_modify,if_neg (fun e=>hne e.symm)]
    rfl
   refine ⟨rfl,hu _ _ ⟨ad,cap,?_,?_,.inr ⟨b,off,had,hr,lt_sortWorldK encN 3 w b off n _ os hbl,fun j hj=>?_,fun j hj=>?_,fun j=>?_⟩⟩ ⟨rfl,rfl,rfl,size_sortWorldK_c encN 3 w b off n _ os,fun k hk hne=>hblk k hk (fun e=>hne (by rw [hr,e]))⟩⟩
   ·rw [hvv,List.length_map,sortN_length]
   ·rw [List.length_map,sortN_length];exact hlc
   ·rw [List.length_map,sortN_length] at hj
    have:=(hH2 j (by rw [size_flatK,hsz,List.size_toArray];omega)).1
    rw [this,←flat_seg _ j (by rw [sortN_length];exact hj)]
    rfl
   ·by_cases hj2:j<3 * ns.length
    ·rw [(hH2 j (by rw [size_flatK,hsz,List.size_toArray];omega)).1];rfl
    ·unfold sortWorldK
     rw [cell?_grow _ _ _ (by unfold putRowK;rw [size_putRow];exact hbl)]
     unfold putRowK
     rw [cell?_putRow_other _ _ _ _ _ _ (.inr (.inr (by rw [size_flatK,hsz,List.size_toArray];show off+ns.length * 3≤off+j;omega)))]
     exact hs j hj
   ·unfold sortWorldK
    rw [frozen?_grow _ _ _ (by unfold putRowK;rw [size_putRow];exact hbl)]
    unfold putRowK;rw [frozen?_putRow];exact hfz j
theorem wpList_appS {P:Program} {ops:Array Oper} {rest:List Oper} {o:Oper} {a:Act} {w w':World} {Q:Exit→Act→World→Prop} {v:Value} (hg:o.guard=none) (s x:Operand) (tys:Array TypeId) (ho:o.op=.call { callee:=.builtin .append,args:=#[s,x],argTypes:=tys }) (h:(Builtin.append_ tys o.type #[a.eval s,a.eval x]).run P w=.ok v w') (k:wpList P ops Q rest (a.put o.dst v) w'):wpList P ops Q (o :: rest) a w:=
 wpList_plain hg fun K hK=>wpRun (run_append_op s x tys ho h) (hK _ _ k)
def foundL (A:AD) (nm:Key):List Int:=A.list.filterMap (fun f=>numOf f nm)
def numsL (A:AD) (nm:Key):List Int:=sortN (foundL A nm)
def consec (ns:List Int):Bool:=(List.range ns.length).all fun i=>ns.getD i 0 == ns.getD 0 0+(i:Int)
theorem numOf_range {f k:Key} {v:Int} (h:numOf f k=some v):0≤v∧v≤9999999:=by
 unfold numOf at h
 split at h
 ·split at h
  ·split at h
   ·rename_i hh;cases h;exact ⟨hh.1,hh.2.1⟩
   ·cases h
  ·cases h
 ·cases h
theorem list_names {A:AD} (hok:A.Ok):∀k∈A.list,k.length≤32:=by
 intro k hk;unfold AD.list at hk
 split at hk
 ·cases hk
 ·obtain ⟨q,hq,rfl⟩:=List.mem_map.1 hk
  have:=hok.names q hq
  unfold nameOk at this;simp at this;omega
theorem list_few {A:AD} (hok:A.Ok):A.list.length≤16:=by
 unfold AD.list
 split
 ·simp
 ·unfold fkeys;rw [List.length_map];exact hok.few
theorem found_few {A:AD} (hok:A.Ok) (nm:Key):(foundL A nm).length≤16:=Nat.le_trans (List.length_filterMap_le _ _) (list_few hok)
theorem numsL_length (A:AD) (nm:Key):(numsL A nm).length=(foundL A nm).length:=sortN_length _
theorem numsL_range {A:AD} {nm:Key} {x:Int} (h:x∈numsL A nm):0≤x∧x≤9999999:=by
 have:x∈foundL A nm:=(List.mergeSort_perm _ _).mem_iff.1 h
 obtain ⟨f,_,hf⟩:=List.mem_filterMap.1 this;exact numOf_range hf
theorem set_self {α:Type} {L:List α} {j:Nat} {x:α} (h:L[j]?=some x):L.set j x=L:=by
 obtain ⟨hl,rfl⟩:=List.getElem?_eq_some_iff.1 h;exact List.set_getElem_self hl
theorem set_app {α:Type} {L M:List α} {j:Nat} (x:α) (h:j<L.length):(L++M).set j x=L.set j x++M:=by
 rw [List.set_append,if_pos h]
set_option maxRecDepth 100000 in
set_option maxHeartbeats 2000000 in
theorem wfind_any {B:Nat} {w:World} {L:List Item} {i j l p:Nat} {A:AD} {g:AL} (h:Lies B w L) (hi:L[i]?=some (.disk p A)) (hj:L[j]?=some (.log l p g)) (hg0:g.segs=[]) (hnm:g.name.size≤24) (he:Env B w) :
 Calls Tryz.prog 67 #[.pointer (some ⟨l,0,none⟩)] w fun e w'=>e=.returned (.bool (consec (numsL A g.name.data.toList)))∧Lies B w' (L.set j (.log l p { g with segs:=(numsL A g.name.data.toList).map seg0 }))∧Below B w w':=by
 have hok:=h.ok hi;have hjl:=(List.getElem?_eq_some_iff.1 hj).1;obtain ⟨v0,r0,hat0,hBl⟩:=h.logAt hj;have HL:=hide h;have HE:=hide he;have c0:=hat0.c0;clear hat0 h he
 go_enter Tryz.func67,Tryz.ntmps67
 go_wp2_with fail;refine (s_list HL.out hi).mono ?_;rintro e w1 ⟨vr,rfl,hrow,hL1,hb1⟩;obtain ⟨ad,cap,rfl,_,_,hmx⟩:=row_at hrow;obtain ⟨ks,hks⟩:∃ks,A.list=ks:=⟨_,rfl⟩
 have HF:Hid (foundL A g.name.data.toList=ks.filterMap (fun f=>numOf f g.name.data.toList)):=by show _=_;unfold foundL;rw [hks]
 have HNm:Hid (∀k∈ks,k.length≤32):=by show ∀_∈_,_;rw [←hks];exact list_names hok
 have HFw:Hid (ks.length≤16):=by show _≤_;rw [←hks];exact list_few hok
 rw [hks,List.length_map] at hL1 hrow hmx ⊢
 have hgg:g={ g with segs:=([]:List Int).map seg0 }:=by rw [List.map_nil,←hg0]
 have HL1:Hid (Lies B w1 ((L.set j (.log l p { g with segs:=([]:List Int).map seg0 }))++[.row 9 (.slice ad ks.length cap) (ks.map encStr)])):=by
  show Lies _ _ _
  rw [←hgg,set_self hj];exact hL1
 have HB1:=hide hb1;clear hL1 hrow hb1 hks hgg hmx c0;unfold maxLen at *;go_wp2
 go_loopw [15] (fun ix wr=>∃k:Nat,k≤ks.length∧ix=.int .i64 (k:Int)∧Lies B wr ((L.set j (.log l p { g with segs:=((ks.take k).filterMap (fun f=>numOf f g.name.data.toList)).map seg0 }))++[.row 9 (.slice ad ks.length cap) (ks.map encStr)])∧Below B w wr) (fun ix _=>ks.length - (intOf ix).toNat)
 case atStart=>exact ⟨0,by omega,rfl,by rw [List.take_zero];exact HL1.out,HB1.out⟩
 case round=>
  obtain ⟨k,hk,rfl,hLr,hbr⟩:=hrel
  have hj':((L.set j (.log l p { g with segs:=((ks.take k).filterMap (fun f=>numOf f g.name.data.toList)).map seg0 }))++[.row 9 (.slice ad ks.length cap) (ks.map encStr)])[j]?=some (.log l p { g with segs:=((ks.take k).filterMap (fun f=>numOf f g.name.data.toList)).map seg0 }):=by
   rw [List.getElem?_append_left (by rw [List.length_set];exact hjl),List.getElem?_set_self hjl]
  have HJ:=hide hj'
  by_cases hlt:k<ks.length
  ·obtain ⟨S,⟨hrw,_⟩,_⟩:=hLr.get (i:=L.length) (it:=.row 9 (.slice ad ks.length cap) (ks.map encStr)) (by rw [List.getElem?_append_right (by rw [List.length_set];exact Nat.le_refl _),List.length_set,Nat.sub_self];rfl)
   obtain ⟨ad',cap',hv,hrowat,_,_⟩:=row_at hrw;rw [List.length_map] at hv;cases hv
   rcases hrowat with h0 | ⟨b,o,rfl,hbl,hcs⟩
   ·rw [List.map_eq_nil_iff.1 h0] at hlt;exact absurd hlt (by simp)
   have f0:wr.cell? ⟨b,o+k,none⟩=some (.string ⟨ks[k].toArray⟩):=by rw [hcs k (by simpa using hlt),List.getElem?_map,List.getElem?_eq_getElem hlt];rfl
   obtain ⟨x,hx⟩:∃x,ks[k]=x:=⟨_,rfl⟩
   have hxl:x.length≤32:=by rw [←hx];exact HNm.out _ (List.getElem_mem hlt)
   have hxs:(⟨x.toArray⟩:ByteArray).size≤100:=by show x.toArray.size≤100;rw [List.size_toArray];omega
   rw [hx] at f0
   have HTk:Hid ((ks.take (k+1)).filterMap (fun f=>numOf f g.name.data.toList)=(ks.take k).filterMap (fun f=>numOf f g.name.data.toList)++(numOf x g.name.data.toList).toList):=by
    show _=_
    rw [List.take_succ_eq_append_getElem hlt,hx,List.filterMap_append]
    cases hq:numOf x g.name.data.toList<;>simp [hq]
   have dk:decide ((k:Int)<(ks.length:Int))=true:=decide_eq_true (by omega)
   have dk':decide (k<ks.length)=true:=decide_eq_true hlt
   have hk0:(0:Int)≤(k:Int):=by omega
   have hk1:(k:Int)<(ks.length:Int):=by omega
   have hfw:=HFw.out;obtain ⟨v,r,hat,_⟩:=hLr.logAt hj';have c1:=hat.c1;have HLr:=hide hLr;have HBr:=hide hbr;obtain ⟨X,hX⟩:∃X:ByteArray,X=⟨x.toArray⟩:=⟨_,rfl⟩
   have HX:Hid (X.data.toList=x):=by show _=_;rw [hX]
   rw [←hX] at f0 hxs;clear hLr hbr hcs hrw hx hj' hat hX;go_wp2_with fail;refine (number_any X g.name _ hxs hnm (HE.out.below HBr.out) HLr.out.base).mono ?_;rintro e w2 ⟨xn,rfl,hxn,hb2⟩;rw [HX.out] at hxn ⊢;have hL2:=HLr.out.below hb2;have HB2:=hide (HBr.out.trans (hb2.mono HLr.out.base))
   cases hq:numOf x g.name.data.toList with
   | none=>
    rw [hq] at HTk;have HL2:=hide hL2;clear hL2 hxn hb2 hq;go_wp2;go_roundw
    case rel=>
     refine ⟨k+1,by omega,by go_num,?_,HB2.out⟩
     rw [HTk.out,Option.toList_none,List.append_nil];exact HL2.out
    case measure=>simp [intOf];omega
   | some z=>
    rw [hq] at HTk;obtain rfl:=hxn z hq;obtain ⟨v,r,hat,_,hnew,_⟩:=hL2.newSegs HJ.out
    have hlen:(({ g with segs:=((ks.take k).filterMap (fun f=>numOf f g.name.data.toList)).map seg0 }:AL).segs).length≤10000000:=by
     show (((ks.take k).filterMap (fun f=>numOf f g.name.data.toList)).map seg0).length≤_
     rw [List.length_map]
     have:=List.length_filterMap_le (fun f=>numOf f g.name.data.toList) (ks.take k)
     rw [List.length_take] at this;omega
    obtain ⟨g1,hg1⟩:∃g1,w2.heap.size=g1:=⟨_,rfl⟩;obtain ⟨wa,hwa⟩:∃wa,w2.alloc (.cells (seg0 xn).cs.toArray 108)=wa:=⟨_,rfl⟩;obtain ⟨v',r',w3,hap,hrow3,ht3,hown3⟩:=app_seg hat.row hlen (seg0 xn) 74 hwa hg1;obtain ⟨hc3,hf3,hL3,hb3⟩:=hnew w3 v' r' _ hrow3 ht3 hown3;obtain ⟨ad4,cap4,hv4,_⟩:=hrow3;obtain ⟨ad5,cap5,hv5,_⟩:=hat.row
    obtain ⟨n4,hn4⟩:∃n,(({ g with segs:=((ks.take k).filterMap (fun f=>numOf f g.name.data.toList)).map seg0 }:AL).segs++[seg0 xn]).length=n:=⟨_,rfl⟩
    obtain ⟨n5,hn5⟩:∃n,(({ g with segs:=((ks.take k).filterMap (fun f=>numOf f g.name.data.toList)).map seg0 }:AL).segs).length=n:=⟨_,rfl⟩
    rw [hn4] at hv4;rw [hn5] at hv5;subst hv4 hv5;have c3:=hat.c3
    have HL3:Hid (Lies B (w3.setCell ⟨l,3,none⟩ (.slice ad4 n4 cap4)) ((L.set j (.log l p { g with segs:=((ks.take (k+1)).filterMap (fun f=>numOf f g.name.data.toList)).map seg0 }))++[.row 9 (.slice (some ⟨b,o,none⟩) ks.length cap) (ks.map encStr)])):=by
     show Lies _ _ _
     rw [HTk.out,Option.toList_some,List.map_append]
     rw [set_app _ (by rw [List.length_set];exact hjl),List.set_set] at hL3
     exact hL3
    have HB3:=hide (HB2.out.trans hb3);have hwa':w2.alloc (.cells #[.int .i64 xn,.int .i64 0,.int .i64 0] 108)=wa:=hwa;clear hL2 hxn hb2 hq hat hnew hwa hL3 hb3 hn4 hn5 hlen ht3 hown3
    go_wp2_with (at_builtin;refine wpList_appS rfl _ _ _ rfl hap ?_;try go_frame)
    go_roundw
    case rel=>exact ⟨k+1,by omega,by go_num,HL3.out,HB3.out⟩
    case measure=>simp [intOf];omega
  ·have hkl:k=ks.length:=by omega
   subst hkl;rw [List.take_length,←HF.out] at hLr HJ
   have dk:decide ((ks.length:Int)<(ks.length:Int))=false:=decide_eq_false (by omega)
   obtain ⟨v,r,hat,_⟩:=hLr.logAt HJ.out;have c3:=hat.c3
   have hfl:(foundL A g.name.data.toList).length≤1000:=by have:=found_few hok g.name.data.toList;omega
   obtain ⟨ad3,cap3,hv3,_⟩:=hat.row
   obtain ⟨n3,hn3⟩:∃n,(({ g with segs:=(foundL A g.name.data.toList).map seg0 }:AL).segs).length=n:=⟨_,rfl⟩
   rw [hn3] at hv3;subst hv3;have hso:=sort_any hLr HJ.out (foundL A g.name.data.toList) rfl hfl c3;have HBr:=hide hbr;have HSo:=hide hso;clear hLr hbr hn3 hat hfl hso;go_wp2_with fail;refine HSo.out.mono ?_;rintro e w2 ⟨rfl,hL2,hb2⟩
   rw [set_app _ (by rw [List.length_set];exact hjl),List.set_set] at hL2
   have hL3:=hL2.drop;obtain ⟨ns,hns⟩:∃ns,numsL A g.name.data.toList=ns:=⟨_,rfl⟩
   have hrng:∀x∈ns,0≤x∧x≤9999999:=fun x hx=>numsL_range (by rw [hns];exact hx)
   have hnl:ns.length≤16:=by rw [←hns,numsL_length];exact found_few hok _
   change Lies B w2 (L.set j (.log l p { g with segs:=(numsL A g.name.data.toList).map seg0 })) at hL3
   rw [hns] at hL3;have HNS:=hide hns
   have hj2:(L.set j (.log l p { g with segs:=ns.map seg0 }))[j]?=some (.log l p { g with segs:=ns.map seg0 }):=List.getElem?_set_self hjl
   have HJ2:=hide hj2;have HL3:=hide hL3;have HB3:=hide (HBr.out.trans hb2);obtain ⟨v,r,hat,_⟩:=hL3.logAt hj2;have c3:=hat.c3;have HR:=hide hat.row;obtain ⟨ad4,cap4,hv4,_⟩:=hat.row
   have hlm:(({ g with segs:=ns.map seg0 }:AL).segs).length=ns.length:=List.length_map _
   rw [hlm] at hv4;subst hv4;have HRg:=hide hrng;have HBl:Hid (l<w2.heap.size):=hide (lt_of_some hat.cells);have HRlt:Hid (∀b,r=some b→b<w2.heap.size):=hide hat.row.lt;clear hL2 hL3 hb2 hj2 hat hlm hns HF HSo HBr HJ hrng;have HC3:=hide c3;go_wp2
   go_loopw [51] (fun ix wr=>∃k:Nat,k≤ns.length∧ix=.int .i64 (k:Int)∧(∀q,q<k→ns.getD q 0=ns.getD 0 0+(q:Int))∧Below w2.heap.size w2 wr) (fun ix _=>ns.length - (intOf ix).toNat)
   case atStart=>exact ⟨0,by omega,rfl,fun q hq=>absurd hq (by omega),Below.refl _ _⟩
   case round=>
    obtain ⟨k,hk,rfl,hall,hbr⟩:=hrel;have HA:=hide hall;clear hall
    by_cases hlt:k<ns.length
    ·have dk:decide ((k:Int)<(ns.length:Int))=true:=decide_eq_true (by omega)
     have dk':decide (k<ns.length)=true:=decide_eq_true hlt
     have hk0:(0:Int)≤(k:Int):=by omega
     have hk1:(k:Int)<(ns.length:Int):=by omega
     have hk2:(0:Int)<(ns.length:Int):=by omega
     obtain ⟨ad5,cap5,hv5,hlc5,hf5⟩:=HR.out
     rcases hf5 with ⟨_,hcp,_⟩ | ⟨b,off,had,hr,hbl,hcs,_,_⟩
     ·exfalso
      change (ns.map seg0).length≤cap5 at hlc5
      rw [List.length_map] at hlc5;omega
     ·have hv6:ad4=some ⟨b,off,none⟩:=by injection hv5 with h _ _;rw [h];exact had
      subst hv6
      have hcell:∀i0,i0<ns.length→∀j0,j0<3→wr.cell? ⟨b,off+i0 * 3+j0,none⟩=(seg0 (ns.getD i0 0)).cs[j0]?:=fun i0 hi0 j0 hj0=>by
       rw [World.cell?_of_block (a:=⟨b,off+i0 * 3+j0,none⟩) (hbr.block b hbl),Nat.add_assoc,hcs _ (by show i0 * 3+j0<3 * (ns.map seg0).length;rw [List.length_map];omega)]
       show (cellsG (ns.map seg0))[i0 * 3+j0]?=_
       rw [Nat.mul_comm i0 3,cellsG_get _ _ (by rw [List.length_map];exact hi0) _ hj0,List.getElem_map,List.getD_eq_getElem?_getD,List.getElem?_eq_getElem hi0]
       rfl
      obtain ⟨x,hx⟩:∃x,ns.getD k 0=x:=⟨_,rfl⟩;obtain ⟨y,hy⟩:∃y,ns.getD 0 0=y:=⟨_,rfl⟩
      have f0:wr.cell? ⟨b,off+k * 3,none⟩=some (.int .i64 x):=by have:=hcell k hlt 0 (by omega);rw [hx] at this;exact this
      have f1:wr.cell? ⟨b,off+k * 3+1,none⟩=some (.int .i64 0):=by have:=hcell k hlt 1 (by omega);rw [hx] at this;exact this
      have f2:wr.cell? ⟨b,off+k * 3+2,none⟩=some (.int .i64 0):=by have:=hcell k hlt 2 (by omega);rw [hx] at this;exact this
      have f3:wr.cell? ⟨b,off,none⟩=some (.int .i64 y):=by have:=hcell 0 (by omega) 0 (by omega);rw [hy,Nat.zero_mul] at this;exact this
      have c3':wr.cell? ⟨l,3,none⟩=some (.slice (some ⟨b,off,none⟩) ns.length cap4):=by rw [World.cell?_of_block (hbr.block l HBl.out)];exact HC3.out
      clear hcs hcell
      have hxr:0≤x∧x≤9999999:=HRg.out x (by rw [←hx,List.getD_eq_getElem?_getD,List.getElem?_eq_getElem hlt];exact List.getElem_mem hlt)
      have hyr:0≤y∧y≤9999999:=HRg.out y (by rw [←hy,List.getD_eq_getElem?_getD,List.getElem?_eq_getElem (show 0<ns.length by omega)];exact List.getElem_mem _)
      obtain ⟨w5,hw5⟩:∃w5,wr.alloc (.cells #[.int .i64 x,.int .i64 0,.int .i64 0] 108)=w5:=⟨_,rfl⟩
      have hb5:Below wr.heap.size wr w5:=by rw [←hw5];exact (Below.refl _ _).alloc (Nat.le_refl _) _
      have hbs:=hbr.size
      have g0:w5.cell? ⟨wr.heap.size,0,none⟩=some (.int .i64 x):=by rw [←hw5,cell_of_row _ wr.heap.size 0 _ _ (0,0) (heap_alloc_new wr _)];rfl
      have g1:w5.cell? ⟨b,off,none⟩=some (.int .i64 y):=by rw [World.cell?_of_block (hb5.block b (by omega))];exact f3
      have g3:w5.cell? ⟨l,3,none⟩=some (.slice (some ⟨b,off,none⟩) ns.length cap4):=by rw [World.cell?_of_block (hb5.block l (by have:=HBl.out;omega))];exact c3'
      have HX:=hide hx;have HY:=hide hy;have HB5:=hide (hbr.trans (hb5.mono hbs));obtain ⟨hs,hhs⟩:∃s,wr.heap.size=s:=⟨_,rfl⟩;have HW5:=hide hw5;have HHS:=hide hhs;rw [hhs] at g0;clear hx hy hb5 hbs hbr hw5 hhs
      go_upto_region 12 with fail
      rw [HW5.out,HHS.out];clear f0 f1 f2 f3 c3' c3 HHS HW5
      by_cases hq:x=y+(k:Int)
      ·have hq1:(x != y+(k:Int))=false:=by rw [hq];simp
       have HQ:=hide hq;clear hq
       go_quiet (fail)
       go_wp2;go_roundw
       case rel=>
        refine ⟨k+1,by omega,by go_num,fun q hqk=>?_,drewN_below HB5.out _⟩
        rcases Nat.lt_or_ge q k with h | h
        ·exact HA.out q h
        ·have:q=k:=by omega
         rw [this,HX.out,HY.out,HQ.out]
       case measure=>simp [intOf];omega
      ·have hq1:(x != y+(k:Int))=true:=by simp [hq]
       have HQ:=hide hq;clear hq
       go_quiet (fail)
       go_wp2
       (try rw [Exit.noGoto_ret])
       go_ret
       refine ⟨?_,(by rw [HNS.out];exact HL3.out.below (drewN_below HB5.out _)),?_⟩
       ·rw [HNS.out,show consec ns=false from ?_]
        ·rfl
        ·unfold consec
         rw [List.all_eq_false];refine ⟨k,List.mem_range.2 hlt,?_⟩;rw [HX.out,HY.out]
         simp [HQ.out]
       ·exact HB3.out.trans ((drewN_below HB5.out _).mono HL3.out.base)
    ·have hkl:k=ns.length:=by omega
     subst hkl
     have dk:decide ((ns.length:Int)<(ns.length:Int))=false:=decide_eq_false (by omega)
     have HBr:=hide hbr;clear hbr;go_wp2;go_ret;refine ⟨?_,?_,?_⟩
     ·rw [HNS.out,show consec ns=true from ?_]
      ·rfl
      ·unfold consec
       rw [List.all_eq_true];intro q hq;rw [HA.out q (List.mem_range.1 hq)]
       simp
     ·rw [HNS.out];exact HL3.out.below HBr.out
     ·exact HB3.out.trans (HBr.out.mono HL3.out.base)
end Go.Proofs.YtjbdncknooeplaaGreatDoor
