import Derived.Test.YtjbdncknooeplaaGreatDoorWRBegins
import Derived.Test.YtjbdncknooeplaaGreatDoorWFind
import Derived.Test.YtjbdncknooeplaaGreatDoorRowsOwn
import Derived.Test.YtjbdncknooeplaaGreatDoorFWrite
import Derived.Test.YtjbdncknooeplaaGreatDoorCurBase
namespace Go.Proofs.YtjbdncknooeplaaGreatDoor
open Go.RowKit Go.Maps
set_option linter.unusedVariables false
def ahead (x:Int) (l:List Int):Nat:=(l.takeWhile (fun y=>decide (y<x))).length
def putN (l:List Int) (x:Int):List Int:=l.take (ahead x l)++x :: l.drop (ahead x l)
theorem putN_eq (l:List Int) (x:Int):putN l x=l.takeWhile (fun y=>decide (y<x))++x :: l.dropWhile (fun y=>decide (y<x)):=by
 unfold putN ahead
 have e:l=l.takeWhile (fun y=>decide (y<x))++l.dropWhile (fun y=>decide (y<x)):=List.takeWhile_append_dropWhile.symm
 generalize hA:l.takeWhile (fun y=>decide (y<x))=A at e ⊢
 generalize hB:l.dropWhile (fun y=>decide (y<x))=B at e ⊢
 rw [e,List.take_left,List.drop_left]
theorem putN_perm (l:List Int) (x:Int):(putN l x).Perm (l++[x]):=by
 unfold putN;refine List.perm_middle.trans ?_;rw [List.take_append_drop];exact (List.perm_append_singleton x l).symm
theorem take_sorted (x:Int):∀l:List Int,∀y∈l.takeWhile (fun y=>decide (y<x)),y<x
 | [],y,h=>by cases h
 | a :: t,y,h=>by
  rw [List.takeWhile_cons] at h
  split at h
  ·rename_i ha
   rcases List.mem_cons.1 h with rfl | h
   ·exact of_decide_eq_true ha
   ·exact take_sorted x t y h
  ·cases h
theorem drop_sorted (x:Int):∀l:List Int,l.Pairwise (·≤·)→∀y∈l.dropWhile (fun y=>decide (y<x)),x≤y
 | [],_,y,h=>by cases h
 | a :: t,hs,y,h=>by
  rw [List.dropWhile_cons] at h
  split at h
  ·exact drop_sorted x t (List.pairwise_cons.1 hs).2 y h
  ·rename_i ha
   have hxa:x≤a:=by
    have:¬a<x:=fun hh=>ha (decide_eq_true hh)
    omega
   rcases List.mem_cons.1 h with rfl | h
   ·exact hxa
   ·exact Int.le_trans hxa ((List.pairwise_cons.1 hs).1 y h)
theorem putN_sorted (l:List Int) (x:Int) (h:l.Pairwise (·≤·)):(putN l x).Pairwise (·≤·):=by
 rw [putN_eq,List.pairwise_append,List.pairwise_cons]
 refine ⟨h.sublist (List.takeWhile_sublist _),⟨drop_sorted x l h,h.sublist (List.dropWhile_sublist _)⟩,fun a ha b hb=>?_⟩
 have h1:=take_sorted x l a ha
 rcases List.mem_cons.1 hb with rfl | hb
 ·omega
 ·have:=drop_sorted x l h b hb;omega
def putAll (ns:List Int):List Int:=ns.foldl putN []
theorem putAll_snoc (ns:List Int) (x:Int):putAll (ns++[x])=putN (putAll ns) x:=by
 unfold putAll;rw [List.foldl_append];rfl
theorem putFold (ns:List Int):∀a:List Int,a.Pairwise (·≤·)→(ns.foldl putN a).Pairwise (·≤·)∧(ns.foldl putN a).Perm (a++ns):=by
 induction ns with
 | nil=>intro a h;exact ⟨h,by simp⟩
 | cons x t ih=>
  intro a h;obtain ⟨h1,h2⟩:=ih (putN a x) (putN_sorted a x h);refine ⟨h1,h2.trans ?_⟩
  have:=(putN_perm a x).append_right t
  simpa using this
theorem putAll_eq (ns:List Int):putAll ns=sortN ns:=by
 obtain ⟨h1,h2⟩:=putFold ns [] List.Pairwise.nil
 have h3:(sortN ns).Pairwise (·≤·):=by
  have:=List.pairwise_mergeSort (le:=fun a b:Int=>decide (a≤b)) (fun a b c=>by simp;omega) (fun a b=>by simp;omega) ns
  unfold sortN
  refine this.imp (fun h=>of_decide_eq_true h)
 refine List.Perm.eq_of_pairwise (le:=(·≤·)) (fun a b _ _ x y=>Int.le_antisymm x y) h1 h3 ?_
 have:(ns.foldl putN []).Perm ns:=by simpa using h2
 exact this.trans (List.mergeSort_perm _ _).symm
def nogap (ns:List Int):Bool:=(List.range ns.length).all fun i=>i == 0 || ns.getD i 0 == ns.getD (i - 1) 0+1
theorem nogap_eq (ns:List Int):nogap ns=consec ns:=by
 unfold nogap consec;rw [Bool.eq_iff_iff,List.all_eq_true,List.all_eq_true]
 constructor
 ·intro h i
  induction i with
  | zero=>intro _;simp
  | succ i ih=>
   intro hi;have hlt:=List.mem_range.1 hi
   have h1:=ih (List.mem_range.2 (by omega))
   have h2:=h (i+1) hi;rw [beq_iff_eq] at h1;simp only [Nat.add_sub_cancel,Bool.or_eq_true,beq_iff_eq] at h2;rw [beq_iff_eq]
   rcases h2 with h2 | h2
   ·omega
   ·rw [h2,h1];omega
 ·intro h i hi
  have hlt:=List.mem_range.1 hi;have h1:=h i hi;rw [beq_iff_eq] at h1
  cases i with
  | zero=>rfl
  | succ i=>
   have h2:=h i (List.mem_range.2 (by omega))
   rw [beq_iff_eq] at h2;simp only [Nat.add_sub_cancel,Bool.or_eq_true,beq_iff_eq]
   right
   rw [h1,h2];omega
theorem add_part (g k i:Nat):(⟨g,k,none⟩:Addr).add i=(⟨g,0,none⟩:Addr).add (k+i):=by
 cases i with
 | zero=>cases k<;>simp [Addr.add]
 | succ i=>simp [Addr.add]
section
variable {e tx:TypeId} {w:World} {g n cap:Nat} {xs:List Value}
theorem src_take (hk:Tryz.prog.underlying tx=some (.slice e)) (h:w.ownsRow 0 e 1 (.slice (some ⟨g,0,none⟩) n cap) n xs) (h1:∀u∈xs,u.oneCell'=true) (k:Nat) (hkn:k≤xs.length) (c2:Nat):Src Tryz.prog 1 tx (.slice (some ⟨g,0,none⟩) k c2) k (xs.take k) w:=by
 refine Src.ofSlice w hk ⟨g,0,none⟩ k c2 (xs.take k) (by simp;omega) (fun i u hu=>?_) (fun u hu=>h1 u (List.mem_of_mem_take hu))
 refine World.ownsRow.cells h rfl i u ?_
 have hi:i<k:=by
  have:=(List.getElem?_eq_some_iff.1 hu).1
  rw [List.length_take] at this;omega
 rw [List.getElem?_take_of_lt hi] at hu;exact hu
theorem src_drop (hk:Tryz.prog.underlying tx=some (.slice e)) (h:w.ownsRow 0 e 1 (.slice (some ⟨g,0,none⟩) n cap) n xs) (h1:∀u∈xs,u.oneCell'=true) (k:Nat) (hkn:k≤xs.length) (c2:Nat):Src Tryz.prog 1 tx (.slice (some ⟨g,k,none⟩) (xs.length - k) c2) (xs.length - k) (xs.drop k) w:=by
 refine Src.ofSlice w hk ⟨g,k,none⟩ (xs.length - k) c2 (xs.drop k) (by simp) (fun i u hu=>?_) (fun u hu=>h1 u (List.mem_of_mem_drop hu))
 have:=World.ownsRow.cells h rfl (k+i) u (by rw [List.getElem?_drop] at hu;exact hu)
 rw [←this,add_part]
end
end Go.Proofs.YtjbdncknooeplaaGreatDoor
namespace Go.Proofs.YtjbdncknooeplaaGreatDoor
open Go.RowKit Go.Maps
set_option linter.unusedVariables false
def numI (x:Int):Value:=.int .i64 x
theorem numI_one (ns:List Int):∀u∈ns.map numI,u.oneCell'=true:=fun u hu=>by
 obtain ⟨x,_,rfl⟩:=List.mem_map.1 hu;rfl
theorem app_num {B:Nat} {W W1:World} {L:List Item} {q:Nat} {v:Value} {xs:List Int} (h:Lies B W L) (hq:L[q]?=some (.row 3 v (xs.map numI))) (x:Int) (hlen:xs.length+1≤1000000000) (ty:TypeId) (hW1:W.alloc (.cells #[.int .i64 x] 3)=W1) {g1:Nat} (hg1:W.heap.size=g1) :
 ∃ad cap W2,(Builtin.append_ #[98,98] ty #[v,.slice (some ⟨g1,0,none⟩) 1 1]).run Tryz.prog W1=.ok (.slice ad (xs.length+1) cap) W2∧Lies B W2 (L.set q (.row 3 (.slice ad (xs.length+1) cap) ((xs++[x]).map numI)))∧Below B W W2:=by
 have hb1:Below W.heap.size W W1:=by rw [←hW1];exact (Below.refl _ _).alloc (Nat.le_refl _) _
 have h1:=h.below hb1
 have hk1:W1.heap[g1]?=some (.cells #[.int .i64 x] 3 (0,0)):=by rw [←hW1,←hg1];exact heap_alloc_new W _
 have hsrc:Src Tryz.prog 1 98 (.slice (some ⟨g1,0,none⟩) 1 1) [numI x].length [numI x] W1:=Src.ofSlice W1 Tryz.underlying98 ⟨g1,0,none⟩ 1 1 [numI x] (by simp) (World.news_of_block hk1) (by intro u hu;simp at hu;subst hu;rfl)
 obtain ⟨v',W2,hr,hown,hmv⟩:=run_append_rows (t:=98) (e:=3) (z:=.int .i64 0) (by_:=8) Tryz.underlying98 info3' rfl (by decide) W1 ty 98 v (xs.map numI) [numI x] (h1.rowOf hq) _ hsrc (by simp;omega)
 obtain ⟨ad,cap,hv,_⟩:=row_at hown;subst hv;obtain ⟨h2,hb2⟩:=h1.moved hq hown hmv
 have e:(xs.map numI++[numI x]).length=xs.length+1:=by simp
 rw [e] at hr h2;refine ⟨ad,cap,W2,hr,?_,(hb1.mono h.base).trans hb2⟩;rw [List.map_append];exact h2
theorem app_nums {B:Nat} {W:World} {L:List Item} {q:Nat} {v x:Value} {xs ys:List Int} (h:Lies B W L) (hq:L[q]?=some (.row 3 v (xs.map numI))) (hsrc:Src Tryz.prog 1 98 x ys.length (ys.map numI) W) (hlen:xs.length+ys.length≤1000000000) (ty:TypeId) :
 ∃ad cap W2,(Builtin.append_ #[98,98] ty #[v,x]).run Tryz.prog W=.ok (.slice ad (xs.length+ys.length) cap) W2∧Lies B W2 (L.set q (.row 3 (.slice ad (xs.length+ys.length) cap) ((xs++ys).map numI)))∧Below B W W2:=by
 have hsrc':Src Tryz.prog 1 98 x (ys.map numI).length (ys.map numI) W:=by rw [List.length_map];exact hsrc
 obtain ⟨v',W2,hr,hown,hmv⟩:=run_append_rows (t:=98) (e:=3) (z:=.int .i64 0) (by_:=8) Tryz.underlying98 info3' rfl (by decide) W ty 98 v (xs.map numI) (ys.map numI) (h.rowOf hq) _ hsrc' (by simp;omega)
 obtain ⟨ad,cap,hv,_⟩:=row_at hown;subst hv;obtain ⟨h2,hb2⟩:=h.moved hq hown hmv
 have e:(xs.map numI++ys.map numI).length=xs.length+ys.length:=by simp
 rw [e] at hr h2;refine ⟨ad,cap,W2,hr,?_,hb2⟩;rw [List.map_append];exact h2
theorem elemI:Tryz.prog.elem 98=3:=by kernel_rfl
theorem undI:Tryz.prog.underlying 98=some (.slice (Tryz.prog.elem 98)):=by kernel_rfl
theorem size3i (w:World):(sizeOf 3).run Tryz.prog w=.ok 1 w:=by
 have h:(Tryz.prog.info? 3).map (·.size)=some 1:=by kernel_rfl
 cases hq:Tryz.prog.info? 3 with
 | none=>simp [hq] at h
 | some i=>simp [hq] at h;simp [sizeOf,typeInfo,hq,h]
theorem cut_take {w:World} {v:Value} {ns:List Int} (hB:w.ownsRow 0 3 1 v ns.length (ns.map numI)) (q:Nat) (hq:q≤ns.length) :
 ∃u,(∀w':World,(Instr.slice 98 v none (some (.int .i64 (q:Int))) none).run Tryz.prog w'=.ok u w')∧∀W:World,W.ownsRow 0 3 1 v ns.length (ns.map numI)→Src Tryz.prog 1 98 u (ns.take q).length ((ns.take q).map numI) W:=by
 have hl:(ns.take q).length=q:=by rw [List.length_take];omega
 rw [hl,List.map_take]
 rcases hB.2 with ⟨rfl,h0⟩ | ⟨g,cap,cur,rfl,hb,hg,hnc,hcm,hcs,ht⟩
 ·have e1:ns=[]:=List.length_eq_zero_iff.1 h0
  subst e1
  have e2:q=0:=by simpa using hq
  subst e2
  refine ⟨.slice none 0 0,fun w'=>?_,fun W _=>Src.ofNil W Tryz.underlying98 0⟩
  rw [run_slice_h w' 98 none 0 0 undI .i64 _ (by omega) (by omega),elemI,size3i]
  simp [sliced]
 ·refine ⟨_,fun w'=>by rw [run_slice_h w' 98 (some ⟨g,0,none⟩) ns.length cap undI .i64 (q:Int) (by omega) (by omega),elemI,size3i];rfl,fun W hW=>?_⟩
  unfold sliced;simp only [Int.toNat_natCast,Nat.sub_zero]
  have e:(if cap=0 then some (⟨g,0,none⟩:Addr) else some ⟨g,0,none⟩)=some ⟨g,0,none⟩:=by split<;>rfl
  have:=src_take (tx:=98) Tryz.underlying98 hW (numI_one ns) q (by simpa using hq) cap
  simpa [addr_add] using this
theorem cut_drop {w:World} {v:Value} {ns:List Int} (hB:w.ownsRow 0 3 1 v ns.length (ns.map numI)) (q:Nat) (hq:q≤ns.length) :
 ∃u,(∀w':World,(Instr.slice 98 v (some (.int .i64 (q:Int))) none none).run Tryz.prog w'=.ok u w')∧∀W:World,W.ownsRow 0 3 1 v ns.length (ns.map numI)→Src Tryz.prog 1 98 u (ns.drop q).length ((ns.drop q).map numI) W:=by
 rw [List.length_drop,List.map_drop]
 rcases hB.2 with ⟨rfl,h0⟩ | ⟨g,cap,cur,rfl,hb,hg,hnc,hcm,hcs,ht⟩
 ·have e1:ns=[]:=List.length_eq_zero_iff.1 h0
  subst e1
  have e2:q=0:=by simpa using hq
  subst e2
  refine ⟨.slice none 0 0,fun w'=>?_,fun W _=>Src.ofNil W Tryz.underlying98 0⟩
  rw [run_slice_l w' 98 none 0 0 undI .i64 ((0:Nat):Int) (by omega) (by omega),elemI,size3i]
  simp [sliced]
 ·refine ⟨_,fun w'=>by rw [run_slice_l w' 98 (some ⟨g,0,none⟩) ns.length cap undI .i64 (q:Int) (by omega) (by omega),elemI,size3i];rfl,fun W hW=>?_⟩
  unfold sliced;simp only [Int.toNat_natCast]
  by_cases hc:cap - q=0
  ·have hz:ns.length - q=0:=by omega
   have hd:(ns.map numI).drop q=[]:=List.drop_of_length_le (by simp;omega)
   rw [hz,hd]
   split
   ·exact Src.ofSlice W Tryz.underlying98 _ 0 _ [] (by simp) (by simp) (by simp)
   ·exact Src.ofSlice W Tryz.underlying98 _ 0 _ [] (by simp) (by simp) (by simp)
  ·rw [if_neg (by omega)]
   have:=src_drop (tx:=98) Tryz.underlying98 hW (numI_one ns) q (by simpa using hq) (cap - q)
   rw [List.length_map] at this
   simpa [addr_add] using this
theorem ahead_le (x:Int) (l:List Int):ahead x l≤l.length:=(List.takeWhile_sublist _).length_le
theorem ahead_iff (x:Int):∀(l:List Int) (r:Nat),r≤ahead x l→(r<ahead x l↔r<l.length∧l.getD r 0<x)
 | [],r,h=>by
  have:ahead x []=0:=rfl
  rw [this];simp
 | a :: t,r,h=>by
  have e:ahead x (a :: t)=if a<x then ahead x t+1 else 0:=by
   unfold ahead;rw [List.takeWhile_cons]
   by_cases ha:a<x<;>simp [ha]
  rw [e] at h ⊢
  by_cases ha:a<x
  ·rw [if_pos ha] at h ⊢
   cases r with
   | zero=>simp [ha]
   | succ r=>
    have:=ahead_iff x t r (by omega)
    simp only [List.length_cons,List.getD_cons_succ];omega
  ·rw [if_neg ha] at h ⊢
   have:r=0:=by omega
   subst this
   simp [ha]
theorem lies_unmid {B:Nat} {w:World} {L:List Item} {X Y:Item} (h:Lies B w (L++[X]++[Y])):Lies B w (L++[Y]):=by
 refine h.pick (fun q=>if q<L.length then q else L.length+1) (fun a b ha hb e=>?_) (fun q x hq=>?_)
 ·simp at ha hb
  split at e<;>split at e<;>omega
 ·have hl:=(List.getElem?_eq_some_iff.1 hq).1
  simp at hl
  by_cases e:q<L.length
  ·rw [if_pos e,List.append_assoc,List.getElem?_append_left e]
   rw [List.getElem?_append_left e] at hq;exact hq
  ·rw [if_neg e]
   have:q=L.length:=by omega
   subst this;rw [List.getElem?_append_right (Nat.le_refl _)] at hq;simp at hq;subst hq
   simp
theorem put_steps {B:Nat} {w:World} {M:List Item} {v:Value} {ns:List Int} {x:Int} (h:Lies B w (M++[.row 3 v (ns.map numI)])) (hn:ns.length≤1000) (q:Nat) (hq:q≤ns.length) :
 ∃u1 u2 ad1 c1 W1 ad2 c2 W2 ad3 c3 W3,(∀w':World,(Instr.slice 98 v none (some (.int .i64 (q:Int))) none).run Tryz.prog w'=.ok u1 w')∧(∀w':World,(Instr.slice 98 v (some (.int .i64 (q:Int))) none none).run Tryz.prog w'=.ok u2 w') ∧
  (Builtin.append_ #[98,98] 98 #[.slice none 0 0,u1]).run Tryz.prog w=.ok (.slice ad1 q c1) W1 ∧
  (Builtin.append_ #[98,98] 98 #[.slice ad1 q c1,.slice (some ⟨W1.heap.size,0,none⟩) 1 1]).run Tryz.prog (W1.alloc (.cells #[.int .i64 x] 3))=.ok (.slice ad2 (q+1) c2) W2 ∧
  (Builtin.append_ #[98,98] 98 #[.slice ad2 (q+1) c2,u2]).run Tryz.prog W2=.ok (.slice ad3 (ns.length+1) c3) W3 ∧
  Lies B W3 (M++[.row 3 (.slice ad3 (ns.length+1) c3) ((ns.take q++x :: ns.drop q).map numI)])∧Below B w W3:=by
 have hown:=h.rowOf (i:=M.length) (by rw [List.getElem?_append_right (Nat.le_refl _),Nat.sub_self];rfl)
 rw [List.length_map] at hown;obtain ⟨u1,hs1,hr1⟩:=cut_take hown q hq;obtain ⟨u2,hs2,hr2⟩:=cut_drop hown q hq
 have htl:(ns.take q).length=q:=by rw [List.length_take];omega
 have h0:=h.pushNil 3
 obtain ⟨ad1,c1,W1,ha1,hl1,hb1⟩:=app_nums (xs:=[]) (v:=.slice none 0 0) h0 (q:=M.length+1) (by rw [List.getElem?_append_right (by simp)];simp) (hr1 w hown) (by simp;omega) 98
 rw [List.length_nil,Nat.zero_add,htl] at ha1 hl1;rw [List.nil_append] at hl1
 rw [List.set_append_right _ _ (by simp)] at hl1
 simp only [List.length_append,List.length_singleton,Nat.sub_self,List.set_cons_zero] at hl1
 obtain ⟨ad2,c2,W2,ha2,hl2,hb2⟩:=app_num (v:=.slice ad1 q c1) (xs:=ns.take q) hl1 (q:=M.length+1) (by rw [List.getElem?_append_right (by simp)];simp) x (by omega) 98 rfl rfl
 rw [htl] at ha2 hl2
 rw [List.set_append_right _ _ (by simp)] at hl2
 simp only [List.length_append,List.length_singleton,Nat.sub_self,List.set_cons_zero] at hl2
 have hown2:=hl2.rowOf (i:=M.length) (by rw [List.getElem?_append_left (by simp),List.getElem?_append_right (Nat.le_refl _),Nat.sub_self];rfl)
 rw [List.length_map] at hown2
 obtain ⟨ad3,c3,W3,ha3,hl3,hb3⟩:=app_nums (v:=.slice ad2 (q+1) c2) (xs:=ns.take q++[x]) hl2 (q:=M.length+1) (by rw [List.getElem?_append_right (by simp)];simp) (hr2 W2 hown2) (by simp;omega) 98
 have e3:(ns.take q++[x]).length+(ns.drop q).length=ns.length+1:=by simp;omega
 rw [e3] at ha3 hl3
 rw [List.set_append_right _ _ (by simp)] at hl3
 simp only [List.length_append,List.length_singleton,Nat.sub_self,List.set_cons_zero] at hl3;have hl4:=lies_unmid hl3;rw [List.append_assoc,List.singleton_append] at hl4;exact ⟨u1,u2,ad1,c1,W1,ad2,c2,W2,ad3,c3,W3,hs1,hs2,ha1,ha2,ha3,hl4,hb1.trans (hb2.trans hb3)⟩
section
variable {B:Nat} {w:World} {L:List Item} {i j l p:Nat} {A:AD} {g:AL}
set_option maxRecDepth 100000 in
set_option maxHeartbeats 4000000 in
theorem rnumbers_any (h:Lies B w L) (hi:L[i]?=some (.ref p A)) (hok:A.Ok) (hj:L[j]?=some (.rlog l p g)) (hnm:g.name.size≤24) (he:Env B w) :
 Calls Tryz.prog 109 #[.pointer (some ⟨l,0,none⟩)] w fun e w'=>∃v,e=.returned (.tuple #[v,.bool (consec (numsL A g.name.data.toList))])∧Lies B w' (L++[.row 3 v (if consec (numsL A g.name.data.toList)=true then (numsL A g.name.data.toList).map numI else [])])∧Below B w w':=by
 obtain ⟨cb,hcb⟩:∃cb,consec (numsL A g.name.data.toList)=cb:=⟨_,rfl⟩;rw [hcb]
 obtain ⟨RL,hRL⟩:∃RL,(if cb=true then (numsL A g.name.data.toList).map numI else [])=RL:=⟨_,rfl⟩
 rw [hRL];have HCB:=hide hcb;have HRL:=hide hRL;clear hcb hRL;obtain ⟨v0,r0,hat0,hBl⟩:=h.rlogAt hj;have c0:=hat0.c0
 have HCELL:Hid (∀(W:World) (X:List Item),Lies B W (L++X)→W.cell? ⟨l,1,none⟩=some (.string g.name)∧l<W.heap.size):=fun W X hl=>by
  obtain ⟨v,r,hat,_⟩:=hl.rlogAt (i:=j) (by rw [List.getElem?_append_left (List.getElem?_eq_some_iff.1 hj).1];exact hj)
  exact ⟨hat.c1,lt_of_some hat.cells⟩
 have HL:=hide h;have HE:=hide he;clear hat0 h he hBl
 go_enter Tryz.func109,Tryz.ntmps109
 go_wp2_with fail;refine (r_list HL.out hi hok).mono ?_;rintro e w1 ⟨vr,rfl,hrow,hL1,hb1⟩;obtain ⟨ad,cap,rfl,_,_,hmx⟩:=row_at hrow;obtain ⟨ks,hks⟩:∃ks,A.list=ks:=⟨_,rfl⟩
 have HF:Hid (foundL A g.name.data.toList=ks.filterMap (fun f=>numOf f g.name.data.toList)):=by show _=_;unfold foundL;rw [hks]
 have HNm:Hid (∀k∈ks,k.length≤32):=by show ∀_∈_,_;rw [←hks];exact list_names hok
 have HFw:Hid (ks.length≤16):=by show _≤_;rw [←hks];exact list_few hok
 rw [hks,List.length_map] at hL1 hrow hmx ⊢;obtain ⟨M,hM⟩:∃M,L++[Item.row 9 (.slice ad ks.length cap) (ks.map encStr)]=M:=⟨_,rfl⟩;rw [hM] at hL1;have HL1:Hid (Lies B w1 (M++[.row 3 (.slice none 0 0) ([]:List Value)])):=hL1.pushNil 3;have HM:=hide hM;have HB1:=hide hb1;clear hL1 hrow hb1 hks hmx c0;unfold maxLen at *;go_wp2
 go_loopw [4,6] (fun y ix wr=>∃k:Nat,k≤ks.length∧ix=.int .i64 (k:Int)∧∃ns ado capo,Hid (ns=putAll ((ks.take k).filterMap (fun f=>numOf f g.name.data.toList)))∧ns.length≤k∧y=.slice ado ns.length capo∧Lies B wr (M++[.row 3 y (ns.map numI)])∧Below B w wr) (fun y ix _=>ks.length - (intOf ix).toNat)
 case atStart=>exact ⟨0,by omega,rfl,[],none,0,by show _=_;rw [List.take_zero];rfl,by simp,rfl,HL1.out,HB1.out⟩
 case round=>
  obtain ⟨k,hk,rfl,ns,ado,capo,HNS,hnl,rfl,hLr,hbr⟩:=hrel
  have hLr':Lies B wr (L++([Item.row 9 (.slice ad ks.length cap) (ks.map encStr)]++[.row 3 (.slice ado ns.length capo) (ns.map numI)])):=by
   rw [←List.append_assoc,HM.out];exact hLr
  obtain ⟨c1,hll⟩:=HCELL.out wr _ hLr'
  by_cases hlt:k<ks.length
  ·obtain ⟨S,⟨hrw,_⟩,_⟩:=hLr'.get (i:=L.length) (it:=.row 9 (.slice ad ks.length cap) (ks.map encStr)) (by rw [List.getElem?_append_right (Nat.le_refl _),Nat.sub_self];rfl)
   obtain ⟨ad',cap',hv,hrowat,_,_⟩:=row_at hrw;rw [List.length_map] at hv;cases hv
   rcases hrowat with h0 | ⟨b,o,rfl,hbl,hcs⟩
   ·rw [List.map_eq_nil_iff.1 h0] at hlt;exact absurd hlt (by simp)
   have f0:wr.cell? ⟨b,o+k,none⟩=some (.string ⟨ks[k].toArray⟩):=by rw [hcs k (by simpa using hlt),List.getElem?_map,List.getElem?_eq_getElem hlt];rfl
   obtain ⟨x,hx⟩:∃x,ks[k]=x:=⟨_,rfl⟩
   have hxl:x.length≤32:=by rw [←hx];exact HNm.out _ (List.getElem_mem hlt)
   have hxs:(⟨x.toArray⟩:ByteArray).size≤100:=by show x.toArray.size≤100;rw [List.size_toArray];omega
   rw [hx] at f0
   have HTk:Hid ((ks.take (k+1)).filterMap (fun f=>numOf f g.name.data.toList)=(ks.take k).filterMap (fun f=>numOf f g.name.data.toList)++(numOf x g.name.data.toList).toList):=by
    show _=_
    rw [List.take_succ_eq_append_getElem hlt,hx,List.filterMap_append]
    cases hq:numOf x g.name.data.toList<;>simp [hq]
   have dk:decide ((k:Int)<(ks.length:Int))=true:=decide_eq_true (by omega)
   have dk':decide (k<ks.length)=true:=decide_eq_true hlt
   have hk0:(0:Int)≤(k:Int):=by omega
   have hk1:(k:Int)<(ks.length:Int):=by omega
   have hfw:=HFw.out;have HLr:=hide hLr;have HBr:=hide hbr;obtain ⟨X,hX⟩:∃X:ByteArray,X=⟨x.toArray⟩:=⟨_,rfl⟩
   have HX:Hid (X.data.toList=x):=by show _=_;rw [hX]
   rw [←hX] at f0 hxs;clear hLr hLr' hbr hcs hrw hx hX;go_wp2_with fail;refine (rnumber_any l X g.name _ c1 hll hnm hxs (HE.out.below HBr.out) HLr.out.base).mono ?_;rintro e w2 ⟨xn,rfl,hxn,hb2⟩;rw [numD_eq,HX.out] at hxn ⊢;have hL2:=HLr.out.below hb2;have HB2:=hide (HBr.out.trans (hb2.mono HLr.out.base))
   cases hq:numOf x g.name.data.toList with
   | none=>
    rw [hq] at HTk;have HL2:=hide hL2;clear hL2 hxn hb2 hq;go_wp2;go_roundw
    case rel=>
     refine ⟨k+1,by omega,by go_num,ns,ado,capo,?_,by omega,rfl,HL2.out,HB2.out⟩
     show _=_
     rw [HTk.out,Option.toList_none,List.append_nil];exact HNS.out
    case measure=>simp [intOf];omega
   | some z=>
    rw [hq] at HTk;obtain rfl:=hxn z hq;have HL2:=hide hL2;obtain ⟨q,hqd⟩:∃q,ahead xn ns=q:=⟨_,rfl⟩
    have hqn:q≤ns.length:=by rw [←hqd];exact ahead_le xn ns
    have HIF:Hid (∀r,r≤q→(r<q↔r<ns.length∧ns.getD r 0<xn)):=by show ∀_,_;rw [←hqd];exact ahead_iff xn ns
    have HCS:Hid (∀r,r<ns.length→∃b0 o0,ado=some ⟨b0,o0,none⟩∧w2.cell? ⟨b0,o0+r,none⟩=some (.int .i64 (ns.getD r 0))):=fun r hr=>by
     obtain ⟨ad2,cap2,hv2,hrow2,_⟩:=row_at (hL2.rowOf (i:=M.length) (by rw [List.getElem?_append_right (Nat.le_refl _),Nat.sub_self];rfl))
     rw [List.length_map] at hv2;cases hv2
     rcases hrow2 with h0 | ⟨b0,o0,e0,_,hc0⟩
     ·rw [List.map_eq_nil_iff.1 h0] at hr;exact absurd hr (by simp)
     ·refine ⟨b0,o0,e0,?_⟩
      rw [hc0 r (by simpa using hr),List.getElem?_map,List.getElem?_eq_getElem hr,List.getD_eq_getElem?_getD,List.getElem?_eq_getElem hr]
      rfl
    obtain ⟨u1,u2,ad1,cp1,W1,ad2,cp2,W2,ad3,cp3,W3,hs1,hs2,ha1,ha2,ha3,hl3,hb3⟩:=put_steps (x:=xn) hL2 (by omega) q hqn
    have HPUT:Hid (putAll ((ks.take (k+1)).filterMap (fun f=>numOf f g.name.data.toList))=ns.take q++xn :: ns.drop q):=by
     show _=_
     rw [HTk.out,Option.toList_some,putAll_snoc,←HNS.out];unfold putN;rw [hqd]
    have HS1:=hide hs1;have HS2:=hide hs2;have HA1:=hide ha1;have HA2:=hide ha2;have HA3:=hide ha3;have HL3:=hide hl3;have HB3:=hide (HB2.out.trans hb3);obtain ⟨n,hn⟩:∃n,ns.length=n:=⟨_,rfl⟩;have HNL:=hide hn;rw [hn] at HS1 HS2 HA3 HL3 HIF HCS hqn ⊢;clear hL2 hxn hb2 hq hqd hs1 hs2 ha1 ha2 ha3 hl3 hb3 HTk;go_wp2
    go_loopw [9] (fun ix wq=>∃r:Nat,r≤q∧ix=.int .i64 (r:Int)∧wq=w2) (fun ix _=>n - (intOf ix).toNat)
    case atStart=>exact ⟨0,by omega,rfl,rfl⟩
    case round=>
     obtain ⟨r,hr,rfl,rfl⟩:=hrel;have hif:=HIF.out r hr
     by_cases hrn:r<n
     ·have dr:decide ((r:Int)<(n:Int))=true:=decide_eq_true (by omega)
      have dr2:decide (r<n)=true:=decide_eq_true (by omega)
      have hr0:(0:Int)≤(r:Int):=by omega
      have hr1:(r:Int)<(n:Int):=by omega
      obtain ⟨b0,o0,rfl,hcr⟩:=HCS.out r hrn;obtain ⟨y,hy⟩:∃y,ns.getD r 0=y:=⟨_,rfl⟩;rw [hy] at hif hcr
      by_cases hyx:y<xn
      ·have dy:decide (y<xn)=true:=decide_eq_true hyx
       have hrq:r<q:=hif.2 ⟨hrn,hyx⟩;clear hif;go_wp2;go_roundw
       case rel=>exact ⟨r+1,by omega,by go_num,by first | rfl | trivial⟩
       case measure=>simp [intOf];omega
      ·have dy:decide (y<xn)=false:=decide_eq_false hyx
       have hrq:r=q:=by
        have:¬r<q:=fun h=>hyx (hif.1 h).2
        omega
       subst hrq;clear hif;have hs1:=HS1.out
       go_upto_region 13 with (at_builtin;refine wpList_appS rfl _ _ _ rfl HA1.out ?_)
       clear hs1
       go_upto_region 14 with (at_builtin;refine wpList_appS rfl _ _ _ rfl HA2.out ?_)
       have hs2:=HS2.out
       go_wp2_with (at_builtin;refine wpList_appS rfl _ _ _ rfl HA3.out ?_)
       go_roundw
       case rel=>
        refine ⟨k+1,by omega,by go_num,putAll ((ks.take (k+1)).filterMap (fun f=>numOf f g.name.data.toList)),ad3,cp3,rfl,?_,?_,?_,HB3.out⟩
        ·rw [HPUT.out];simp only [List.length_append,List.length_take,List.length_cons,List.length_drop];have:=HNL.out;omega
        ·rw [HPUT.out]
         have e:(ns.take r++xn :: ns.drop r).length=n+1:=by simp only [List.length_append,List.length_take,List.length_cons,List.length_drop];have:=HNL.out;omega
         rw [e]
        ·rw [HPUT.out]
         exact HL3.out
       case measure=>simp [intOf];omega
     ·have dr:decide ((r:Int)<(n:Int))=false:=decide_eq_false (by omega)
      have dr2:decide (r<n)=false:=decide_eq_false (by omega)
      have hrq:r=q:=by omega
      subst hrq;clear hif;have hs1:=HS1.out
      go_upto_region 13 with (at_builtin;refine wpList_appS rfl _ _ _ rfl HA1.out ?_)
      clear hs1
      go_upto_region 14 with (at_builtin;refine wpList_appS rfl _ _ _ rfl HA2.out ?_)
      have hs2:=HS2.out
      go_wp2_with (at_builtin;refine wpList_appS rfl _ _ _ rfl HA3.out ?_)
      go_roundw
      case rel=>
       refine ⟨k+1,by omega,by go_num,putAll ((ks.take (k+1)).filterMap (fun f=>numOf f g.name.data.toList)),ad3,cp3,rfl,?_,?_,?_,HB3.out⟩
       ·rw [HPUT.out];simp only [List.length_append,List.length_take,List.length_cons,List.length_drop];have:=HNL.out;omega
       ·rw [HPUT.out]
        have e:(ns.take r++xn :: ns.drop r).length=n+1:=by simp only [List.length_append,List.length_take,List.length_cons,List.length_drop];have:=HNL.out;omega
        rw [e]
       ·rw [HPUT.out]
        exact HL3.out
      case measure=>simp [intOf];omega
  ·have hkk:k=ks.length:=by omega
   have HNS2:Hid (ns=numsL A g.name.data.toList):=by
    show _=_
    rw [HNS.out,hkk,List.take_length,←HF.out,putAll_eq];rfl
   subst hkk;clear HNS HF hlt hLr';obtain ⟨n,hn⟩:∃n,ns.length=n:=⟨_,rfl⟩;have HNL:=hide hn
   have hn16:n≤16:=by have:=HFw.out;omega
   have dk:decide ((ks.length:Int)<(ks.length:Int))=false:=decide_eq_false (by omega)
   have HCS:Hid (∀(W:World),Lies B W (M++[.row 3 (.slice ado ns.length capo) (ns.map numI)])→∀r,r<ns.length→∃b0 o0,ado=some ⟨b0,o0,none⟩∧W.cell? ⟨b0,o0+r,none⟩=some (.int .i64 (ns.getD r 0))):=fun W hW r hr=>by
    obtain ⟨ad2,cap2,hv2,hrow2,_⟩:=row_at (hW.rowOf (i:=M.length) (by rw [List.getElem?_append_right (Nat.le_refl _),Nat.sub_self];rfl))
    rw [List.length_map] at hv2;cases hv2
    rcases hrow2 with h0 | ⟨b0,o0,e0,_,hc0⟩
    ·rw [List.map_eq_nil_iff.1 h0] at hr;exact absurd hr (by simp)
    ·refine ⟨b0,o0,e0,?_⟩
     rw [hc0 r (by simpa using hr),List.getElem?_map,List.getElem?_eq_getElem hr,List.getD_eq_getElem?_getD,List.getElem?_eq_getElem hr]
     rfl
   rw [hn] at hLr HCS;have HLr:=hide hLr;have HBr:=hide hbr;clear hLr hbr c1 hll;rw [hn];go_wp2
   go_loopw [11] (fun ix wq=>∃r:Nat,1≤r∧(r≤n∨r=1)∧ix=.int .i64 (r:Int)∧Hid (∀i,i<r→(i == 0 || ns.getD i 0 == ns.getD (i - 1) 0+1)=true)∧Lies B wq (M++[.row 3 (.slice ado n capo) (ns.map numI)])∧Below B w wq) (fun ix _=>n - (intOf ix).toNat)
   case atStart=>exact ⟨1,by omega,.inr rfl,rfl,fun i hi=>by (obtain rfl:i=0:=by omega);rfl,HLr.out,HBr.out⟩
   case round=>
    obtain ⟨r,hr1,hrn,rfl,HALL,hLq,hbq⟩:=hrel;have HLq:=hide hLq;have HBq:=hide hbq;clear hLq hbq
    by_cases hlt:r<n
    ·have dr:decide ((r:Int)<(n:Int))=true:=decide_eq_true (by omega)
     have dr2:decide (r<n)=true:=decide_eq_true hlt;obtain ⟨b0,o0,rfl,hc1⟩:=HCS.out _ HLq.out r hlt
     obtain ⟨b1,o1,e1,hc2⟩:=HCS.out _ HLq.out (r - 1) (by omega)
     cases e1;obtain ⟨r',hr'⟩:∃r',r - 1=r':=⟨_,rfl⟩
     have hri:(r:Int) - 1=(r':Int):=by omega
     rw [hr'] at hc2;obtain ⟨y,hy⟩:∃y,ns.getD r 0=y:=⟨_,rfl⟩;obtain ⟨z,hz⟩:∃z,ns.getD r' 0=z:=⟨_,rfl⟩;rw [hy] at hc1;rw [hz] at hc2
     have hr0:(0:Int)≤(r:Int):=by omega
     have hr2:(r:Int)<(n:Int):=by omega
     have hr3:(0:Int)≤(r':Int):=by omega
     have hr4:(r':Int)<(n:Int):=by omega
     have hzr:0≤z∧z≤9999999:=by
      have hm:z∈numsL A g.name.data.toList:=by
       rw [←HNS2.out,←hz,List.getD_eq_getElem?_getD,List.getElem?_eq_getElem (by have:=HNL.out;omega)]
       exact List.getElem_mem _
      have h1:z∈foundL A g.name.data.toList:=(List.mergeSort_perm _ _).mem_iff.1 hm;obtain ⟨f,_,hf⟩:=List.mem_filterMap.1 h1;exact numOf_range hf
     have hz0:=hzr.1;have hz1:=hzr.2;have HY:=hide hy;have HZ:=hide hz;have HR':=hide hr';clear hy hz hzr hr'
     by_cases hyz:y=z+1
     ·have hne:(y != z+1)=false:=by rw [bne_eq_false_iff_eq];exact hyz
      have hne2:(y == z+1)=true:=by rw [beq_iff_eq];exact hyz
      have HN1:Hid (∀i,i<r+1→(i == 0 || ns.getD i 0 == ns.getD (i - 1) 0+1)=true):=fun i hi=>by
       by_cases e:i=r
       ·subst e
        rw [HR'.out,HY.out,HZ.out,hne2,Bool.or_true]
       ·exact HALL.out i (by omega)
      clear hyz;go_wp2
      go_quiet (fail)
      go_wp2;go_roundw
      case rel=>exact ⟨r+1,by omega,.inl (by omega),by go_num,HN1,HLq.out.same (Nat.le_refl _) (fun _ _ _=>rfl),⟨HBq.out.os,HBq.out.tape,HBq.out.output,HBq.out.size,HBq.out.block⟩⟩
      case measure=>simp [intOf];omega
     ·have hne:(y != z+1)=true:=by rw [bne_iff_ne];exact hyz
      have hne2:(y == z+1)=false:=by rw [beq_eq_false_iff_ne];exact hyz
      have HBAD:Hid (consec (numsL A g.name.data.toList)=false):=by
       show _=_
       rw [←HNS2.out,←nogap_eq,Bool.eq_false_iff];intro hall
       have:=List.all_eq_true.1 hall r (List.mem_range.2 (by have:=HNL.out;omega))
       rw [HR'.out,HY.out,HZ.out,hne2,Bool.or_false,beq_iff_eq] at this;omega
      clear hyz;go_wp2
      go_quiet (fail)
      go_wp2;go_ret2;have hcf:cb=false:=HCB.out.symm.trans HBAD.out
      refine ⟨.slice none 0 0,by rw [hcf];rfl,?_,⟨HBq.out.os,HBq.out.tape,HBq.out.output,HBq.out.size,HBq.out.block⟩⟩
      rw [←HRL.out,hcf];have h1:Lies B wr M:=HLq.out.drop;rw [←HM.out] at h1
      have h2:=(h1.drop.same (w':=wr.drewN nq) (Nat.le_refl _) (fun _ _ _=>rfl)).pushNil 3
      exact h2
    ·have dr:decide ((r:Int)<(n:Int))=false:=decide_eq_false (by omega)
     have dr2:decide (r<n)=false:=decide_eq_false hlt
     have HOK:Hid (consec (numsL A g.name.data.toList)=true):=by
      show _=_
      rw [←HNS2.out,←nogap_eq]
      exact List.all_eq_true.2 (fun i hi=>HALL.out i (by have:=List.mem_range.1 hi;have:=HNL.out;omega))
     clear hrn;go_wp2;go_ret2;have hct:cb=true:=HCB.out.symm.trans HOK.out
     refine ⟨.slice ado n capo,by rw [hct];rfl,?_,HBq.out⟩
     rw [←HRL.out,hct,if_pos rfl,←HNS2.out];have h1:=HLq.out;rw [←HM.out] at h1;exact lies_unmid h1
end
end Go.Proofs.YtjbdncknooeplaaGreatDoor
