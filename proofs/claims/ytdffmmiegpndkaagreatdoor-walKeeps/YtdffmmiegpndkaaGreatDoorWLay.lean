import Derived.Test.YtdffmmiegpndkaaGreatDoorWPlace
namespace Go.Proofs.YtdffmmiegpndkaaGreatDoor
open Go.RowKit Go.Maps
set_option linter.unusedVariables false
section
variable {B:Nat} {w:World} {L:List Item} {i j l p:Nat} {A:AD} {g:AL}
def backA (A:AD) (g:AL) (s:ASeg) (fresh:Bool):Int×AD:=if fresh then A.remove (fileL g.name.data.toList s.num) else A.trunc (fileL g.name.data.toList s.num) s.size
set_option maxRecDepth 100000 in
set_option maxHeartbeats 4000000 in
theorem takeBack_any (h:Lies B w L) (hi:L[i]?=some (.disk p A)) (hj:L[j]?=some (.log l p g)) (hij:i≠j) (he:Env B w) (hnm:g.name.size≤24) (s:ASeg) (h0:0≤s.num) (h1:s.num≤10000000) (fresh:Bool) (R:Int×AD) (hR:backA A g s fresh=R) :
 Calls Tryz.prog 51 #[.pointer (some ⟨l,0,none⟩),s.val,.bool fresh] w fun e w'=>e=.returned (.tuple #[])∧Lies B w' ((L.set i (.disk p R.2)).set j (.log l p { g with dead:=R.1 != 0 }))∧Below B w w':=by
 obtain ⟨g1,hg1⟩:∃x,w.heap.size=x:=⟨_,rfl⟩;obtain ⟨w1,hw1⟩:∃x,w.alloc (.cells #[.int .i64 s.num,.int .i64 s.size,.int .i64 s.fin] 66)=x:=⟨_,rfl⟩;obtain ⟨hl1,hb1⟩:=h.newCells #[.int .i64 s.num,.int .i64 s.size,.int .i64 s.fin] 66;rw [hw1,hg1] at hl1;rw [hw1] at hb1;obtain ⟨X,hX⟩:∃X:List Item,[.block g1 (.cells #[.int .i64 s.num,.int .i64 s.size,.int .i64 s.fin] 66 (0,0))]=X:=⟨_,rfl⟩;rw [hX] at hl1
 have HX0:Hid (X[0]?=some (.block g1 (.cells #[.int .i64 s.num,.int .i64 s.size,.int .i64 s.fin] 66 (0,0)))):=by show _=_;rw [←hX];rfl
 obtain ⟨V0,hV0⟩:∃x,w1.drew=x:=⟨_,rfl⟩
 have hv0:=hl1.same (w':=w1.drew) (Nat.le_refl _) (fun _ _ _=>rfl)
 rw [hV0] at hv0
 have hvb0:Below B w V0:=by rw [←hV0];exact hb1.drew
 have HSS:Hid (∀(W:World) (it:Item),Lies B W ((L++X).set i it)→(W.cell? ⟨l,0,none⟩=some (.pointer (some ⟨p,0,none⟩))∧W.cell? ⟨g1,0,none⟩=some (.int .i64 s.num)∧W.cell? ⟨g1,1,none⟩=some (.int .i64 s.size)∧W.cell? ⟨g1,2,none⟩=some (.int .i64 s.fin))):=fun W it hl=>by
  obtain ⟨v,r,hat,_⟩:=hl.logAt (i:=j) (by rw [List.getElem?_set_ne hij];exact get_head hj)
  have:=hl.get3 (q:=L.length+0) (by rw [List.getElem?_set_ne (by have:=(List.getElem?_eq_some_iff.1 hi).1;omega),get_tail];exact HX0.out)
  exact ⟨hat.c0,this.1⟩
 have hS0:=HSS.out V0 (.disk p A) (by rw [hset_keep (get_head hi)];exact hv0)
 have c0:=hS0.1;obtain ⟨z0,z1,z2⟩:=hS0.2;obtain ⟨v0,r0,hat0,hBl⟩:=hv0.logAt (get_head hj)
 have hFz:(fileB g.name s.num).size≤maxLen:=by have:=fileB_size (b:=g.name) hnm h0 h1;unfold maxLen;omega
 have hfile:=file_any (B:=B) l s.num s.size s.fin g.name V0 hat0.c1 (lt_of_some hat0.cells) hnm h0 h1 (he.below hvb0) hv0.base
 have HEND:Hid (∀(A':AD) (W:World) (x:Int),R=(x,A')→Lies B W ((L++X).set i (.disk p A'))→Below B V0 W→W.cell? ⟨l,5,none⟩=some (.bool g.dead)∧W.frozen? ⟨l,5,none⟩=false∧Lies B (W.setCell ⟨l,5,none⟩ (.bool (x != 0))) ((L.set i (.disk p R.2)).set j (.log l p { g with dead:=R.1 != 0 }))∧Below B w (W.setCell ⟨l,5,none⟩ (.bool (x != 0)))):=fun A' W x hRx hl hb=>by
  have hil:=(List.getElem?_eq_some_iff.1 hi).1;have hjl:=(List.getElem?_eq_some_iff.1 hj).1
  have hjj:((L++X).set i (.disk p A'))[j]?=some (.log l p g):=by rw [List.getElem?_set_ne hij];exact get_head hj
  obtain ⟨v,r,hat,_⟩:=hl.logAt hjj
  obtain ⟨h3,b3⟩:=hl.setLog hjj 5 (.bool (x != 0)) (g':={ g with dead:=x != 0 }) (fun v=>rfl) rfl
  rw [hset_app _ hil,hset_app _ (by rw [List.length_set];exact hjl)] at h3
  rw [hRx];exact ⟨hat.c5,hat.fz 5,h3.drop,(hvb0.trans hb).trans b3⟩
 have HV0:=hide hV0;have HL0:=hide hv0;have HFILE:=hide hfile;have HFZ:=hide hFz;have HI:Hid ((L++X)[i]?=some (.disk p A)):=get_head hi;have HR:=hide hR;have HBE:Hid (B≤V0.heap.size):=hv0.base
 have HG1:Hid (g1<V0.heap.size):=lt_of_some (hv0.atBlock (q:=L.length+0) (by rw [get_tail];exact HX0.out))
 have HLV:Hid (l<V0.heap.size):=lt_of_some hat0.cells;clear h hl1 hb1 hvb0 hV0 hv0 hfile hFz hat0 hR hX hi hj hij HX0 hS0;unfold ASeg.val
 cases fresh with
 | true=>
  have hRR:R=A.remove (fileL g.name.data.toList s.num):=by rw [←HR.out];rfl
  have HRR:=hide hRR;clear hRR HR
  go_enter Tryz.func51,Tryz.ntmps51
  go_wp2;refine wp_region_noPanic ?_
  refine wp_region_held_drew (S:=fun wx=>wx.cell? ⟨l,0,none⟩=some (.pointer (some ⟨p,0,none⟩))∧wx.cell? ⟨g1,0,none⟩=some (.int .i64 s.num)∧wx.cell? ⟨g1,1,none⟩=some (.int .i64 s.size)∧wx.cell? ⟨g1,2,none⟩=some (.int .i64 s.fin)) (by kernel_rfl) (by rw [HV0.out];exact ⟨c0,z0,z1,z2⟩) (fun hHeld=>?_)
  rw [HV0.out] at hHeld ⊢;refine tK 0 (some 8) (.pointer (some ⟨l,0,none⟩)) rfl hHeld ?_;simp only [Act.put,pA,pB,pC];refine tK 1 (some 9) (.pointer (some ⟨l,0,none⟩)) rfl hHeld ?_;simp only [Act.put,pA,pB,pC];refine tK 2 (some 10) (.pointer (some ⟨l,0,none⟩)) rfl hHeld ?_;simp only [Act.put,pA,pB,pC]
  refine tH 3 (some 11) (.pointer (some ⟨p,0,none⟩)) rfl (fun w hw=>by obtain ⟨hw1,hw2,hw3,hw4⟩:=hw;first | rfl | (go_simp;done) | (go_simp;rfl)) hHeld ?_
  simp only [Act.put,pA,pB,pC];refine tK 4 (some 12) (.pointer (some ⟨l,0,none⟩)) rfl hHeld ?_;simp only [Act.put,pA,pB,pC]
  refine tH 5 (some 13) (.agg #[.int .i64 s.num,.int .i64 s.size,.int .i64 s.fin]) rfl (fun w hw=>by obtain ⟨hw1,hw2,hw3,hw4⟩:=hw;first | rfl | (go_simp;done) | (go_simp;rfl)) hHeld ?_
  simp only [Act.put,pA,pB,pC]
  refine rdH 6 rfl (fun K hK=>?_)
  go_simp
  refine (HFILE.out).mono ?_;rintro e W2 ⟨rfl,hb2⟩
  try go_wp2_with fail
  refine hK.out _ _ (⟨(World.cell?_of_block (hb2.block l HLV.out)).trans c0,(World.cell?_of_block (hb2.block g1 HG1.out)).trans z0,(World.cell?_of_block (hb2.block g1 HG1.out)).trans z1,(World.cell?_of_block (hb2.block g1 HG1.out)).trans z2⟩) (fun hH=>?_)
  clear hK K hHeld;have hHeld:=hH;clear hH
  refine rdH 7 rfl (fun K hK=>?_)
  go_simp
  refine (s_remove (HL0.out.below hb2) HI.out (fileB g.name s.num) HFZ.out).mono ?_;rintro e W3 ⟨rfl,hl3,hb3⟩
  try go_wp2_with fail
  refine hK.out _ _ (HSS.out W3 _ hl3) (fun hH=>?_)
  clear hK K hHeld;have hHeld:=hH;clear hH;refine tK 8 (some 6) (.int .i64 (A.remove (fileB g.name s.num).data.toList).1) rfl hHeld ?_;simp only [Act.put,pA,pB,pC]
  refine ⟨by kernel_rfl,?_⟩
  refine NoPanic.normal ?_;obtain ⟨x5,x5f,hL,hBB⟩:=HEND.out _ W3 _ HRR.out hl3 ((hb2.mono HBE.out).trans hb3);have HL:=hide hL;have HBB:=hide hBB;clear hL hBB hHeld hl3 hb3 hb2;go_wp2
  go_end0
  exact ⟨rfl,HL.out,HBB.out⟩
 | false=>
  have hRR:R=A.trunc (fileL g.name.data.toList s.num) s.size:=by rw [←HR.out];rfl
  have HRR:=hide hRR;clear hRR HR
  go_enter Tryz.func51,Tryz.ntmps51
  go_wp2;refine wp_region_noPanic ?_
  refine wp_region_held_drew (S:=fun wx=>wx.cell? ⟨l,0,none⟩=some (.pointer (some ⟨p,0,none⟩))∧wx.cell? ⟨g1,0,none⟩=some (.int .i64 s.num)∧wx.cell? ⟨g1,1,none⟩=some (.int .i64 s.size)∧wx.cell? ⟨g1,2,none⟩=some (.int .i64 s.fin)) (by kernel_rfl) (by rw [HV0.out];exact ⟨c0,z0,z1,z2⟩) (fun hHeld=>?_)
  rw [HV0.out] at hHeld ⊢;refine tK 0 (some 16) (.pointer (some ⟨l,0,none⟩)) rfl hHeld ?_;simp only [Act.put,pA,pB,pC];refine tK 1 (some 17) (.pointer (some ⟨l,0,none⟩)) rfl hHeld ?_;simp only [Act.put,pA,pB,pC];refine tK 2 (some 18) (.pointer (some ⟨l,0,none⟩)) rfl hHeld ?_;simp only [Act.put,pA,pB,pC]
  refine tH 3 (some 19) (.pointer (some ⟨p,0,none⟩)) rfl (fun w hw=>by obtain ⟨hw1,hw2,hw3,hw4⟩:=hw;first | rfl | (go_simp;done) | (go_simp;rfl)) hHeld ?_
  simp only [Act.put,pA,pB,pC];refine tK 4 (some 20) (.pointer (some ⟨l,0,none⟩)) rfl hHeld ?_;simp only [Act.put,pA,pB,pC]
  refine tH 5 (some 21) (.agg #[.int .i64 s.num,.int .i64 s.size,.int .i64 s.fin]) rfl (fun w hw=>by obtain ⟨hw1,hw2,hw3,hw4⟩:=hw;first | rfl | (go_simp;done) | (go_simp;rfl)) hHeld ?_
  simp only [Act.put,pA,pB,pC];refine tK 7 (some 23) (.pointer (some ⟨g1,1,none⟩)) rfl hHeld ?_;simp only [Act.put,pA,pB,pC]
  refine tH 8 (some 24) (.int .i64 s.size) rfl (fun w hw=>by obtain ⟨hw1,hw2,hw3,hw4⟩:=hw;first | rfl | (go_simp;done) | (go_simp;rfl)) hHeld ?_
  simp only [Act.put,pA,pB,pC]
  refine rdH 6 rfl (fun K hK=>?_)
  go_simp
  refine (HFILE.out).mono ?_;rintro e W2 ⟨rfl,hb2⟩
  try go_wp2_with fail
  refine hK.out _ _ (⟨(World.cell?_of_block (hb2.block l HLV.out)).trans c0,(World.cell?_of_block (hb2.block g1 HG1.out)).trans z0,(World.cell?_of_block (hb2.block g1 HG1.out)).trans z1,(World.cell?_of_block (hb2.block g1 HG1.out)).trans z2⟩) (fun hH=>?_)
  clear hK K hHeld;have hHeld:=hH;clear hH
  refine rdH 9 rfl (fun K hK=>?_)
  go_simp
  refine (s_trunc (HL0.out.below hb2) HI.out (fileB g.name s.num) HFZ.out s.size).mono ?_;rintro e W3 ⟨rfl,hl3,hb3⟩
  try go_wp2_with fail
  refine hK.out _ _ (HSS.out W3 _ hl3) (fun hH=>?_)
  clear hK K hHeld;have hHeld:=hH;clear hH;refine tK 10 (some 6) (.int .i64 (A.trunc (fileB g.name s.num).data.toList s.size).1) rfl hHeld ?_;simp only [Act.put,pA,pB,pC]
  refine ⟨by kernel_rfl,?_⟩
  refine NoPanic.normal ?_;obtain ⟨x5,x5f,hL,hBB⟩:=HEND.out _ W3 _ HRR.out hl3 ((hb2.mono HBE.out).trans hb3);have HL:=hide hL;have HBB:=hide hBB;clear hL hBB hHeld hl3 hb3 hb2;go_wp2
  go_end0
  exact ⟨rfl,HL.out,HBB.out⟩
end
end Go.Proofs.YtdffmmiegpndkaaGreatDoor
namespace Go.Proofs.YtdffmmiegpndkaaGreatDoor
open Go.RowKit Go.Maps
set_option linter.unusedVariables false
section
variable {B:Nat} {w:World} {L:List Item} {i j l p:Nat} {A:AD} {g:AL}
def layA (A:AD) (g:AL) (s:ASeg) (fresh:Bool) (t:Key):Int×AD×Bool:=
 let f:=fileL g.name.data.toList s.num
 let r:=A.write f s.size t
 if r.1≠0 then (r.1,r.2,r.1 == 9)
 else
  let q:=r.2.sync f
  if q.1=0 then (0,q.2,g.dead)
  else if q.1=40 then (40,(backA q.2 g s fresh).2,(backA q.2 g s fresh).1 != 0)
  else (q.1,q.2,true)
set_option maxRecDepth 100000 in
set_option maxHeartbeats 4000000 in
theorem lay_any (h:Lies B w L) (hi:L[i]?=some (.disk p A)) (hj:L[j]?=some (.log l p g)) (hij:i≠j) (he:Env B w) (hnm:g.name.size≤24) (s:ASeg) (h0:0≤s.num) (h1:s.num≤10000000) (hz:0≤s.size∧s.size≤100000000) (fresh:Bool) (t:ByteArray) (ht:t.size≤140737488355328) (R:Int×AD×Bool) (hR:layA A g s fresh t.data.toList=R) :
 Calls Tryz.prog 27 #[.pointer (some ⟨l,0,none⟩),s.val,.bool fresh,.string t] w fun e w'=>e=.returned (.int .i64 R.1)∧Lies B w' ((L.set i (.disk p R.2.1)).set j (.log l p { g with dead:=R.2.2 }))∧Below B w w':=by
 obtain ⟨g1,hg1⟩:∃x,w.heap.size=x:=⟨_,rfl⟩;obtain ⟨w1,hw1⟩:∃x,w.alloc (.cells #[.int .i64 s.num,.int .i64 s.size,.int .i64 s.fin] 66)=x:=⟨_,rfl⟩;obtain ⟨hl1,hb1⟩:=h.newCells #[.int .i64 s.num,.int .i64 s.size,.int .i64 s.fin] 66;rw [hw1,hg1] at hl1;rw [hw1] at hb1;obtain ⟨X,hX⟩:∃X:List Item,[.block g1 (.cells #[.int .i64 s.num,.int .i64 s.size,.int .i64 s.fin] 66 (0,0))]=X:=⟨_,rfl⟩;rw [hX] at hl1
 have HX0:Hid (X[0]?=some (.block g1 (.cells #[.int .i64 s.num,.int .i64 s.size,.int .i64 s.fin] 66 (0,0)))):=by show _=_;rw [←hX];rfl
 have HSS:Hid (∀(W:World) (it:Item),Lies B W ((L++X).set i it)→(W.cell? ⟨l,0,none⟩=some (.pointer (some ⟨p,0,none⟩))∧W.cell? ⟨g1,0,none⟩=some (.int .i64 s.num)∧W.cell? ⟨g1,1,none⟩=some (.int .i64 s.size)∧W.cell? ⟨g1,2,none⟩=some (.int .i64 s.fin))):=fun W it hl=>by
  obtain ⟨v,r,hat,_⟩:=hl.logAt (i:=j) (by rw [List.getElem?_set_ne hij];exact get_head hj)
  have:=hl.get3 (q:=L.length+0) (by rw [List.getElem?_set_ne (by have:=(List.getElem?_eq_some_iff.1 hi).1;omega),get_tail];exact HX0.out)
  exact ⟨hat.c0,this.1⟩
 have HKEEP:Hid (∀(W:World),Lies B W (L++X)→Lies B W ((L++X).set i (.disk p A))):=fun W hl=>by rw [hset_keep (get_head hi)];exact hl
 have hS1:=HSS.out w1 (.disk p A) (HKEEP.out _ hl1);have c0:=hS1.1;obtain ⟨z0,z1,z2⟩:=hS1.2;obtain ⟨v0,r0,hat0,hBl⟩:=hl1.logAt (get_head hj)
 have hFz:(fileB g.name s.num).size≤maxLen:=by have:=fileB_size (b:=g.name) hnm h0 h1;unfold maxLen;omega
 have hfile:=file_any (B:=B) l s.num s.size s.fin g.name w1 hat0.c1 (lt_of_some hat0.cells) hnm h0 h1 (he.below hb1) hl1.base
 have HSET:Hid (∀(A':AD) (W:World) (d:Bool),Lies B W ((L++X).set i (.disk p A'))→W.cell? ⟨l,5,none⟩=some (.bool g.dead)∧W.frozen? ⟨l,5,none⟩=false∧Lies B (W.setCell ⟨l,5,none⟩ (.bool d)) ((L.set i (.disk p A')).set j (.log l p { g with dead:=d }))∧Below B W (W.setCell ⟨l,5,none⟩ (.bool d))):=fun A' W d hl=>by
  have hil:=(List.getElem?_eq_some_iff.1 hi).1;have hjl:=(List.getElem?_eq_some_iff.1 hj).1
  have hjj:((L++X).set i (.disk p A'))[j]?=some (.log l p g):=by rw [List.getElem?_set_ne hij];exact get_head hj
  obtain ⟨v,r,hat,_⟩:=hl.logAt hjj
  obtain ⟨h3,b3⟩:=hl.setLog hjj 5 (.bool d) (g':={ g with dead:=d }) (fun v=>rfl) rfl
  rw [hset_app _ hil,hset_app _ (by rw [List.length_set];exact hjl)] at h3
  exact ⟨hat.c5,hat.fz 5,h3.drop,b3⟩
 have HSAME:Hid (∀(A':AD) (W:World),Lies B W ((L++X).set i (.disk p A'))→Lies B W ((L.set i (.disk p A')).set j (.log l p { g with dead:=g.dead }))):=fun A' W hl=>by
  have hil:=(List.getElem?_eq_some_iff.1 hi).1;rw [hset_app _ hil] at hl
  rw [hset_keep (by rw [List.getElem?_set_ne hij];exact hj)]
  exact hl.drop
 have HBACK:Hid (∀(A':AD) (W:World),Lies B W ((L++X).set i (.disk p A'))→Below B w W→Calls Tryz.prog 51 #[.pointer (some ⟨l,0,none⟩),.agg #[.int .i64 s.num,.int .i64 s.size,.int .i64 s.fin],.bool fresh] W fun e w'=>e=.returned (.tuple #[])∧Lies B w' ((L.set i (.disk p (backA A' g s fresh).2)).set j (.log l p { g with dead:=(backA A' g s fresh).1 != 0 }))∧Below B W w'):=fun A' W hl hb=>by
  have hil:=(List.getElem?_eq_some_iff.1 hi).1;have hjl:=(List.getElem?_eq_some_iff.1 hj).1
  refine (takeBack_any hl (List.getElem?_set_self (by rw [List.length_append];omega)) (by rw [List.getElem?_set_ne hij];exact get_head hj) hij (he.below hb) hnm s h0 h1 fresh _ rfl).mono ?_
  rintro e w' ⟨e1,hl2,hb2⟩
  rw [List.set_set,hset_app _ hil,hset_app _ (by rw [List.length_set];exact hjl)] at hl2
  exact ⟨e1,hl2.drop,hb2⟩
 have HII:Hid (∀A':AD,((L++X).set i (.disk p A'))[i]?=some (.disk p A')):=fun A'=>List.getElem?_set_self (by have:=(List.getElem?_eq_some_iff.1 hi).1;rw [List.length_append];omega)
 have HL1:=hide (HKEEP.out _ hl1);have HFILE:=hide hfile;have HFZ:=hide hFz;have HR:=hide hR;have HB1:=hide hb1;have HBE:Hid (B≤w1.heap.size):=hl1.base;have HT:=hide ht;have HZ:=hide hz;obtain ⟨F,hF⟩:∃F,fileB g.name s.num=F:=⟨_,rfl⟩
 have HF:Hid (F.data.toList=fileL g.name.data.toList s.num):=by show _=_;rw [←hF];rfl
 rw [hF] at HFILE HFZ;clear h hl1 hb1 hfile hFz hat0 hR hX hi hj hij HX0 hS1 ht hz HKEEP hF;unfold ASeg.val
 go_enter Tryz.func27,Tryz.ntmps27
 go_wp2_with fail;refine (HFILE.out).mono ?_;rintro e W2 ⟨rfl,hb2⟩;have hl2:=HL1.out.below hb2;have hbb2:=HB1.out.trans (hb2.mono HBE.out);obtain ⟨V0,hV0⟩:∃x,W2.drew=x:=⟨_,rfl⟩
 have hv0:=hl2.same (w':=W2.drew) (Nat.le_refl _) (fun _ _ _=>rfl)
 rw [hV0] at hv0
 have hvb0:Below B w V0:=by rw [←hV0];exact hbb2.drew
 have HS0:=hide (HSS.out _ _ hv0)
 have hw:=s_write hv0 (HII.out A) F HFZ.out s.size (by have:=HZ.out;omega) t HT.out
 obtain ⟨e1,A1,hW⟩:∃e a,A.write F.data.toList s.size t.data.toList=(e,a):=⟨_,_,rfl⟩;rw [hW,List.set_set] at hw;have HW:=hide hw;have HV0:=hide hV0;have HWE:=hide hW;have HVB0:=hide hvb0;clear hl2 hbb2 hb2 hv0 hvb0 hw hV0 hW c0 z0 z1 z2
 try go_wp2
 refine wp_region_noPanic ?_
 refine wp_region_held_drew (S:=fun wx=>wx.cell? ⟨l,0,none⟩=some (.pointer (some ⟨p,0,none⟩))∧wx.cell? ⟨g1,0,none⟩=some (.int .i64 s.num)∧wx.cell? ⟨g1,1,none⟩=some (.int .i64 s.size)∧wx.cell? ⟨g1,2,none⟩=some (.int .i64 s.fin)) (by kernel_rfl) (by rw [HV0.out];exact HS0.out) (fun hHeld=>?_)
 rw [HV0.out] at hHeld ⊢;refine tK 0 (some 15) (.pointer (some ⟨l,0,none⟩)) rfl hHeld ?_;simp only [Act.put,pA,pB,pC];refine tK 1 (some 16) (.pointer (some ⟨l,0,none⟩)) rfl hHeld ?_;simp only [Act.put,pA,pB,pC];refine tK 2 (some 17) (.pointer (some ⟨l,0,none⟩)) rfl hHeld ?_;simp only [Act.put,pA,pB,pC]
 refine tH 3 (some 18) (.pointer (some ⟨p,0,none⟩)) rfl (fun w hw=>by obtain ⟨hw1,hw2,hw3,hw4⟩:=hw;first | rfl | (go_simp;done) | (go_simp;rfl)) hHeld ?_
 simp only [Act.put,pA,pB,pC];refine tK 4 (some 19) (.string F) rfl hHeld ?_;simp only [Act.put,pA,pB,pC];refine tK 5 (some 20) (.pointer (some ⟨g1,1,none⟩)) rfl hHeld ?_;simp only [Act.put,pA,pB,pC]
 refine tH 6 (some 21) (.int .i64 s.size) rfl (fun w hw=>by obtain ⟨hw1,hw2,hw3,hw4⟩:=hw;first | rfl | (go_simp;done) | (go_simp;rfl)) hHeld ?_
 simp only [Act.put,pA,pB,pC];refine tK 7 (some 22) (.string t) rfl hHeld ?_;simp only [Act.put,pA,pB,pC]
 refine rdH 8 rfl (fun K hK=>?_)
 go_simp
 refine (HW.out).mono ?_;rintro e W3 ⟨rfl,hl3,hb3⟩
 try go_wp2_with fail
 refine hK.out _ _ (HSS.out W3 _ hl3) (fun hH=>?_)
 clear hK K hHeld;have hHeld:=hH;clear hH;refine tK 9 (some 10) (.int .i64 e1) rfl hHeld ?_;simp only [Act.put,pA,pB,pC]
 refine ⟨by kernel_rfl,?_⟩
 refine NoPanic.normal ?_
 by_cases hE:e1=0
 ·subst hE
  have hbb3:=HVB0.out.trans hb3;have hs:=s_sync hl3 (HII.out A1) F HFZ.out;obtain ⟨e2,A2,hQ⟩:∃e a,A1.sync F.data.toList=(e,a):=⟨_,_,rfl⟩;rw [hQ,List.set_set] at hs;have c0:=(HSS.out _ _ hl3).1;have HS:=hide hs;have HQ:=hide hQ;have HBB3:=hide hbb3;clear hl3 hb3 hbb3 hs hQ hHeld;go_wp2_with fail;refine (HS.out).mono ?_;rintro e W4 ⟨rfl,hl4,hb4⟩;have hbb4:=HBB3.out.trans hb4
  by_cases hE2:e2=0
  ·subst hE2
   have hRR:R=(0,A2,g.dead):=by
    rw [←HR.out];unfold layA;simp only
    rw [←HF.out,HWE.out];simp only
    rw [if_neg (by simp),HQ.out];simp only
    exact if_pos trivial
   have HL4:=hide (HSAME.out _ _ hl4);have HBB4:=hide hbb4;clear hl4 hb4 hbb4;go_wp2;go_ret;rw [hRR];exact ⟨rfl,HL4.out,HBB4.out⟩
  ·by_cases hE3:e2=40
   ·subst hE3
    have hRR:R=(40,(backA A2 g s fresh).2,(backA A2 g s fresh).1 != 0):=by
     rw [←HR.out];unfold layA;simp only
     rw [←HF.out,HWE.out];simp only
     rw [if_neg (by simp),HQ.out];simp only
     rw [if_neg (by decide)];exact if_pos trivial
    have hS4:=HSS.out _ _ hl4;obtain ⟨_,y0,y1,y2⟩:=hS4;have HK:=hide (HBACK.out _ _ hl4 hbb4);have HBB4:=hide hbb4;clear hl4 hb4 hbb4 hE2;go_wp2_with fail;refine (HK.out).mono ?_;rintro e W5 ⟨rfl,hl5,hb5⟩;have HL5:=hide hl5;have HBB5:=hide (HBB4.out.trans hb5);clear hl5 hb5;go_wp2;go_ret;rw [hRR];exact ⟨rfl,HL5.out,HBB5.out⟩
   ·have hRR:R=(e2,A2,true):=by
     rw [←HR.out];unfold layA;simp only
     rw [←HF.out,HWE.out];simp only
     rw [if_neg (by simp),HQ.out];simp only
     rw [if_neg hE2,if_neg hE3]
    have q1:(e2 == 0)=false:=by simpa using hE2
    have q2:(e2 == 40)=false:=by simpa using hE3
    obtain ⟨x5,x5f,hL5,hb5⟩:=HSET.out A2 W4 true hl4;have HL5:=hide hL5;have HBB5:=hide (hbb4.trans hb5);clear hl4 hb4 hbb4 hL5 hb5;go_wp2;go_ret;rw [hRR];exact ⟨rfl,HL5.out,HBB5.out⟩
 ·have hRR:R=(e1,A1,e1 == 9):=by
   rw [←HR.out];unfold layA;simp only
   rw [←HF.out,HWE.out];simp only
   rw [if_pos hE]
  have q1:(e1 != 0)=true:=by simpa using hE
  obtain ⟨x5,x5f,hL5,hb5⟩:=HSET.out A1 W3 (e1 == 9) hl3;have HL5:=hide hL5;have HBB5:=hide ((HVB0.out.trans hb3).trans hb5);clear hl3 hb3 hL5 hb5 hHeld;go_wp2;go_ret;rw [hRR];exact ⟨rfl,HL5.out,HBB5.out⟩
end
end Go.Proofs.YtdffmmiegpndkaaGreatDoor
