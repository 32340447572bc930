import Derived.Test.YtjbdncknooeplaaGreatDoorCrash
import Derived.Test.YtjbdncknooeplaaGreatDoorLenB
namespace Go.Proofs.YtjbdncknooeplaaGreatDoor
open Go.RowKit Go.Maps Go.WideMaps
set_option linter.unusedVariables false
structure Item where
 P:World→(Nat→Prop)→Prop
 lt:∀w S,P w S→∀b,S b→b<w.heap.size
 same:∀w w' S,P w S→(∀b,S b→w'.heap[b]?=w.heap[b]?)→P w' S
theorem row_same {w w':World} {base e size n:Nat} {v:Value} {xs:List Value} (h:w.ownsRow base e size v n xs) (he:∀b,v.ownBlock=some b→w'.heap[b]?=w.heap[b]?):w'.ownsRow base e size v n xs:=by
 refine ⟨h.1,?_⟩
 rcases h.2 with hn | ⟨g,cap,cur,rfl,hb,hg,rest⟩
 ·exact .inl hn
 ·exact .inr ⟨g,cap,cur,rfl,hb,by rw [he g rfl];exact hg,rest⟩
def Item.disk (p:Nat) (A:AD):Item:=⟨fun w S=>Disk w p A S,fun w S h=>h.lt,fun w w' S ⟨m,con,h,hS⟩ e=>⟨m,con,h.same (fun b hb=>e b ((hS b).2 hb)),hS⟩⟩
def Item.row (e:TypeId) (v:Value) (xs:List Value):Item:=⟨fun w S=>w.ownsRow 0 e 1 v xs.length xs∧∀b,S b↔v.ownBlock=some b,fun w S h b hb=>(World.ownsRow.lt h.1 b ((h.2 b).1 hb)).2,fun w w' S h e=>⟨row_same h.1 (fun b hb=>e b ((h.2 b).2 hb)),h.2⟩⟩
def Item.block (g:Nat) (ob:Obj):Item:=⟨fun w S=>w.heap[g]?=some ob∧∀b,S b↔b=g,fun w S h b hb=>by rw [(h.2 b).1 hb];exact lt_of_some h.1,fun w w' S h e=>⟨by rw [e g ((h.2 g).2 rfl)];exact h.1,h.2⟩⟩
structure Lies (B:Nat) (w:World) (L:List Item):Prop where
 base:B≤w.heap.size
 at_:∃S:Nat→Nat→Prop,(∀i (it:Item),L[i]?=some it→it.P w (S i))∧(∀i b,i<L.length→S i b→B≤b)∧(∀i j b,i<L.length→j<L.length→i≠j→S i b→¬S j b)
section
variable {B:Nat} {w w':World} {L M:List Item} {it it':Item} {i:Nat}
theorem Lies.nil (h:B≤w.heap.size):Lies B w []:=⟨h,fun _ _=>False,by simp,by simp,by simp⟩
theorem Lies.same (h:Lies B w L) (hs:w.heap.size≤w'.heap.size) (e:∀b,b<w.heap.size→B≤b→w'.heap[b]?=w.heap[b]?):Lies B w' L:=by
 obtain ⟨hb,S,h1,h2,h3⟩:=h
 refine ⟨Nat.le_trans hb hs,S,fun i it hi=>?_,h2,h3⟩
 have hl:=(List.getElem?_eq_some_iff.1 hi).1
 exact it.same _ _ _ (h1 i it hi) (fun b hb=>e b (it.lt _ _ (h1 i it hi) b hb) (h2 i b hl hb))
theorem Lies.below (h:Lies B w L) (hb:Below w.heap.size w w'):Lies B w' L:=h.same hb.size (fun b hl _=>hb.block b hl)
theorem Lies.drop (h:Lies B w (L++M)):Lies B w L:=by
 obtain ⟨hb,S,h1,h2,h3⟩:=h
 exact ⟨hb,S,fun i it hi=>h1 i it (by rw [List.getElem?_append_left (List.getElem?_eq_some_iff.1 hi).1];exact hi),fun i b hi=>h2 i b (by simp;omega),fun i j b hi hj=>h3 i j b (by simp;omega) (by simp;omega)⟩
theorem Lies.get (h:Lies B w L) (hi:L[i]?=some it):∃S,it.P w S∧(∀b,S b→B≤b):=by
 obtain ⟨hb,S,h1,h2,h3⟩:=h
 exact ⟨S i,h1 i it hi,fun b=>h2 i b (List.getElem?_eq_some_iff.1 hi).1⟩
theorem Lies.upd (h:Lies B w L) (hi:L[i]?=some it):∃S,it.P w S∧(∀b,S b→B≤b)∧(∀j (x:Item),j≠i→L[j]?=some x→∃S2,x.P w S2∧∀b,S b→¬S2 b)∧∀(w':World) (it':Item) (S':Nat→Prop),it'.P w' S'→Step S S' w w'→Lies B w' (L.set i it')∧Below B w w':=by
 obtain ⟨hb,S,h1,h2,h3⟩:=h;have hl:=(List.getElem?_eq_some_iff.1 hi).1
 refine ⟨S i,h1 i it hi,fun b=>h2 i b hl,fun j x hj hx=>⟨S j,h1 j x hx,fun b hb=>h3 i j b hl (List.getElem?_eq_some_iff.1 hx).1 (fun e=>hj e.symm) hb⟩,fun w' it' S' hp hs=>⟨⟨Nat.le_trans hb hs.turn.size,fun j=>if j=i then S' else S j,fun j x hj=>?_,fun j b hj hS=>?_,fun j k b hj hk hne hS hS2=>?_⟩,⟨hs.turn.os,hs.turn.tape,hs.turn.output,hs.turn.size,fun b hlt=>hs.turn.block b (by omega) (fun hx=>by have:=h2 i b hl hx;omega)⟩⟩⟩
 ·by_cases e:j=i
  ·subst e
   rw [List.getElem?_set_self hl] at hj;simp only [if_true];cases hj;exact hp
  ·rw [List.getElem?_set_ne (fun x=>e x.symm)] at hj
   simp only [if_neg e]
   refine x.same _ _ _ (h1 j x hj) (fun b hb=>hs.turn.block b (x.lt _ _ (h1 j x hj) b hb) (fun hx=>?_))
   exact h3 j i b (List.getElem?_eq_some_iff.1 hj).1 hl e hb hx
 ·rw [List.length_set] at hj
  by_cases e:j=i
  ·subst e
   simp only [if_true] at hS
   rcases hs.own b hS with x | x
   ·exact h2 j b hl x
   ·omega
  ·simp only [if_neg e] at hS
   exact h2 j b hj hS
 ·rw [List.length_set] at hj hk
  have lt:∀j,j<L.length→∀b,S j b→b<w.heap.size:=fun j hj b hb=>(L[j]).lt _ _ (h1 j L[j] (List.getElem?_eq_getElem hj)) b hb
  by_cases e:j=i
  ·subst e
   simp only [if_true] at hS
   rw [if_neg (fun x=>hne x.symm)] at hS2
   rcases hs.own b hS with x | x
   ·exact h3 j k b hj hk hne x hS2
   ·have:=lt k hk b hS2;omega
  ·rw [if_neg e] at hS
   by_cases e2:k=i
   ·subst e2
    simp only [if_true] at hS2
    rcases hs.own b hS2 with x | x
    ·exact h3 j k b hj hk hne hS x
    ·have:=lt j hj b hS;omega
   ·rw [if_neg e2] at hS2
    exact h3 j k b hj hk hne hS hS2
theorem Lies.push {S':Nat→Prop} (h:Lies B w L) (hb:Below w.heap.size w w') (hp:it.P w' S') (hn:∀b,S' b→w.heap.size≤b):Lies B w' (L++[it]):=by
 have h':=h.below hb;obtain ⟨hB,S,h1,h2,h3⟩:=h
 have lt:∀j,j<L.length→∀b,S j b→b<w.heap.size:=fun j hj b hb=>(L[j]).lt _ _ (h1 j L[j] (List.getElem?_eq_getElem hj)) b hb
 have same:∀i (it:Item),L[i]?=some it→it.P w' (S i):=fun i it hi=>it.same _ _ _ (h1 i it hi) (fun b hx=>hb.block b (lt i (List.getElem?_eq_some_iff.1 hi).1 b hx))
 refine ⟨h'.base,fun j=>if j=L.length then S' else S j,fun j x hj=>?_,fun j b hj hS=>?_,fun j k b hj hk hne hS hS2=>?_⟩
 ·by_cases e:j=L.length
  ·subst e
   simp only [if_true];rw [List.getElem?_append_right (Nat.le_refl _),Nat.sub_self] at hj;simp at hj;subst hj;exact hp
  ·simp only [if_neg e]
   have hjl:j<L.length:=by have:=(List.getElem?_eq_some_iff.1 hj).1;simp at this;omega
   rw [List.getElem?_append_left hjl] at hj;exact same j x hj
 ·replace hS:(if j=L.length then S' else S j) b:=hS
  by_cases e:j=L.length
  ·subst e
   simp only [if_true] at hS;exact Nat.le_trans hB (hn b hS)
  ·rw [if_neg e] at hS
   simp at hj
   exact h2 j b (by omega) hS
 ·simp at hj hk
  replace hS:(if j=L.length then S' else S j) b:=hS
  replace hS2:(if k=L.length then S' else S k) b:=hS2
  by_cases e:j=L.length
  ·subst e
   simp only [if_true] at hS
   rw [if_neg (fun x:k=L.length=>hne x.symm)] at hS2
   have:=lt k (by omega) b hS2
   have:=hn b hS
   omega
  ·rw [if_neg e] at hS
   by_cases e2:k=L.length
   ·subst e2
    simp only [if_true] at hS2
    have:=lt j (by omega) b hS
    have:=hn b hS2
    omega
   ·rw [if_neg e2] at hS2
    exact h3 j k b (by omega) (by omega) hne hS hS2
end
section
variable {B:Nat} {w:World} {L:List Item} {i p:Nat} {A A':AD} {f:Nat} {args:Array Value} {R:Ending→Prop}
theorem Lies.ok (h:Lies B w L) (hi:L[i]?=some (.disk p A)):A.Ok:=by
 obtain ⟨S,hd,_⟩:=h.get hi;exact Disk.ok hd
theorem Lies.call (h:Lies B w L) (hi:L[i]?=some (.disk p A)) (hc:∀m con,DiskAt w p m con A→(∀b,foot p m con A.fs b→B≤b)→(∀j (x:Item),j≠i→L[j]?=some x→∃S2,x.P w S2∧∀b,foot p m con A.fs b→¬S2 b)→Calls Tryz.prog f args w fun e w'=>R e∧∃con',DStep p m con A w con' A' w') :
 Calls Tryz.prog f args w fun e w'=>R e∧Lies B w' (L.set i (.disk p A'))∧Below B w w':=by
 obtain ⟨S,hp,hB,hap,hk⟩:=h.upd hi;obtain ⟨m,con,hat,hS⟩:=hp
 refine (hc m con hat (fun b hb=>hB b ((hS b).2 hb)) (fun j x hj hx=>by obtain ⟨S2,h1,h2⟩:=hap j x hj hx;exact ⟨S2,h1,fun b hb=>h2 b ((hS b).2 hb)⟩)).mono ?_
 rintro e w' ⟨hR,con',hd,hs⟩
 refine ⟨hR,hk w' _ (foot p m con' A'.fs) ⟨m,con',hd,fun b=>Iff.rfl⟩ ⟨⟨hs.turn.os,hs.turn.tape,hs.turn.output,hs.turn.size,fun b hb hn=>hs.turn.block b hb (fun x=>hn ((hS b).2 x))⟩,fun b hb=>?_⟩⟩
 rcases hs.own b hb with x | x
 ·exact .inl ((hS b).2 x)
 ·exact .inr x
theorem Lies.ask (h:Lies B w L) (hi:L[i]?=some (.disk p A)) (hc:∀m con,DiskAt w p m con A→Calls Tryz.prog f args w fun e w'=>R e∧Below w.heap.size w w') :
 Calls Tryz.prog f args w fun e w'=>R e∧Lies B w' L∧Below B w w':=by
 obtain ⟨S,⟨m,con,hat,hS⟩,hB⟩:=h.get hi;refine (hc m con hat).mono ?_;rintro e w' ⟨hR,hb⟩;exact ⟨hR,h.below hb,hb.mono h.base⟩
theorem s_write (h:Lies B w L) (hi:L[i]?=some (.disk p A)) (s:ByteArray) (hs:s.size≤maxLen) (a:Int) (ha:-9223372036854775808≤a∧a<9223372036854775808) (t:ByteArray) (ht:t.size≤140737488355328) :
 Calls Tryz.prog 8 #[.pointer (some ⟨p,0,none⟩),.string s,.int .i64 a,.string t] w fun e w'=>e=.returned (.int .i64 (A.write s.data.toList a t.data.toList).1)∧Lies B w' (L.set i (.disk p (A.write s.data.toList a t.data.toList).2))∧Below B w w':=
 h.call (R:=fun e=>e=_) hi (fun m con hat _ _=>write_any p m con A w hat s hs a ha t ht)
theorem s_sync (h:Lies B w L) (hi:L[i]?=some (.disk p A)) (s:ByteArray) (hs:s.size≤maxLen) :
 Calls Tryz.prog 9 #[.pointer (some ⟨p,0,none⟩),.string s] w fun e w'=>e=.returned (.int .i64 (A.sync s.data.toList).1)∧Lies B w' (L.set i (.disk p (A.sync s.data.toList).2))∧Below B w w':=
 h.call (R:=fun e=>e=_) hi (fun m con hat _ _=>sync_any p m con A w hat s hs)
theorem s_trunc (h:Lies B w L) (hi:L[i]?=some (.disk p A)) (s:ByteArray) (hs:s.size≤maxLen) (n:Int) :
 Calls Tryz.prog 69 #[.pointer (some ⟨p,0,none⟩),.string s,.int .i64 n] w fun e w'=>e=.returned (.int .i64 (A.trunc s.data.toList n).1)∧Lies B w' (L.set i (.disk p (A.trunc s.data.toList n).2))∧Below B w w':=
 h.call (R:=fun e=>e=_) hi (fun m con hat _ _=>trunc_any p m con A w hat s hs n)
-- left out in this seat: s_rename
theorem s_remove (h:Lies B w L) (hi:L[i]?=some (.disk p A)) (s:ByteArray) (hs:s.size≤maxLen) :
 Calls Tryz.prog 76 #[.pointer (some ⟨p,0,none⟩),.string s] w fun e w'=>e=.returned (.int .i64 (A.remove s.data.toList).1)∧Lies B w' (L.set i (.disk p (A.remove s.data.toList).2))∧Below B w w':=
 h.call (R:=fun e=>e=_) hi (fun m con hat _ _=>remove_any p m con A w hat s hs)
theorem s_arm (h:Lies B w L) (hi:L[i]?=some (.disk p A)) (n x:Int) (hn:-9223372036854775808≤n∧n<9223372036854775808) :
 Calls Tryz.prog 20 #[.pointer (some ⟨p,0,none⟩),.int .i64 n,.int .i64 x] w fun e w'=>e=.returned (.tuple #[])∧Lies B w' (L.set i (.disk p (A.armed n x)))∧Below B w w':=
 h.call (R:=fun e=>e=_) hi (fun m con hat _ _=>(arm_any p m con A w hat n x hn).mono (fun e w' ⟨he,hd,ht⟩=>⟨he,con,DStep.pow hd (by unfold AD.armed;split<;>rfl) ht⟩))
theorem s_fall (h:Lies B w L) (hi:L[i]?=some (.disk p A)) (n:Int) (hn:-9223372036854775808≤n∧n<9223372036854775808) :
 Calls Tryz.prog 21 #[.pointer (some ⟨p,0,none⟩),.int .i64 n] w fun e w'=>e=.returned (.tuple #[])∧Lies B w' (L.set i (.disk p (A.fallen n)))∧Below B w w':=
 h.call (R:=fun e=>e=_) hi (fun m con hat _ _=>(fall_any p m con A w hat n hn).mono (fun e w' ⟨he,hd,ht⟩=>⟨he,con,DStep.pow hd rfl ht⟩))
theorem s_crash (h:Lies B w L) (hi:L[i]?=some (.disk p A)) (ad:Option Addr) (ls:List FT) (cap:Nat) (hfa:FatesAt w ad ls) (hok:∀x∈ls,x.Ok) (hl:ls.length≤9223372036854775807) (hB:ls≠[]→∀b o,ad=some ⟨b,o,none⟩→b<B) :
 Calls Tryz.prog 13 #[.pointer (some ⟨p,0,none⟩),.slice ad ls.length cap] w fun e w'=>e=.returned (.tuple #[])∧Lies B w' (L.set i (.disk p (A.crash (ls.map FT.abs))))∧Below B w w':=
 h.call (R:=fun e=>e=_) hi (fun m con hat hf _=>crash_any p m con A w hat ad ls cap hfa hok hl (fun hne b o ha hx=>by have:=hf b hx;have:=hB hne b o ha;omega))
theorem s_crashOwn (h:Lies B w L) (hi:L[i]?=some (.disk p A)) {j g:Nat} {ob:Obj} (hij:j≠i) (hj:L[j]?=some (.block g ob)) (o:Nat) (ls:List FT) (cap:Nat) (hfa:FatesAt w (some ⟨g,o,none⟩) ls) (hok:∀x∈ls,x.Ok) (hl:ls.length≤9223372036854775807) :
 Calls Tryz.prog 13 #[.pointer (some ⟨p,0,none⟩),.slice (some ⟨g,o,none⟩) ls.length cap] w fun e w'=>e=.returned (.tuple #[])∧Lies B w' (L.set i (.disk p (A.crash (ls.map FT.abs))))∧Below B w w':=
 h.call (R:=fun e=>e=_) hi (fun m con hat _ hap=>crash_any p m con A w hat _ ls cap hfa hok hl (fun _ b o' ha hx=>by
  obtain ⟨S2,⟨_,h1⟩,h2⟩:=hap j _ hij hj;cases ha
  exact h2 _ hx ((h1 _).2 rfl)))
theorem s_crash0 (h:Lies B w L) (hi:L[i]?=some (.disk p A)) :
 Calls Tryz.prog 13 #[.pointer (some ⟨p,0,none⟩),.slice none 0 0] w fun e w'=>e=.returned (.tuple #[])∧Lies B w' (L.set i (.disk p (A.crash [])))∧Below B w w':=
 s_crash h hi none [] 0 (.inl rfl) (by simp) (by decide) (by simp)
theorem s_on (h:Lies B w L) (hi:L[i]?=some (.disk p A)) :
 Calls Tryz.prog 14 #[.pointer (some ⟨p,0,none⟩)] w fun e w'=>e=.returned (.tuple #[])∧Lies B w' (L.set i (.disk p A.on))∧Below B w w':=
 h.call (R:=fun e=>e=_) hi (fun m con hat _ _=>on_any p m con A w hat)
theorem s_read (h:Lies B w L) (hi:L[i]?=some (.disk p A)) (s:ByteArray) (hs:s.size≤maxLen) (a n:Int) :
 Calls Tryz.prog 54 #[.pointer (some ⟨p,0,none⟩),.string s,.int .i64 a,.int .i64 n] w fun e w'=>e=.returned (.tuple #[.string ⟨(A.read s.data.toList a n).1.toArray⟩,.int .i64 (A.read s.data.toList a n).2])∧Lies B w' L∧Below B w w':=
 h.ask (R:=fun e=>e=_) hi (fun m con hat=>read_any p m con A w hat s hs a n)
theorem s_off (h:Lies B w L) (hi:L[i]?=some (.disk p A)) :
 Calls Tryz.prog 18 #[.pointer (some ⟨p,0,none⟩)] w fun e w'=>e=.returned (.bool A.pow.off)∧w'=w:=by
 obtain ⟨S,⟨m,con,hat,hS⟩,hB⟩:=h.get hi
 exact (off_any p m con A w hat).mono (fun e w' ⟨he,hr⟩=>⟨hr,he⟩)
theorem s_used (h:Lies B w L) (hi:L[i]?=some (.disk p A)) :
 Calls Tryz.prog 52 #[.pointer (some ⟨p,0,none⟩)] w fun e w'=>e=.returned (.int .i64 (fused A.fs:Int))∧Lies B w' L∧Below B w w':=
 h.ask (R:=fun e=>e=_) hi (fun m con hat=>used_any p m con A w hat)
theorem Lies.told {e:TypeId} {xs:List Value} (h:Lies B w L) (hi:L[i]?=some (.disk p A)) (hc:∀m con,DiskAt w p m con A→Calls Tryz.prog f args w fun en w'=>∃v,en=.returned v∧w'.ownsRow w.heap.size e 1 v xs.length xs∧Below w.heap.size w w') :
 Calls Tryz.prog f args w fun en w'=>∃v,en=.returned v∧w'.ownsRow 0 e 1 v xs.length xs∧Lies B w' (L++[.row e v xs])∧Below B w w':=by
 obtain ⟨S,⟨m,con,hat,hS⟩,hB⟩:=h.get hi;refine (hc m con hat).mono ?_;rintro en w' ⟨v,rfl,hr,hb⟩
 have hr0:w'.ownsRow 0 e 1 v xs.length xs:=by
  refine ⟨hr.1,?_⟩
  rcases hr.2 with x | ⟨g,cap,cur,hv,_,rest⟩
  ·exact .inl x
  ·exact .inr ⟨g,cap,cur,hv,Nat.zero_le _,rest⟩
 exact ⟨v,rfl,hr0,h.push (S':=fun b=>v.ownBlock=some b) hb ⟨hr0,fun _=>Iff.rfl⟩ (fun b hb=>(World.ownsRow.lt hr b hb).1),hb.mono h.base⟩
theorem s_list (h:Lies B w L) (hi:L[i]?=some (.disk p A)) :
 Calls Tryz.prog 50 #[.pointer (some ⟨p,0,none⟩)] w fun e w'=>∃v,e=.returned v∧w'.ownsRow 0 9 1 v (A.list.map encStr).length (A.list.map encStr)∧Lies B w' (L++[.row 9 v (A.list.map encStr)])∧Below B w w':=
 h.told hi (fun m con hat=>by rw [List.length_map];exact list_any p m con A w hat)
theorem s_dirty (h:Lies B w L) (hi:L[i]?=some (.disk p A)) (s:ByteArray) (hs:s.size≤maxLen) :
 Calls Tryz.prog 57 #[.pointer (some ⟨p,0,none⟩),.string s] w fun e w'=>∃v,e=.returned v∧w'.ownsRow 0 3 1 v ((A.dirtyI s.data.toList).map (Value.int .i64)).length ((A.dirtyI s.data.toList).map (Value.int .i64))∧Lies B w' (L++[.row 3 v ((A.dirtyI s.data.toList).map (Value.int .i64))])∧Below B w w':=
 h.told hi (fun m con hat=>by rw [List.length_map];exact dirty_any p m con A w hat s hs)
-- left out in this seat: s_copy
end
end Go.Proofs.YtjbdncknooeplaaGreatDoor
namespace Go.Proofs.YtjbdncknooeplaaGreatDoor
open Go.RowKit Go.Maps Go.WideMaps
set_option linter.unusedVariables false
set_option linter.unusedSimpArgs false
def RowAt (w:World) (ad:Option Addr) (xs:List Value):Prop:=xs=[]∨∃b o,ad=some ⟨b,o,none⟩∧b<w.heap.size∧∀i,i<xs.length→w.cell? ⟨b,o+i,none⟩=xs[i]?
theorem row_at {w:World} {base e n:Nat} {v:Value} {xs:List Value} (h:w.ownsRow base e 1 v n xs):∃ad cap,v=.slice ad n cap∧RowAt w ad xs∧xs.length=n∧n≤maxLen:=by
 have hl:=h.1;rw [Nat.mul_one] at hl
 rcases h.2 with ⟨rfl,hn⟩ | ⟨g,cap,cur,rfl,hb,hg,hnc,hcm,rest⟩
 ·subst hn
  exact ⟨none,0,rfl,.inl (List.length_eq_zero_iff.1 hl),hl,Nat.zero_le _⟩
 ·refine ⟨_,cap,rfl,.inr ⟨g,0,rfl,lt_of_some hg,fun i hi=>?_⟩,hl,by omega⟩
  have:=World.ownsRow.cells h (g:=g) rfl i xs[i] (List.getElem?_eq_getElem hi)
  rw [List.getElem?_eq_getElem hi,←this]
  congr 1
  unfold Addr.add
  split<;>simp_all
theorem RowAt.same {w w':World} {ad:Option Addr} {xs:List Value} (h:RowAt w ad xs) {S:Nat→Prop} (t:Turn S w w') (hn:∀b o,ad=some ⟨b,o,none⟩→¬S b):RowAt w' ad xs:=by
 rcases h with h | ⟨b,o,ha,hlt,hc⟩
 ·exact .inl h
 ·refine .inr ⟨b,o,ha,Nat.lt_of_lt_of_le hlt t.size,fun i hi=>?_⟩
  rw [←hc i hi];exact World.cell?_of_block (t.block b hlt (hn b o ha))
theorem toList_beq (a b:ByteArray):(a.toList == b.toList)=(a.data.toList == b.data.toList):=by rw [ByteArray.toList_eq,ByteArray.toList_eq]
theorem take_all_ne {α:Type} [BEq α] [LawfulBEq α] {l:List α} {k:Nat} {x:α} (h:(l.take k).contains x=false) (hk:k<l.length) (hx:(l[k] == x)=false):(l.take (k+1)).contains x=false:=by
 rw [List.take_succ_eq_append_getElem hk,List.contains_append,h];simp only [List.contains_cons,List.contains_nil,Bool.or_false,Bool.false_or];rw [←hx]
 exact Bool.eq_iff_iff.2 ⟨fun e=>beq_iff_eq.2 (beq_iff_eq.1 e).symm,fun e=>beq_iff_eq.2 (beq_iff_eq.1 e).symm⟩
theorem contains_at {α:Type} [BEq α] [LawfulBEq α] {l:List α} {k:Nat} {x:α} (hk:k<l.length) (hx:(l[k] == x)=true):l.contains x=true:=by
 rw [List.contains_iff_mem,←beq_iff_eq.1 hx];exact List.getElem_mem hk
set_option maxRecDepth 5000 in
set_option maxRecDepth 5000 in
theorem drewN_below {B:Nat} {w w1:World} (h:Below B w w1) (n:Nat):Below B w (w1.drewN n):=⟨h.os,h.tape,h.output,h.size,h.block⟩
theorem take_eq_succ {α:Type} {a b:List α} {k:Nat} (h:a.take k=b.take k) (ha:k<a.length) (hb:k<b.length) (hx:a[k]=b[k]):a.take (k+1)=b.take (k+1):=by
 rw [List.take_succ_eq_append_getElem ha,List.take_succ_eq_append_getElem hb,h,hx]
set_option maxRecDepth 5000 in
theorem sameTexts_any (w:World) (ad1 ad2:Option Addr) (cap1 cap2:Nat) (ks ms:List Key) (h:RowAt w ad1 (ks.map encStr)) (hm:RowAt w ad2 (ms.map encStr)) (hl:ks.length≤maxLen) (hl2:ms.length≤maxLen) :
 Calls Tryz.prog 15 #[.slice ad1 ks.length cap1,.slice ad2 ms.length cap2] w fun e w'=>e=.returned (.bool (ks == ms))∧Below w.heap.size w w':=by
 have HR:=hide h;have HM:=hide hm;unfold maxLen at hl hl2;clear h hm
 by_cases hne:ks.length=ms.length
 ·have dn:(((ks.length:Int) == (ms.length:Int)))=true:=beq_iff_eq.2 (by omega)
  have HNE:=hide hne;clear hne
  go_enter Tryz.func15,Tryz.ntmps15
  go_wp2
  go_loopw [5] (fun i wr=>∃k:Nat,k≤ks.length∧i=.int .i64 (k:Int)∧ks.take k=ms.take k∧Below w.heap.size w wr) (fun i _=>ks.length - (intOf i).toNat)
  case atStart=>exact ⟨0,by omega,rfl,rfl,Below.refl _ _⟩
  case round=>
   obtain ⟨k,hk,rfl,hno,hbw⟩:=hrel;have HN:=hide hno;have HB:=hide hbw;clear hno hbw
   by_cases hlt:k<ks.length
   ·have hlt2:k<ms.length:=by rw [←HNE.out];exact hlt
    have dk:decide ((k:Int)<(ks.length:Int))=true:=decide_eq_true (by omega)
    have hk0:(0:Int)≤(k:Int):=by omega
    have hk1:(k:Int)<(ks.length:Int):=by omega
    have hk2:(k:Int)<(ms.length:Int):=by omega
    rcases HR.out with h | ⟨b,o,rfl,hbl,hcs⟩
    ·rw [List.map_eq_nil_iff.1 h] at hlt;exact absurd hlt (by simp)
    rcases HM.out with h | ⟨b2,o2,rfl,hbl2,hcs2⟩
    ·rw [List.map_eq_nil_iff.1 h] at hlt2;exact absurd hlt2 (by simp)
    have f0:wr.cell? ⟨b,o+k,none⟩=some (.string ⟨ks[k].toArray⟩):=by rw [World.cell?_of_block (HB.out.block b hbl),hcs k (by simpa using hlt),List.getElem?_map,List.getElem?_eq_getElem hlt];rfl
    have f1:wr.cell? ⟨b2,o2+k,none⟩=some (.string ⟨ms[k].toArray⟩):=by rw [World.cell?_of_block (HB.out.block b2 hbl2),hcs2 k (by simpa using hlt2),List.getElem?_map,List.getElem?_eq_getElem hlt2];rfl
    obtain ⟨x,hx⟩:∃x,ks[k]=x:=⟨_,rfl⟩;obtain ⟨y,hy⟩:∃y,ms[k]=y:=⟨_,rfl⟩;rw [hx] at f0;rw [hy] at f1
    cases hq:(x == y) with
    | true=>
     have HC:=hide (take_eq_succ HN.out hlt hlt2 (by rw [hx,hy];exact beq_iff_eq.1 hq))
     clear hcs hcs2 hx hy;go_wp2
     go_quiet (fail)
     go_wp2;go_roundw
     case rel=>exact ⟨k+1,by omega,by go_num,HC.out,drewN_below HB.out _⟩
     case measure=>simp [intOf];omega
    | false=>
     have HC:Hid ((ks == ms)=false):=by
      show _=_
      rw [beq_eq_false_iff_ne];intro e;subst e;rw [←hx,←hy] at hq;simp at hq
     clear hcs hcs2 hx hy;go_wp2
     go_quiet (fail)
     go_wp2;go_ret
     exact ⟨by rw [HC.out];rfl,drewN_below HB.out _⟩
   ·have hkl:k=ks.length:=by omega
    subst hkl
    have dk:decide ((ks.length:Int)<(ks.length:Int))=false:=decide_eq_false (by omega)
    have HC:Hid ((ks == ms)=true):=by
     show _=_
     have:=HN.out
     rw [List.take_length,HNE.out,List.take_length] at this;exact beq_iff_eq.2 this
    go_wp2;go_ret
    exact ⟨by rw [HC.out];rfl,HB.out⟩
 ·have dn:(((ks.length:Int) == (ms.length:Int)))=false:=beq_eq_false_iff_ne.2 (by omega)
  have HC:Hid ((ks == ms)=false):=by
   show _=_
   rw [beq_eq_false_iff_ne]
   exact fun e=>hne (by rw [e])
  clear hne
  go_enter Tryz.func15,Tryz.ntmps15
  go_wp2;go_ret
  exact ⟨by rw [HC.out];rfl,Below.refl _ _⟩
set_option maxRecDepth 5000 in
theorem sameInts_any (w:World) (ad1 ad2:Option Addr) (cap1 cap2:Nat) (ks ms:List Int) (h:RowAt w ad1 (ks.map (Value.int .i64))) (hm:RowAt w ad2 (ms.map (Value.int .i64))) (hl:ks.length≤maxLen) (hl2:ms.length≤maxLen) :
 Calls Tryz.prog 56 #[.slice ad1 ks.length cap1,.slice ad2 ms.length cap2] w fun e w'=>e=.returned (.bool (ks == ms))∧Below w.heap.size w w':=by
 have HR:=hide h;have HM:=hide hm;unfold maxLen at hl hl2;clear h hm
 by_cases hne:ks.length=ms.length
 ·have dn:(((ks.length:Int) == (ms.length:Int)))=true:=beq_iff_eq.2 (by omega)
  have HNE:=hide hne;clear hne
  go_enter Tryz.func56,Tryz.ntmps56
  go_wp2
  go_loopw [5] (fun i wr=>∃k:Nat,k≤ks.length∧i=.int .i64 (k:Int)∧ks.take k=ms.take k∧Below w.heap.size w wr) (fun i _=>ks.length - (intOf i).toNat)
  case atStart=>exact ⟨0,by omega,rfl,rfl,Below.refl _ _⟩
  case round=>
   obtain ⟨k,hk,rfl,hno,hbw⟩:=hrel;have HN:=hide hno;have HB:=hide hbw;clear hno hbw
   by_cases hlt:k<ks.length
   ·have hlt2:k<ms.length:=by rw [←HNE.out];exact hlt
    have dk:decide ((k:Int)<(ks.length:Int))=true:=decide_eq_true (by omega)
    have hk0:(0:Int)≤(k:Int):=by omega
    have hk1:(k:Int)<(ks.length:Int):=by omega
    have hk2:(k:Int)<(ms.length:Int):=by omega
    rcases HR.out with h | ⟨b,o,rfl,hbl,hcs⟩
    ·rw [List.map_eq_nil_iff.1 h] at hlt;exact absurd hlt (by simp)
    rcases HM.out with h | ⟨b2,o2,rfl,hbl2,hcs2⟩
    ·rw [List.map_eq_nil_iff.1 h] at hlt2;exact absurd hlt2 (by simp)
    have f0:wr.cell? ⟨b,o+k,none⟩=some (.int .i64 ks[k]):=by rw [World.cell?_of_block (HB.out.block b hbl),hcs k (by simpa using hlt),List.getElem?_map,List.getElem?_eq_getElem hlt];rfl
    have f1:wr.cell? ⟨b2,o2+k,none⟩=some (.int .i64 ms[k]):=by rw [World.cell?_of_block (HB.out.block b2 hbl2),hcs2 k (by simpa using hlt2),List.getElem?_map,List.getElem?_eq_getElem hlt2];rfl
    obtain ⟨x,hx⟩:∃x,ks[k]=x:=⟨_,rfl⟩;obtain ⟨y,hy⟩:∃y,ms[k]=y:=⟨_,rfl⟩;rw [hx] at f0;rw [hy] at f1
    cases hq:(x == y) with
    | true=>
     have HC:=hide (take_eq_succ HN.out hlt hlt2 (by rw [hx,hy];exact beq_iff_eq.1 hq))
     clear hcs hcs2 hx hy;go_wp2
     go_quiet (fail)
     go_wp2;go_roundw
     case rel=>exact ⟨k+1,by omega,by go_num,HC.out,drewN_below HB.out _⟩
     case measure=>simp [intOf];omega
    | false=>
     have HC:Hid ((ks == ms)=false):=by
      show _=_
      rw [beq_eq_false_iff_ne];intro e;subst e;rw [←hx,←hy] at hq;simp at hq
     clear hcs hcs2 hx hy;go_wp2
     go_quiet (fail)
     go_wp2;go_ret
     exact ⟨by rw [HC.out];rfl,drewN_below HB.out _⟩
   ·have hkl:k=ks.length:=by omega
    subst hkl
    have dk:decide ((ks.length:Int)<(ks.length:Int))=false:=decide_eq_false (by omega)
    have HC:Hid ((ks == ms)=true):=by
     show _=_
     have:=HN.out
     rw [List.take_length,HNE.out,List.take_length] at this;exact beq_iff_eq.2 this
    go_wp2;go_ret
    exact ⟨by rw [HC.out];rfl,HB.out⟩
 ·have dn:(((ks.length:Int) == (ms.length:Int)))=false:=beq_eq_false_iff_ne.2 (by omega)
  have HC:Hid ((ks == ms)=false):=by
   show _=_
   rw [beq_eq_false_iff_ne]
   exact fun e=>hne (by rw [e])
  clear hne
  go_enter Tryz.func56,Tryz.ntmps56
  go_wp2;go_ret
  exact ⟨by rw [HC.out];rfl,Below.refl _ _⟩
def AD.all (A:AD) (k:Key):Key:=(A.read k 0 1048576).1
structure OP where
 kind:Int
 two:Bool
 name:ByteArray
 to:ByteArray
 at_:Int
 n:Int
 text:ByteArray
 ad:Option Addr
 fates:List FT
 cap:Nat
def OP.cs (o:OP):Array Value:=#[.int .i64 o.kind,.bool o.two,.string o.name,.string o.to,.int .i64 o.at_,.int .i64 o.n,.string o.text,.slice o.ad o.fates.length o.cap]
structure OP.Ok (o:OP):Prop where
 name:o.name.size≤maxLen
 to:o.to.size≤maxLen
 a0:-9223372036854775808≤o.at_
 a1:o.at_<9223372036854775808
 n0:-9223372036854775808≤o.n
 n1:o.n<9223372036854775808
 text:o.text.size≤140737488355328
 fates:∀x∈o.fates,x.Ok
 len:o.fates.length≤9223372036854775807
theorem FatesAt.later {B:Nat} {w w':World} {ad:Option Addr} {ls:List FT} (h:FatesAt w ad ls) (hb:Below B w w') (hB:ls≠[]→∀b o,ad=some ⟨b,o,none⟩→b<B):FatesAt w' ad ls:=by
 by_cases he:ls=[]
 ·exact .inl he
 ·exact h.below hb (hB he)
structure OP.Lie (B:Nat) (w:World) (o:OP):Prop where
 at_:FatesAt w o.ad o.fates
 lt:o.fates≠[]→∀b f,o.ad=some ⟨b,f,none⟩→b<B
def AD.step (A:AD) (o:OP):Int×AD:=
 if o.kind=1 then A.write o.name.data.toList o.at_ o.text.data.toList
 else if o.kind=2 then A.sync o.name.data.toList
 else if o.kind=3 then A.trunc o.name.data.toList o.n
 else if o.kind=4 then A.rename o.name.data.toList o.to.data.toList
 else if o.kind=5 then A.remove o.name.data.toList
 else if o.kind=7 then (0,A.armed o.n o.at_)
 else if o.kind=11 then (0,A.fallen o.n)
 else if o.kind=8 then (0,A.crash (o.fates.map FT.abs))
 else if o.kind=9 then (0,A.on)
 else (0,A)
def OpsAt (w:World) (ad:Option Addr) (os:List OP):Prop:=os=[]∨∃b o,ad=some ⟨b,o,none⟩∧b<w.heap.size∧∀i (h:i<os.length) j,j<8→w.cell? ⟨b,o+i * 8+j,none⟩=(os[i].cs)[j]?
structure Script (B:Nat) (w:World) (ad:Option Addr) (os:List OP):Prop where
 at_:OpsAt w ad os
 lt:os≠[]→∀b o,ad=some ⟨b,o,none⟩→b<B
 ok:∀o∈os,o.Ok
 lie:∀o∈os,o.Lie B w
 len:os.length≤maxLen
theorem Bytes.stored {w:World} {g n cap:Nat} {l:List UInt8} (h:Bytes w 0 (.slice (some ⟨g,0,none⟩) n cap) l) (hn:l.length=n) (j:Nat) (c:UInt8):Bytes (w.setCell ⟨g,j,none⟩ (.int .u8 (c.toNat:Int))) 0 (.slice (some ⟨g,0,none⟩) n cap) (l.set j c):=by
 subst hn
 have:=(World.ownsRow.stored h j (.int .u8 (c.toNat:Int))).1
 unfold Bytes;rw [List.length_set,List.map_set];exact this
-- left out in this seat: text_any
section
variable {B:Nat} {w:World} {p:Nat}
end
-- left out in this seat: first_any
end Go.Proofs.YtjbdncknooeplaaGreatDoor
namespace Go.Proofs.YtjbdncknooeplaaGreatDoor
open Go.RowKit Go.Maps Go.WideMaps
set_option linter.unusedVariables false
set_option linter.unusedSimpArgs false
section
variable {t e:TypeId} {z:Value} {by_:Nat}
theorem run_append_rows (ht:Tryz.prog.underlying t=some (.slice e)) (hinf:(Tryz.prog.info? e).map (fun i=>(i.zero,i.size,i.bytes))=some (some z,1,by_)) (hzc:z.cells.size=1) (hby:1≤by_)
 (w:World) (ty tx:TypeId) (v:Value) (l news:List Value) (hown:w.ownsRow 0 e 1 v l.length l) (x:Value) (hs:Src Tryz.prog 1 tx x news.length news w) (hlen:(l.length+news.length) * by_≤140737488355328) :
 ∃v' w',(Builtin.append_ #[t,tx] ty #[v,x]).run Tryz.prog w=.ok v' w'∧w'.ownsRow 0 e 1 v' (l++news).length (l++news)∧Mv w v w' v':=by
 obtain ⟨i,hi,hz0,hz1,hz2⟩:=info_parts hinf;rw [←hz1] at hs;have hlen0:l.length+news.length≤140737488355328:=Nat.le_trans (Nat.le_mul_of_pos_right _ hby) hlen
 by_cases hn:news=[]
 ·subst hn
  have hh:=hown.2
  rcases hh with ⟨rfl,hl⟩ | ⟨g,cap,cur,rfl,hb,hg,hnc,hcm,hcs,htake⟩
  ·exact ⟨_,_,run_append_nothing (P:=Tryz.prog) w t tx ty e i ht hi none 0 0 (Nat.le_refl _) x hs,by rw [List.append_nil];exact hown,Mv.refl _ _⟩
  ·exact ⟨_,_,run_append_nothing (P:=Tryz.prog) w t tx ty e i ht hi (some ⟨g,0,none⟩) l.length cap hnc x hs,by rw [List.append_nil];exact hown,Mv.refl _ _⟩
 have hpos:0<news.length:=List.length_pos_iff.2 hn
 have grown:∀(old:Nat),old<l.length+news.length →
  (w.drew.alloc (.cells ((l++news).toArray++Builtin.zeroCells z.cells (grownCap w (l.length+news.length) old e - (l.length+news.length))) e)).ownsRow 0 e 1
    (.slice (some ⟨w.heap.size,0,none⟩) (l.length+news.length) (grownCap w (l.length+news.length) old e)) (l++news).length (l++news) ∧
  ∀row:Option Nat,w.grownBy (w.drew.alloc (.cells ((l++news).toArray++Builtin.zeroCells z.cells (grownCap w (l.length+news.length) old e - (l.length+news.length))) e)) row:=by
  intro old ho;have hge:=grownCap_ge w (l.length+news.length) old e
  have hcm:grownCap w (l.length+news.length) old e≤maxLen:=grownCap_le_maxLen w _ old e (by unfold maxLen;omega)
  refine ⟨?_,fun row=>⟨rfl,rfl,rfl,by simp,fun k hk _=>Below.heap_alloc w.drew _ k hk⟩⟩
  rw [List.length_append]
  refine ⟨by simp,.inr ⟨w.heap.size,_,_,rfl,Nat.zero_le _,heap_alloc_new w.drew _,hge,hcm,?_,?_⟩⟩
  ·simp only [Array.size_append,List.size_toArray,size_zeroCells,List.length_append]
   rw [hzc];omega
  ·rw [Array.toList_append]
   have e:(l.length+news.length) * 1=(l++news).length:=by simp
   rw [e];exact List.take_left
 have hh:=hown.2
 rcases hh with ⟨rfl,hl⟩ | ⟨g,cap,cur,rfl,hb,hg,hnc,hcm,hcs,htake⟩
 ·have hl0:l=[]:=List.length_eq_zero_iff.1 hl
  subst hl0
  have hr:=run_append_grow_src (P:=Tryz.prog) w t tx ty e i z ht hi hz0 none 0 0 [] (run_firstCells_none w.drew i.size 0 0 0) x news.length news hs (by omega) (by omega) (by
   rw [hz2,Nat.zero_add,nextslicecap_zero hpos];simp only [List.length_nil,Nat.zero_add] at hlen;omega)
  obtain ⟨g1,g2⟩:=grown 0 (by omega)
  simp only [List.length_nil,Nat.zero_add,List.nil_append] at g1 g2 hr
  refine ⟨_,_,hr,by simpa using g1,g2 _,fun g' hg'=>.inr ?_⟩
  have e:g'=w.heap.size:=by simpa [Value.ownBlock] using hg'.symm
  omega
 ·have hc:=World.ownsRow.cells hown (g:=g) rfl
  by_cases hroom:l.length+news.length≤cap
  ·have hst:=run_storeCells_at Tryz.prog g (l.length * i.size) e news 0 cur w hg (by simp [hz1];omega) hs.one
   rw [Nat.add_zero] at hst
   have hr:(Builtin.append_ #[t,tx] ty #[.slice (some ⟨g,0,none⟩) l.length cap,x]).run Tryz.prog w=.ok (.slice (some ⟨g,0,none⟩) (l.length+news.length) cap) (w.setRow g (cur.toList.take (l.length * i.size)++news++cur.toList.drop (l.length * i.size+news.length)).toArray):=by
    rcases hs.kind with ⟨e',hk⟩ | hk<;>simp [Builtin.append_,run_underlying ht,run_underlying hk,sizeOf,typeInfo,hi,hs.len,hroom,hs.cells,Addr.add_lit,hst]
   refine ⟨_,_,hr,?_,⟨rfl,rfl,rfl,by simp,fun k _ hk=>setRow_other w g k _ (fun e=>hk (by simp [Value.ownBlock,e]))⟩,fun g' hg'=>.inl ?_⟩
   ·rw [List.length_append]
    refine ⟨by simp,.inr ⟨g,cap,_,rfl,hb,setRow_heap w g cur _ e _ hg,hroom,hcm,?_,?_⟩⟩
    ·simp only [List.size_toArray,List.length_append,List.length_take,List.length_drop,Array.length_toList,hz1]
     omega
    ·rw [hz1,htake]
     have e:(l.length+news.length) * 1=(l++news).length:=by simp
     rw [e];exact List.take_left
   ·simpa [Value.ownBlock] using hg'
  ·have hr:=run_append_grow_src (P:=Tryz.prog) w t tx ty e i z ht hi hz0 (some ⟨g,0,none⟩) l.length cap l (by
    have:=run_firstCells_some (P:=Tryz.prog) w.drew i.size l.length ⟨g,0,none⟩ l.length cap l (by simp [hz1]) hc
    exact this) x news.length news hs (by omega) (by omega) (growslice_fits (by omega) (by rw [hz2];omega))
   obtain ⟨g1,g2⟩:=grown cap (by omega)
   refine ⟨_,_,hr,g1,g2 _,fun g' hg'=>.inr ?_⟩
   have e:g'=w.heap.size:=by simpa [Value.ownBlock] using hg'.symm
   omega
theorem src_row {tx:TypeId} (hk:Tryz.prog.underlying tx=some (.slice e)) {w:World} {x:Value} {news:List Value} (h:w.ownsRow 0 e 1 x news.length news) (h1:∀u∈news,u.oneCell'=true):Src Tryz.prog 1 tx x news.length news w:=by
 have hh:=h.2
 rcases hh with ⟨rfl,hl⟩ | ⟨g,cap,cur,rfl,hb,hg,rest⟩
 ·have:news=[]:=List.length_eq_zero_iff.1 hl
  subst this;exact Src.ofNil w hk 0
 ·exact Src.ofSlice w hk ⟨g,0,none⟩ news.length cap news (by simp) (World.ownsRow.cells h rfl) h1
end
section
variable {B:Nat} {w:World} {L:List Item} {i:Nat} {e:TypeId} {v:Value} {xs:List Value}
theorem Lies.rowOf (h:Lies B w L) (hi:L[i]?=some (.row e v xs)):w.ownsRow 0 e 1 v xs.length xs:=by
 obtain ⟨S,hp,_⟩:=h.get hi;exact hp.1
theorem Lies.pushNil (h:Lies B w L) (e:TypeId):Lies B w (L++[.row e (.slice none 0 0) []]):=
 h.push (S':=fun b=>(Value.slice none 0 0).ownBlock=some b) (Below.refl _ _) ⟨World.ownsRow_nil w 0 e 1,fun _=>Iff.rfl⟩ (fun b hb=>by simp [Value.ownBlock] at hb)
theorem Lies.moved {w':World} {v':Value} {ys:List Value} (h:Lies B w L) (hi:L[i]?=some (.row e v xs)) (hr:w'.ownsRow 0 e 1 v' ys.length ys) (hm:Mv w v w' v'):Lies B w' (L.set i (.row e v' ys))∧Below B w w':=by
 obtain ⟨S,hp,hB,hap,hk⟩:=h.upd hi
 refine hk w' _ (fun b=>v'.ownBlock=some b) ⟨hr,fun _=>Iff.rfl⟩ ⟨⟨hm.gr.os,hm.gr.tape,hm.gr.output,hm.gr.size,fun b hb hn=>hm.gr.block b hb (fun x=>hn ((hp.2 b).2 x.symm))⟩,fun b hb=>?_⟩
 rcases hm.own b hb with x | x
 ·exact .inl ((hp.2 b).2 x)
 ·exact .inr x
end
theorem info3':(Tryz.prog.info? 3).map (fun i=>(i.zero,i.size,i.bytes))=some (some (.int .i64 0),1,8):=by kernel_rfl
end Go.Proofs.YtjbdncknooeplaaGreatDoor
