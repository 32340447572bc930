import Derived.Test.YtjbdncknooeplaaGreatDoorRowsOwn
namespace Go.Proofs.YtjbdncknooeplaaGreatDoor
open Go.RowKit Go.Maps Go.WideMaps
set_option linter.unusedVariables false
set_option linter.unusedSimpArgs false
theorem RowAt.below {w w':World} {ad:Option Addr} {xs:List Value} (h:RowAt w ad xs) (hb:Below w.heap.size w w'):RowAt w' ad xs:=by
 rcases h with h | ⟨b,o,ha,hl,hc⟩
 ·exact .inl h
 ·exact .inr ⟨b,o,ha,Nat.lt_of_lt_of_le hl hb.size,fun i hi=>by rw [←hc i hi];exact World.cell?_of_block (hb.block b hl)⟩
theorem own_at {w:World} {base e sz n:Nat} {v:Value} {xs:List Value} (h:w.ownsRow base e sz v n xs):∃ad cap,v=.slice ad n cap∧RowAt w ad xs∧n≤maxLen∧(∀b o,ad=some ⟨b,o,none⟩→base≤b):=by
 obtain ⟨hl,⟨rfl,rfl⟩ | ⟨g,cap,cur,rfl,hb,hg,hnc,hcm,hcs,htake⟩⟩:=h
 ·rw [Nat.zero_mul] at hl
  exact ⟨none,0,rfl,.inl (List.length_eq_zero_iff.1 hl),Nat.zero_le _,fun b o hx=>by cases hx⟩
 ·refine ⟨some ⟨g,0,none⟩,cap,rfl,?_,Nat.le_trans hnc hcm,fun b o hx=>by cases hx;exact hb⟩
  refine .inr ⟨g,0,rfl,lt_of_some hg,fun i hi=>?_⟩
  rw [Nat.zero_add,cell_of_row w g i _ _ (0,0) hg,←htake,List.getElem?_take,if_pos (by omega)]
  rw [Array.getElem?_toList]
section
variable {t e:TypeId} {z:Value} {sz by_:Nat}
theorem app_one (ht:Tryz.prog.underlying t=some (.slice e)) (hinf:(Tryz.prog.info? e).map (fun i=>(i.zero,i.size,i.bytes))=some (some z,sz,by_)) (hzc:z.cells.size=sz) (hsz:0<sz)
 {B:Nat} {wr w1:World} {v:Value} {n:Nat} {l:List Value} (hown:wr.ownsRow B e sz v n l) (hB:B≤wr.heap.size) (news:Array Value) (hnl:news.size=sz) (h1:∀u∈news.toList,u.oneCell'=true) (hn:(n+1) * by_≤140737488355328) (hm:n+1≤maxLen) (ty:TypeId) (hw1:wr.alloc (.cells news e)=w1) {g1:Nat} (hg1:wr.heap.size=g1) :
 ∃v' w',(Builtin.append_ #[t,t] ty #[v,.slice (some ⟨g1,0,none⟩) 1 1]).run Tryz.prog w1=.ok v' w'∧w'.ownsRow B e sz v' (n+1) (l++news.toList)∧Below B wr w':=by
 obtain ⟨i,hi,hz0,hz1,hz2⟩:=info_parts hinf
 have hb1:Below wr.heap.size wr w1:=by rw [←hw1];exact (Below.refl _ _).alloc (Nat.le_refl _) _
 have hown1:w1.ownsRow B e sz v n l:=row_same hown (fun b hb=>hb1.block b (World.ownsRow.lt hown b hb).2)
 obtain ⟨g,cap,w',hr,h2,h3,h4,h5⟩:=run_append_lies (P:=Tryz.prog) w1 t ty B e i z sz by_ ht hi hz0 hz1 hz2 hzc hsz v n l hown1 ⟨g1,0,none⟩ 1 1 news.toList (by rw [Array.length_toList,hnl];omega) (fun j u hu=>by rw [←hw1,←hg1];exact World.news_of_block (heap_alloc_new wr _) j u hu) h1 (by omega) hm hn (Nat.le_trans hB hb1.size) _ rfl
 refine ⟨_,w',hr,h2,(hb1.mono hB).trans ⟨h3.os,h3.tape,h3.output,h3.size,fun b hb=>h3.block b (by have:=hb1.size;omega) (fun hx=>?_)⟩⟩
 have:=(World.ownsRow.lt hown b hx.symm).1
 omega
end
structure RF where
 name:ByteArray
 seen:ByteArray
 safe:ByteArray
 ad:Option Addr
 cap:Nat
 ds:List Int
def RF.cs (x:RF):Array Value:=#[.string x.name,.string x.seen,.string x.safe,.slice x.ad x.ds.length x.cap]
def RF.abs (x:RF):Key×AF:=(x.name.data.toList,⟨x.seen.data.toList,x.safe.data.toList,fun s=>x.ds.contains (s:Int)⟩)
def cellsF:List RF→List Value
 | []=>[]
 | x :: r=>x.cs.toList++cellsF r
theorem cellsF_length:∀xs:List RF,(cellsF xs).length=xs.length * 4
 | []=>rfl
 | x :: r=>by
  show (x.cs.toList++cellsF r).length=_
  rw [List.length_append,cellsF_length r,List.length_cons]
  show 4+_=_
  omega
theorem cellsF_append:∀xs ys:List RF,cellsF (xs++ys)=cellsF xs++cellsF ys
 | [],ys=>rfl
 | x :: r,ys=>by
  show x.cs.toList++cellsF (r++ys)=(x.cs.toList++cellsF r)++cellsF ys
  rw [cellsF_append r ys,List.append_assoc]
theorem cellsF_get:∀(xs:List RF) (k:Nat) (h:k<xs.length) (j:Nat),j<4→(cellsF xs)[k * 4+j]?=(xs[k].cs)[j]?
 | [],k,h,_,_=>by simp at h
 | x :: r,0,_,j,hj=>by
  show (x.cs.toList++cellsF r)[0 * 4+j]?=x.cs[j]?
  rw [List.getElem?_append_left (by show _<4;omega),Array.getElem?_toList]
  congr 1
  omega
 | x :: r,k+1,h,j,hj=>by
  show (x.cs.toList++cellsF r)[(k+1) * 4+j]?=_
  rw [List.getElem?_append_right (by show 4≤_;omega)]
  show (cellsF r)[(k+1) * 4+j - 4]?=_
  rw [show (k+1) * 4+j - 4=k * 4+j by omega,cellsF_get r k (by simp at h;omega) j hj]
  rfl
structure Files (w:World) (ad:Option Addr) (xs:List RF):Prop where
 row:RowAt w ad (cellsF xs)
 dirty:∀x∈xs,RowAt w x.ad (x.ds.map (Value.int .i64))
theorem Files.below {w w':World} {ad:Option Addr} {xs:List RF} (h:Files w ad xs) (hb:Below w.heap.size w w'):Files w' ad xs:=⟨h.row.below hb,fun x hx=>(h.dirty x hx).below hb⟩
theorem Files.cells {w:World} {ad:Option Addr} {xs:List RF} (h:Files w ad xs) {k:Nat} (hk:k<xs.length):∃b o,ad=some ⟨b,o,none⟩∧b<w.heap.size∧∀j,j<4→w.cell? ⟨b,o+k * 4+j,none⟩=(xs[k].cs)[j]?:=by
 rcases h.row with h0 | ⟨b,o,ha,hl,hc⟩
 ·exfalso
  have:=cellsF_length xs
  rw [h0] at this;simp at this;omega
 ·refine ⟨b,o,ha,hl,fun j hj=>?_⟩
  have:=hc (k * 4+j) (by rw [cellsF_length];omega)
  rw [←Nat.add_assoc] at this;rw [this,cellsF_get xs k hk j hj]
theorem one_file (x:RF):∀u∈x.cs.toList,u.oneCell'=true:=by
 intro u hu;simp only [RF.cs,List.mem_cons,List.not_mem_nil,or_false] at hu
 rcases hu with rfl | rfl | rfl | rfl<;>rfl
theorem infoF:(Tryz.prog.info? 135).map (fun i=>(i.zero,i.size,i.bytes))=some (some (.agg #[.string ⟨#[]⟩,.string ⟨#[]⟩,.string ⟨#[]⟩,.slice none 0 0]),4,72):=by kernel_rfl
theorem app_file {B:Nat} {wr w1:World} {v:Value} {ys:List RF} (hown:wr.ownsRow B 135 4 v ys.length (cellsF ys)) (hB:B≤wr.heap.size) (hn:ys.length≤1000) (x:RF) (ty:TypeId) (hw1:wr.alloc (.cells x.cs 135)=w1) {g1:Nat} (hg1:wr.heap.size=g1) :
 ∃v' w',(Builtin.append_ #[91,91] ty #[v,.slice (some ⟨g1,0,none⟩) 1 1]).run Tryz.prog w1=.ok v' w'∧w'.ownsRow B 135 4 v' (ys++[x]).length (cellsF (ys++[x]))∧Below B wr w':=by
 obtain ⟨v',w',h1,h2,h3⟩:=app_one Tryz.underlying91 infoF rfl (by decide) hown hB x.cs rfl (one_file x) (by omega) (by unfold maxLen;omega) ty hw1 hg1
 refine ⟨v',w',h1,?_,h3⟩;rw [List.length_append,cellsF_append];have e:cellsF [x]=x.cs.toList:=List.append_nil _;rw [e];exact h2
def insR (f:RF):List RF→List RF
 | []=>[f]
 | y :: r=>if bytesBefore f.name.data.toList y.name.data.toList then f :: y :: r else y :: insR f r
def delR (xs:List RF) (k:Key):List RF:=xs.filter (fun x=>!(x.name.data.toList == k))
def putR (xs:List RF) (f:RF):List RF:=insR f (delR xs f.name.data.toList)
theorem insR_abs (f:RF):∀xs:List RF,(insR f xs).map RF.abs=fins f.abs (xs.map RF.abs)
 | []=>rfl
 | y :: r=>by
  unfold insR;rw [List.map_cons];unfold fins
  show List.map RF.abs (if bytesBefore f.name.data.toList y.name.data.toList then f :: y :: r else y :: insR f r)=if bytesBefore f.name.data.toList y.name.data.toList then _ else _
  split
  ·rfl
  ·rw [List.map_cons,insR_abs f r]
theorem delR_abs (k:Key):∀xs:List RF,(delR xs k).map RF.abs=fdel (xs.map RF.abs) k
 | []=>rfl
 | y :: r=>by
  unfold delR fdel;rw [List.map_cons,List.filter_cons,List.filter_cons]
  show List.map RF.abs (if (!(y.name.data.toList == k))=true then _ else _)=if (!(y.name.data.toList == k))=true then _ else _
  have:=delR_abs k r
  unfold delR fdel at this
  split
  ·rw [List.map_cons,this]
  ·exact this
theorem putR_abs (xs:List RF) (f:RF):(putR xs f).map RF.abs=fput (xs.map RF.abs) f.abs.1 f.abs.2:=by
 unfold putR fput;rw [insR_abs,delR_abs];rfl
theorem insR_mem {f x:RF}:∀{xs:List RF},x∈insR f xs→x=f∨x∈xs
 | [],h=>.inl (List.mem_singleton.1 h)
 | y :: r,h=>by
  unfold insR at h
  split at h
  ·rcases List.mem_cons.1 h with h | h
   ·exact .inl h
   ·exact .inr h
  ·rcases List.mem_cons.1 h with h | h
   ·exact .inr (by rw [h];exact List.mem_cons_self ..)
   ·rcases insR_mem h with h | h
    ·exact .inl h
    ·exact .inr (List.mem_cons_of_mem _ h)
theorem delR_mem {xs:List RF} {k:Key} {x:RF} (h:x∈delR xs k):x∈xs:=(List.mem_filter.1 h).1
theorem putR_mem {xs:List RF} {f x:RF} (h:x∈putR xs f):x=f∨x∈xs:=(insR_mem h).imp id delR_mem
theorem fput_fset:∀{fs:FList} {k:Key} {F G:AF},fs.Pairwise (fun p q=>bytesBefore p.1 q.1=true)→fget fs k=some G→fput fs k F=fset fs k F
 | [],_,_,_,_,h=>by simp [fget] at h
 | p :: r,k,F,G,hs,h=>by
  rw [fget_cons] at h;have hs':=List.pairwise_cons.1 hs;rw [fset_cons];unfold fput fdel;rw [List.filter_cons]
  by_cases e:p.1=k
  ·rw [if_pos e]
   have hb:(!(p.1 == k))=false:=by simp [e]
   rw [hb];simp only [Bool.false_eq_true,if_false]
   have hr:r.filter (fun q=>!(q.1 == k))=r:=by
    rw [List.filter_eq_self];intro q hq;have hx:=hs'.1 q hq
    have hne:q.1≠k:=fun hh=>by rw [e,hh] at hx;rw [bb_irrefl] at hx;cases hx
    simp [hne]
   rw [hr]
   have hset:fset r k F=r:=by
    refine fset_none ?_;rw [fget_none_iff];intro q hq hh;have hx:=hs'.1 q hq;rw [e,hh,bb_irrefl] at hx;cases hx
   rw [hset,e]
   cases r with
   | nil=>rfl
   | cons q s=>
    unfold fins
    rw [if_pos (by have:=hs'.1 q (List.mem_cons_self ..);rw [e] at this;exact this)]
  ·rw [if_neg e] at h ⊢
   have hb:(!(p.1 == k))=true:=by simp [e]
   rw [hb];simp only [if_true];unfold fins
   have hpk:bytesBefore p.1 k=true:=by
    have:=fget_mem h
    exact hs'.1 _ this
   have hno:bytesBefore k p.1=false:=by
    cases hx:bytesBefore k p.1 with
    | false=>rfl
    | true=>have:=bb_trans _ _ _ hx hpk;rw [bb_irrefl] at this;cases this
   simp only [hno,Bool.false_eq_true,if_false]
   congr 1
   exact fput_fset hs'.2 h
end Go.Proofs.YtjbdncknooeplaaGreatDoor
namespace Go.Proofs.YtjbdncknooeplaaGreatDoor
open Go.RowKit Go.Maps Go.WideMaps
set_option linter.unusedVariables false
set_option linter.unusedSimpArgs false
theorem firstF_take_none {ls:List FT} {k:Key} {s:Int} {j:Nat} (h:firstF (ls.take j) k s=none) (hj:j<ls.length) (hx:¬(ls[j].file.data.toList=k∧ls[j].sector=s)):firstF (ls.take (j+1)) k s=none:=by
 rw [take_snoc ls j hj,firstF_snoc,h];simp only [Option.none_or];rw [if_neg hx]
theorem firstF_at {ls:List FT} {k:Key} {s:Int} {j:Nat} (h:firstF (ls.take j) k s=none) (hj:j<ls.length) (hx:ls[j].file.data.toList=k∧ls[j].sector=s):firstF ls k s=some ls[j]:=by
 have e:ls=ls.take j++ls[j] :: ls.drop (j+1):=by rw [←List.drop_eq_getElem_cons hj,List.take_append_drop]
 obtain ⟨y,hy⟩:∃y,ls[j]=y:=⟨_,rfl⟩;rw [hy] at hx e ⊢;unfold firstF at h ⊢
 have e2:=congrArg (List.find? (fun x:FT=>x.file.data.toList == k && decide (x.sector=s))) e
 rw [e2,List.find?_append,h]
 simp [hx.1,hx.2]
def fateR (ls:List FT) (k:Key) (s:Int):FT:=(firstF ls k s).getD FT.zero
theorem fateR_some {ls:List FT} {k:Key} {s:Int} {x:FT} (h:firstF ls k s=some x):fateR ls k s=x:=by unfold fateR;rw [h];rfl
theorem fateR_none {ls:List FT} {k:Key} {s:Int} (h:firstF ls k s=none):fateR ls k s=FT.zero:=by unfold fateR;rw [h];rfl
set_option maxRecDepth 5000 in
set_option maxHeartbeats 1000000 in
theorem rFate_any (w:World) (ad:Option Addr) (cap:Nat) (ls:List FT) (h:FatesAt w ad ls) (hl:ls.length≤9223372036854775807) (n:ByteArray) (s:Int) :
 Calls Tryz.prog 138 #[.slice ad ls.length cap,.string n,.int .i64 s] w fun e w'=>e=.returned (.agg (fateR ls n.data.toList s).cs)∧Below w.heap.size w w':=by
 have HF:=hide h;clear h;obtain ⟨g,hg⟩:∃g,w.heap.size=g:=⟨_,rfl⟩;have HG:=hide hg;obtain ⟨w0,hw0⟩:∃w0,w.alloc (.cells FT.zero.cs 129)=w0:=⟨_,rfl⟩;have HW0:=hide hw0
 have hb0:Below w.heap.size w w0:=by rw [←hw0];exact (Below.refl _ _).alloc (Nat.le_refl _) _
 have HB0:=hide hb0;clear hw0 hb0
 go_enter Tryz.func138,Tryz.ntmps138
 go_wp2
 go_loopw [7] (fun i wr=>∃k:Nat,k≤ls.length∧i=.int .i64 (k:Int)∧firstF (ls.take k) n.data.toList s=none∧wr=w.alloc (.cells #[.string ⟨#[]⟩,.int .i64 0,.int .i64 0,.string ⟨#[]⟩] 129)) (fun i _=>ls.length - (intOf i).toNat)
 case atStart=>exact ⟨0,by omega,rfl,rfl,rfl⟩
 case round=>
  obtain ⟨k,hk,rfl,hno,rfl⟩:=hrel;have HN:=hide hno;clear hno
  by_cases hlt:k<ls.length
  ·have dk:decide ((k:Int)<(ls.length:Int))=true:=decide_eq_true (by omega)
   have hk0:(0:Int)≤(k:Int):=by omega
   have hk1:(k:Int)<(ls.length:Int):=by omega
   rcases HF.out with h | ⟨b,o,rfl,hbl,hcs⟩
   ·rw [h] at hlt;exact absurd hlt (by simp)
   obtain ⟨x,hx⟩:∃x,ls[k]=x:=⟨_,rfl⟩
   have hcell:∀j,j<4→(w.alloc (.cells #[.string ⟨#[]⟩,.int .i64 0,.int .i64 0,.string ⟨#[]⟩] 129)).cell? ⟨b,o+k * 4+j,none⟩=(x.cs)[j]?:=fun j hj=>by rw [World.cell?_alloc_lt _ _ _ hbl,hcs k hlt j hj,hx]
   have f0:=(hcell 0 (by omega)).trans (show x.cs[0]?=some (Value.string x.file) from rfl)
   have f1:=(hcell 1 (by omega)).trans (show x.cs[1]?=some (Value.int .i64 x.sector) from rfl)
   have f2:=(hcell 2 (by omega)).trans (show x.cs[2]?=some (Value.int .i64 x.kind) from rfl)
   have f3:=(hcell 3 (by omega)).trans (show x.cs[3]?=some (Value.string x.bytes) from rfl)
   rw [Nat.add_zero] at f0
   cases h1:(x.file.data.toList == n.data.toList) with
   | false=>
    have hb1:(x.file.toList == n.toList)=false:=by rw [toList_beq];exact h1
    have HC:=hide (firstF_take_none HN.out hlt (by rw [hx];exact fun e=>beq_eq_false_iff_ne.1 h1 e.1))
    clear h1 hcs hx hcell;go_wp2;go_roundw
    case rel=>exact ⟨k+1,by omega,by go_num,HC.out,by first | rfl | trivial⟩
    case measure=>simp [intOf];omega
   | true=>
    have hb1:(x.file.toList == n.toList)=true:=by rw [toList_beq];exact h1
    cases h2:(x.sector == s) with
    | false=>
     have HC:=hide (firstF_take_none HN.out hlt (by rw [hx];exact fun e=>beq_eq_false_iff_ne.1 h2 e.2))
     clear h1 hcs hx hcell;go_wp2;go_roundw
     case rel=>exact ⟨k+1,by omega,by go_num,HC.out,by first | rfl | trivial⟩
     case measure=>simp [intOf];omega
    | true=>
     have hC:=firstF_at HN.out hlt (by rw [hx];exact ⟨beq_iff_eq.1 h1,beq_iff_eq.1 h2⟩)
     rw [hx] at hC;have HC:=hide (fateR_some hC);clear h1 hcs hx hcell hC;go_wp2
     exact bodyPost_ret (results_cell_row rfl _ _ g 129 #[.string x.file,.int .i64 x.sector,.int .i64 x.kind,.string x.bytes] (0,0) _ rfl (by rw [←HG.out];exact heap_alloc_new w _) Tryz.underlying129 rfl (by kernel_rfl)) rfl ⟨by rw [HC.out];rfl,(Below.refl _ _).alloc (Nat.le_refl _) _⟩
  ·have hkl:k=ls.length:=by omega
   subst hkl
   have dk:decide ((ls.length:Int)<(ls.length:Int))=false:=decide_eq_false (by omega)
   have HC:=HN.out;rw [List.take_length] at HC;have HD:=hide (fateR_none HC);clear HC;go_wp2
   exact bodyPost_ret (results_cell_row rfl _ _ g 129 #[.string ⟨#[]⟩,.int .i64 0,.int .i64 0,.string ⟨#[]⟩] (0,0) _ rfl (by rw [←HG.out];exact heap_alloc_new w _) Tryz.underlying129 rfl (by kernel_rfl)) rfl ⟨by rw [HD.out];rfl,(Below.refl _ _).alloc (Nat.le_refl _) _⟩
theorem wpList_app {P:Program} {ops:Array Oper} {rest:List Oper} {o:Oper} {a:Act} {w w':World} {Q:Exit→Act→World→Prop} {v:Value} (hg:o.guard=none) (s x:Operand) (tys:Array TypeId) (ho:o.op=.call { callee:=.builtin .append,args:=#[s,x],argTypes:=tys }) (h:(Builtin.append_ tys o.type #[a.eval s,a.eval x]).run P w=.ok v w') (k:wpList P ops Q rest (a.put o.dst v) w'):wpList P ops Q (o :: rest) a w:=
 wpList_plain hg fun K hK=>wpRun (run_append_op s x tys ho h) (hK _ _ k)
theorem delR_snoc (xs:List RF) (s:Key) (k:Nat) (h:k<xs.length):delR (xs.take (k+1)) s=delR (xs.take k) s++(if (xs[k].name.data.toList == s)=true then [] else [xs[k]]):=by
 unfold delR;rw [take_snoc xs k h,List.filter_append,List.filter_cons,List.filter_nil]
 congr 1
 by_cases e:(xs[k].name.data.toList == s)=true
 ·rw [if_pos e,e];rfl
 ·rw [if_neg e]
  have:(xs[k].name.data.toList == s)=false:=by simpa using e
  rw [this];rfl
theorem delR_few (xs:List RF) (s:Key):(delR xs s).length≤xs.length:=List.length_filter_le ..
set_option maxRecDepth 5000 in
set_option maxHeartbeats 1000000 in
theorem without_any (w:World) (ad:Option Addr) (cap:Nat) (xs:List RF) (h:Files w ad xs) (hn:xs.length≤100) (s:ByteArray) :
 Calls Tryz.prog 117 #[.slice ad xs.length cap,.string s] w fun e w'=>∃v,e=.returned v∧w'.ownsRow w.heap.size 135 4 v (delR xs s.data.toList).length (cellsF (delR xs s.data.toList))∧Below w.heap.size w w':=by
 have HF:=hide h;obtain ⟨B,hB⟩:∃B,w.heap.size=B:=⟨_,rfl⟩;have HBE:=hide hB;rw [hB];clear h hB
 go_enter Tryz.func117,Tryz.ntmps117
 go_wp2
 go_loopw [5,6] (fun v i wr=>∃k:Nat,k≤xs.length∧i=.int .i64 (k:Int)∧wr.ownsRow B 135 4 v (delR (xs.take k) s.data.toList).length (cellsF (delR (xs.take k) s.data.toList))∧Below B w wr) (fun _ i _=>xs.length - (intOf i).toNat)
 case atStart=>exact ⟨0,by omega,rfl,World.ownsRow_nil _ _ _ _,Below.refl _ _⟩
 case round=>
  rename_i v0 i0
  obtain ⟨k,hk,rfl,hown,hbr⟩:=hrel
  by_cases hlt:k<xs.length
  ·have dk:decide ((k:Int)<(xs.length:Int))=true:=decide_eq_true (by omega)
   have hk0:(0:Int)≤(k:Int):=by omega
   have hk1:(k:Int)<(xs.length:Int):=by omega
   have hfr:=HF.out.below (by rw [HBE.out];exact hbr)
   obtain ⟨b,o,rfl,hbl,hcs⟩:=hfr.cells hlt;have HSN:=hide (delR_snoc xs s.data.toList k hlt);obtain ⟨x,hx⟩:∃x,xs[k]=x:=⟨_,rfl⟩;rw [hx] at hcs HSN
   have f0:wr.cell? ⟨b,o+k * 4,none⟩=some (.string x.name):=hcs 0 (by omega)
   have f1:wr.cell? ⟨b,o+k * 4+1,none⟩=some (.string x.seen):=hcs 1 (by omega)
   have f2:wr.cell? ⟨b,o+k * 4+2,none⟩=some (.string x.safe):=hcs 2 (by omega)
   have f3:wr.cell? ⟨b,o+k * 4+3,none⟩=some (.slice x.ad x.ds.length x.cap):=hcs 3 (by omega)
   cases hq:(x.name.data.toList == s.data.toList) with
   | true=>
    have hb1:(x.name.toList == s.toList)=true:=by rw [toList_beq];exact hq
    have hb2:(x.name.toList != s.toList)=false:=by unfold bne;rw [hb1];rfl
    rw [hq,if_pos rfl,List.append_nil] at HSN;have HO:=hide hown;have HB:=hide hbr;clear hown hbr hcs hfr hx hq hbl;go_wp2;go_roundw
    case rel=>exact ⟨k+1,by omega,by go_num,by rw [HSN.out];exact HO.out,HB.out⟩
    case measure=>simp [intOf];omega
   | false=>
    have hb1:(x.name.toList == s.toList)=false:=by rw [toList_beq];exact hq
    have hb2:(x.name.toList != s.toList)=true:=by unfold bne;rw [hb1];rfl
    rw [hq,if_neg (by simp)] at HSN
    obtain ⟨g1,hg1⟩:∃g,wr.heap.size=g:=⟨_,rfl⟩;obtain ⟨w1,hw1⟩:∃w1,wr.alloc (.cells x.cs 135)=w1:=⟨_,rfl⟩
    obtain ⟨v2,w2,hap,hr2,hb3⟩:=app_file hown (by rw [←HBE.out];exact Nat.le_trans (Nat.le_refl _) hbr.size) (by have:=delR_few (xs.take k) s.data.toList;rw [List.length_take] at this;omega) x 91 hw1 hg1
    rw [←HSN.out] at hr2;unfold RF.cs at hw1;have HO:=hide hr2;have HB:=hide (hbr.trans hb3);clear hown hbr hcs hfr hx hq hbl hr2 hb3
    go_wp2_with (at_builtin;refine wpList_app rfl _ _ _ rfl hap ?_;try go_frame)
    go_roundw
    case rel=>exact ⟨k+1,by omega,by go_num,HO.out,HB.out⟩
    case measure=>simp [intOf];omega
  ·have hkl:k=xs.length:=by omega
   subst hkl
   have dk:decide ((xs.length:Int)<(xs.length:Int))=false:=decide_eq_false (by omega)
   rw [List.take_length] at hown;have HO:=hide hown;have HB:=hide hbr;clear hown hbr;go_wp2;go_ret;exact ⟨_,rfl,HO.out,HB.out⟩
theorem insR_none {f:RF}:∀{ts:List RF},(∀y∈ts,bytesBefore f.name.data.toList y.name.data.toList=false)→∀r,insR f (ts++r)=ts++insR f r
 | [],_,r=>rfl
 | y :: ts,h,r=>by
  show insR f (y :: (ts++r))=y :: (ts++insR f r)
  unfold insR
  rw [if_neg (by rw [h y (List.mem_cons_self ..)];simp)]
  rw [insR_none (fun z hz=>h z (List.mem_cons_of_mem _ hz)) r]
  cases r<;>rfl
theorem insR_some {f:RF}:∀{ts:List RF},(∃y∈ts,bytesBefore f.name.data.toList y.name.data.toList=true)→∀r,insR f (ts++r)=insR f ts++r
 | [],⟨y,hy,_⟩,r=>by simp at hy
 | y :: ts,h,r=>by
  show insR f (y :: (ts++r))=insR f (y :: ts)++r
  unfold insR
  split
  ·rfl
  ·rename_i hn
   obtain ⟨z,hz,hb⟩:=h
   rcases List.mem_cons.1 hz with e | hz
   ·rw [e] at hb;exact absurd hb hn
   ·rw [insR_some ⟨z,hz,hb⟩ r];rfl
def PInv (xs:List RF) (f:RF) (k:Nat) (d:Bool) (ys:List RF):Prop:=
 (d=false∧ys=delR (xs.take k) f.name.data.toList∧∀y∈ys,bytesBefore f.name.data.toList y.name.data.toList=false) ∨
 (d=true∧ys=insR f (delR (xs.take k) f.name.data.toList)∧∃y∈delR (xs.take k) f.name.data.toList,bytesBefore f.name.data.toList y.name.data.toList=true)
section
variable {xs:List RF} {f:RF} {k:Nat} {d:Bool} {ys:List RF}
theorem PInv.skip (h:PInv xs f k d ys) (hk:k<xs.length) (he:(xs[k].name.data.toList == f.name.data.toList)=true):PInv xs f (k+1) d ys:=by
 unfold PInv;rw [delR_snoc xs _ k hk,if_pos he,List.append_nil];exact h
theorem PInv.more (h:PInv xs f k true ys) (hk:k<xs.length) (he:(xs[k].name.data.toList == f.name.data.toList)=false):PInv xs f (k+1) true (ys++[xs[k]]):=by
 rcases h with ⟨h,_⟩ | ⟨_,h,y,hy,hb⟩
 ·cases h
 ·refine .inr ⟨rfl,?_,y,?_,hb⟩
  ·rw [delR_snoc xs _ k hk,if_neg (by rw [he];simp),insR_some ⟨y,hy,hb⟩,h]
  ·rw [delR_snoc xs _ k hk];exact List.mem_append_left _ hy
theorem PInv.past (h:PInv xs f k false ys) (hk:k<xs.length) (he:(xs[k].name.data.toList == f.name.data.toList)=false) (hb:bytesBefore f.name.data.toList xs[k].name.data.toList=false):PInv xs f (k+1) false (ys++[xs[k]]):=by
 rcases h with ⟨_,h,hn⟩ | ⟨h,_⟩
 ·refine .inl ⟨rfl,?_,fun y hy=>?_⟩
  ·rw [delR_snoc xs _ k hk,if_neg (by rw [he];simp),h]
  ·rcases List.mem_append.1 hy with hy | hy
   ·exact hn y hy
   ·rw [List.mem_singleton.1 hy];exact hb
 ·cases h
theorem PInv.here (h:PInv xs f k false ys) (hk:k<xs.length) (he:(xs[k].name.data.toList == f.name.data.toList)=false) (hb:bytesBefore f.name.data.toList xs[k].name.data.toList=true):PInv xs f (k+1) true ((ys++[f])++[xs[k]]):=by
 rcases h with ⟨_,h,hn⟩ | ⟨h,_⟩
 ·refine .inr ⟨rfl,?_,xs[k],?_,hb⟩
  ·rw [delR_snoc xs _ k hk,if_neg (by rw [he];simp),←h,insR_none hn]
   unfold insR;rw [if_pos hb,List.append_assoc];rfl
  ·rw [delR_snoc xs _ k hk,if_neg (by rw [he];simp)]
   exact List.mem_append_right _ (List.mem_singleton.2 rfl)
 ·cases h
theorem PInv.few (h:PInv xs f k d ys):ys.length≤xs.length+1:=by
 have hd:=delR_few (xs.take k) f.name.data.toList;rw [List.length_take] at hd
 rcases h with ⟨_,h,_⟩ | ⟨_,h,_⟩
 ·rw [h];omega
 ·rw [h]
  have:∀l:List RF,(insR f l).length=l.length+1:=by
   intro l
   induction l with
   | nil=>rfl
   | cons y r ih=>unfold insR;split<;>simp [ih]
  rw [this];omega
theorem PInv.end1 (h:PInv xs f xs.length true ys):ys=putR xs f:=by
 rcases h with ⟨h,_⟩ | ⟨_,h,_⟩
 ·cases h
 ·rw [h,List.take_length];rfl
theorem PInv.end0 (h:PInv xs f xs.length false ys):ys++[f]=putR xs f:=by
 rcases h with ⟨_,h,hn⟩ | ⟨h,_⟩
 ·rw [List.take_length] at h
  unfold putR;rw [←h]
  have:=insR_none hn []
  rw [List.append_nil] at this;rw [this];rfl
 ·cases h
end
theorem less_before:∀x y:List UInt8,Op.bytesLess x y=bytesBefore x y
 | [],[]=>rfl
 | _ :: _,[]=>rfl
 | [],_ :: _=>rfl
 | a :: x,b :: y=>by
  show (decide (a<b) || (a == b && Op.bytesLess x y))=(decide (a<b) || (a == b && bytesBefore x y))
  rw [less_before x y]
set_option maxRecDepth 5000 in
set_option maxHeartbeats 4000000 in
theorem put_any (w:World) (ad:Option Addr) (cap:Nat) (xs:List RF) (h:Files w ad xs) (hn:xs.length≤100) (f:RF) :
 Calls Tryz.prog 116 #[.slice ad xs.length cap,.agg f.cs] w fun e w'=>∃v,e=.returned v∧w'.ownsRow w.heap.size 135 4 v (putR xs f).length (cellsF (putR xs f))∧Below w.heap.size w w':=by
 obtain ⟨w0,hw0⟩:∃w0,w.alloc (.cells f.cs 135)=w0:=⟨_,rfl⟩
 have hb0:Below w.heap.size w w0:=by rw [←hw0];exact (Below.refl _ _).alloc (Nat.le_refl _) _
 obtain ⟨g,hg⟩:∃g,w.heap.size=g:=⟨_,rfl⟩
 have hgs:w0.heap.size=g+1:=by rw [←hw0,←hg];simp
 have hblk:w0.heap[g]?=some (.cells f.cs 135 (0,0)):=by rw [←hw0,←hg];exact heap_alloc_new w _
 obtain ⟨B,hB⟩:∃B,w0.heap.size=B:=⟨_,rfl⟩
 have HF:Hid (∀w',Below B w0 w'→Files w' ad xs):=fun w' hb=>(h.below hb0).below (by rw [hB];exact hb)
 have HG:Hid (∀w',Below B w0 w'→∀j,w'.cell? ⟨g,j,none⟩=f.cs[j]?):=fun w' hb j=>by
  have e:=hb.block g (by omega)
  rw [cell_of_row w' g j _ _ (0,0) (by rw [e];exact hblk)]
 have HBE:Hid (B=w0.heap.size):=hB.symm
 have HEND:Hid (∀w' v,Below B w0 w'→w'.ownsRow B 135 4 v (putR xs f).length (cellsF (putR xs f))→w'.ownsRow g 135 4 v (putR xs f).length (cellsF (putR xs f))∧Below g w w'):=fun w' v hb ho=>by
  refine ⟨⟨ho.1,?_⟩,by rw [←hg];exact hb0.trans (hb.mono (by omega))⟩
  rcases ho.2 with h | ⟨g2,c2,cur,h1,h2,rest⟩
  ·exact .inl h
  ·exact .inr ⟨g2,c2,cur,h1,by omega,rest⟩
 rw [hg];unfold RF.cs at hw0 ⊢;clear h hb0 hblk hgs hB
 go_enter Tryz.func116,Tryz.ntmps116
 go_wp2
 go_loopw [5,6,7] (fun v d i wr=>∃(k:Nat) (db:Bool) (ys:List RF) (vo:Value),vo=v∧k≤xs.length∧i=.int .i64 (k:Int)∧d=.bool db∧PInv xs f k db ys∧wr.ownsRow B 135 4 v ys.length (cellsF ys)∧Below B w0 wr) (fun _ _ i _=>xs.length - (intOf i).toNat)
 case atStart=>exact ⟨0,false,[],_,rfl,by omega,rfl,rfl,.inl ⟨rfl,rfl,by simp⟩,World.ownsRow_nil _ _ _ _,Below.refl _ _⟩
 case round=>
  obtain ⟨k,db,ys,vo,rfl,hk,rfl,rfl,hpi,hown,hbr⟩:=hrel;have hfew:=hpi.few;have gf0:wr.cell? ⟨g,0,none⟩=some (.string f.name):=HG.out wr hbr 0;have gf1:wr.cell? ⟨g,1,none⟩=some (.string f.seen):=HG.out wr hbr 1;have gf2:wr.cell? ⟨g,2,none⟩=some (.string f.safe):=HG.out wr hbr 2;have gf3:wr.cell? ⟨g,3,none⟩=some (.slice f.ad f.ds.length f.cap):=HG.out wr hbr 3
  by_cases hlt:k<xs.length
  ·have dk:decide ((k:Int)<(xs.length:Int))=true:=decide_eq_true (by omega)
   have hk0:(0:Int)≤(k:Int):=by omega
   have hk1:(k:Int)<(xs.length:Int):=by omega
   obtain ⟨b,o,rfl,hbl,hcs0⟩:=(HF.out w0 (Below.refl _ _)).cells hlt
   have HCS:Hid (∀w',Below B w0 w'→∀j,j<4→w'.cell? ⟨b,o+k * 4+j,none⟩=(xs[k].cs)[j]?):=fun w' hb j hj=>by rw [←hcs0 j hj];exact World.cell?_of_block (hb.block b (by rw [HBE.out];exact hbl))
   have hcs:=HCS.out wr hbr;have HSK:=hide (hpi.skip hlt)
   have HMO:Hid (∀ys,PInv xs f k true ys→(xs[k].name.data.toList == f.name.data.toList)=false→PInv xs f (k+1) true (ys++[xs[k]])):=fun ys h=>h.more hlt
   have HPA:Hid (∀ys,PInv xs f k false ys→(xs[k].name.data.toList == f.name.data.toList)=false→bytesBefore f.name.data.toList xs[k].name.data.toList=false→PInv xs f (k+1) false (ys++[xs[k]])):=fun ys h=>h.past hlt
   have HHE:Hid (∀ys,PInv xs f k false ys→(xs[k].name.data.toList == f.name.data.toList)=false→bytesBefore f.name.data.toList xs[k].name.data.toList=true→PInv xs f (k+1) true ((ys++[f])++[xs[k]])):=fun ys h=>h.here hlt
   obtain ⟨x,hx⟩:∃x,xs[k]=x:=⟨_,rfl⟩;rw [hx] at hcs HCS HSK HMO HPA HHE
   have f0:wr.cell? ⟨b,o+k * 4,none⟩=some (.string x.name):=hcs 0 (by omega)
   have f1:wr.cell? ⟨b,o+k * 4+1,none⟩=some (.string x.seen):=hcs 1 (by omega)
   have f2:wr.cell? ⟨b,o+k * 4+2,none⟩=some (.string x.safe):=hcs 2 (by omega)
   have f3:wr.cell? ⟨b,o+k * 4+3,none⟩=some (.slice x.ad x.ds.length x.cap):=hcs 3 (by omega)
   have HPI:=hide hpi;have HO:=hide hown;have HB:=hide hbr;clear hpi hown hbr hcs hx hbl hcs0
   cases hq:(x.name.data.toList == f.name.data.toList) with
   | true=>
    have hb1:(x.name.toList == f.name.toList)=true:=by rw [toList_beq];exact hq
    have HN:=hide (HSK.out hq);clear hq;go_wp2
    go_quiet (fail)
    go_wp2;go_roundw
    case rel=>exact ⟨k+1,db,ys,_,rfl,by omega,by go_num,rfl,HN.out,HO.out,drewN_below HB.out _⟩
    case measure=>simp [intOf];omega
   | false=>
    have hb1:(x.name.toList == f.name.toList)=false:=by rw [toList_beq];exact hq
    have HQ:=hide hq;clear hq HSK
    cases db with
    | true=>
     have HN:=hide (HMO.out ys HPI.out HQ.out);clear HPA HHE HMO;go_wp2
     go_quiet (fail)
     go_wp2
     go_quiet (fail)
     clear f0 f1 f2 f3 gf0 gf1 gf2 gf3;generalize hwd:World.drewN _ _=wd
     have hbd:Below B w0 wd:=by rw [←hwd];exact drewN_below (drewN_below HB.out _) _
     have hod:wd.ownsRow B 135 4 vo ys.length (cellsF ys):=by rw [←hwd];exact HO.out
     clear hwd HB HO;obtain ⟨g2,hg2⟩:∃g,wd.heap.size=g:=⟨_,rfl⟩;obtain ⟨wa2,hwa2⟩:∃w1,wd.alloc (.cells x.cs 135)=w1:=⟨_,rfl⟩
     obtain ⟨v2,w2,hap2,hr2,hb2⟩:=app_file hod (by rw [HBE.out];exact hbd.size) (by omega) x 91 hwa2 hg2
     unfold RF.cs at hwa2
     have e0wd:wd.cell? ⟨b,o+k * 4,none⟩=some (.string x.name):=HCS.out wd hbd 0 (by omega)
     have e1wd:wd.cell? ⟨b,o+k * 4+1,none⟩=some (.string x.seen):=HCS.out wd hbd 1 (by omega)
     have e2wd:wd.cell? ⟨b,o+k * 4+2,none⟩=some (.string x.safe):=HCS.out wd hbd 2 (by omega)
     have e3wd:wd.cell? ⟨b,o+k * 4+3,none⟩=some (.slice x.ad x.ds.length x.cap):=HCS.out wd hbd 3 (by omega)
     have HO2:=hide hr2;have HB2:=hide (hbd.trans hb2);clear hr2 hb2 hod hbd
     go_wp2_with (at_builtin;refine wpList_app rfl _ _ _ rfl hap2 ?_;try go_frame)
     go_roundw
     case rel=>exact ⟨k+1,true,ys++[x],_,rfl,by omega,by go_num,rfl,HN.out,HO2.out,HB2.out⟩
     case measure=>simp [intOf];omega
    | false=>
     cases hbb:bytesBefore f.name.data.toList x.name.data.toList with
     | false=>
      have hlss:Op.bytesLess f.name.toList x.name.toList=false:=by rw [less_before,ByteArray.toList_eq,ByteArray.toList_eq];exact hbb
      have HN:=hide (HPA.out ys HPI.out HQ.out hbb);clear HPA HHE HMO hbb;go_wp2
      go_quiet (fail)
      go_wp2
      go_quiet (fail)
      clear f0 f1 f2 f3 gf0 gf1 gf2 gf3;generalize hwd:World.drewN _ _=wd
      have hbd:Below B w0 wd:=by rw [←hwd];exact drewN_below (drewN_below HB.out _) _
      have hod:wd.ownsRow B 135 4 vo ys.length (cellsF ys):=by rw [←hwd];exact HO.out
      clear hwd HB HO;obtain ⟨g2,hg2⟩:∃g,wd.heap.size=g:=⟨_,rfl⟩;obtain ⟨wa2,hwa2⟩:∃w1,wd.alloc (.cells x.cs 135)=w1:=⟨_,rfl⟩
      obtain ⟨v2,w2,hap2,hr2,hb2⟩:=app_file hod (by rw [HBE.out];exact hbd.size) (by omega) x 91 hwa2 hg2
      unfold RF.cs at hwa2
      have e0wd:wd.cell? ⟨b,o+k * 4,none⟩=some (.string x.name):=HCS.out wd hbd 0 (by omega)
      have e1wd:wd.cell? ⟨b,o+k * 4+1,none⟩=some (.string x.seen):=HCS.out wd hbd 1 (by omega)
      have e2wd:wd.cell? ⟨b,o+k * 4+2,none⟩=some (.string x.safe):=HCS.out wd hbd 2 (by omega)
      have e3wd:wd.cell? ⟨b,o+k * 4+3,none⟩=some (.slice x.ad x.ds.length x.cap):=HCS.out wd hbd 3 (by omega)
      have HO2:=hide hr2;have HB2:=hide (hbd.trans hb2);clear hr2 hb2 hod hbd
      go_wp2_with (at_builtin;refine wpList_app rfl _ _ _ rfl hap2 ?_;try go_frame)
      go_roundw
      case rel=>exact ⟨k+1,false,ys++[x],_,rfl,by omega,by go_num,rfl,HN.out,HO2.out,HB2.out⟩
      case measure=>simp [intOf];omega
     | true=>
      have hlss:Op.bytesLess f.name.toList x.name.toList=true:=by rw [less_before,ByteArray.toList_eq,ByteArray.toList_eq];exact hbb
      have HN:=hide (HHE.out ys HPI.out HQ.out hbb);clear HPA HHE HMO hbb;go_wp2
      go_quiet (fail)
      go_wp2
      go_quiet (fail)
      clear f0 f1 f2 f3 gf0 gf1 gf2 gf3;generalize hwd:World.drewN _ _=wd
      have hbd:Below B w0 wd:=by rw [←hwd];exact drewN_below (drewN_below HB.out _) _
      have hod:wd.ownsRow B 135 4 vo ys.length (cellsF ys):=by rw [←hwd];exact HO.out
      clear hwd HB HO;obtain ⟨g2,hg2⟩:∃g,wd.heap.size=g:=⟨_,rfl⟩;obtain ⟨wa2,hwa2⟩:∃w1,wd.alloc (.cells f.cs 135)=w1:=⟨_,rfl⟩
      obtain ⟨v2,w2,hap2,hr2,hb2⟩:=app_file hod (by rw [HBE.out];exact hbd.size) (by omega) f 91 hwa2 hg2
      unfold RF.cs at hwa2;have g0wd:wd.cell? ⟨g,0,none⟩=some (.string f.name):=HG.out wd hbd 0;have g1wd:wd.cell? ⟨g,1,none⟩=some (.string f.seen):=HG.out wd hbd 1;have g2wd:wd.cell? ⟨g,2,none⟩=some (.string f.safe):=HG.out wd hbd 2;have g3wd:wd.cell? ⟨g,3,none⟩=some (.slice f.ad f.ds.length f.cap):=HG.out wd hbd 3;have hB2:=hbd.trans hb2;obtain ⟨g3,hg3⟩:∃g,w2.heap.size=g:=⟨_,rfl⟩;obtain ⟨wa3,hwa3⟩:∃w1,w2.alloc (.cells x.cs 135)=w1:=⟨_,rfl⟩
      obtain ⟨v3,w3,hap3,hr3,hb3⟩:=app_file hr2 (by rw [HBE.out];exact hB2.size) (by rw [List.length_append];show ys.length+1≤1000;omega) x 91 hwa3 hg3
      unfold RF.cs at hwa3
      have e0w2:w2.cell? ⟨b,o+k * 4,none⟩=some (.string x.name):=HCS.out w2 hB2 0 (by omega)
      have e1w2:w2.cell? ⟨b,o+k * 4+1,none⟩=some (.string x.seen):=HCS.out w2 hB2 1 (by omega)
      have e2w2:w2.cell? ⟨b,o+k * 4+2,none⟩=some (.string x.safe):=HCS.out w2 hB2 2 (by omega)
      have e3w2:w2.cell? ⟨b,o+k * 4+3,none⟩=some (.slice x.ad x.ds.length x.cap):=HCS.out w2 hB2 3 (by omega)
      have HO3:=hide hr3;have HB3:=hide (hB2.trans hb3);clear hr2 hb2 hod hbd hr3 hb3 hB2
      go_wp2_with (first | (at_builtin;refine wpList_app rfl _ _ _ rfl hap2 ?_;try go_frame) | (at_builtin;refine wpList_app rfl _ _ _ rfl hap3 ?_;try go_frame))
      go_roundw
      case rel=>exact ⟨k+1,true,(ys++[f])++[x],_,rfl,by omega,by go_num,rfl,HN.out,HO3.out,HB3.out⟩
      case measure=>simp [intOf];omega
  ·have hkl:k=xs.length:=by omega
   subst hkl
   have dk:decide ((xs.length:Int)<(xs.length:Int))=false:=decide_eq_false (by omega)
   cases db with
   | true=>
    have HE:=hide hpi.end1;have HO:=hide hown;have HB:=hide hbr;clear hpi hown hbr;go_wp2;go_ret
    exact ⟨_,rfl,HEND.out _ _ HB.out (by rw [←HE.out];exact HO.out)⟩
   | false=>
    have HE:=hide hpi.end0;obtain ⟨g2,hg2⟩:∃g,wr.heap.size=g:=⟨_,rfl⟩;obtain ⟨wa2,hwa2⟩:∃w1,wr.alloc (.cells f.cs 135)=w1:=⟨_,rfl⟩
    obtain ⟨v2,w2,hap2,hr2,hb2⟩:=app_file hown (by rw [HBE.out];exact hbr.size) (by omega) f 91 hwa2 hg2
    unfold RF.cs at hwa2;have HO:=hide hr2;have HB:=hide (hbr.trans hb2);clear hpi hown hbr hr2 hb2
    go_wp2_with (at_builtin;refine wpList_app rfl _ _ _ rfl hap2 ?_;try go_frame)
    go_ret
    exact ⟨_,rfl,HEND.out _ _ HB.out (by rw [←HE.out];exact HO.out)⟩
end Go.Proofs.YtjbdncknooeplaaGreatDoor
