import Derived.Test.YtjbdncknooeplaaGreatDoorFits
import Derived.Deep.RegionLaw
namespace Go.Proofs.YtjbdncknooeplaaGreatDoor
open Go.RowKit Go.Maps Go.WideMaps
def Piece (v:Value) (B:Option Nat) (o n:Nat):Prop:=∃ad cp,v=.slice ad n cp∧n≤cp∧(0<n→∃g,B=some g∧ad=some ⟨g,o,none⟩)
theorem Piece.whole {w:World} {v:Value} {l:List UInt8} (h:Bytes w 0 v l):Piece v v.ownBlock 0 l.length:=by
 rcases h.2 with ⟨rfl,hn⟩ | ⟨g,cap,cur,rfl,_,_,hnc,_⟩
 ·exact ⟨none,0,by rw [hn],by omega,fun x=>absurd x (by omega)⟩
 ·exact ⟨some ⟨g,0,none⟩,cap,rfl,hnc,fun _=>⟨g,rfl,rfl⟩⟩
theorem elemB:Tryz.prog.elem 114=5:=by kernel_rfl
theorem undB:Tryz.prog.underlying 114=some (.slice (Tryz.prog.elem 114)):=by kernel_rfl
theorem addr_add (g o k:Nat):(⟨g,o,none⟩:Addr).add k=⟨g,o+k,none⟩:=by unfold Addr.add;split<;>simp_all
theorem run_slice_piece (w:World) {v:Value} {l:List UInt8} (hB:Bytes w 0 v l) (i j:Nat) (hij:i≤j) (hj:j≤l.length) :
 ∃u,(∀w':World,(Instr.slice 114 v (some (.int .i64 (i:Int))) (some (.int .i64 (j:Int))) none).run Tryz.prog w'=.ok u w')∧Piece u v.ownBlock i (j - i):=by
 rcases hB.2 with ⟨rfl,hn⟩ | ⟨g,cap,cur,rfl,_,hg,hnc,hcm,hcs,ht⟩
 ·have e1:l=[]:=List.length_eq_zero_iff.1 hn
  subst e1
  have e2:j=0:=by simpa using hj
  have e3:i=0:=by omega
  subst e2 e3
  refine ⟨.slice none 0 0,fun w'=>?_,none,0,rfl,by omega,fun x=>absurd x (by omega)⟩
  rw [run_slice_lh w' 114 none 0 0 undB .i64 .i64 _ _ (by omega) (by omega) (by omega),elemB,size5]
  simp [sliced]
 ·refine ⟨_,fun w'=>by rw [run_slice_lh w' 114 (some ⟨g,0,none⟩) l.length cap undB .i64 .i64 _ _ (by omega) (by omega) (by omega),elemB,size5];rfl,?_⟩
  unfold sliced
  refine ⟨_,_,by rw [Int.toNat_natCast,Int.toNat_natCast],by omega,fun x=>⟨g,rfl,?_⟩⟩
  rw [if_neg (by omega)]
  simp [addr_add]
theorem run_slice_from (w:World) {v:Value} {l:List UInt8} (hB:Bytes w 0 v l) (i:Nat) (hi:i≤l.length) :
 ∃u,(∀w':World,(Instr.slice 114 v (some (.int .i64 (i:Int))) none none).run Tryz.prog w'=.ok u w')∧Piece u v.ownBlock i (l.length - i):=by
 rcases hB.2 with ⟨rfl,hn⟩ | ⟨g,cap,cur,rfl,_,hg,hnc,hcm,hcs,ht⟩
 ·have e1:l=[]:=List.length_eq_zero_iff.1 hn
  subst e1
  have e3:i=0:=by simpa using hi
  subst e3
  refine ⟨.slice none 0 0,fun w'=>?_,none,0,rfl,by simp,fun x=>absurd x (by simp)⟩
  rw [run_slice_l w' 114 none 0 0 undB .i64 ((0:Nat):Int) (by omega) (by omega),elemB,size5]
  simp [sliced]
 ·refine ⟨_,fun w'=>by rw [run_slice_l w' 114 (some ⟨g,0,none⟩) l.length cap undB .i64 (i:Int) (by omega) (by omega),elemB,size5];rfl,?_⟩
  unfold sliced
  refine ⟨_,_,by rw [Int.toNat_natCast],by omega,fun x=>⟨g,rfl,?_⟩⟩
  rw [if_neg (by omega)]
  simp [addr_add]
theorem run_slice_cut (w:World) {v:Value} {l:List UInt8} (hB:Bytes w 0 v l) (n:Nat) (hn:n≤l.length) :
 ∃u,(∀w':World,(Instr.slice 114 v none (some (.int .i64 (n:Int))) none).run Tryz.prog w'=.ok u w')∧Bytes w 0 u (l.take n)∧u.ownBlock=v.ownBlock:=by
 rcases hB.2 with ⟨rfl,h0⟩ | ⟨g,cap,cur,rfl,hb,hg,hnc,hcm,hcs,ht⟩
 ·have e1:l=[]:=List.length_eq_zero_iff.1 h0
  subst e1
  have e2:n=0:=by simpa using hn
  subst e2
  refine ⟨.slice none 0 0,fun w'=>?_,Bytes.nil _ _,rfl⟩
  rw [run_slice_h w' 114 none 0 0 undB .i64 _ (by omega) (by omega),elemB,size5]
  simp [sliced]
 ·refine ⟨.slice (some ⟨g,0,none⟩) n cap,fun w'=>?_,?_,rfl⟩
  ·rw [run_slice_h w' 114 (some ⟨g,0,none⟩) l.length cap undB .i64 _ (by omega) (by omega),elemB,size5]
   simp only [Result.andThen_ok,sliced,Int.toNat_natCast,Nat.sub_zero]
   congr 2
   split
   ·rfl
   ·simp [addr_add]
  ·have e:(l.take n).length=n:=by rw [List.length_take];omega
   refine ⟨by simp,.inr ⟨g,cap,cur,by rw [e],hb,hg,by rw [e];omega,hcm,hcs,?_⟩⟩
   rw [e,Nat.mul_one] at *
   have h2:cur.toList.take l.length=l.map byteV:=by simpa using ht
   have h3:cur.toList.take n=(cur.toList.take l.length).take n:=by rw [List.take_take,Nat.min_eq_left hn]
   rw [h3,h2,List.map_take]
theorem piece_cells {w:World} {v:Value} {l:List UInt8} {o n:Nat} (hB:Bytes w 0 v l) {g:Nat} (hg:v.ownBlock=some g) (h:o+n≤l.length):∀j x,(((l.drop o).take n).map byteV)[j]?=some x→w.cell? ((⟨g,o,none⟩:Addr).add j)=some x:=by
 intro j x hx
 rcases hB.2 with ⟨rfl,_⟩ | ⟨g',cap,cur,rfl,_,hgg,hnc,hcm,hcs,ht⟩
 ·cases hg
 ·have e:g'=g:=by simpa [Value.ownBlock] using hg
  subst e;rw [addr_add,cell_of_row w g' (o+j) _ 5 (0,0) hgg]
  have h2:cur.toList.take l.length=l.map byteV:=by simpa using ht
  rw [List.getElem?_map] at hx;obtain ⟨c,hc,rfl⟩:=Option.map_eq_some_iff.1 hx
  have hj:j<n:=by
   have:=(List.getElem?_eq_some_iff.1 hc).1
   rw [List.length_take] at this;omega
  rw [List.getElem?_take_of_lt hj,List.getElem?_drop] at hc
  have h4:(l.map byteV)[o+j]?=some (byteV c):=by rw [List.getElem?_map,hc];rfl
  rw [←h2,List.getElem?_take_of_lt (by omega)] at h4
  simpa using h4
theorem bytes_store {w:World} {g cap:Nat} {cur:Array Value} {l cs:List UInt8} {o:Nat} (hb:w.heap[g]?=some (.cells cur 5 (0,0))) (hnc:l.length≤cap) (hcm:cap≤maxLen) (hcs:cur.size=cap * 1) (ht:cur.toList.take (l.length * 1)=l.map byteV) (ho:o+cs.length≤l.length) :
 Bytes (w.setRow g (cur.toList.take o++cs.map byteV++cur.toList.drop (o+(cs.map byteV).length)).toArray) 0 (.slice (some ⟨g,0,none⟩) l.length cap) (l.take o++cs++l.drop (o+cs.length)):=by
 have hl:(l.take o++cs++l.drop (o+cs.length)).length=l.length:=by simp;omega
 refine ⟨by simp,.inr ⟨g,cap,_,by rw [hl],Nat.zero_le _,setRow_heap w g cur _ 5 _ hb,by rw [hl];exact hnc,hcm,?_,?_⟩⟩
 ·simp only [List.size_toArray,List.length_append,List.length_take,List.length_drop,Array.length_toList,List.length_map]
  omega
 ·rw [hl,Nat.mul_one]
  rw [Nat.mul_one] at ht;rw [List.length_map];apply List.ext_getElem?;intro i
  have hz:cur.toList.length=cap:=by rw [Array.length_toList];omega
  by_cases hi:i<l.length
  ·rw [List.getElem?_take_of_lt hi,List.getElem?_map]
   have hcur:∀q,q<l.length→cur.toList[q]?=(l.map byteV)[q]?:=fun q hq=>by rw [←ht,List.getElem?_take_of_lt hq]
   by_cases h1:i<o
   ·rw [List.append_assoc,List.getElem?_append_left (by rw [List.length_take];omega),List.getElem?_take_of_lt h1,hcur i hi,List.append_assoc,List.getElem?_append_left (by rw [List.length_take];omega),List.getElem?_take_of_lt h1,List.getElem?_map]
   ·by_cases h2:i<o+cs.length
    ·rw [List.getElem?_append_left (by simp;omega),List.getElem?_append_right (by rw [List.length_take];omega),List.getElem?_map,List.getElem?_append_left (by simp;omega),List.getElem?_append_right (by rw [List.length_take];omega)]
     simp only [List.length_take]
     congr 2
     omega
    ·rw [List.getElem?_append_right (by simp;omega),List.getElem?_drop,List.getElem?_append_right (by simp;omega),List.getElem?_drop]
     have e1:o+cs.length+(i - (List.take o cur.toList++List.map byteV cs).length)=i:=by simp;omega
     have e2:o+cs.length+(i - (List.take o l++cs).length)=i:=by simp;omega
     rw [e1,e2,hcur i hi,List.getElem?_map]
  ·rw [List.getElem?_take_eq_none (by omega),List.getElem?_map,List.getElem?_eq_none (by rw [hl];omega)]
   rfl
theorem setRow_grown (w:World) (g:Nat) (cs:Array Value):w.grownBy (w.setRow g cs) (some g):=⟨rfl,rfl,rfl,by simp,fun k _ hk=>setRow_other w g k _ (fun e=>hk (by rw [e]))⟩
theorem run_copy_str (w:World) {v d:Value} {l:List UInt8} (hB:Bytes w 0 v l) {o n:Nat} (hd:Piece d v.ownBlock o n) (hfit:o+n≤l.length) (r:ByteArray) :
 ∃w',(∀ty,(Builtin.copy_ #[114,9] ty #[d,.string r]).run Tryz.prog w=.ok (goInt (Nat.min r.size n)) w')∧Bytes w' 0 v (l.take o++r.data.toList.take n++l.drop (o+(r.data.toList.take n).length))∧w.grownBy w' v.ownBlock:=by
 obtain ⟨ad,cp,rfl,_,hpos⟩:=hd;have hq:=size5 w
 have hx:((r.extract 0 (Nat.min r.size n)).data.map fun b:UInt8=>Value.int .u8 (b.toNat:Int)).toList=(r.data.toList.take n).map byteV:=by
  rw [Array.toList_map]
  have:(r.extract 0 (Nat.min r.size n)).data.toList=r.data.toList.take n:=by
   rw [ByteArray.data_extract,Array.toList_extract,List.extract_eq_take_drop,List.drop_zero];have h1:=str_len r
   by_cases h:r.size≤n
   ·rw [show Nat.min r.size n=r.size from Nat.min_eq_left h,Nat.sub_zero,List.take_of_length_le (by omega),List.take_of_length_le (by omega)]
   ·rw [show Nat.min r.size n=n from Nat.min_eq_right (by omega),Nat.sub_zero]
  rw [this];rfl
 by_cases hz:Nat.min r.size n=0
 ·have h0:r.data.toList.take n=[]:=by
   have h1:=str_len r;apply List.length_eq_zero_iff.1;rw [List.length_take,h1,Nat.min_comm];exact hz
  refine ⟨w,fun ty=>?_,?_,⟨rfl,rfl,rfl,Nat.le_refl _,fun _ _ _=>rfl⟩⟩
  ·rw [h0] at hx
   cases ad with
   | none=>simp [Builtin.copy_,run_underlying Tryz.underlying114,Builtin.lenOf,Builtin.firstCells,hq,hz]
   | some a=>simp [Builtin.copy_,run_underlying Tryz.underlying114,Builtin.lenOf,Builtin.firstCells,hq,hz,storeCells]
  ·rw [h0]
   simpa using hB
 ·have hn:0<n:=by
   rcases Nat.eq_zero_or_pos n with e | e
   ·exact absurd (by rw [e];exact Nat.min_zero _) hz
   ·exact e
  obtain ⟨g,hg,rfl⟩:=hpos hn;have hB2:=hB
  rcases hB.2 with ⟨rfl,_⟩ | ⟨g',cap,cur,rfl,hb0,hgg,hnc,hcm,hcs,ht⟩
  ·cases hg
  have e:g'=g:=by simpa [Value.ownBlock] using hg
  subst e
  have hlen:(r.data.toList.take n).length=Nat.min r.size n:=by rw [List.length_take,str_len,Nat.min_comm]
  have hle:(r.data.toList.take n).length≤n:=by rw [List.length_take];omega
  have hst:=run_storeCells_at Tryz.prog g' o 5 ((r.data.toList.take n).map byteV) 0 cur w hgg (by rw [List.length_map];omega) (fun v hv=>by
   obtain ⟨i,_,rfl⟩:=List.mem_map.1 hv
   rfl)
  rw [Nat.add_zero] at hst
  refine ⟨_,fun ty=>?_,bytes_store hgg hnc hcm hcs ht (by omega),setRow_grown w g' _⟩
  rw [←hx] at hst;simp only [Builtin.copy_,run_underlying Tryz.underlying114,Builtin.lenOf,Builtin.firstCells,hq,Sem.run_bind,Sem.run_pure,Result.andThen_ok,List.getElem?_toArray,List.getElem?_cons_zero,List.getElem?_cons_succ];rw [hst,hx];rfl
theorem run_copy_bytes (w:World) {v d v2 s:Value} {l l2:List UInt8} (hB:Bytes w 0 v l) {o n:Nat} (hd:Piece d v.ownBlock o n) (hfit:o+n≤l.length) (hB2:Bytes w 0 v2 l2) {o2 m:Nat} (hs:Piece s v2.ownBlock o2 m) (hfit2:o2+m≤l2.length) :
 ∃w',(∀ty,(Builtin.copy_ #[114,114] ty #[d,s]).run Tryz.prog w=.ok (goInt (Nat.min m n)) w')∧Bytes w' 0 v (l.take o++(l2.drop o2).take (Nat.min m n)++l.drop (o+Nat.min m n))∧w.grownBy w' v.ownBlock:=by
 obtain ⟨ad,cp,rfl,_,hpos⟩:=hd;obtain ⟨ad2,cp2,rfl,_,hpos2⟩:=hs;have hq:=size5 w
 by_cases hz:Nat.min m n=0
 ·refine ⟨w,fun ty=>?_,?_,⟨rfl,rfl,rfl,Nat.le_refl _,fun _ _ _=>rfl⟩⟩
  ·cases ad2 with
   | none=>cases ad with
    | none=>simp [Builtin.copy_,run_underlying Tryz.underlying114,Builtin.lenOf,Builtin.firstCells,hq,hz]
    | some a=>simp [Builtin.copy_,run_underlying Tryz.underlying114,Builtin.lenOf,Builtin.firstCells,hq,hz,storeCells]
   | some a2=>
    have hl0:(loadCells a2 0).run Tryz.prog w=.ok #[] w:=by
     have:=run_loadCells_list (P:=Tryz.prog) w a2 [] (fun j v hv=>by simp at hv)
     simpa using this
    cases ad with
    | none=>simp [Builtin.copy_,run_underlying Tryz.underlying114,Builtin.lenOf,Builtin.firstCells,hq,hz,hl0]
    | some a=>simp [Builtin.copy_,run_underlying Tryz.underlying114,Builtin.lenOf,Builtin.firstCells,hq,hz,hl0,storeCells]
  ·rw [hz]
   simpa using hB
 ·have hn:0<n:=by
   rcases Nat.eq_zero_or_pos n with e | e
   ·exact absurd (by rw [e];exact Nat.min_zero _) hz
   ·exact e
  have hm:0<m:=by
   rcases Nat.eq_zero_or_pos m with e | e
   ·exact absurd (by rw [e];exact Nat.zero_min _) hz
   ·exact e
  obtain ⟨g,hg,rfl⟩:=hpos hn;obtain ⟨g2,hg2,rfl⟩:=hpos2 hm;have hle:Nat.min m n≤m:=Nat.min_le_left _ _;have hle':Nat.min m n≤n:=Nat.min_le_right _ _
  have hcl:((l2.drop o2).take (Nat.min m n)).length=Nat.min m n:=by rw [List.length_take,List.length_drop];omega
  have hsrc:=piece_cells (n:=Nat.min m n) hB2 hg2 (by omega:o2+Nat.min m n≤l2.length)
  rcases hB.2 with ⟨rfl,_⟩ | ⟨g',cap,cur,rfl,hb0,hgg,hnc,hcm,hcs,ht⟩
  ·cases hg
  have e:g'=g:=by simpa [Value.ownBlock] using hg
  subst e
  have hrun:=fun ty=>run_copy_row (P:=Tryz.prog) w 114 114 ty 5 g' o n cp ⟨g2,o2,none⟩ m cp2 cur 5 (((l2.drop o2).take (Nat.min m n)).map byteV) Tryz.underlying114 (by kernel_rfl) hgg (by rw [List.length_map,hcl]) hsrc (by rw [List.length_map,hcl];omega) (fun v hv=>by
   obtain ⟨i,_,rfl⟩:=List.mem_map.1 hv
   rfl)
  have hbs:=bytes_store (cs:=(l2.drop o2).take (Nat.min m n)) (o:=o) hgg hnc hcm hcs ht (by rw [hcl];omega)
  rw [hcl] at hbs
  refine ⟨_,fun ty=>?_,hbs,setRow_grown w g' _⟩
  rw [hrun ty,List.length_map,hcl]
theorem run_slice_less {u:Value} {B:Option Nat} {o n:Nat} (hp:Piece u B o n) (k:Nat) (hk:k≤n) :
 ∃u',(∀w':World,(Instr.slice 114 u none (some (.int .i64 (k:Int))) none).run Tryz.prog w'=.ok u' w')∧Piece u' B o k:=by
 obtain ⟨ad,cp,rfl,hnc,hpos⟩:=hp
 refine ⟨.slice ad k cp,fun w'=>?_,ad,cp,rfl,by omega,fun x=>hpos (by omega)⟩
 rw [run_slice_h w' 114 ad n cp undB .i64 _ (by omega) (by omega),elemB,size5]
 simp only [Result.andThen_ok,sliced,Int.toNat_natCast,Nat.sub_zero,Nat.zero_mul]
 congr 2
 split
 ·rfl
 ·cases ad with
  | none=>rfl
  | some a=>
   simp only [Option.map_some]
   congr 1
theorem run_conv_piece (w:World) {v u:Value} {l:List UInt8} {o n:Nat} (hB:Bytes w 0 v l) (hp:Piece u v.ownBlock o n) (h:o+n≤l.length):(convert 114 9 u).run Tryz.prog w=.ok (.string ⟨((l.drop o).take n).toArray⟩) w:=by
 obtain ⟨ad,cp,rfl,_,hpos⟩:=hp
 rcases Nat.eq_zero_or_pos n with e | e
 ·subst e
  cases ad with
  | none=>
   rw [run_convert_bytes_nil w 114 5 Tryz.underlying114 Tryz.underlying5 0 cp 9 Tryz.underlying9]
   simp
   rfl
  | some a=>
   have hl0:(loadCells a 0).run Tryz.prog w=.ok (([]:List Int).map (Value.int .u8)).toArray w:=by
    have:=run_loadCells_list (P:=Tryz.prog) w a [] (fun j v hv=>by simp at hv)
    simpa using this
   rw [run_convert_bytes_string w 114 9 5 _ 0 cp Tryz.underlying114 Tryz.underlying5 Tryz.underlying9,run_bytesToString w a 0 cp [] hl0]
   simp
   rfl
 ·obtain ⟨g,hg,rfl⟩:=hpos e
  have hl:((l.drop o).take n).length=n:=by rw [List.length_take,List.length_drop];omega
  have hc:=piece_cells (n:=n) hB hg h
  have hr:=run_convert_bytes_arg w 114 5 Tryz.underlying114 Tryz.underlying5 g o n cp (((l.drop o).take n).map fun c=>(c.toNat:Int)) (by rw [List.length_map,hl]) (fun i hi=>by
   have hi':i<((l.drop o).take n).length:=by omega
   have:=hc i (byteV (((l.drop o).take n)[i])) (by rw [List.getElem?_map,List.getElem?_eq_getElem hi'];rfl)
   rw [addr_add] at this;rw [this]
   simp only [byteV,List.getD_eq_getElem?_getD,List.getElem?_map,List.getElem?_eq_getElem hi',Option.map_some,Option.getD_some]) 9 Tryz.underlying9
  rw [hr]
  have e2:strOfNums (((l.drop o).take n).map fun c=>(c.toNat:Int))=⟨((l.drop o).take n).toArray⟩:=by
   unfold strOfNums;rw [List.map_map]
   have e3:((l.drop o).take n).map ((fun n:Int=>UInt8.ofNat n.toNat) ∘ fun c:UInt8=>(c.toNat:Int))=(l.drop o).take n:=by
    refine (List.map_congr_left (fun c _=>?_)).trans (List.map_id _)
    simp
   rw [e3]
  rw [e2]
def sFrom (s len:Nat):Nat:=min (64 * s) len
def sTo (s len:Nat):Nat:=min (sFrom s len+64) len
theorem sFrom_le (s len:Nat):sFrom s len≤len:=Nat.min_le_right _ _
theorem sTo_le (s len:Nat):sTo s len≤len:=Nat.min_le_right _ _
theorem sFromTo (s len:Nat):sFrom s len≤sTo s len:=by unfold sTo sFrom;omega
set_option maxRecDepth 5000 in
set_option maxHeartbeats 400000 in
theorem sector_any (w:World) (v:Value) (l:List UInt8) (hB:Bytes w 0 v l) (s:Nat) (hs:s<16384) (hl:l.length≤140737488355328) :
 ∃u,Piece u v.ownBlock (sFrom s l.length) (sTo s l.length - sFrom s l.length)∧∀W:World,Calls Tryz.prog 66 #[v,.int .i64 (s:Int)] W fun e w'=>e=.returned u∧w'=W:=by
 obtain ⟨ad,cp,hv⟩:=hB.shape;obtain ⟨u,hr,hp⟩:=run_slice_piece w hB (sFrom s l.length) (sTo s l.length) (sFromTo _ _) (sTo_le _ _);obtain ⟨n,hn⟩:∃n,l.length=n:=⟨_,rfl⟩;rw [hn] at hr hp hl hv;subst hv;rw [hn]
 refine ⟨u,hp,fun W=>?_⟩
 have hf:(if (n:Int)<(s:Int) * 64 then (n:Int) else (s:Int) * 64)=((sFrom s n:Nat):Int):=by unfold sFrom;split<;>omega
 have ht:(if (n:Int)<((sFrom s n:Nat):Int)+64 then (n:Int) else ((sFrom s n:Nat):Int)+64)=((sTo s n:Nat):Int):=by unfold sTo;split<;>omega
 have h1:((sFrom s n:Nat):Int)≤140737488355328:=by have:=sFrom_le s n;omega
 have hs':(s:Int)<16384:=by omega
 obtain ⟨f,hff⟩:∃f,sFrom s n=f:=⟨_,rfl⟩;obtain ⟨t,htt⟩:∃t,sTo s n=t:=⟨_,rfl⟩;rw [hff] at hf ht hr h1;rw [htt] at ht hr;clear hp hff htt hB
 go_enter Tryz.func66,Tryz.ntmps66
 go_wp2;go_ret;exact ⟨rfl,rfl⟩
theorem src_text (s:ByteArray) (w:World):Src Tryz.prog 1 9 (.string s) s.data.toList.length (s.data.toList.map byteV) w:=by
 rw [str_len];exact Src.ofString w Tryz.underlying9 s
theorem wpList_append_src {ops:Array Oper} {rest:List Oper} {o:Oper} {a:Act} {w:World} {Q:Exit→Act→World→Prop} (hgd:o.guard=none) (sl x:Operand) (tx:TypeId)
 (ho:o.op=.call { callee:=.builtin .append,args:=#[sl,x],argTypes:=#[114,tx] }) (B:Nat) (v:Value) (l:List UInt8) (hs:a.eval sl=v) (hown:Bytes w B v l) (X:Value) (news:List UInt8) (hx:a.eval x=X) (hsrc:Src Tryz.prog 1 tx X news.length (news.map byteV) w)
 (hlen:l.length+news.length≤140737488355328) (hB:B≤w.heap.size)
 (h:∀ad n c w',Bytes w' B (.slice ad n c) (l++news)→Mv w v w' (.slice ad n c)→wpList Tryz.prog ops Q rest (a.put o.dst (.slice ad n c)) w'):wpList Tryz.prog ops Q (o :: rest) a w:=by
 obtain ⟨v',w',hr,h1,h2⟩:=run_append_bytes w B o.type tx v l news hown X hsrc hlen hB;obtain ⟨ad,c,rfl⟩:=h1.shape
 refine wpList_plain hgd fun K hK=>?_
 unfold Oper.wp execOp;simp only [ho,resolve,invoke,builtin,Sem.run_bind,Sem.run_pure,Result.andThen_ok,List.map_toArray,List.map_cons,List.map_nil,hs,hx,hr];exact hK _ _ (h _ _ _ _ h1 h2)
theorem step_append_src {ops:Array Oper} {o:Oper} {a:Act} {w:World} {K:Act→World→Prop} {Q:Exit→Act→World→Prop} {E:Prop} (hgd:o.guard=none) (sl x:Operand) (tx:TypeId)
 (ho:o.op=.call { callee:=.builtin .append,args:=#[sl,x],argTypes:=#[114,tx] }) (v:Value) (l:List UInt8) (hs:a.eval sl=v) (hown:Bytes w 0 v l) (X:Value) (news:List UInt8) (hx:a.eval x=X) (hsrc:Src Tryz.prog 1 tx X news.length (news.map byteV) w)
 (hlen:l.length+news.length≤140737488355328)
 (h:∀ad n c w',Bytes w' 0 (.slice ad n c) (l++news)→Mv w v w' (.slice ad n c)→K (a.put o.dst (.slice ad n c)) w'):if Region.wanted o (yielded ops a.tmps)=true then Oper.wp Tryz.prog o a w K Q else E:=by
 have hw:Region.wanted o (yielded ops a.tmps)=true:=by simp [Region.wanted,hgd]
 rw [if_pos hw];obtain ⟨v',w',hr,h1,h2⟩:=run_append_bytes w 0 o.type tx v l news hown X hsrc hlen (Nat.zero_le _);obtain ⟨ad,c,rfl⟩:=h1.shape;unfold Oper.wp execOp;simp only [ho,resolve,invoke,builtin,Sem.run_bind,Sem.run_pure,Result.andThen_ok,List.map_toArray,List.map_cons,List.map_nil,hs,hx,hr];exact h _ _ _ _ h1 h2
theorem run_slice_str_from (w:World) (s:ByteArray) (i:Nat) (hi:i≤s.size):(Instr.slice 9 (.string s) (some (.int .i64 (i:Int))) none none).run Tryz.prog w=.ok (.string (s.extract i s.size)) w:=by
 simp [Instr.slice,Instr.sliceBounds,Instr.sliceBound,asIntOf,run_underlying Tryz.underlying9,hi]
theorem extract_from (s:ByteArray) (i:Nat):(s.extract i s.size).data.toList=s.data.toList.drop i:=by
 rw [ByteArray.data_extract,Array.toList_extract,List.extract_eq_take_drop,List.take_of_length_le];rw [List.length_drop,str_len];omega
theorem laid_bytes (l t:List UInt8) (a:Nat) (ha:a≤l.length):(l.take a++t.take (l.length - a)++l.drop (a+(t.take (l.length - a)).length))++t.drop (Nat.min t.length (l.length - a))=l.take a++t++l.drop (a+t.length):=by
 by_cases h:t.length≤l.length - a
 ·rw [List.take_of_length_le h,show Nat.min t.length (l.length - a)=t.length from Nat.min_eq_left h,List.drop_length,List.append_nil]
 ·have e1:Nat.min t.length (l.length - a)=l.length - a:=Nat.min_eq_right (by omega)
  have e2:(t.take (l.length - a)).length=l.length - a:=by rw [List.length_take];omega
  rw [e1,e2,List.drop_of_length_le (by omega:l.length≤a+(l.length - a)),List.append_nil,List.append_assoc,List.take_append_drop,List.drop_of_length_le (by omega:l.length≤a+t.length),List.append_nil]
theorem FileAt.drew {w:World} {c:FC} {F:AF} (h:FileAt w c F):FileAt w.drew c F:=h.same (fun _ _=>rfl)
theorem AF.write_ne {F:AF} {a:Nat} {t:List UInt8} (h:t≠[]):F.write a t=⟨F.seen.take a++t++F.seen.drop (a+t.length),F.safe,fun s=>F.dirty s || (decide (a / 64≤s) && decide (s≤(a+t.length - 1) / 64))⟩:=by
 unfold AF.write;rw [if_neg h]
def Marked (D:DataW Unit) (F:AF) (a k:Nat):Prop:=∀s:Int,Maps.has D (.int .i64 s)=(decide (0≤s) && (F.dirty s.toNat || (decide (a≤s.toNat) && decide (s.toNat<k))))
theorem Marked.start {F:AF} (h:F.Ok) (a:Nat):Marked (dirtyD F) F a a:=fun s=>by
 rw [dirty_has h]
 have:(decide (a≤s.toNat) && decide (s.toNat<a))=false:=by
  rw [Bool.and_eq_false_iff,decide_eq_false_iff_not,decide_eq_false_iff_not];omega
 rw [this,Bool.or_false]
theorem Marked.step {D:DataW Unit} {F:AF} {a k:Nat} (h:Marked D F a k) (hD:IsMap D) (hk:a≤k) (d:DataW Unit):Marked (D.put (.int .i64 (k:Int)) d) F a (k+1):=fun s=>by
 by_cases e:s=(k:Int)
 ·subst e
  rw [has_put_same hD (by trivial)]
  have h1:decide (a≤k)=true:=decide_eq_true hk
  simp [h1]
 ·rw [has_put_other (fun x=>e (by cases x;rfl)),h s]
  by_cases h0:0≤s
  ·have h2:(decide (s.toNat<k))=(decide (s.toNat<k+1)):=by rw [decide_eq_decide];omega
   rw [h2]
  ·rw [decide_eq_false h0];rfl
structure Mid (w0:World) (c c':FC) (F:AF) (L M:List UInt8) (w:World):Prop where
 cells:w.heap[c'.g]?=some (.cells #[c'.sv,c'.fv,.map (some c'.dm)] 117 (0,0))
 seen:Bytes w 0 c'.sv L
 safe:Bytes w 0 c'.fv M
 dirty:w.ownsMap Tryz.prog 3 (unitElem (H:=Unit)) c'.dm 16384 (dirtyD F)
 sg:c'.sv.ownBlock≠some c'.g
 fg:c'.fv.ownBlock≠some c'.g
 sf:∀b,c'.sv.ownBlock=some b→c'.fv.ownBlock≠some b
 step:FStep c c' w0 w
theorem Mid.c2 {w0 w:World} {c c':FC} {F:AF} {L M:List UInt8} (h:Mid w0 c c' F L M w):w.cell? ⟨c'.g,2,none⟩=some (.map (some c'.dm)):=by rw [cell_of_row w c'.g 2 _ _ (0,0) h.cells];rfl
theorem Mid.gd {w0 w:World} {c c':FC} {F:AF} {L M:List UInt8} (h:Mid w0 c c' F L M w):c'.g≠c'.dm:=fun e=>by
 obtain ⟨es,ck,hb,_⟩:=h.dirty
 have:=h.cells
 rw [e,hb] at this;cases this
theorem Mid.done {w0 w w':World} {c c':FC} {F:AF} {L M:List UInt8} {d:Nat→Bool} (h:Mid w0 c c' F L M w) (t:Turn (fun b=>b=c'.dm) w w') (hok:AF.Ok ⟨L,M,d⟩) {n:Nat} {D:DataW Unit} (hown:w'.ownsMap Tryz.prog 3 (unitElem (H:=Unit)) c'.dm n D) (hh:∀s:Int,Maps.has D (.int .i64 s)=(decide (0≤s) && d s.toNat)) :
 FileAt w' c' ⟨L,M,d⟩∧FStep c c' w0 w':=by
 obtain ⟨es,ck,hb,_⟩:=h.dirty
 have e:∀b,b<w.heap.size→b≠c'.dm→w'.heap[b]?=w.heap[b]?:=fun b h1 h2=>t.block b h1 h2
 refine ⟨⟨hok,by rw [e _ (lt_of_some h.cells) h.gd];exact h.cells,h.seen.same (fun k hk=>e k (h.seen.lt k hk) (fun x=>h.seen.notMap hb (x▸hk))),h.safe.same (fun k hk=>e k (h.safe.lt k hk) (fun x=>h.safe.notMap hb (x▸hk))),dirty_of_has hown hok hh,h.sg,h.fg,h.sf⟩,?_⟩
 exact h.step.trans (FStep.of_turn (t.mono (fun b hb=>.inr (.inl hb))))
theorem mid_seen {w w1 w2:World} {c:FC} {F:AF} {v2:Value} {L:List UInt8} (h:FileAt w c F) (hg1:w.grownBy w1 c.sv.ownBlock) (hM2:Mv w1.drew c.sv w2 v2) (hB2:Bytes w2 0 v2 L) :
 Mid w c ⟨c.g,c.dm,v2,c.fv⟩ F L F.safe (w2.setCell ⟨c.g,0,none⟩ v2):=by
 have hs1:=hg1.size;have hs2:=hM2.gr.size
 have own:∀b,v2.ownBlock=some b→c.sv.ownBlock=some b∨w.heap.size≤b:=fun b hb=>by
  rcases hM2.own b hb with x | x
  ·exact .inl x
  ·exact .inr (Nat.le_trans hs1 x)
 have k2:∀b,b<w.heap.size→c.sv.ownBlock≠some b→w2.heap[b]?=w.heap[b]?:=fun b hb hn=>
  (hM2.gr.block b (Nat.lt_of_lt_of_le hb hs1) (fun e=>hn e.symm)).trans (hg1.block b hb (fun e=>hn e.symm))
 have hg:=lt_of_some h.cells;have hdm:=h.dirty.lt
 have hv2g:v2.ownBlock≠some c.g:=fun e=>by
  rcases own _ e with x | x
  ·exact h.sg x
  ·omega
 have ec:w2.heap[c.g]?=some (.cells #[c.sv,c.fv,.map (some c.dm)] 117 (0,0)):=by rw [k2 c.g hg h.sg];exact h.cells
 have ne:∀b,b≠c.g→(w2.setCell ⟨c.g,0,none⟩ v2).heap[b]?=w2.heap[b]?:=fun b hb=>Below.heap_setCell w2 ⟨c.g,0,none⟩ v2 b hb
 refine ⟨?_,hB2.same (fun k hk=>ne k (fun e=>hv2g (e▸hk))),h.safe.same (fun k hk=>?_),ownsMap_same h.dirty ?_,hv2g,h.fg,fun b hb hb'=>?_,rfl,?_,fun b hb=>?_⟩
 ·rw [heap_setCell_same w2 c.g 0 _ _ _ ec];rfl
 ·rw [ne k (fun e=>h.fg (e▸hk)),k2 k (h.safe.lt k hk) (fun x=>h.sf k x hk)]
 ·rw [ne c.dm (fun e=>h.gd e.symm),k2 c.dm hdm h.sd]
 ·rcases own b hb with x | x
  ·exact h.sf b x hb'
  ·have:=h.safe.lt b hb';omega
 ·refine ⟨hM2.gr.os.trans hg1.os,hM2.gr.tape.trans hg1.tape,hM2.gr.output.trans hg1.output,by simpa [World.setCell] using Nat.le_trans hs1 hs2,fun b hb hn=>?_⟩
  rw [ne b (fun e=>hn (.inl e)),k2 b hb (fun x=>hn (.inr (.inr (.inl x))))]
 ·rcases hb with rfl | rfl | hb | hb
  ·exact .inl (.inl rfl)
  ·exact .inl (.inr (.inl rfl))
  ·rcases own b hb with x | x
   ·exact .inl (.inr (.inr (.inl x)))
   ·exact .inr x
  ·exact .inl (.inr (.inr (.inr hb)))
theorem wf_nat (k:Nat) (h:k<9223372036854775808):(Lit.int .i64 (k:Int)).wf=true:=WalkArith.wf_i64 (by omega)
theorem wpList_mark {ops:Array Oper} {rest:List Oper} {o:Oper} {a:Act} {Q:Exit→Act→World→Prop} (w:World) (hg:o.guard=none) (m x v:Operand) (hop:o.op=Op.mapUpdate 115 m x v) (dm n:Nat) (D:DataW Unit) (hm:a.eval m=.map (some dm)) (hown:w.ownsMap Tryz.prog 3 (unitElem (H:=Unit)) dm n D) (hn:n<maxLen) (k:Nat) (hk:k<9223372036854775808) (hx:a.eval x=.int .i64 (k:Int)) (hv:a.eval v=.agg #[])
 (hK:∀w',w'.ownsMap Tryz.prog 3 (unitElem (H:=Unit)) dm (n+1) (D.put (.int .i64 (k:Int)) (.agg []))→w.grownBy w' (some dm)→wpList Tryz.prog ops Q rest (a.put o.dst undef) w'):wpList Tryz.prog ops Q (o :: rest) a w:=
 wpList_mapUpdate_own w hg m x v 115 hop 3 119 law3 Tryz.underlying115 unitElem dm n D hm hown hn _ _ _ hx hv (keyOf_int_mk Tryz.underlying3 (wf_nat k hk)) (.agg []) [] unitElem_mk hK
set_option maxRecDepth 5000 in
set_option maxHeartbeats 1000000 in
theorem fwrite_any (w:World) (c:FC) (F:AF) (h:FileAt w c F) (a:Nat) (t:ByteArray) (ha:a≤F.seen.length) (hm:a+t.size≤1048576) :
 Calls Tryz.prog 33 #[.pointer (some ⟨c.g,0,none⟩),.int .i64 (a:Int),.string t] w fun e w'=>e=.returned (.tuple #[])∧∃c',FileAt w' c' (F.write a t.data.toList)∧FStep c c' w w':=by
 by_cases h0:t.size=0
 ·have e:=empty_of_size h0
  subst e;have HH:=hide h;clear h
  have HE:Hid (F.write a (⟨#[]⟩:ByteArray).data.toList=F):=by show _=_;unfold AF.write;rw [if_pos rfl]
  go_enter Tryz.func33,Tryz.ntmps33
  go_wp2
  (try simp only [Exit.inBlock,Exit.then])
  refine bodyPost_ret (results_none rfl _ _ _) rfl ?_;rw [HE.out];exact ⟨rfl,c,HH.out,FStep.refl _ _⟩
 ·have hne:t.data.toList≠[]:=fun e=>h0 (by rw [←str_len,e];rfl)
  have HH:=hide h;have HN:=hide hne;have c0:=h.c0;obtain ⟨u,hsl,hpc⟩:=run_slice_from w h.seen a ha
  obtain ⟨w1,hcp,hB1,hg1⟩:=run_copy_str w h.seen hpc (by omega) t
  obtain ⟨over,hov⟩:∃over,Nat.min t.size (F.seen.length - a)=over:=⟨_,rfl⟩;rw [hov] at hcp
  have hover:over≤t.size:=by rw [←hov];exact Nat.min_le_left _ _
  obtain ⟨ad,cp,hv⟩:=h.seen.shape
  have hts:∀w',(Instr.slice 9 (.string t) (some (.int .i64 (over:Int))) none none).run Tryz.prog w'=.ok (.string (t.extract over t.size)) w':=fun w'=>run_slice_str_from w' t over hover
  have hln:(F.seen.take a++t.data.toList.take (F.seen.length - a)++F.seen.drop (a+(t.data.toList.take (F.seen.length - a)).length)).length+(t.extract over t.size).data.toList.length≤140737488355328:=by
   rw [extract_from,List.length_append,List.length_append,List.length_take,List.length_drop,List.length_drop,List.length_take,str_len];have:=h.ok.most;omega
  have k1:w1.heap[c.g]?=w.heap[c.g]?:=hg1.block c.g (lt_of_some h.cells) (fun e=>h.sg e.symm)
  have d0:w1.cell? ⟨c.g,0,none⟩=some c.sv:=by rw [World.cell?_of_block k1];exact h.c0
  rw [hv] at c0 hsl d0;have HV:=hide hv;have HB1:=hide hB1;have HG1:=hide hg1;have HOV:=hide hov;have HLN:=hide hln;have K1:=hide k1
  have ha64:(a:Int)≤1048576:=by omega
  have hs64:(t.size:Int)≤1048576:=by omega
  have hs1:(1:Int)≤(t.size:Int):=by omega
  have hgs:=lt_of_some h.cells;have hgs1:=hg1.size;clear hne hov hv hg1 hB1 k1 hpc h hln
  have hne2:t.toList.isEmpty=false:=by rw [ByteArray.toList_eq];cases hl:t.data.toList with | nil=>exact absurd hl HN.out | cons _ _=>rfl
  go_enter Tryz.func33,Tryz.ntmps33
  go_wp2
  go_region_law (refine step_append_src rfl _ _ 9 (by rfl) c.sv _ (by rw [HV.out];rfl) (HB1.out.same (fun _ _=>rfl)) (.string (t.extract over t.size)) _ (by rfl) (src_text _ _) HLN.out ?_;intro ad2 N cp2 w2 hB2 hM2;have k2:w2.heap[c.g]?=w.heap[c.g]?:=(hM2.gr.block c.g (Nat.lt_of_lt_of_le hgs hgs1) (fun e=>HH.out.sg e.symm)).trans K1.out;have e0:w2.cell? ⟨c.g,0,none⟩=some c.sv:=(by rw [World.cell?_of_block k2];exact HH.out.c0);have ez:w2.frozen? ⟨c.g,0,none⟩=false:=(by rw [World.frozen?_of_block k2];exact HH.out.fz 0);rw [HV.out] at e0;have HB2:=hide hB2;have HM2:=hide hM2;have K2:=hide k2;clear hB2 hM2 k2)
  rw [extract_from,←HOV.out,←str_len t,laid_bytes _ _ _ ha] at HB2;have hmid:=mid_seen HH.out HG1.out HM2.out HB2.out;clear d0 c0 hsl hcp hts;go_wp2;generalize hW:w2.setCell ⟨c.g,0,none⟩ (.slice ad2 N cp2)=w3 at hmid ⊢;clear hW;obtain ⟨lo,hlo⟩:∃lo,a / 64=lo:=⟨_,rfl⟩;obtain ⟨hi,hhi⟩:∃hi,(a+t.size - 1) / 64=hi:=⟨_,rfl⟩
  have e1:((a:Int) / 64)=(lo:Int):=by omega
  have e2:(((a:Int)+(t.size:Int) - 1) / 64)=(hi:Int):=by omega
  have hlh:lo≤hi:=by omega
  have hhm:hi<16384:=by omega
  go_loopw [8] (fun i wr=>∃(k:Nat) (D:DataW Unit),lo≤k∧k≤hi+1∧i=.int .i64 (k:Int)∧wr.ownsMap Tryz.prog 3 (unitElem (H:=Unit)) c.dm (16384+(k - lo)) D∧Marked D F lo k∧Turn (fun b=>b=c.dm) w3 wr) (fun i _=>hi+1 - (intOf i).toNat)
  case atStart=>exact ⟨lo,dirtyD F,Nat.le_refl _,by omega,by rw [e1],by rw [Nat.sub_self];exact hmid.dirty,Marked.start HH.out.ok lo,Turn.refl _ _⟩
  case round=>
   obtain ⟨k,D,hk1,hk2,rfl,hown,hmk,ht⟩:=hrel;have HO:=hide hown;have HMK:=hide hmk;have HT:=hide ht;have HMD:=hide hmid;have g1:wr.heap[c.g]?=w3.heap[c.g]?:=ht.block c.g (lt_of_some hmid.cells) hmid.gd
   have c2:wr.cell? ⟨c.g,2,none⟩=some (.map (some c.dm)):=by rw [World.cell?_of_block g1];exact hmid.c2
   clear hown hmk ht hmid g1 e0 ez
   by_cases hle:k≤hi
   ·have dk:decide ((k:Int)≤(hi:Int))=true:=decide_eq_true (by omega)
    have hk64:(k:Int)≤16384:=by omega
    go_wp2_with (first | (at_mapUpdate;refine wpList_mark _ rfl _ _ _ rfl c.dm _ _ (by rfl) HO.out (by unfold maxLen;omega) k (by omega) (by rfl) (by rfl) ?_;intro w4 hown4 hgr4;go_frame) | go_in)
    go_roundw
    case rel=>exact ⟨k+1,_,by omega,by omega,by go_num,hown4.mono (by omega),HMK.out.step HO.out.isMap hk1 _,HT.out.trans (Turn.of_grown hgr4) (fun b hb=>.inl (by simpa using hb.symm))⟩
    case measure=>simp [intOf];omega
   ·have hkk:k=hi+1:=by omega
    have dk:decide ((k:Int)≤(hi:Int))=false:=decide_eq_false (by omega)
    go_wp2
    go_end0
    rw [AF.write_ne HN.out]
    have hok:=HH.out.ok.write (t:=t.data.toList) ha (by rw [str_len];exact hm)
    rw [AF.write_ne HN.out] at hok
    refine ⟨rfl,_,HMD.out.done HT.out hok HO.out (fun s=>?_)⟩
    rw [HMK.out s,str_len,hlo,hhi]
    have:decide (s.toNat<k)=decide (s.toNat≤hi):=by rw [decide_eq_decide];omega
    rw [this]
end Go.Proofs.YtjbdncknooeplaaGreatDoor
