import Derived.Test.YtlohfoggcdaeiaaGreatUMath
import Derived.Test.YtlohfoggcdaeiaaGreatUNext
import Derived.Test.YtlohfoggcdaeiaaGreatSStep
import Derived.Test.YtlohfoggcdaeiaaGreatPPut
/-
  STATES, records and what each kind of record is turned into: plain, and in memory (printed by gen_r1.py).
-/
namespace Go.Proofs.YtlohfoggcdaeiaaGreat
open Go.RowKit S
set_option linter.unusedVariables false
set_option linter.unusedSimpArgs false
set_option maxRecDepth 100000
structure Sl where
  ad : Option Addr
  n : Nat
  c : Nat
def Sl.v (s : Sl) : Value := .slice s.ad s.n s.c
def z32 : Nat → UInt8 := fun _ => 0
structure St where
  side : Int
  cap : Int
  bo : Int
  bp : Int
  ours : Sl
  peers : Sl
  loc : Int
  rem : Int
  ack : Int
  ao : Int
  ap : Int
  so : Int
  sp : Int
  ho : Int
  hp : Int
  beh : Bool
  p0 : Nat → UInt8
  p1 : Nat → UInt8
  sig : Nat → UInt8
  shelf : Sl
  fail : Int
  closed : Int
def St.v (s : St) : Nat → Value := fun i => if i < 1 then .int .i64 s.side else if i < 2 then .int .i64 s.cap else if i < 3 then .int .i64 s.bo else if i < 4 then .int .i64 s.bp else if i < 5 then s.ours.v else if i < 6 then s.peers.v else if i < 7 then .int .i64 s.loc else if i < 8 then .int .i64 s.rem else if i < 9 then .int .i64 s.ack else if i < 10 then .int .i64 s.ao else if i < 11 then .int .i64 s.ap else if i < 12 then .int .i64 s.so else if i < 13 then .int .i64 s.sp else if i < 14 then .int .i64 s.ho else if i < 15 then .int .i64 s.hp else if i < 16 then .bool s.beh else if i < 48 then .int .u8 ((s.p0 (i - 16)).toNat : Int) else if i < 80 then .int .u8 ((s.p1 (i - 48)).toNat : Int) else if i < 112 then .int .u8 ((s.sig (i - 80)).toNat : Int) else if i < 113 then s.shelf.v else if i < 114 then .int .i64 s.fail else .int .i64 s.closed
def St.zero : St := ⟨0, 0, 0, 0, ⟨none, 0, 0⟩, ⟨none, 0, 0⟩, 0, 0, 0, 0, 0, 0, 0, 0, 0, false, fun _ => 0, fun _ => 0, fun _ => 0, ⟨none, 0, 0⟩, 0, 0⟩
theorem St.v_side (s : St) : s.v 0 = .int .i64 s.side := rfl
theorem St.v_cap (s : St) : s.v 1 = .int .i64 s.cap := rfl
theorem St.v_bo (s : St) : s.v 2 = .int .i64 s.bo := rfl
theorem St.v_bp (s : St) : s.v 3 = .int .i64 s.bp := rfl
theorem St.v_ours (s : St) : s.v 4 = s.ours.v := rfl
theorem St.v_peers (s : St) : s.v 5 = s.peers.v := rfl
theorem St.v_loc (s : St) : s.v 6 = .int .i64 s.loc := rfl
theorem St.v_rem (s : St) : s.v 7 = .int .i64 s.rem := rfl
theorem St.v_ack (s : St) : s.v 8 = .int .i64 s.ack := rfl
theorem St.v_ao (s : St) : s.v 9 = .int .i64 s.ao := rfl
theorem St.v_ap (s : St) : s.v 10 = .int .i64 s.ap := rfl
theorem St.v_so (s : St) : s.v 11 = .int .i64 s.so := rfl
theorem St.v_sp (s : St) : s.v 12 = .int .i64 s.sp := rfl
theorem St.v_ho (s : St) : s.v 13 = .int .i64 s.ho := rfl
theorem St.v_hp (s : St) : s.v 14 = .int .i64 s.hp := rfl
theorem St.v_beh (s : St) : s.v 15 = .bool s.beh := rfl
theorem St.v_p0 (s : St) (i : Nat) (hi : i < 32) : s.v (16 + i) = bv s.p0 i := by
  unfold St.v bv
  rw [if_neg (by omega), if_neg (by omega), if_neg (by omega), if_neg (by omega), if_neg (by omega), if_neg (by omega), if_neg (by omega), if_neg (by omega), if_neg (by omega), if_neg (by omega), if_neg (by omega), if_neg (by omega), if_neg (by omega), if_neg (by omega), if_neg (by omega), if_neg (by omega), if_pos (by omega), show 16 + i - 16 = i by omega]
theorem St.v_p1 (s : St) (i : Nat) (hi : i < 32) : s.v (48 + i) = bv s.p1 i := by
  unfold St.v bv
  rw [if_neg (by omega), if_neg (by omega), if_neg (by omega), if_neg (by omega), if_neg (by omega), if_neg (by omega), if_neg (by omega), if_neg (by omega), if_neg (by omega), if_neg (by omega), if_neg (by omega), if_neg (by omega), if_neg (by omega), if_neg (by omega), if_neg (by omega), if_neg (by omega), if_neg (by omega), if_pos (by omega), show 48 + i - 48 = i by omega]
theorem St.v_sig (s : St) (i : Nat) (hi : i < 32) : s.v (80 + i) = bv s.sig i := by
  unfold St.v bv
  rw [if_neg (by omega), if_neg (by omega), if_neg (by omega), if_neg (by omega), if_neg (by omega), if_neg (by omega), if_neg (by omega), if_neg (by omega), if_neg (by omega), if_neg (by omega), if_neg (by omega), if_neg (by omega), if_neg (by omega), if_neg (by omega), if_neg (by omega), if_neg (by omega), if_neg (by omega), if_neg (by omega), if_pos (by omega), show 80 + i - 80 = i by omega]
theorem St.v_shelf (s : St) : s.v 112 = s.shelf.v := rfl
theorem St.v_fail (s : St) : s.v 113 = .int .i64 s.fail := rfl
theorem St.v_closed (s : St) : s.v 114 = .int .i64 s.closed := rfl
theorem oneSt (s : St) (i : Nat) : (s.v i).oneCell' = true := by
  unfold St.v
  by_cases h0 : i < 1
  · rw [if_pos h0]; rfl
  rw [if_neg h0]
  by_cases h1 : i < 2
  · rw [if_pos h1]; rfl
  rw [if_neg h1]
  by_cases h2 : i < 3
  · rw [if_pos h2]; rfl
  rw [if_neg h2]
  by_cases h3 : i < 4
  · rw [if_pos h3]; rfl
  rw [if_neg h3]
  by_cases h4 : i < 5
  · rw [if_pos h4]; rfl
  rw [if_neg h4]
  by_cases h5 : i < 6
  · rw [if_pos h5]; rfl
  rw [if_neg h5]
  by_cases h6 : i < 7
  · rw [if_pos h6]; rfl
  rw [if_neg h6]
  by_cases h7 : i < 8
  · rw [if_pos h7]; rfl
  rw [if_neg h7]
  by_cases h8 : i < 9
  · rw [if_pos h8]; rfl
  rw [if_neg h8]
  by_cases h9 : i < 10
  · rw [if_pos h9]; rfl
  rw [if_neg h9]
  by_cases h10 : i < 11
  · rw [if_pos h10]; rfl
  rw [if_neg h10]
  by_cases h11 : i < 12
  · rw [if_pos h11]; rfl
  rw [if_neg h11]
  by_cases h12 : i < 13
  · rw [if_pos h12]; rfl
  rw [if_neg h12]
  by_cases h13 : i < 14
  · rw [if_pos h13]; rfl
  rw [if_neg h13]
  by_cases h14 : i < 15
  · rw [if_pos h14]; rfl
  rw [if_neg h14]
  by_cases h15 : i < 16
  · rw [if_pos h15]; rfl
  rw [if_neg h15]
  by_cases h16 : i < 48
  · rw [if_pos h16]; rfl
  rw [if_neg h16]
  by_cases h17 : i < 80
  · rw [if_pos h17]; rfl
  rw [if_neg h17]
  by_cases h18 : i < 112
  · rw [if_pos h18]; rfl
  rw [if_neg h18]
  by_cases h19 : i < 113
  · rw [if_pos h19]; rfl
  rw [if_neg h19]
  by_cases h20 : i < 114
  · rw [if_pos h20]; rfl
  rw [if_neg h20]
  rfl
theorem infoSt : (Tryz.prog.info? 31).map (·.size) = some 115 := by kernel_rfl
theorem zeroSt : Tryz.zeroCells31 = tabv St.zero.v 115 := by kernel_rfl
theorem newSt (w5 : World) (s : St) : ∃ w6 w7, w5.alloc (.cells Tryz.zeroCells31 31) = w6 ∧ Has w6 w5.heap.size 31 St.zero.v 115 ∧ w6.setRow w5.heap.size (tabv s.v 115) = w7 ∧ Has w7 w5.heap.size 31 s.v 115 ∧ Below w5.heap.size w5 w7 := by
  have q1 : Has (w5.alloc (.cells (tabv St.zero.v 115) 31)) w5.heap.size 31 St.zero.v 115 := Has.new w5 31 St.zero.v 115 _ rfl
  have b1 : Below w5.heap.size w5 (w5.alloc (.cells (tabv St.zero.v 115) 31)) := (Below.refl w5.heap.size w5).alloc (Nat.le_refl _) _
  exact ⟨_, _, by rw [zeroSt], q1, rfl, q1.row _ s.v rfl, below_setRow b1 (Nat.le_refl _) _⟩
theorem wpList_storeSt {ops : Array Oper} {rest : List Oper} {o : Oper} {a : Act} {w : World} {Q : Exit → Act → World → Prop} (hgd : o.guard = none) (x y : Operand) (ho : o.op = .store 31 x y) (hd : o.dst = none) (g : Nat) (s : St) (hx : a.eval x = .pointer (some ⟨g, 0, none⟩)) (hy : a.eval y = .agg (tabv s.v 115)) (f : Nat → Value) (hg : Has w g 31 f 115)
    (hk : wpList Tryz.prog ops Q rest a (w.setRow g (tabv s.v 115))) : wpList Tryz.prog ops Q (o :: rest) a w :=
  wpList_store_part hgd 31 x y ho hd g 0 s.v 115 hx hy 31 f 115 hg (by omega) infoSt (fun i _ => oneSt s i) s.v (fun i hi => by unfold splice; rw [if_pos (by omega), Nat.sub_zero]) hk
structure Rc where
  kind : Int
  upd : Upd
  upds : Sl
  idx : Int
  co : Int
  cp : Int
  sig : Nat → UInt8
  sec : Nat → UInt8
  pt : Nat → UInt8
  code : Int
def Rc.v (s : Rc) : Nat → Value := fun i => if i < 1 then .int .i64 s.kind else if i < 37 then s.upd.v (i - 1) else if i < 38 then s.upds.v else if i < 39 then .int .i64 s.idx else if i < 40 then .int .i64 s.co else if i < 41 then .int .i64 s.cp else if i < 73 then .int .u8 ((s.sig (i - 41)).toNat : Int) else if i < 105 then .int .u8 ((s.sec (i - 73)).toNat : Int) else if i < 137 then .int .u8 ((s.pt (i - 105)).toNat : Int) else .int .i64 s.code
def Rc.zero : Rc := ⟨0, Upd.zero, ⟨none, 0, 0⟩, 0, 0, 0, fun _ => 0, fun _ => 0, fun _ => 0, 0⟩
theorem Rc.v_kind (s : Rc) : s.v 0 = .int .i64 s.kind := rfl
theorem Rc.v_upd (s : Rc) (i : Nat) (hi : i < 36) : s.v (1 + i) = s.upd.v i := by
  unfold Rc.v
  rw [if_neg (by omega), if_pos (by omega), show 1 + i - 1 = i by omega]
theorem Rc.v_upds (s : Rc) : s.v 37 = s.upds.v := rfl
theorem Rc.v_idx (s : Rc) : s.v 38 = .int .i64 s.idx := rfl
theorem Rc.v_co (s : Rc) : s.v 39 = .int .i64 s.co := rfl
theorem Rc.v_cp (s : Rc) : s.v 40 = .int .i64 s.cp := rfl
theorem Rc.v_sig (s : Rc) (i : Nat) (hi : i < 32) : s.v (41 + i) = bv s.sig i := by
  unfold Rc.v bv
  rw [if_neg (by omega), if_neg (by omega), if_neg (by omega), if_neg (by omega), if_neg (by omega), if_neg (by omega), if_pos (by omega), show 41 + i - 41 = i by omega]
theorem Rc.v_sec (s : Rc) (i : Nat) (hi : i < 32) : s.v (73 + i) = bv s.sec i := by
  unfold Rc.v bv
  rw [if_neg (by omega), if_neg (by omega), if_neg (by omega), if_neg (by omega), if_neg (by omega), if_neg (by omega), if_neg (by omega), if_pos (by omega), show 73 + i - 73 = i by omega]
theorem Rc.v_pt (s : Rc) (i : Nat) (hi : i < 32) : s.v (105 + i) = bv s.pt i := by
  unfold Rc.v bv
  rw [if_neg (by omega), if_neg (by omega), if_neg (by omega), if_neg (by omega), if_neg (by omega), if_neg (by omega), if_neg (by omega), if_neg (by omega), if_pos (by omega), show 105 + i - 105 = i by omega]
theorem Rc.v_code (s : Rc) : s.v 137 = .int .i64 s.code := rfl
theorem oneRc (s : Rc) (i : Nat) : (s.v i).oneCell' = true := by
  unfold Rc.v
  by_cases h0 : i < 1
  · rw [if_pos h0]; rfl
  rw [if_neg h0]
  by_cases h1 : i < 37
  · rw [if_pos h1]; exact oneV _ _
  rw [if_neg h1]
  by_cases h2 : i < 38
  · rw [if_pos h2]; rfl
  rw [if_neg h2]
  by_cases h3 : i < 39
  · rw [if_pos h3]; rfl
  rw [if_neg h3]
  by_cases h4 : i < 40
  · rw [if_pos h4]; rfl
  rw [if_neg h4]
  by_cases h5 : i < 41
  · rw [if_pos h5]; rfl
  rw [if_neg h5]
  by_cases h6 : i < 73
  · rw [if_pos h6]; rfl
  rw [if_neg h6]
  by_cases h7 : i < 105
  · rw [if_pos h7]; rfl
  rw [if_neg h7]
  by_cases h8 : i < 137
  · rw [if_pos h8]; rfl
  rw [if_neg h8]
  rfl
theorem infoRc : (Tryz.prog.info? 38).map (·.size) = some 138 := by kernel_rfl
theorem zeroRc : Tryz.zeroCells38 = tabv Rc.zero.v 138 := by kernel_rfl
theorem newRc (w5 : World) (s : Rc) : ∃ w6 w7, w5.alloc (.cells Tryz.zeroCells38 38) = w6 ∧ Has w6 w5.heap.size 38 Rc.zero.v 138 ∧ w6.setRow w5.heap.size (tabv s.v 138) = w7 ∧ Has w7 w5.heap.size 38 s.v 138 ∧ Below w5.heap.size w5 w7 := by
  have q1 : Has (w5.alloc (.cells (tabv Rc.zero.v 138) 38)) w5.heap.size 38 Rc.zero.v 138 := Has.new w5 38 Rc.zero.v 138 _ rfl
  have b1 : Below w5.heap.size w5 (w5.alloc (.cells (tabv Rc.zero.v 138) 38)) := (Below.refl w5.heap.size w5).alloc (Nat.le_refl _) _
  exact ⟨_, _, by rw [zeroRc], q1, rfl, q1.row _ s.v rfl, below_setRow b1 (Nat.le_refl _) _⟩
theorem wpList_storeRc {ops : Array Oper} {rest : List Oper} {o : Oper} {a : Act} {w : World} {Q : Exit → Act → World → Prop} (hgd : o.guard = none) (x y : Operand) (ho : o.op = .store 38 x y) (hd : o.dst = none) (g : Nat) (s : Rc) (hx : a.eval x = .pointer (some ⟨g, 0, none⟩)) (hy : a.eval y = .agg (tabv s.v 138)) (f : Nat → Value) (hg : Has w g 38 f 138)
    (hk : wpList Tryz.prog ops Q rest a (w.setRow g (tabv s.v 138))) : wpList Tryz.prog ops Q (o :: rest) a w :=
  wpList_store_part hgd 38 x y ho hd g 0 s.v 138 hx hy 38 f 138 hg (by omega) infoRc (fun i _ => oneRc s i) s.v (fun i hi => by unfold splice; rw [if_pos (by omega), Nat.sub_zero]) hk
structure Sg where
  x : Int
  a : Int
  b : Int
def Sg.v (s : Sg) : Nat → Value := fun i => if i < 1 then .int .i64 s.x else if i < 2 then .int .i64 s.a else .int .i64 s.b
def Sg.zero : Sg := ⟨0, 0, 0⟩
theorem Sg.v_x (s : Sg) : s.v 0 = .int .i64 s.x := rfl
theorem Sg.v_a (s : Sg) : s.v 1 = .int .i64 s.a := rfl
theorem Sg.v_b (s : Sg) : s.v 2 = .int .i64 s.b := rfl
theorem oneSg (s : Sg) (i : Nat) : (s.v i).oneCell' = true := by
  unfold Sg.v
  by_cases h0 : i < 1
  · rw [if_pos h0]; rfl
  rw [if_neg h0]
  by_cases h1 : i < 2
  · rw [if_pos h1]; rfl
  rw [if_neg h1]
  rfl
theorem infoSg : (Tryz.prog.info? 101).map (·.size) = some 3 := by kernel_rfl
theorem wpList_storeSg {ops : Array Oper} {rest : List Oper} {o : Oper} {a : Act} {w : World} {Q : Exit → Act → World → Prop} (hgd : o.guard = none) (x y : Operand) (ho : o.op = .store 101 x y) (hd : o.dst = none) (g : Nat) (s : Sg) (hx : a.eval x = .pointer (some ⟨g, 0, none⟩)) (hy : a.eval y = .agg (tabv s.v 3)) (f : Nat → Value) (hg : Has w g 101 f 3)
    (hk : wpList Tryz.prog ops Q rest a (w.setRow g (tabv s.v 3))) : wpList Tryz.prog ops Q (o :: rest) a w :=
  wpList_store_part hgd 101 x y ho hd g 0 s.v 3 hx hy 101 f 3 hg (by omega) infoSg (fun i _ => oneSg s i) s.v (fun i hi => by unfold splice; rw [if_pos (by omega), Nat.sub_zero]) hk
structure Cm where
  x : Int
  l : Sl
  h : Nat → UInt8
def Cm.v (s : Cm) : Nat → Value := fun i => if i < 1 then .int .i64 s.x else if i < 2 then s.l.v else .int .u8 ((s.h (i - 2)).toNat : Int)
def Cm.zero : Cm := ⟨0, ⟨none, 0, 0⟩, fun _ => 0⟩
theorem Cm.v_x (s : Cm) : s.v 0 = .int .i64 s.x := rfl
theorem Cm.v_l (s : Cm) : s.v 1 = s.l.v := rfl
theorem Cm.v_h (s : Cm) (i : Nat) (hi : i < 32) : s.v (2 + i) = bv s.h i := by
  unfold Cm.v bv
  rw [if_neg (by omega), if_neg (by omega), show 2 + i - 2 = i by omega]
theorem oneCm (s : Cm) (i : Nat) : (s.v i).oneCell' = true := by
  unfold Cm.v
  by_cases h0 : i < 1
  · rw [if_pos h0]; rfl
  rw [if_neg h0]
  by_cases h1 : i < 2
  · rw [if_pos h1]; rfl
  rw [if_neg h1]
  rfl
theorem infoCm : (Tryz.prog.info? 103).map (·.size) = some 34 := by kernel_rfl
theorem wpList_storeCm {ops : Array Oper} {rest : List Oper} {o : Oper} {a : Act} {w : World} {Q : Exit → Act → World → Prop} (hgd : o.guard = none) (x y : Operand) (ho : o.op = .store 103 x y) (hd : o.dst = none) (g : Nat) (s : Cm) (hx : a.eval x = .pointer (some ⟨g, 0, none⟩)) (hy : a.eval y = .agg (tabv s.v 34)) (f : Nat → Value) (hg : Has w g 103 f 34)
    (hk : wpList Tryz.prog ops Q rest a (w.setRow g (tabv s.v 34))) : wpList Tryz.prog ops Q (o :: rest) a w :=
  wpList_store_part hgd 103 x y ho hd g 0 s.v 34 hx hy 103 f 34 hg (by omega) infoCm (fun i _ => oneCm s i) s.v (fun i hi => by unfold splice; rw [if_pos (by omega), Nat.sub_zero]) hk
structure Rv where
  x : Int
  h : Nat → UInt8
  k : Nat → UInt8
def Rv.v (s : Rv) : Nat → Value := fun i => if i < 1 then .int .i64 s.x else if i < 33 then .int .u8 ((s.h (i - 1)).toNat : Int) else .int .u8 ((s.k (i - 33)).toNat : Int)
def Rv.zero : Rv := ⟨0, fun _ => 0, fun _ => 0⟩
theorem Rv.v_x (s : Rv) : s.v 0 = .int .i64 s.x := rfl
theorem Rv.v_h (s : Rv) (i : Nat) (hi : i < 32) : s.v (1 + i) = bv s.h i := by
  unfold Rv.v bv
  rw [if_neg (by omega), if_pos (by omega), show 1 + i - 1 = i by omega]
theorem Rv.v_k (s : Rv) (i : Nat) (hi : i < 32) : s.v (33 + i) = bv s.k i := by
  unfold Rv.v bv
  rw [if_neg (by omega), if_neg (by omega), show 33 + i - 33 = i by omega]
theorem oneRv (s : Rv) (i : Nat) : (s.v i).oneCell' = true := by
  unfold Rv.v
  by_cases h0 : i < 1
  · rw [if_pos h0]; rfl
  rw [if_neg h0]
  by_cases h1 : i < 33
  · rw [if_pos h1]; rfl
  rw [if_neg h1]
  rfl
theorem infoRv : (Tryz.prog.info? 105).map (·.size) = some 65 := by kernel_rfl
theorem wpList_storeRv {ops : Array Oper} {rest : List Oper} {o : Oper} {a : Act} {w : World} {Q : Exit → Act → World → Prop} (hgd : o.guard = none) (x y : Operand) (ho : o.op = .store 105 x y) (hd : o.dst = none) (g : Nat) (s : Rv) (hx : a.eval x = .pointer (some ⟨g, 0, none⟩)) (hy : a.eval y = .agg (tabv s.v 65)) (f : Nat → Value) (hg : Has w g 105 f 65)
    (hk : wpList Tryz.prog ops Q rest a (w.setRow g (tabv s.v 65))) : wpList Tryz.prog ops Q (o :: rest) a w :=
  wpList_store_part hgd 105 x y ho hd g 0 s.v 65 hx hy 105 f 65 hg (by omega) infoRv (fun i _ => oneRv s i) s.v (fun i hi => by unfold splice; rw [if_pos (by omega), Nat.sub_zero]) hk
end Go.Proofs.YtlohfoggcdaeiaaGreat
/-
  RECORDS: which are valid, their bytes.
-/
namespace Go.Proofs.YtlohfoggcdaeiaaGreat
open Go.RowKit S
set_option linter.unusedVariables false
set_option linter.unusedSimpArgs false
open Cu (nb be hl ofL RS takeS takeA hOf nil8 num doneS)
def idxB (n : Int) : Bool := decide (0 ≤ n) && decide (n ≤ 281474976710655)
def cntB (n : Int) : Bool := decide (0 ≤ n) && decide (n ≤ 2048)
def codB (n : Int) : Bool := decide (1 ≤ n) && decide (n ≤ 65535)
theorem idxB_iff (n : Int) : idxB n = true ↔ 0 ≤ n ∧ n ≤ 281474976710655 := by unfold idxB; simp
theorem cntB_iff (n : Int) : cntB n = true ↔ 0 ≤ n ∧ n ≤ 2048 := by unfold cntB; simp
theorem codB_iff (n : Int) : codB n = true ↔ 1 ≤ n ∧ n ≤ 65535 := by unfold codB; simp
def nilS : Sl := ⟨none, 0, 0⟩
/-- What is left of a record when the fields of its kind are taken out. -/
def strip (r : Rc) : Rc :=
  if r.kind = 1 then ⟨r.kind, Upd.zero, r.upds, r.idx, r.co, r.cp, r.sig, r.sec, r.pt, r.code⟩
  else if r.kind = 2 then ⟨r.kind, r.upd, r.upds, 0, 0, 0, r.sig, r.sec, r.pt, r.code⟩
  else if r.kind = 3 then ⟨r.kind, r.upd, nilS, 0, r.co, r.cp, z32, r.sec, r.pt, r.code⟩
  else if r.kind = 4 then ⟨r.kind, r.upd, r.upds, 0, r.co, r.cp, r.sig, z32, z32, r.code⟩
  else if r.kind = 5 then ⟨r.kind, r.upd, r.upds, r.idx, r.co, r.cp, r.sig, r.sec, r.pt, 0⟩
  else ⟨r.kind, r.upd, r.upds, 0, r.co, r.cp, r.sig, r.sec, r.pt, r.code⟩
def bareB (r : Rc) : Bool := eqU r.upd Upd.zero && (((r.upds.n : Int) == 0) && ((r.idx == 0) && (((r.co == 0) && (r.cp == 0)) && (eqH r.sig z32 && (eqH r.sec z32 && (eqH r.pt z32 && (r.code == 0)))))))
def ownV (r : Rc) (l : List Upd) : Bool :=
  if r.kind = 1 then validB r.upd
  else if r.kind = 2 then idxB r.idx && (cntB r.co && cntB r.cp)
  else if r.kind = 3 then idxB r.idx && (decide (r.upds.n ≤ 512) && l.all validB)
  else if r.kind = 4 then idxB r.idx
  else if r.kind = 5 then codB r.code
  else idxB r.idx
def isRec (k : Int) : Bool := decide (1 ≤ k) && decide (k ≤ 6)
def validR (r : Rc) (l : List Upd) : Bool := isRec r.kind && (bareB (strip r) && ownV r l)
/-- A record as its kind's own value. -/
def chV (r : Rc) : Value :=
  if r.kind = 1 then .iface 99 (.agg (tabv r.upd.v 36))
  else if r.kind = 2 then .iface 101 (.agg (tabv (Sg.v ⟨r.idx, r.co, r.cp⟩) 3))
  else if r.kind = 3 then .iface 103 (.agg (tabv (Cm.v ⟨r.idx, r.upds, r.sig⟩) 34))
  else if r.kind = 4 then .iface 105 (.agg (tabv (Rv.v ⟨r.idx, r.sec, r.pt⟩) 65))
  else if r.kind = 5 then .iface 107 (.agg #[.int .i64 r.code])
  else if r.kind = 6 then .iface 109 (.agg #[.int .i64 r.idx])
  else .nilIface
end Go.Proofs.YtlohfoggcdaeiaaGreat
/-
  What makes a record valid: isIndex, isCount, each kind's valid (printed by gen_r2.py).
-/
namespace Go.Proofs.YtlohfoggcdaeiaaGreat
open Go.RowKit S
set_option linter.unusedVariables false
set_option linter.unusedSimpArgs false
open Cu (nb be hl ofL CW Mw CR Mr RS takeS takeA hOf nil8 num doneS)
set_option maxRecDepth 100000 in
set_option maxHeartbeats 40000000 in
theorem isIndex_any (n : Int) (w : World) : Calls Tryz.prog 158 #[.int .i64 n] w fun e w' => e = .returned (.bool (idxB n)) ∧ w = w' := by
  unfold idxB
  cases d1 : decide (0 ≤ n) with
  | false =>
    go_enter Tryz.func158, Tryz.ntmps158
    go_wp2
    go_ret
    exact ⟨rfl, rfl⟩
  | true =>
    cases d2 : decide (n ≤ 281474976710655) with
    | false =>
      go_enter Tryz.func158, Tryz.ntmps158
      go_wp2
      go_ret
      exact ⟨rfl, rfl⟩
    | true =>
      go_enter Tryz.func158, Tryz.ntmps158
      go_wp2
      go_ret
      exact ⟨rfl, rfl⟩
set_option maxRecDepth 100000 in
set_option maxHeartbeats 40000000 in
theorem isCount_any (n : Int) (w : World) : Calls Tryz.prog 159 #[.int .i64 n] w fun e w' => e = .returned (.bool (cntB n)) ∧ w = w' := by
  unfold cntB
  cases d1 : decide (0 ≤ n) with
  | false =>
    go_enter Tryz.func159, Tryz.ntmps159
    go_wp2
    go_ret
    exact ⟨rfl, rfl⟩
  | true =>
    cases d2 : decide (n ≤ 2048) with
    | false =>
      go_enter Tryz.func159, Tryz.ntmps159
      go_wp2
      go_ret
      exact ⟨rfl, rfl⟩
    | true =>
      go_enter Tryz.func159, Tryz.ntmps159
      go_wp2
      go_ret
      exact ⟨rfl, rfl⟩
/-- A new variable that takes an update, with the world between. -/
theorem newU2 (w5 : World) (s : Upd) : ∃ w6 w7, w5.alloc (.cells #[.int .i64 0, .int .i64 0, .int .i64 0, .int .u8 0, .int .u8 0, .int .u8 0, .int .u8 0, .int .u8 0, .int .u8 0, .int .u8 0, .int .u8 0, .int .u8 0, .int .u8 0, .int .u8 0, .int .u8 0, .int .u8 0, .int .u8 0, .int .u8 0, .int .u8 0, .int .u8 0, .int .u8 0, .int .u8 0, .int .u8 0, .int .u8 0, .int .u8 0, .int .u8 0, .int .u8 0, .int .u8 0, .int .u8 0, .int .u8 0, .int .u8 0, .int .u8 0, .int .u8 0, .int .u8 0, .int .u8 0, .string { data := #[] }] 36) = w6 ∧ Has w6 w5.heap.size 36 Upd.zero.v 36 ∧ w6.setRow w5.heap.size (tabv s.v 36) = w7 ∧ Has w7 w5.heap.size 36 s.v 36 ∧ Below w5.heap.size w5 w7 ∧ Below w5.heap.size w5 w6 := by
  have q1 : Has (w5.alloc (.cells (tabv Upd.zero.v 36) 36)) w5.heap.size 36 Upd.zero.v 36 := Has.new w5 36 Upd.zero.v 36 _ rfl
  have b1 : Below w5.heap.size w5 (w5.alloc (.cells (tabv Upd.zero.v 36) 36)) := (Below.refl w5.heap.size w5).alloc (Nat.le_refl _) _
  exact ⟨_, _, by rw [zero36], q1, rfl, q1.row _ s.v rfl, below_setRow b1 (Nat.le_refl _) _, b1⟩
set_option maxRecDepth 100000 in
set_option maxHeartbeats 40000000 in
theorem vOurs_any (u : Upd) (w : World) : Calls Tryz.prog 130 #[.agg (tabv u.v 36)] w fun e w' => e = .returned (.bool (validB u)) ∧ Below w.heap.size w w' := by
  obtain ⟨w1, hW1⟩ : ∃ wX, w.alloc (.cells (tabv u.v 36) 99) = wX := ⟨_, rfl⟩
  have r1 : Has w1 w.heap.size 99 u.v 36 := by rw [← hW1]; exact Has.new w 99 u.v 36 _ rfl
  have b1 : Below w.heap.size w w1 := by rw [← hW1]; exact (Below.refl w.heap.size w).alloc (Nat.le_refl _) _
  have R1 := hide r1
  go_enter Tryz.func130, Tryz.ntmps130
  go_wp2_with (first | refine wpW_load_at 36 _ rfl (w.heap.size) (0) (by rfl) (by rfl) _ 36 _ (R1.out.at_ 0 (by omega) (fun i hi => by rw [Nat.zero_add])) Tryz.underlying36 rfl infoU ?_ | fail)
  refine (valid_any u _).mono ?_
  rintro e w2 ⟨rfl, hb2⟩
  go_wp2
  go_ret
  exact ⟨rfl, b1.trans (hb2.mono b1.size)⟩
set_option maxRecDepth 100000 in
set_option maxHeartbeats 40000000 in
theorem vSigned_any (x a b : Int) (w : World) : Calls Tryz.prog 157 #[.agg (tabv (Sg.v ⟨x, a, b⟩) 3)] w fun e w' => e = .returned (.bool (idxB x && (cntB a && cntB b))) ∧ Below w.heap.size w w' := by
  cases hI : idxB x with
  | false =>
    obtain ⟨w1, hW1⟩ : ∃ wX, w.alloc (.cells (tabv (Sg.v ⟨x, a, b⟩) 3) 101) = wX := ⟨_, rfl⟩
    have r1 : Has w1 w.heap.size 101 (Sg.v ⟨x, a, b⟩) 3 := by rw [← hW1]; exact Has.new w 101 (Sg.v ⟨x, a, b⟩) 3 _ rfl
    have b1 : Below w.heap.size w w1 := by rw [← hW1]; exact (Below.refl w.heap.size w).alloc (Nat.le_refl _) _
    have c0 : w1.cell? ⟨w.heap.size, 0, none⟩ = some (.int .i64 x) := r1.cell 0 (by omega)
    have c1 : w1.cell? ⟨w.heap.size, 1, none⟩ = some (.int .i64 a) := r1.cell 1 (by omega)
    have c2 : w1.cell? ⟨w.heap.size, 2, none⟩ = some (.int .i64 b) := r1.cell 2 (by omega)
    go_enter Tryz.func157, Tryz.ntmps157
    go_wp2_with fail
    refine (isIndex_any x _).mono ?_
    rintro e wv ⟨rfl, rfl⟩
    rw [hI]
    go_wp2
    go_ret
    exact ⟨rfl, b1⟩
  | true =>
    cases hA : cntB a with
    | false =>
      obtain ⟨w1, hW1⟩ : ∃ wX, w.alloc (.cells (tabv (Sg.v ⟨x, a, b⟩) 3) 101) = wX := ⟨_, rfl⟩
      have r1 : Has w1 w.heap.size 101 (Sg.v ⟨x, a, b⟩) 3 := by rw [← hW1]; exact Has.new w 101 (Sg.v ⟨x, a, b⟩) 3 _ rfl
      have b1 : Below w.heap.size w w1 := by rw [← hW1]; exact (Below.refl w.heap.size w).alloc (Nat.le_refl _) _
      have c0 : w1.cell? ⟨w.heap.size, 0, none⟩ = some (.int .i64 x) := r1.cell 0 (by omega)
      have c1 : w1.cell? ⟨w.heap.size, 1, none⟩ = some (.int .i64 a) := r1.cell 1 (by omega)
      have c2 : w1.cell? ⟨w.heap.size, 2, none⟩ = some (.int .i64 b) := r1.cell 2 (by omega)
      go_enter Tryz.func157, Tryz.ntmps157
      go_wp2_with fail
      refine (isIndex_any x _).mono ?_
      rintro e wv ⟨rfl, rfl⟩
      rw [hI]
      go_wp2_with fail
      refine (isCount_any a _).mono ?_
      rintro e wv ⟨rfl, rfl⟩
      rw [hA]
      go_wp2
      go_ret
      exact ⟨rfl, b1⟩
    | true =>
      obtain ⟨w1, hW1⟩ : ∃ wX, w.alloc (.cells (tabv (Sg.v ⟨x, a, b⟩) 3) 101) = wX := ⟨_, rfl⟩
      have r1 : Has w1 w.heap.size 101 (Sg.v ⟨x, a, b⟩) 3 := by rw [← hW1]; exact Has.new w 101 (Sg.v ⟨x, a, b⟩) 3 _ rfl
      have b1 : Below w.heap.size w w1 := by rw [← hW1]; exact (Below.refl w.heap.size w).alloc (Nat.le_refl _) _
      have c0 : w1.cell? ⟨w.heap.size, 0, none⟩ = some (.int .i64 x) := r1.cell 0 (by omega)
      have c1 : w1.cell? ⟨w.heap.size, 1, none⟩ = some (.int .i64 a) := r1.cell 1 (by omega)
      have c2 : w1.cell? ⟨w.heap.size, 2, none⟩ = some (.int .i64 b) := r1.cell 2 (by omega)
      go_enter Tryz.func157, Tryz.ntmps157
      go_wp2_with fail
      refine (isIndex_any x _).mono ?_
      rintro e wv ⟨rfl, rfl⟩
      rw [hI]
      go_wp2_with fail
      refine (isCount_any a _).mono ?_
      rintro e wv ⟨rfl, rfl⟩
      rw [hA]
      go_wp2_with fail
      refine (isCount_any b _).mono ?_
      rintro e wv ⟨rfl, rfl⟩
      go_wp2
      go_ret
      exact ⟨rfl, b1⟩
set_option maxRecDepth 100000 in
set_option maxHeartbeats 40000000 in
theorem vRevoked_any (x : Int) (h k : Nat → UInt8) (w : World) : Calls Tryz.prog 165 #[.agg (tabv (Rv.v ⟨x, h, k⟩) 65)] w fun e w' => e = .returned (.bool (idxB x)) ∧ Below w.heap.size w w' := by
  obtain ⟨w1, hW1⟩ : ∃ wX, w.alloc (.cells (tabv (Rv.v ⟨x, h, k⟩) 65) 105) = wX := ⟨_, rfl⟩
  have r1 : Has w1 w.heap.size 105 (Rv.v ⟨x, h, k⟩) 65 := by rw [← hW1]; exact Has.new w 105 (Rv.v ⟨x, h, k⟩) 65 _ rfl
  have b1 : Below w.heap.size w w1 := by rw [← hW1]; exact (Below.refl w.heap.size w).alloc (Nat.le_refl _) _
  have c0 : w1.cell? ⟨w.heap.size, 0, none⟩ = some (.int .i64 x) := r1.cell 0 (by omega)
  go_enter Tryz.func165, Tryz.ntmps165
  go_wp2_with fail
  refine (isIndex_any x _).mono ?_
  rintro e wv ⟨rfl, rfl⟩
  go_wp2
  go_ret
  exact ⟨rfl, b1⟩
set_option maxRecDepth 100000 in
set_option maxHeartbeats 40000000 in
theorem vClosed_any (x : Int) (w : World) : Calls Tryz.prog 183 #[.agg #[.int .i64 x]] w fun e w' => e = .returned (.bool (idxB x)) ∧ Below w.heap.size w w' := by
  obtain ⟨w1, hW1⟩ : ∃ wX, w.alloc (.cells (tabv (fun _ => .int .i64 x) 1) 109) = wX := ⟨_, rfl⟩
  have r1 : Has w1 w.heap.size 109 (fun _ => .int .i64 x) 1 := by rw [← hW1]; exact Has.new w 109 (fun _ => .int .i64 x) 1 _ rfl
  have b1 : Below w.heap.size w w1 := by rw [← hW1]; exact (Below.refl w.heap.size w).alloc (Nat.le_refl _) _
  have hW1 : w.alloc (.cells #[.int .i64 x] 109) = w1 := hW1
  have c0 : w1.cell? ⟨w.heap.size, 0, none⟩ = some (.int .i64 x) := r1.cell 0 (by omega)
  go_enter Tryz.func183, Tryz.ntmps183
  go_wp2_with fail
  refine (isIndex_any x _).mono ?_
  rintro e wv ⟨rfl, rfl⟩
  go_wp2
  go_ret
  exact ⟨rfl, b1⟩
set_option maxRecDepth 100000 in
set_option maxHeartbeats 40000000 in
theorem vFailed_any (n : Int) (w : World) : Calls Tryz.prog 180 #[.agg #[.int .i64 n]] w fun e w' => e = .returned (.bool (codB n)) ∧ Below w.heap.size w w' := by
  unfold codB
  cases d1 : decide (1 ≤ n) with
  | false =>
    obtain ⟨w1, hW1⟩ : ∃ wX, w.alloc (.cells (tabv (fun _ => .int .i64 n) 1) 107) = wX := ⟨_, rfl⟩
    have r1 : Has w1 w.heap.size 107 (fun _ => .int .i64 n) 1 := by rw [← hW1]; exact Has.new w 107 (fun _ => .int .i64 n) 1 _ rfl
    have b1 : Below w.heap.size w w1 := by rw [← hW1]; exact (Below.refl w.heap.size w).alloc (Nat.le_refl _) _
    have hW1 : w.alloc (.cells #[.int .i64 n] 107) = w1 := hW1
    have c0 : w1.cell? ⟨w.heap.size, 0, none⟩ = some (.int .i64 n) := r1.cell 0 (by omega)
    go_enter Tryz.func180, Tryz.ntmps180
    go_wp2
    go_ret
    exact ⟨rfl, b1⟩
  | true =>
    cases d2 : decide (n ≤ 65535) with
    | false =>
      obtain ⟨w1, hW1⟩ : ∃ wX, w.alloc (.cells (tabv (fun _ => .int .i64 n) 1) 107) = wX := ⟨_, rfl⟩
      have r1 : Has w1 w.heap.size 107 (fun _ => .int .i64 n) 1 := by rw [← hW1]; exact Has.new w 107 (fun _ => .int .i64 n) 1 _ rfl
      have b1 : Below w.heap.size w w1 := by rw [← hW1]; exact (Below.refl w.heap.size w).alloc (Nat.le_refl _) _
      have hW1 : w.alloc (.cells #[.int .i64 n] 107) = w1 := hW1
      have c0 : w1.cell? ⟨w.heap.size, 0, none⟩ = some (.int .i64 n) := r1.cell 0 (by omega)
      go_enter Tryz.func180, Tryz.ntmps180
      go_wp2
      go_ret
      exact ⟨rfl, b1⟩
    | true =>
      obtain ⟨w1, hW1⟩ : ∃ wX, w.alloc (.cells (tabv (fun _ => .int .i64 n) 1) 107) = wX := ⟨_, rfl⟩
      have r1 : Has w1 w.heap.size 107 (fun _ => .int .i64 n) 1 := by rw [← hW1]; exact Has.new w 107 (fun _ => .int .i64 n) 1 _ rfl
      have b1 : Below w.heap.size w w1 := by rw [← hW1]; exact (Below.refl w.heap.size w).alloc (Nat.le_refl _) _
      have hW1 : w.alloc (.cells #[.int .i64 n] 107) = w1 := hW1
      have c0 : w1.cell? ⟨w.heap.size, 0, none⟩ = some (.int .i64 n) := r1.cell 0 (by omega)
      go_enter Tryz.func180, Tryz.ntmps180
      go_wp2
      go_ret
      exact ⟨rfl, b1⟩
set_option maxRecDepth 100000 in
set_option maxHeartbeats 40000000 in
theorem vCame_any (x : Int) (ad : Option Addr) (n cap : Nat) (h : Nat → UInt8) (l : List Upd) (hn : l.length = n) (w : World) (hS : Upds w ad l) : Calls Tryz.prog 162 #[.agg (tabv (Cm.v ⟨x, ⟨ad, n, cap⟩, h⟩) 34)] w fun e w' => e = .returned (.bool (idxB x && (decide (n ≤ 512) && l.all validB))) ∧ Below w.heap.size w w' := by
  cases hI : idxB x with
  | false =>
    obtain ⟨w1, hW1⟩ : ∃ wX, w.alloc (.cells (tabv (Cm.v ⟨x, ⟨ad, n, cap⟩, h⟩) 34) 103) = wX := ⟨_, rfl⟩
    have r1 : Has w1 w.heap.size 103 (Cm.v ⟨x, ⟨ad, n, cap⟩, h⟩) 34 := by rw [← hW1]; exact Has.new w 103 (Cm.v ⟨x, ⟨ad, n, cap⟩, h⟩) 34 _ rfl
    have b1 : Below w.heap.size w w1 := by rw [← hW1]; exact (Below.refl w.heap.size w).alloc (Nat.le_refl _) _
    have c0 : w1.cell? ⟨w.heap.size, 0, none⟩ = some (.int .i64 x) := r1.cell 0 (by omega)
    have c1 : w1.cell? ⟨w.heap.size, 1, none⟩ = some (.slice ad n cap) := r1.cell 1 (by omega)
    go_enter Tryz.func162, Tryz.ntmps162
    go_wp2_with fail
    refine (isIndex_any x _).mono ?_
    rintro e wv ⟨rfl, rfl⟩
    rw [hI]
    go_wp2
    go_ret
    exact ⟨rfl, b1⟩
  | true =>
    by_cases hn5 : n ≤ 512
    · have d5 : decide ((512 : Int) < (n : Int)) = false := decide_eq_false (by omega)
      have d6 : decide (n ≤ 512) = true := decide_eq_true hn5
      have HN := hide hn
      have hni : (n : Int) ≤ 512 := by omega
      obtain ⟨R, hR⟩ : ∃ R, l.all validB = R := ⟨_, rfl⟩
      rw [hR, d6]
      have HR := hide hR
      clear hR hn d6
      obtain ⟨w1, hW1⟩ : ∃ wX, w.alloc (.cells (tabv (Cm.v ⟨x, ⟨ad, n, cap⟩, h⟩) 34) 103) = wX := ⟨_, rfl⟩
      have r1 : Has w1 w.heap.size 103 (Cm.v ⟨x, ⟨ad, n, cap⟩, h⟩) 34 := by rw [← hW1]; exact Has.new w 103 (Cm.v ⟨x, ⟨ad, n, cap⟩, h⟩) 34 _ rfl
      have b1 : Below w.heap.size w w1 := by rw [← hW1]; exact (Below.refl w.heap.size w).alloc (Nat.le_refl _) _
      have c0 : w1.cell? ⟨w.heap.size, 0, none⟩ = some (.int .i64 x) := r1.cell 0 (by omega)
      have c1 : w1.cell? ⟨w.heap.size, 1, none⟩ = some (.slice ad n cap) := r1.cell 1 (by omega)
      go_enter Tryz.func162, Tryz.ntmps162
      go_wp2_with fail
      refine (isIndex_any x _).mono ?_
      rintro e wv ⟨rfl, rfl⟩
      rw [hI]
      clear hI
      go_wp2
      clear hW1
      go_loopw [18] (fun i wr => ∃ j : Nat, j ≤ n ∧ i = .int .i64 (j : Int) ∧ Hid ((l.take j).all validB = true) ∧ Below w.heap.size w wr) (fun i _ => n - (intOf i).toNat)
      case atStart => exact ⟨0, Nat.zero_le _, rfl, rfl, b1⟩
      case round =>
        clear r1 b1 c0 c1
        obtain ⟨j, hj, rfl, HF, gb⟩ := hrel
        by_cases hlt : j < n
        · have hd : decide ((j : Int) < (n : Int)) = true := decide_eq_true (by omega)
          have hd2 : decide (j < n) = true := decide_eq_true hlt
          have hk0 : (0 : Int) ≤ (j : Int) := by omega
          have hk1 : (j : Int) < (n : Int) := by omega
          obtain ⟨s, hs⟩ : ∃ s, l[j]? = some s := ⟨_, List.getElem?_eq_getElem (by rw [HN.out]; exact hlt)⟩
          obtain ⟨b, o, rfl, hb1, hA⟩ := (hS.below gb).get j s hs
          have HS := hide hs
          have HA := hide hA
          obtain ⟨w6, w7, hW6, q6, hW7, q7, b7, b6⟩ := newU2 wr s
          have Q6 := hide q6
          have Q7 := hide q7
          have HA6 := hide (hA.below b6 hb1)
          have gb7 : Hid (Below w.heap.size w w7) := gb.trans (b7.mono gb.size)
          clear hs hA hb1 q6 q7 b7 b6 gb
          go_wp2_with (first | rw [hW7] | refine wpW_load_at 36 _ rfl (b) (o + j * 36) (by rfl) (by rfl) _ 36 _ (HA.out) Tryz.underlying36 rfl infoU ?_ | refine wpList_storeU rfl _ _ rfl rfl (wr.heap.size) (s) rfl rfl _ Q6.out ?_ | refine wpW_load_at 36 _ rfl (wr.heap.size) (0) (by rfl) (by rfl) _ 36 _ (Q7.out.at_ 0 (by omega) (fun i hi => by rw [Nat.zero_add])) Tryz.underlying36 rfl infoU ?_ | fail)
          refine (valid_any s _).mono ?_
          rintro e w8 ⟨rfl, hb8⟩
          have gb8 : Below w.heap.size w w8 := gb7.out.trans (hb8.mono gb7.out.size)
          obtain ⟨V, hV⟩ : ∃ V, validB s = V := ⟨_, rfl⟩
          rw [hV]
          have HV := hide hV
          clear hb8 gb7 hV
          cases V with
          | true =>
            go_wp2
            go_roundw
            case rel => exact ⟨j + 1, by omega, by go_num, (by show _ = _; rw [take_snoc HS.out, List.all_append, HF.out]; simp [HV.out]), gb8⟩
            case measure => simp [intOf]; omega
          | false =>
            have HE : Hid (R = false) := by
              show _ = _
              rw [← HR.out, ← List.take_append_drop (j + 1) l, List.all_append, take_snoc HS.out, List.all_append]
              simp [HV.out]
            go_wp2
            go_ret
            exact ⟨by rw [HE.out]; rfl, gb8⟩
        · obtain rfl : j = n := by omega
          have hd : decide ((j : Int) < (j : Int)) = false := by simp
          have HE : Hid (R = true) := by show _ = _; rw [← HR.out, ← HF.out, List.take_of_length_le (by rw [HN.out]; exact Nat.le_refl _)]
          go_wp2
          go_ret
          exact ⟨by rw [HE.out]; rfl, gb⟩
    · have d5 : decide ((512 : Int) < (n : Int)) = true := decide_eq_true (by omega)
      have d6 : decide (n ≤ 512) = false := decide_eq_false hn5
      rw [d6]
      clear d6 hn5 hn
      obtain ⟨w1, hW1⟩ : ∃ wX, w.alloc (.cells (tabv (Cm.v ⟨x, ⟨ad, n, cap⟩, h⟩) 34) 103) = wX := ⟨_, rfl⟩
      have r1 : Has w1 w.heap.size 103 (Cm.v ⟨x, ⟨ad, n, cap⟩, h⟩) 34 := by rw [← hW1]; exact Has.new w 103 (Cm.v ⟨x, ⟨ad, n, cap⟩, h⟩) 34 _ rfl
      have b1 : Below w.heap.size w w1 := by rw [← hW1]; exact (Below.refl w.heap.size w).alloc (Nat.le_refl _) _
      have c0 : w1.cell? ⟨w.heap.size, 0, none⟩ = some (.int .i64 x) := r1.cell 0 (by omega)
      have c1 : w1.cell? ⟨w.heap.size, 1, none⟩ = some (.slice ad n cap) := r1.cell 1 (by omega)
      go_enter Tryz.func162, Tryz.ntmps162
      go_wp2_with fail
      refine (isIndex_any x _).mono ?_
      rintro e wv ⟨rfl, rfl⟩
      rw [hI]
      go_wp2
      go_ret
      exact ⟨rfl, b1⟩
end Go.Proofs.YtlohfoggcdaeiaaGreat
