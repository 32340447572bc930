/-
  STATES and gates: plain, and in memory (printed by gen_g1.py).
-/
import Derived.Test.YtnmoheipfadmeaaURow
namespace Go.Proofs.Ytnmoheipfadmeaa
open Go.RowKit S
set_option linter.unusedVariables false
set_option linter.unusedSimpArgs false
set_option maxRecDepth 100000
structure Sl where
  ad : Option Addr
  n : Nat
  c : Nat
def Sl.v (s : Sl) : Value := .slice s.ad s.n s.c
structure St where
  side : Int
  cap : Int
  bo : Int
  bp : Int
  ours : Sl
  peers : Sl
  loc : Int
  rem : Int
  ack : Int
  ao : Int
  ap : Int
  so : Int
  sp : Int
  ho : Int
  hp : Int
  beh : Bool
  p0 : Nat → UInt8
  p1 : Nat → UInt8
  sig : Nat → UInt8
  shelf : Sl
  fail : Int
  closed : Int
def St.v (s : St) : Nat → Value := fun i => if i < 1 then .int .i64 s.side else if i < 2 then .int .i64 s.cap else if i < 3 then .int .i64 s.bo else if i < 4 then .int .i64 s.bp else if i < 5 then s.ours.v else if i < 6 then s.peers.v else if i < 7 then .int .i64 s.loc else if i < 8 then .int .i64 s.rem else if i < 9 then .int .i64 s.ack else if i < 10 then .int .i64 s.ao else if i < 11 then .int .i64 s.ap else if i < 12 then .int .i64 s.so else if i < 13 then .int .i64 s.sp else if i < 14 then .int .i64 s.ho else if i < 15 then .int .i64 s.hp else if i < 16 then .bool s.beh else if i < 48 then .int .u8 ((s.p0 (i - 16)).toNat : Int) else if i < 80 then .int .u8 ((s.p1 (i - 48)).toNat : Int) else if i < 112 then .int .u8 ((s.sig (i - 80)).toNat : Int) else if i < 113 then s.shelf.v else if i < 114 then .int .i64 s.fail else .int .i64 s.closed
def St.zero : St := ⟨0, 0, 0, 0, ⟨none, 0, 0⟩, ⟨none, 0, 0⟩, 0, 0, 0, 0, 0, 0, 0, 0, 0, false, fun _ => 0, fun _ => 0, fun _ => 0, ⟨none, 0, 0⟩, 0, 0⟩
theorem St.v_side (s : St) : s.v 0 = .int .i64 s.side := rfl
theorem St.v_cap (s : St) : s.v 1 = .int .i64 s.cap := rfl
theorem St.v_bo (s : St) : s.v 2 = .int .i64 s.bo := rfl
theorem St.v_bp (s : St) : s.v 3 = .int .i64 s.bp := rfl
theorem St.v_ours (s : St) : s.v 4 = s.ours.v := rfl
theorem St.v_peers (s : St) : s.v 5 = s.peers.v := rfl
theorem St.v_loc (s : St) : s.v 6 = .int .i64 s.loc := rfl
theorem St.v_rem (s : St) : s.v 7 = .int .i64 s.rem := rfl
theorem St.v_ack (s : St) : s.v 8 = .int .i64 s.ack := rfl
theorem St.v_ao (s : St) : s.v 9 = .int .i64 s.ao := rfl
theorem St.v_ap (s : St) : s.v 10 = .int .i64 s.ap := rfl
theorem St.v_so (s : St) : s.v 11 = .int .i64 s.so := rfl
theorem St.v_sp (s : St) : s.v 12 = .int .i64 s.sp := rfl
theorem St.v_ho (s : St) : s.v 13 = .int .i64 s.ho := rfl
theorem St.v_hp (s : St) : s.v 14 = .int .i64 s.hp := rfl
theorem St.v_beh (s : St) : s.v 15 = .bool s.beh := rfl
theorem St.v_p0 (s : St) (i : Nat) (hi : i < 32) : s.v (16 + i) = bv s.p0 i := by
  unfold St.v bv
  rw [if_neg (by omega), if_neg (by omega), if_neg (by omega), if_neg (by omega), if_neg (by omega), if_neg (by omega), if_neg (by omega), if_neg (by omega), if_neg (by omega), if_neg (by omega), if_neg (by omega), if_neg (by omega), if_neg (by omega), if_neg (by omega), if_neg (by omega), if_neg (by omega), if_pos (by omega), show 16 + i - 16 = i by omega]
theorem St.v_p1 (s : St) (i : Nat) (hi : i < 32) : s.v (48 + i) = bv s.p1 i := by
  unfold St.v bv
  rw [if_neg (by omega), if_neg (by omega), if_neg (by omega), if_neg (by omega), if_neg (by omega), if_neg (by omega), if_neg (by omega), if_neg (by omega), if_neg (by omega), if_neg (by omega), if_neg (by omega), if_neg (by omega), if_neg (by omega), if_neg (by omega), if_neg (by omega), if_neg (by omega), if_neg (by omega), if_pos (by omega), show 48 + i - 48 = i by omega]
theorem St.v_sig (s : St) (i : Nat) (hi : i < 32) : s.v (80 + i) = bv s.sig i := by
  unfold St.v bv
  rw [if_neg (by omega), if_neg (by omega), if_neg (by omega), if_neg (by omega), if_neg (by omega), if_neg (by omega), if_neg (by omega), if_neg (by omega), if_neg (by omega), if_neg (by omega), if_neg (by omega), if_neg (by omega), if_neg (by omega), if_neg (by omega), if_neg (by omega), if_neg (by omega), if_neg (by omega), if_neg (by omega), if_pos (by omega), show 80 + i - 80 = i by omega]
theorem St.v_shelf (s : St) : s.v 112 = s.shelf.v := rfl
theorem St.v_fail (s : St) : s.v 113 = .int .i64 s.fail := rfl
theorem St.v_closed (s : St) : s.v 114 = .int .i64 s.closed := rfl
theorem oneSt (s : St) (i : Nat) : (s.v i).oneCell' = true := by
  unfold St.v
  by_cases h0 : i < 1
  · rw [if_pos h0]; rfl
  rw [if_neg h0]
  by_cases h1 : i < 2
  · rw [if_pos h1]; rfl
  rw [if_neg h1]
  by_cases h2 : i < 3
  · rw [if_pos h2]; rfl
  rw [if_neg h2]
  by_cases h3 : i < 4
  · rw [if_pos h3]; rfl
  rw [if_neg h3]
  by_cases h4 : i < 5
  · rw [if_pos h4]; rfl
  rw [if_neg h4]
  by_cases h5 : i < 6
  · rw [if_pos h5]; rfl
  rw [if_neg h5]
  by_cases h6 : i < 7
  · rw [if_pos h6]; rfl
  rw [if_neg h6]
  by_cases h7 : i < 8
  · rw [if_pos h7]; rfl
  rw [if_neg h7]
  by_cases h8 : i < 9
  · rw [if_pos h8]; rfl
  rw [if_neg h8]
  by_cases h9 : i < 10
  · rw [if_pos h9]; rfl
  rw [if_neg h9]
  by_cases h10 : i < 11
  · rw [if_pos h10]; rfl
  rw [if_neg h10]
  by_cases h11 : i < 12
  · rw [if_pos h11]; rfl
  rw [if_neg h11]
  by_cases h12 : i < 13
  · rw [if_pos h12]; rfl
  rw [if_neg h12]
  by_cases h13 : i < 14
  · rw [if_pos h13]; rfl
  rw [if_neg h13]
  by_cases h14 : i < 15
  · rw [if_pos h14]; rfl
  rw [if_neg h14]
  by_cases h15 : i < 16
  · rw [if_pos h15]; rfl
  rw [if_neg h15]
  by_cases h16 : i < 48
  · rw [if_pos h16]; rfl
  rw [if_neg h16]
  by_cases h17 : i < 80
  · rw [if_pos h17]; rfl
  rw [if_neg h17]
  by_cases h18 : i < 112
  · rw [if_pos h18]; rfl
  rw [if_neg h18]
  by_cases h19 : i < 113
  · rw [if_pos h19]; rfl
  rw [if_neg h19]
  by_cases h20 : i < 114
  · rw [if_pos h20]; rfl
  rw [if_neg h20]
  rfl
theorem infoSt : (Try.prog.info? 30).map (·.size) = some 115 := by kernel_rfl
theorem wpList_storeSt {ops : Array Oper} {rest : List Oper} {o : Oper} {a : Act} {w : World} {Q : Exit → Act → World → Prop} (hgd : o.guard = none) (x y : Operand) (ho : o.op = .store 30 x y) (hd : o.dst = none) (g : Nat) (s : St) (hx : a.eval x = .pointer (some ⟨g, 0, none⟩)) (hy : a.eval y = .agg (tabv s.v 115)) (f : Nat → Value) (hg : Has w g 30 f 115)
    (hk : wpList Try.prog ops Q rest a (w.setRow g (tabv s.v 115))) : wpList Try.prog ops Q (o :: rest) a w :=
  wpList_store_part hgd 30 x y ho hd g 0 s.v 115 hx hy 30 f 115 hg (by omega) infoSt (fun i _ => oneSt s i) s.v (fun i hi => by unfold splice; rw [if_pos (by omega), Nat.sub_zero]) hk
structure Gt where
  mark : Int
  loc : Int
  rem : Int
  ack : Int
  so : Int
  sp : Int
  ours : Nat
  peers : Int
  fail : Int
  closed : Int
def Gt.v (g : Gt) : Nat → Value := fun i => if i < 1 then .int .i64 g.mark else if i < 2 then .int .i64 g.loc else if i < 3 then .int .i64 g.rem else if i < 4 then .int .i64 g.ack else if i < 5 then .int .i64 g.so else if i < 6 then .int .i64 g.sp else if i < 7 then .int .i64 (g.ours : Int) else if i < 8 then .int .i64 g.peers else if i < 9 then .int .i64 g.fail else .int .i64 g.closed
def gOf (m : Int) (s : St) : Gt := ⟨m, s.loc, s.rem, s.ack, s.so, s.sp, s.ours.n, s.ap, s.fail, s.closed⟩
def cts (a b : Int) : Array Value := #[.int .i64 a, .int .i64 b]
def Gt.still (g : Gt) : Bool := g.fail == 0 && g.closed == -1
def Gt.send (g : Gt) (i : Int) : Bool := g.still && (decide (0 ≤ i) && (decide (i ≤ g.mark) && decide (i < g.loc)))
def Gt.broad (g : Gt) (i : Int) : Bool := (i == g.loc) && (decide (0 ≤ i) && (decide (g.mark < i) && (!(g.fail == 180) && (g.closed == -1 || g.closed == i))))
def Gt.again (g : Gt) (i a b : Int) : Bool := (i == g.rem) && (a == g.so && b == g.sp)
def Gt.anew (g : Gt) (i a b : Int) : Bool := (g.rem == g.ack) && ((wrap64 (i - 1) == g.rem) && (decide (g.so ≤ a) && (decide (a ≤ (g.ours : Int)) && ((b == g.peers) && !(a == g.so && b == g.sp)))))
def Gt.sign (g : Gt) (i a b : Int) : Bool := g.still && (decide (1 ≤ i) && (g.again i a b || g.anew i a b))
theorem infoGt : (Try.prog.info? 32).map (·.size) = some 10 := by kernel_rfl
theorem infoCn : (Try.prog.info? 24).map (·.size) = some 2 := by kernel_rfl
theorem oneGt (s : Gt) (i : Nat) : (s.v i).oneCell' = true := by
  unfold Gt.v
  repeat' split
  all_goals rfl
theorem gtTab (g : Gt) : (#[.int .i64 g.mark, .int .i64 g.loc, .int .i64 g.rem, .int .i64 g.ack, .int .i64 g.so, .int .i64 g.sp, .int .i64 (g.ours : Int), .int .i64 g.peers, .int .i64 g.fail, .int .i64 g.closed] : Array Value) = tabv g.v 10 := rfl
theorem boxGt (w : World) (g : Gt) : ∃ w1, w.alloc (.cells #[.int .i64 g.mark, .int .i64 g.loc, .int .i64 g.rem, .int .i64 g.ack, .int .i64 g.so, .int .i64 g.sp, .int .i64 (g.ours : Int), .int .i64 g.peers, .int .i64 g.fail, .int .i64 g.closed] 32) = w1 ∧ Below w.heap.size w w1 ∧ w.heap.size < w1.heap.size ∧ Has w1 w.heap.size 32 g.v 10 :=
  ⟨_, rfl, (Below.refl w.heap.size w).alloc (Nat.le_refl _) _, by rw [size_alloc]; omega, Has.new w _ g.v 10 _ (gtTab g)⟩
theorem gt_cell {w : World} {b : Nat} {g : Gt} (h : Has w b 32 g.v 10) (i : Nat) (hi : i < 10) : w.cell? ⟨b, i, none⟩ = some (g.v i) := h.cell i hi
theorem wpW_gt {ops : Array Oper} {rest : List Oper} {o : Oper} {a : Act} {w : World} {Q : Exit → Act → World → Prop} (x : Operand) (ho : o.op = .load 32 x) (b : Nat) (hx : a.eval x = .pointer (some ⟨b, 0, none⟩)) (hw : Region.wanted o (yielded ops a.tmps) = true) (g : Gt) (hg : Has w b 32 g.v 10) (h : wpList Try.prog ops Q rest (a.put o.dst (.agg (tabv g.v 10))) w) : wpList Try.prog ops Q (o :: rest) a w :=
  wpW_load_at 32 x ho b 0 hx hw g.v 10 _ (hg.at_ 0 (by omega) fun j _ => by rw [Nat.zero_add]) Try.underlying32 rfl infoGt h
theorem wpW_st {ops : Array Oper} {rest : List Oper} {o : Oper} {a : Act} {w : World} {Q : Exit → Act → World → Prop} (x : Operand) (ho : o.op = .load 30 x) (b : Nat) (hx : a.eval x = .pointer (some ⟨b, 0, none⟩)) (hw : Region.wanted o (yielded ops a.tmps) = true) (g : St) (hg : Has w b 30 g.v 115) (h : wpList Try.prog ops Q rest (a.put o.dst (.agg (tabv g.v 115))) w) : wpList Try.prog ops Q (o :: rest) a w :=
  wpW_load_at 30 x ho b 0 hx hw g.v 115 _ (hg.at_ 0 (by omega) fun j _ => by rw [Nat.zero_add]) Try.underlying30 rfl infoSt h
end Go.Proofs.Ytnmoheipfadmeaa
