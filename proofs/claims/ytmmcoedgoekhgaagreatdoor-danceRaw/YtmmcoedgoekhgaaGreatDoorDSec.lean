import Derived.Test.YtmmcoedgoekhgaaGreatDoorUNext
import Derived.Test.YtmmcoedgoekhgaaGreatDoorGSortM
import Derived.Test.YtmmcoedgoekhgaaGreatDoorSCode
/-
  STATES, configs and records: plain, and in memory (printed by gen_d1.py).
-/
namespace Go.Proofs.YtmmcoedgoekhgaaGreatDoor
open Go.RowKit S
set_option linter.unusedVariables false
set_option linter.unusedSimpArgs false
set_option maxRecDepth 100000
structure Sl where
  ad : Option Addr
  n : Nat
  c : Nat
def Sl.v (s : Sl) : Value := .slice s.ad s.n s.c
structure St where
  side : Int
  cap : Int
  bo : Int
  bp : Int
  ours : Sl
  peers : Sl
  loc : Int
  rem : Int
  ack : Int
  ao : Int
  ap : Int
  so : Int
  sp : Int
  ho : Int
  hp : Int
  beh : Bool
  p0 : Nat → UInt8
  p1 : Nat → UInt8
  sig : Nat → UInt8
  shelf : Sl
  fail : Int
  closed : Int
def St.v (s : St) : Nat → Value := fun i => if i < 1 then .int .i64 s.side else if i < 2 then .int .i64 s.cap else if i < 3 then .int .i64 s.bo else if i < 4 then .int .i64 s.bp else if i < 5 then s.ours.v else if i < 6 then s.peers.v else if i < 7 then .int .i64 s.loc else if i < 8 then .int .i64 s.rem else if i < 9 then .int .i64 s.ack else if i < 10 then .int .i64 s.ao else if i < 11 then .int .i64 s.ap else if i < 12 then .int .i64 s.so else if i < 13 then .int .i64 s.sp else if i < 14 then .int .i64 s.ho else if i < 15 then .int .i64 s.hp else if i < 16 then .bool s.beh else if i < 48 then .int .u8 ((s.p0 (i - 16)).toNat : Int) else if i < 80 then .int .u8 ((s.p1 (i - 48)).toNat : Int) else if i < 112 then .int .u8 ((s.sig (i - 80)).toNat : Int) else if i < 113 then s.shelf.v else if i < 114 then .int .i64 s.fail else .int .i64 s.closed
def St.zero : St := ⟨0, 0, 0, 0, ⟨none, 0, 0⟩, ⟨none, 0, 0⟩, 0, 0, 0, 0, 0, 0, 0, 0, 0, false, fun _ => 0, fun _ => 0, fun _ => 0, ⟨none, 0, 0⟩, 0, 0⟩
theorem St.v_p0 (s : St) (i : Nat) (hi : i < 32) : s.v (16 + i) = bv s.p0 i := by
  unfold St.v bv
  rw [if_neg (by omega), if_neg (by omega), if_neg (by omega), if_neg (by omega), if_neg (by omega), if_neg (by omega), if_neg (by omega), if_neg (by omega), if_neg (by omega), if_neg (by omega), if_neg (by omega), if_neg (by omega), if_neg (by omega), if_neg (by omega), if_neg (by omega), if_neg (by omega), if_pos (by omega), show 16 + i - 16 = i by omega]
theorem St.v_p1 (s : St) (i : Nat) (hi : i < 32) : s.v (48 + i) = bv s.p1 i := by
  unfold St.v bv
  rw [if_neg (by omega), if_neg (by omega), if_neg (by omega), if_neg (by omega), if_neg (by omega), if_neg (by omega), if_neg (by omega), if_neg (by omega), if_neg (by omega), if_neg (by omega), if_neg (by omega), if_neg (by omega), if_neg (by omega), if_neg (by omega), if_neg (by omega), if_neg (by omega), if_neg (by omega), if_pos (by omega), show 48 + i - 48 = i by omega]
theorem oneSt (s : St) (i : Nat) : (s.v i).oneCell' = true := by
  unfold St.v
  by_cases h0 : i < 1
  · rw [if_pos h0]; rfl
  rw [if_neg h0]
  by_cases h1 : i < 2
  · rw [if_pos h1]; rfl
  rw [if_neg h1]
  by_cases h2 : i < 3
  · rw [if_pos h2]; rfl
  rw [if_neg h2]
  by_cases h3 : i < 4
  · rw [if_pos h3]; rfl
  rw [if_neg h3]
  by_cases h4 : i < 5
  · rw [if_pos h4]; rfl
  rw [if_neg h4]
  by_cases h5 : i < 6
  · rw [if_pos h5]; rfl
  rw [if_neg h5]
  by_cases h6 : i < 7
  · rw [if_pos h6]; rfl
  rw [if_neg h6]
  by_cases h7 : i < 8
  · rw [if_pos h7]; rfl
  rw [if_neg h7]
  by_cases h8 : i < 9
  · rw [if_pos h8]; rfl
  rw [if_neg h8]
  by_cases h9 : i < 10
  · rw [if_pos h9]; rfl
  rw [if_neg h9]
  by_cases h10 : i < 11
  · rw [if_pos h10]; rfl
  rw [if_neg h10]
  by_cases h11 : i < 12
  · rw [if_pos h11]; rfl
  rw [if_neg h11]
  by_cases h12 : i < 13
  · rw [if_pos h12]; rfl
  rw [if_neg h12]
  by_cases h13 : i < 14
  · rw [if_pos h13]; rfl
  rw [if_neg h13]
  by_cases h14 : i < 15
  · rw [if_pos h14]; rfl
  rw [if_neg h14]
  by_cases h15 : i < 16
  · rw [if_pos h15]; rfl
  rw [if_neg h15]
  by_cases h16 : i < 48
  · rw [if_pos h16]; rfl
  rw [if_neg h16]
  by_cases h17 : i < 80
  · rw [if_pos h17]; rfl
  rw [if_neg h17]
  by_cases h18 : i < 112
  · rw [if_pos h18]; rfl
  rw [if_neg h18]
  by_cases h19 : i < 113
  · rw [if_pos h19]; rfl
  rw [if_neg h19]
  by_cases h20 : i < 114
  · rw [if_pos h20]; rfl
  rw [if_neg h20]
  rfl
theorem infoSt : (Tryz.prog.info? 32).map (·.size) = some 115 := by kernel_rfl
theorem zeroSt : Tryz.zeroCells32 = tabv St.zero.v 115 := by kernel_rfl
theorem newSt (w5 : World) (s : St) : ∃ w6 w7, w5.alloc (.cells Tryz.zeroCells32 32) = w6 ∧ Has w6 w5.heap.size 32 St.zero.v 115 ∧ w6.setRow w5.heap.size (tabv s.v 115) = w7 ∧ Has w7 w5.heap.size 32 s.v 115 ∧ Below w5.heap.size w5 w7 := by
  have q1 : Has (w5.alloc (.cells (tabv St.zero.v 115) 32)) w5.heap.size 32 St.zero.v 115 := Has.new w5 32 St.zero.v 115 _ rfl
  have b1 : Below w5.heap.size w5 (w5.alloc (.cells (tabv St.zero.v 115) 32)) := (Below.refl w5.heap.size w5).alloc (Nat.le_refl _) _
  exact ⟨_, _, by rw [zeroSt], q1, rfl, q1.row _ s.v rfl, below_setRow b1 (Nat.le_refl _) _⟩
theorem wpList_storeSt {ops : Array Oper} {rest : List Oper} {o : Oper} {a : Act} {w : World} {Q : Exit → Act → World → Prop} (hgd : o.guard = none) (x y : Operand) (ho : o.op = .store 32 x y) (hd : o.dst = none) (g : Nat) (s : St) (hx : a.eval x = .pointer (some ⟨g, 0, none⟩)) (hy : a.eval y = .agg (tabv s.v 115)) (f : Nat → Value) (hg : Has w g 32 f 115)
    (hk : wpList Tryz.prog ops Q rest a (w.setRow g (tabv s.v 115))) : wpList Tryz.prog ops Q (o :: rest) a w :=
  wpList_store_part hgd 32 x y ho hd g 0 s.v 115 hx hy 32 f 115 hg (by omega) infoSt (fun i _ => oneSt s i) s.v (fun i hi => by unfold splice; rw [if_pos (by omega), Nat.sub_zero]) hk
structure Cf where
  side : Int
  cap : Int
  ours : Int
  seed : Nat → UInt8
  key : Nat → UInt8
  pkey : Nat → UInt8
  p0 : Nat → UInt8
  p1 : Nat → UInt8
  seg : Int
def Cf.v (s : Cf) : Nat → Value := fun i => if i < 1 then .int .i64 s.side else if i < 2 then .int .i64 s.cap else if i < 3 then .int .i64 s.ours else if i < 35 then .int .u8 ((s.seed (i - 3)).toNat : Int) else if i < 67 then .int .u8 ((s.key (i - 35)).toNat : Int) else if i < 99 then .int .u8 ((s.pkey (i - 67)).toNat : Int) else if i < 131 then .int .u8 ((s.p0 (i - 99)).toNat : Int) else if i < 163 then .int .u8 ((s.p1 (i - 131)).toNat : Int) else .int .i64 s.seg
def Cf.zero : Cf := ⟨0, 0, 0, fun _ => 0, fun _ => 0, fun _ => 0, fun _ => 0, fun _ => 0, 0⟩
theorem Cf.v_seed (s : Cf) (i : Nat) (hi : i < 32) : s.v (3 + i) = bv s.seed i := by
  unfold Cf.v bv
  rw [if_neg (by omega), if_neg (by omega), if_neg (by omega), if_pos (by omega), show 3 + i - 3 = i by omega]
theorem Cf.v_key (s : Cf) (i : Nat) (hi : i < 32) : s.v (35 + i) = bv s.key i := by
  unfold Cf.v bv
  rw [if_neg (by omega), if_neg (by omega), if_neg (by omega), if_neg (by omega), if_pos (by omega), show 35 + i - 35 = i by omega]
theorem Cf.v_pkey (s : Cf) (i : Nat) (hi : i < 32) : s.v (67 + i) = bv s.pkey i := by
  unfold Cf.v bv
  rw [if_neg (by omega), if_neg (by omega), if_neg (by omega), if_neg (by omega), if_neg (by omega), if_pos (by omega), show 67 + i - 67 = i by omega]
theorem Cf.v_p0 (s : Cf) (i : Nat) (hi : i < 32) : s.v (99 + i) = bv s.p0 i := by
  unfold Cf.v bv
  rw [if_neg (by omega), if_neg (by omega), if_neg (by omega), if_neg (by omega), if_neg (by omega), if_neg (by omega), if_pos (by omega), show 99 + i - 99 = i by omega]
theorem Cf.v_p1 (s : Cf) (i : Nat) (hi : i < 32) : s.v (131 + i) = bv s.p1 i := by
  unfold Cf.v bv
  rw [if_neg (by omega), if_neg (by omega), if_neg (by omega), if_neg (by omega), if_neg (by omega), if_neg (by omega), if_neg (by omega), if_pos (by omega), show 131 + i - 131 = i by omega]
theorem oneCf (s : Cf) (i : Nat) : (s.v i).oneCell' = true := by
  unfold Cf.v
  by_cases h0 : i < 1
  · rw [if_pos h0]; rfl
  rw [if_neg h0]
  by_cases h1 : i < 2
  · rw [if_pos h1]; rfl
  rw [if_neg h1]
  by_cases h2 : i < 3
  · rw [if_pos h2]; rfl
  rw [if_neg h2]
  by_cases h3 : i < 35
  · rw [if_pos h3]; rfl
  rw [if_neg h3]
  by_cases h4 : i < 67
  · rw [if_pos h4]; rfl
  rw [if_neg h4]
  by_cases h5 : i < 99
  · rw [if_pos h5]; rfl
  rw [if_neg h5]
  by_cases h6 : i < 131
  · rw [if_pos h6]; rfl
  rw [if_neg h6]
  by_cases h7 : i < 163
  · rw [if_pos h7]; rfl
  rw [if_neg h7]
  rfl
theorem infoCf : (Tryz.prog.info? 26).map (·.size) = some 164 := by kernel_rfl
theorem zeroCf : Tryz.zeroCells26 = tabv Cf.zero.v 164 := by kernel_rfl
theorem newCf (w5 : World) (s : Cf) : ∃ w6 w7, w5.alloc (.cells Tryz.zeroCells26 26) = w6 ∧ Has w6 w5.heap.size 26 Cf.zero.v 164 ∧ w6.setRow w5.heap.size (tabv s.v 164) = w7 ∧ Has w7 w5.heap.size 26 s.v 164 ∧ Below w5.heap.size w5 w7 := by
  have q1 : Has (w5.alloc (.cells (tabv Cf.zero.v 164) 26)) w5.heap.size 26 Cf.zero.v 164 := Has.new w5 26 Cf.zero.v 164 _ rfl
  have b1 : Below w5.heap.size w5 (w5.alloc (.cells (tabv Cf.zero.v 164) 26)) := (Below.refl w5.heap.size w5).alloc (Nat.le_refl _) _
  exact ⟨_, _, by rw [zeroCf], q1, rfl, q1.row _ s.v rfl, below_setRow b1 (Nat.le_refl _) _⟩
theorem wpList_storeCf {ops : Array Oper} {rest : List Oper} {o : Oper} {a : Act} {w : World} {Q : Exit → Act → World → Prop} (hgd : o.guard = none) (x y : Operand) (ho : o.op = .store 26 x y) (hd : o.dst = none) (g : Nat) (s : Cf) (hx : a.eval x = .pointer (some ⟨g, 0, none⟩)) (hy : a.eval y = .agg (tabv s.v 164)) (f : Nat → Value) (hg : Has w g 26 f 164)
    (hk : wpList Tryz.prog ops Q rest a (w.setRow g (tabv s.v 164))) : wpList Tryz.prog ops Q (o :: rest) a w :=
  wpList_store_part hgd 26 x y ho hd g 0 s.v 164 hx hy 26 f 164 hg (by omega) infoCf (fun i _ => oneCf s i) s.v (fun i hi => by unfold splice; rw [if_pos (by omega), Nat.sub_zero]) hk
structure Rc where
  kind : Int
  upd : Upd
  upds : Sl
  idx : Int
  co : Int
  cp : Int
  sig : Nat → UInt8
  sec : Nat → UInt8
  pt : Nat → UInt8
  code : Int
def Rc.v (s : Rc) : Nat → Value := fun i => if i < 1 then .int .i64 s.kind else if i < 37 then s.upd.v (i - 1) else if i < 38 then s.upds.v else if i < 39 then .int .i64 s.idx else if i < 40 then .int .i64 s.co else if i < 41 then .int .i64 s.cp else if i < 73 then .int .u8 ((s.sig (i - 41)).toNat : Int) else if i < 105 then .int .u8 ((s.sec (i - 73)).toNat : Int) else if i < 137 then .int .u8 ((s.pt (i - 105)).toNat : Int) else .int .i64 s.code
def Rc.zero : Rc := ⟨0, Upd.zero, ⟨none, 0, 0⟩, 0, 0, 0, fun _ => 0, fun _ => 0, fun _ => 0, 0⟩
theorem Rc.v_kind (s : Rc) : s.v 0 = .int .i64 s.kind := rfl
theorem Rc.v_upd (s : Rc) (i : Nat) (hi : i < 36) : s.v (1 + i) = s.upd.v i := by
  unfold Rc.v
  rw [if_neg (by omega), if_pos (by omega), show 1 + i - 1 = i by omega]
theorem Rc.v_sec (s : Rc) (i : Nat) (hi : i < 32) : s.v (73 + i) = bv s.sec i := by
  unfold Rc.v bv
  rw [if_neg (by omega), if_neg (by omega), if_neg (by omega), if_neg (by omega), if_neg (by omega), if_neg (by omega), if_neg (by omega), if_pos (by omega), show 73 + i - 73 = i by omega]
theorem oneRc (s : Rc) (i : Nat) : (s.v i).oneCell' = true := by
  unfold Rc.v
  by_cases h0 : i < 1
  · rw [if_pos h0]; rfl
  rw [if_neg h0]
  by_cases h1 : i < 37
  · rw [if_pos h1]; exact oneV _ _
  rw [if_neg h1]
  by_cases h2 : i < 38
  · rw [if_pos h2]; rfl
  rw [if_neg h2]
  by_cases h3 : i < 39
  · rw [if_pos h3]; rfl
  rw [if_neg h3]
  by_cases h4 : i < 40
  · rw [if_pos h4]; rfl
  rw [if_neg h4]
  by_cases h5 : i < 41
  · rw [if_pos h5]; rfl
  rw [if_neg h5]
  by_cases h6 : i < 73
  · rw [if_pos h6]; rfl
  rw [if_neg h6]
  by_cases h7 : i < 105
  · rw [if_pos h7]; rfl
  rw [if_neg h7]
  by_cases h8 : i < 137
  · rw [if_pos h8]; rfl
  rw [if_neg h8]
  rfl
theorem infoRc : (Tryz.prog.info? 42).map (·.size) = some 138 := by kernel_rfl
theorem zeroRc : Tryz.zeroCells42 = tabv Rc.zero.v 138 := by kernel_rfl
theorem newRc (w5 : World) (s : Rc) : ∃ w6 w7, w5.alloc (.cells Tryz.zeroCells42 42) = w6 ∧ Has w6 w5.heap.size 42 Rc.zero.v 138 ∧ w6.setRow w5.heap.size (tabv s.v 138) = w7 ∧ Has w7 w5.heap.size 42 s.v 138 ∧ Below w5.heap.size w5 w7 := by
  have q1 : Has (w5.alloc (.cells (tabv Rc.zero.v 138) 42)) w5.heap.size 42 Rc.zero.v 138 := Has.new w5 42 Rc.zero.v 138 _ rfl
  have b1 : Below w5.heap.size w5 (w5.alloc (.cells (tabv Rc.zero.v 138) 42)) := (Below.refl w5.heap.size w5).alloc (Nat.le_refl _) _
  exact ⟨_, _, by rw [zeroRc], q1, rfl, q1.row _ s.v rfl, below_setRow b1 (Nat.le_refl _) _⟩
theorem wpList_storeRc {ops : Array Oper} {rest : List Oper} {o : Oper} {a : Act} {w : World} {Q : Exit → Act → World → Prop} (hgd : o.guard = none) (x y : Operand) (ho : o.op = .store 42 x y) (hd : o.dst = none) (g : Nat) (s : Rc) (hx : a.eval x = .pointer (some ⟨g, 0, none⟩)) (hy : a.eval y = .agg (tabv s.v 138)) (f : Nat → Value) (hg : Has w g 42 f 138)
    (hk : wpList Tryz.prog ops Q rest a (w.setRow g (tabv s.v 138))) : wpList Tryz.prog ops Q (o :: rest) a w :=
  wpList_store_part hgd 42 x y ho hd g 0 s.v 138 hx hy 42 f 138 hg (by omega) infoRc (fun i _ => oneRc s i) s.v (fun i hi => by unfold splice; rw [if_pos (by omega), Nat.sub_zero]) hk
end Go.Proofs.YtmmcoedgoekhgaaGreatDoor
/-
  dead, full, within, Fixed of the code (printed by gen_d2.py).
-/
namespace Go.Proofs.YtmmcoedgoekhgaaGreatDoor
open Go.RowKit S
set_option linter.unusedVariables false
set_option linter.unusedSimpArgs false
def deadB (s : St) : Bool := (s.fail != 0) || (s.closed != -1)
def fullB (s : St) : Bool := decide (2048 ≤ s.ours.n) || decide (512 ≤ IntKind.i64.wrap ((s.ours.n : Int) - s.ho))
def withinN (n : Int) (l : Nat) : Nat := min n.toNat l
theorem infoCn : (Tryz.prog.info? 29).map (·.size) = some 2 := by kernel_rfl
theorem pairEq {a b c d : Int} (h : a = c) (k : b = d) : (#[Value.int IntKind.i64 a, Value.int IntKind.i64 b] : Array Value) = #[Value.int IntKind.i64 c, Value.int IntKind.i64 d] := by rw [h, k]
def fxO (s : St) : Int := min s.ao s.ho
def fxP (s : St) : Int := min s.ap s.hp
set_option maxRecDepth 100000 in
set_option maxHeartbeats 40000000 in
theorem dead_any (s : St) (w : World) : Calls Tryz.prog 41 #[.agg (tabv s.v 115)] w fun e w' => e = .returned (.bool (deadB s)) ∧ Below w.heap.size w w' := by
  obtain ⟨w1, hW1⟩ : ∃ wX, w.alloc (.cells (tabv s.v 115) 32) = wX := ⟨_, rfl⟩
  have r1 : Has w1 w.heap.size 32 s.v 115 := by rw [← hW1]; exact Has.new w 32 s.v 115 _ rfl
  have b1 : Below w.heap.size w w1 := by rw [← hW1]; exact (Below.refl w.heap.size w).alloc (Nat.le_refl _) _
  have c1 : w1.cell? ⟨w.heap.size, 113, none⟩ = some (.int .i64 s.fail) := r1.cell 113 (by omega)
  have c2 : w1.cell? ⟨w.heap.size, 114, none⟩ = some (.int .i64 s.closed) := r1.cell 114 (by omega)
  clear r1
  unfold deadB
  cases h1 : (s.fail != 0) with
  | true =>
    have h1' : (s.fail == 0) = false := by rw [bne] at h1; simpa using h1
    go_enter Tryz.func41, Tryz.ntmps41
    go_wp2
    go_ret
    exact ⟨rfl, b1⟩
  | false =>
    have h1' : (s.fail == 0) = true := by rw [bne] at h1; simpa using h1
    cases h2 : (s.closed != -1) with
    | true =>
      have h2' : (s.closed == -1) = false := by rw [bne] at h2; simpa using h2
      go_enter Tryz.func41, Tryz.ntmps41
      go_wp2
      go_ret
      exact ⟨rfl, b1⟩
    | false =>
      have h2' : (s.closed == -1) = true := by rw [bne] at h2; simpa using h2
      go_enter Tryz.func41, Tryz.ntmps41
      go_wp2
      go_ret
      exact ⟨rfl, b1⟩
set_option maxRecDepth 100000 in
set_option maxHeartbeats 40000000 in
theorem dwithin_any (n : Int) (ad : Option Addr) (l c : Nat) (w : World) : Calls Tryz.prog 49 #[.int .i64 n, .slice ad l c] w fun e w' => e = .returned (.int .i64 (withinN n l : Int)) ∧ w = w' := by
  have hli : (0 : Int) ≤ (l : Int) := by omega
  obtain ⟨R, hR⟩ : ∃ R, withinN n l = R := ⟨_, rfl⟩
  have HR : Hid (min (max n 0) (l : Int) = (R : Int)) := by show _ = _; rw [← hR]; unfold withinN; omega
  rw [hR]
  clear hR
  go_enter Tryz.func49, Tryz.ntmps49
  go_wp2
  all_goals go_ret
  all_goals exact ⟨congrArg (fun z => Ending.returned (Value.int IntKind.i64 z)) (by have := HR.out; omega), by first | rfl | trivial⟩
set_option maxRecDepth 100000 in
set_option maxHeartbeats 40000000 in
theorem full_any (s : St) (hn : s.ours.n ≤ 140737488351232) (hx : -9223372036854775808 ≤ s.ho ∧ s.ho ≤ 9223372036854775807) (w : World) : Calls Tryz.prog 42 #[.agg (tabv s.v 115)] w fun e w' => e = .returned (.bool (fullB s)) ∧ Below w.heap.size w w' := by
  obtain ⟨w1, hW1⟩ : ∃ wX, w.alloc (.cells (tabv s.v 115) 32) = wX := ⟨_, rfl⟩
  have r1 : Has w1 w.heap.size 32 s.v 115 := by rw [← hW1]; exact Has.new w 32 s.v 115 _ rfl
  have b1 : Below w.heap.size w w1 := by rw [← hW1]; exact (Below.refl w.heap.size w).alloc (Nat.le_refl _) _
  have c1 : w1.cell? ⟨w.heap.size, 4, none⟩ = some (.slice s.ours.ad s.ours.n s.ours.c) := r1.cell 4 (by omega)
  have c2 : w1.cell? ⟨w.heap.size, 13, none⟩ = some (.int .i64 s.ho) := r1.cell 13 (by omega)
  clear r1
  unfold fullB
  generalize s.ours.n = n at c1 hn ⊢
  generalize s.ho = x at c2 hx ⊢
  cases h1 : decide (2048 ≤ n) with
  | true =>
    have h1' : decide ((2048 : Int) ≤ (n : Int)) = true := decide_eq_true (by have := of_decide_eq_true h1; omega)
    have h1'' : decide ((n : Int) ≥ 2048) = true := h1'
    go_enter Tryz.func42, Tryz.ntmps42
    go_wp2
    go_ret
    exact ⟨rfl, b1⟩
  | false =>
    have h1' : decide ((2048 : Int) ≤ (n : Int)) = false := decide_eq_false (by have := of_decide_eq_false h1; omega)
    obtain ⟨Z, hZ⟩ : ∃ Z, IntKind.i64.wrap ((n : Int) - x) = Z := ⟨_, rfl⟩
    rw [hZ]
    cases h2 : decide (512 ≤ Z) with
    | true =>
      go_enter Tryz.func42, Tryz.ntmps42
      go_wp2
      go_ret
      exact ⟨rfl, b1⟩
    | false =>
      go_enter Tryz.func42, Tryz.ntmps42
      go_wp2
      go_ret
      exact ⟨rfl, b1⟩
set_option maxRecDepth 100000 in
set_option maxHeartbeats 40000000 in
theorem fixed_any (s : St) (w : World) : Calls Tryz.prog 10 #[.agg (tabv s.v 115)] w fun e w' => e = .returned (.agg #[.int .i64 (fxO s), .int .i64 (fxP s)]) ∧ Below w.heap.size w w' := by
  obtain ⟨w1, hW1⟩ : ∃ wX, w.alloc (.cells (tabv s.v 115) 32) = wX := ⟨_, rfl⟩
  have r1 : Has w1 w.heap.size 32 s.v 115 := by rw [← hW1]; exact Has.new w 32 s.v 115 _ rfl
  have b1 : Below w.heap.size w w1 := by rw [← hW1]; exact (Below.refl w.heap.size w).alloc (Nat.le_refl _) _
  have c1 : w1.cell? ⟨w.heap.size, 9, none⟩ = some (.int .i64 s.ao) := r1.cell 9 (by omega)
  have c2 : w1.cell? ⟨w.heap.size, 10, none⟩ = some (.int .i64 s.ap) := r1.cell 10 (by omega)
  have c3 : w1.cell? ⟨w.heap.size, 13, none⟩ = some (.int .i64 s.ho) := r1.cell 13 (by omega)
  have c4 : w1.cell? ⟨w.heap.size, 14, none⟩ = some (.int .i64 s.hp) := r1.cell 14 (by omega)
  have L1 : w.heap.size < w1.heap.size := r1.lt
  clear r1
  unfold fxO fxP
  generalize s.ao = x1 at c1 ⊢
  generalize s.ap = x2 at c2 ⊢
  generalize s.ho = y1 at c3 ⊢
  generalize s.hp = y2 at c4 ⊢
  go_enter Tryz.func10, Tryz.ntmps10
  go_wp2
  all_goals (try simp only [Exit.inBlock, Exit.then])
  all_goals exact bodyPost_ret (results_cell_row rfl _ _ w1.heap.size 29 _ (0, 0) _ rfl (heap_alloc_new w1 _) Tryz.underlying29 rfl infoCn) rfl ⟨congrArg (fun z => Ending.returned (Value.agg z)) (pairEq (by omega) (by omega)), b1.trans (((Below.refl _ _).alloc (Nat.le_refl _) _).mono b1.size)⟩
end Go.Proofs.YtmmcoedgoekhgaaGreatDoor
/-
  nextID, Spendable of the code (printed by gen_d3.py).
-/
namespace Go.Proofs.YtmmcoedgoekhgaaGreatDoor
open Go.RowKit S
set_option linter.unusedVariables false
set_option linter.unusedSimpArgs false
set_option maxRecDepth 100000 in
set_option maxHeartbeats 40000000 in
theorem nextID_any (a1 : Option Addr) (n1 c1 : Nat) (mine : List Upd) (hn1 : mine.length = n1) (z1 : n1 ≤ 1955000000000) (k1 : n1 ≤ c1) (w : World) (hS1 : Upds w a1 mine) : Calls Tryz.prog 44 #[.slice a1 n1 c1] w fun e w' => e = .returned (.int .i64 (openN mine [] 0 : Int)) ∧ Below w.heap.size w w' := by
  have HO := hide (open_any a1 none n1 c1 0 0 mine [] hn1 rfl z1 (by omega) k1 (by omega) 0 w hS1 (Upds.nil w none))
  generalize (openN mine [] 0 : Int) = R at HO ⊢
  clear hn1 z1 k1 hS1
  go_enter Tryz.func44, Tryz.ntmps44
  go_wp2_with (go_at_call 43; go_must (refine HO.out.mono ?_); rintro e w1 ⟨rfl, b⟩)
  go_ret
  exact ⟨rfl, b⟩
set_option maxRecDepth 100000 in
set_option maxHeartbeats 40000000 in
theorem spendable_any (s : St) (mine others : List Upd) (hn1 : mine.length = s.ours.n) (hn2 : others.length = s.peers.n) (z1 : s.ours.n ≤ 1955000000000) (z2 : s.peers.n ≤ 1955000000000) (k1 : s.ours.n ≤ s.ours.c) (k2 : s.peers.n ≤ s.peers.c) (w : World) (hS1 : Upds w s.ours.ad mine) (hS2 : Upds w s.peers.ad others) : Calls Tryz.prog 12 #[.agg (tabv s.v 115)] w fun e w' => e = .returned (.int .i64 (spendA s.bo mine others (fxO s) (fxP s))) ∧ Below w.heap.size w w' := by
  obtain ⟨w1, hW1⟩ : ∃ wX, w.alloc (.cells (tabv s.v 115) 32) = wX := ⟨_, rfl⟩
  have r1 : Has w1 w.heap.size 32 s.v 115 := by rw [← hW1]; exact Has.new w 32 s.v 115 _ rfl
  have b1 : Below w.heap.size w w1 := by rw [← hW1]; exact (Below.refl w.heap.size w).alloc (Nat.le_refl _) _
  have R1 := hide r1
  have HF := hide (fun w : World => fixed_any s w)
  have HP := hide (fun wx (hb : Below w1.heap.size w1 wx) => spend_any s.bo s.ours.ad s.peers.ad s.ours.n s.ours.c s.peers.n s.peers.c mine others hn1 hn2 z1 z2 k1 k2 (fxO s) (fxP s) wx ((hS1.below b1).below hb) ((hS2.below b1).below hb))
  generalize fxO s = fO at HF HP ⊢
  generalize fxP s = fP at HF HP ⊢
  generalize spendA s.bo mine others fO fP = R at HP ⊢
  clear r1 hn1 hn2 z1 z2 k1 k2 hS1 hS2
  go_enter Tryz.func12, Tryz.ntmps12
  go_wp2
  refine wp_region_noPanic ?_
  refine wp_region_held_drew (S := fun wx => Below w1.heap.size w1 wx) (by kernel_rfl) ((Below.refl _ _).drew) (fun hHeld => ?_)
  generalize hwd : World.drew w1 = wd at hHeld ⊢
  refine Cu.takeH 0 (some 3) (.pointer (some ⟨w.heap.size, 2, none⟩)) rfl rfl (by kernel_rfl) (by kernel_rfl) (by kernel_rfl) (fun _ _ _ h => h) (by rfl) (fun w_ hw => by first | rfl | (go_simp; done) | (go_simp; rfl) | (go_simp; omega)) hHeld ?_
  simp only [Act.put, List.setIfInBounds_toArray, List.set_cons_zero, List.set_cons_succ]
  refine Cu.takeH 1 (some 4) (.int .i64 s.bo) rfl rfl (by kernel_rfl) (by kernel_rfl) (by kernel_rfl) (fun _ _ _ h => h) (by rfl) (fun w_ hw => by have c : World.cell? _ ⟨w.heap.size, 2, none⟩ = some (.int .i64 s.bo) := (R1.out.below hw R1.out.lt).cell 2 (by omega); first | rfl | (go_simp; done) | (go_simp; rfl) | (go_simp; omega)) hHeld ?_
  simp only [Act.put, List.setIfInBounds_toArray, List.set_cons_zero, List.set_cons_succ]
  refine Cu.takeH 2 (some 5) (.pointer (some ⟨w.heap.size, 4, none⟩)) rfl rfl (by kernel_rfl) (by kernel_rfl) (by kernel_rfl) (fun _ _ _ h => h) (by rfl) (fun w_ hw => by first | rfl | (go_simp; done) | (go_simp; rfl) | (go_simp; omega)) hHeld ?_
  simp only [Act.put, List.setIfInBounds_toArray, List.set_cons_zero, List.set_cons_succ]
  refine Cu.takeH 3 (some 6) (.slice s.ours.ad s.ours.n s.ours.c) rfl rfl (by kernel_rfl) (by kernel_rfl) (by kernel_rfl) (fun _ _ _ h => h) (by rfl) (fun w_ hw => by have c : World.cell? _ ⟨w.heap.size, 4, none⟩ = some (.slice s.ours.ad s.ours.n s.ours.c) := (R1.out.below hw R1.out.lt).cell 4 (by omega); first | rfl | (go_simp; done) | (go_simp; rfl) | (go_simp; omega)) hHeld ?_
  simp only [Act.put, List.setIfInBounds_toArray, List.set_cons_zero, List.set_cons_succ]
  refine Cu.takeH 4 (some 7) (.pointer (some ⟨w.heap.size, 5, none⟩)) rfl rfl (by kernel_rfl) (by kernel_rfl) (by kernel_rfl) (fun _ _ _ h => h) (by rfl) (fun w_ hw => by first | rfl | (go_simp; done) | (go_simp; rfl) | (go_simp; omega)) hHeld ?_
  simp only [Act.put, List.setIfInBounds_toArray, List.set_cons_zero, List.set_cons_succ]
  refine Cu.takeH 5 (some 8) (.slice s.peers.ad s.peers.n s.peers.c) rfl rfl (by kernel_rfl) (by kernel_rfl) (by kernel_rfl) (fun _ _ _ h => h) (by rfl) (fun w_ hw => by have c : World.cell? _ ⟨w.heap.size, 5, none⟩ = some (.slice s.peers.ad s.peers.n s.peers.c) := (R1.out.below hw R1.out.lt).cell 5 (by omega); first | rfl | (go_simp; done) | (go_simp; rfl) | (go_simp; omega)) hHeld ?_
  simp only [Act.put, List.setIfInBounds_toArray, List.set_cons_zero, List.set_cons_succ]
  refine Cu.takeH 6 (some 9) (.agg (tabv s.v 115)) rfl rfl (by kernel_rfl) (by kernel_rfl) (by kernel_rfl) (fun _ _ _ h => h) (by rfl) (fun w_ hw => run_load_at w_ 32 _ rfl w.heap.size 0 (by rfl) _ 115 _ ((R1.out.below hw R1.out.lt).at_ 0 (by omega) (fun i hi => by rw [Nat.zero_add])) Tryz.underlying32 rfl infoSt) hHeld ?_
  simp only [Act.put, List.setIfInBounds_toArray, List.set_cons_zero, List.set_cons_succ]
  refine wpAnyH_ready (rs := [7]) (by kernel_rfl) (by simp) (AllReadyH.cons rfl (fun K hK => ?_) AllReadyH.nil)
  rw [if_pos (by rfl)]
  go_simp
  refine (HF.out _).mono ?_
  rintro e wf ⟨rfl, hbq⟩
  try go_wp2_with fail
  refine hK.out _ _ (hHeld.trans (hbq.mono hHeld.size)) (fun hH => ?_)
  clear hK K hHeld
  have hHeld := hH
  clear hH
  refine wpAnyH_ready (rs := [8]) (by kernel_rfl) (by simp) (AllReadyH.cons rfl (fun K hK => ?_) AllReadyH.nil)
  rw [if_pos (by rfl)]
  go_simp
  refine (HP.out _ hHeld).mono ?_
  rintro e wg ⟨rfl, hbr⟩
  try go_wp2_with fail
  refine hK.out _ _ (hHeld.trans (hbr.mono hHeld.size)) (fun hH => ?_)
  clear hK K hHeld
  have hHeld := hH
  clear hH
  refine Cu.takeH 9 (some 2) (.int .i64 R) rfl rfl (by kernel_rfl) (by kernel_rfl) (by kernel_rfl) (fun _ _ _ h => h) (by rfl) (fun w_ hw => by first | rfl | (go_simp; done) | (go_simp; rfl) | (go_simp; omega)) hHeld ?_
  simp only [Act.put, List.setIfInBounds_toArray, List.set_cons_zero, List.set_cons_succ]
  refine ⟨by kernel_rfl, ?_⟩
  refine NoPanic.normal ?_
  have bF := hHeld
  go_wp2
  go_ret
  exact ⟨rfl, b1.trans (bF.mono b1.size)⟩
set_option maxRecDepth 100000 in
set_option maxHeartbeats 40000000 in
theorem peerSpendable_any (s : St) (mine others : List Upd) (hn1 : mine.length = s.ours.n) (hn2 : others.length = s.peers.n) (z1 : s.ours.n ≤ 1955000000000) (z2 : s.peers.n ≤ 1955000000000) (k1 : s.ours.n ≤ s.ours.c) (k2 : s.peers.n ≤ s.peers.c) (w : World) (hS1 : Upds w s.ours.ad mine) (hS2 : Upds w s.peers.ad others) : Calls Tryz.prog 13 #[.agg (tabv s.v 115)] w fun e w' => e = .returned (.int .i64 (spendA s.bp others mine (fxP s) (fxO s))) ∧ Below w.heap.size w w' := by
  obtain ⟨w1, hW1⟩ : ∃ wX, w.alloc (.cells (tabv s.v 115) 32) = wX := ⟨_, rfl⟩
  have r1 : Has w1 w.heap.size 32 s.v 115 := by rw [← hW1]; exact Has.new w 32 s.v 115 _ rfl
  have b1 : Below w.heap.size w w1 := by rw [← hW1]; exact (Below.refl w.heap.size w).alloc (Nat.le_refl _) _
  have R1 := hide r1
  have HF := hide (fun w : World => fixed_any s w)
  have HP := hide (fun wx (hb : Below w1.heap.size w1 wx) => spend_any s.bp s.peers.ad s.ours.ad s.peers.n s.peers.c s.ours.n s.ours.c others mine hn2 hn1 z2 z1 k2 k1 (fxP s) (fxO s) wx ((hS2.below b1).below hb) ((hS1.below b1).below hb))
  generalize fxO s = fO at HF HP ⊢
  generalize fxP s = fP at HF HP ⊢
  generalize spendA s.bp others mine fP fO = R at HP ⊢
  clear r1 hn1 hn2 z1 z2 k1 k2 hS1 hS2
  go_enter Tryz.func13, Tryz.ntmps13
  go_wp2_with (first | refine wpW_load_at 32 _ rfl (w.heap.size) (0) (by rfl) (by rfl) _ 115 _ (R1.out.at_ 0 (by omega) (fun i hi => by rw [Nat.zero_add])) Tryz.underlying32 rfl infoSt ?_ | (go_at_call 10; go_must (refine (HF.out _).mono ?_); rintro e wf ⟨rfl, hbq⟩; have q1 : wf.cell? ⟨w.heap.size, 3, none⟩ = some (.int .i64 s.bp) := (R1.out.below hbq R1.out.lt).cell 3 (by omega); have q2 : wf.cell? ⟨w.heap.size, 5, none⟩ = some (.slice s.peers.ad s.peers.n s.peers.c) := (R1.out.below hbq R1.out.lt).cell 5 (by omega); have q3 : wf.cell? ⟨w.heap.size, 4, none⟩ = some (.slice s.ours.ad s.ours.n s.ours.c) := (R1.out.below hbq R1.out.lt).cell 4 (by omega); have L1 : w.heap.size < wf.heap.size := (R1.out.below hbq R1.out.lt).lt) | (go_at_call 40; go_must (refine (HP.out _ (hbq.trans (((Below.refl _ _).alloc (Nat.le_refl _) _).mono hbq.size))).mono ?_); rintro e wg ⟨rfl, hbr⟩))
  go_ret
  exact ⟨rfl, b1.trans ((hbq.trans ((((Below.refl _ _).alloc (Nat.le_refl _) _).trans (hbr.mono (((Below.refl wf.heap.size wf).alloc (Nat.le_refl _) _).size))).mono hbq.size)).mono b1.size)⟩
end Go.Proofs.YtmmcoedgoekhgaaGreatDoor
/-
  secret of the code.
-/
namespace Go.Proofs.YtmmcoedgoekhgaaGreatDoor
open Go.RowKit S
set_option linter.unusedVariables false
set_option linter.unusedSimpArgs false
set_option maxRecDepth 100000 in
set_option maxHeartbeats 40000000 in
theorem dsecret_any (n : Num) (c : Cf) (x : Int) (w : World) (hG : Glob n w) : Calls Tryz.prog 53 #[.agg (tabv c.v 164), .int .i64 x] w fun e w' => e = .returned (.agg (tabv (bv (secretA c.seed x).1) 32)) ∧ Below w.heap.size w w' := by
  obtain ⟨w3, hW⟩ : ∃ w3, (w.alloc (.cells (tabv c.v 164) 26)).alloc (.cells (tabv (fun _ => .int .u8 0) 32) 23) = w3 := ⟨_, rfl⟩
  have g0 : Has w3 w.heap.size 26 c.v 164 := by rw [← hW]; exact (Has.new w 26 c.v 164 _ rfl).old _
  have g1 : Has w3 (w.heap.size + 1) 23 (fun _ => .int .u8 0) 32 := by
    rw [← hW]
    have := Has.new (w.alloc (.cells (tabv c.v 164) 26)) 23 (fun _ => .int .u8 0) 32 _ rfl
    rw [size_alloc] at this
    exact this
  have gb : Below w.heap.size w w3 := by rw [← hW]; exact ((Below.refl w.heap.size w).alloc (Nat.le_refl _) _).alloc (by simp) _
  have A0 := hide (g0.at_ (k := 32) (f' := bv c.seed) 3 (by omega) (fun i hi => c.v_seed i hi))
  have HS := hide (sSecret_any n c.seed x w3 (hG.up gb))
  have G1 := hide g1
  generalize secretA c.seed x = A at HS ⊢
  obtain ⟨A1, A2⟩ := A
  rw [zero32] at hW
  clear g0 g1 hG
  go_enter Tryz.func53, Tryz.ntmps53
  go_wp2_with (first | refine wpW_load_at 23 _ rfl (w.heap.size) (3) (by rfl) (by rfl) _ 32 _ (A0.out) Tryz.underlying23 rfl info26 ?_ | (go_at_call 106; go_must (refine HS.out.mono ?_); rintro e w5 ⟨rfl, hb5⟩; obtain ⟨w6, hW6⟩ : ∃ x, w5.alloc (.cells (tabv (fun _ => .int .u8 0) 32) 23) = x := ⟨_, rfl⟩; have Q6 := hide (show Has w6 w5.heap.size 23 (fun _ => .int .u8 0) 32 by rw [← hW6]; exact Has.new w5 23 _ 32 _ rfl); have B6 := hide (show Below w5.heap.size w5 w6 by rw [← hW6]; exact (Below.refl _ _).alloc (Nat.le_refl _) _); rw [zero32] at hW6; obtain ⟨w7, hW7⟩ : ∃ x, w6.setRow w5.heap.size (tabv (bv A1) 32) = x := ⟨_, rfl⟩; have K5 := hide (G1.out.below hb5 G1.out.lt); have K7 := hide (show Has w7 (w.heap.size + 1) 23 (fun _ => .int .u8 0) 32 by rw [← hW7]; exact (K5.out.below B6.out K5.out.lt).row_other _ _ (by have := K5.out.lt; omega)); have Q7 := hide (show Has w7 w5.heap.size 23 (bv A1) 32 by rw [← hW7]; exact Q6.out.row _ _ rfl); have B7 := hide (show Below w.heap.size w w7 by rw [← hW7]; exact below_setRow ((gb.trans (hb5.mono gb.size)).trans (B6.out.mono (gb.trans (hb5.mono gb.size)).size)) (gb.trans (hb5.mono gb.size)).size _)) | (refine wpList_store_part rfl 23 _ _ rfl rfl w5.heap.size 0 (bv A1) 32 rfl rfl 23 _ 32 Q6.out (by omega) info26 (fun _ _ => rfl) (bv A1) (fun i hi => by unfold splice; rw [if_pos (by omega), Nat.sub_zero]) ?_; rw [hW7]) | refine wpW_load_at 23 _ rfl (w5.heap.size) 0 (by rfl) (by rfl) _ 32 _ (Q7.out.at_ 0 (by omega) (fun i hi => by rw [Nat.zero_add])) Tryz.underlying23 rfl info26 ?_ | refine wpList_store_part rfl 23 _ _ rfl rfl (w.heap.size + 1) 0 (bv A1) 32 rfl rfl 23 _ 32 K7.out (by omega) info26 (fun _ _ => rfl) (bv A1) (fun i hi => by unfold splice; rw [if_pos (by omega), Nat.sub_zero]) ?_)
  exact bodyPost_ret (results_cell_row rfl _ _ (w.heap.size + 1) 23 _ (0, 0) _ rfl (K7.out.row _ _ rfl) Tryz.underlying23 rfl (by rw [tabv_size]; exact info26)) rfl ⟨rfl, below_setRow B7.out (by omega) _⟩
end Go.Proofs.YtmmcoedgoekhgaaGreatDoor
