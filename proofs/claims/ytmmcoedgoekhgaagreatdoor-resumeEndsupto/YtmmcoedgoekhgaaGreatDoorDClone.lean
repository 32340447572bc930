import Derived.Test.YtmmcoedgoekhgaaGreatDoorLast
import Derived.Test.YtmmcoedgoekhgaaGreatDoorGSortM
import Derived.Test.YtmmcoedgoekhgaaGreatDoorSCode
import Derived.Test.YtmmcoedgoekhgaaGreatDoorCMath
import Derived.Deep.CutRange
import Derived.Test.YtmmcoedgoekhgaaGreatDoorGLast
/-
  STATES, configs and records: plain, and in memory (printed by gen_d1.py).
-/
namespace Go.Proofs.YtmmcoedgoekhgaaGreatDoor
open Go.RowKit S
set_option linter.unusedVariables false
set_option linter.unusedSimpArgs false
set_option maxRecDepth 100000
structure Sl where
  ad : Option Addr
  n : Nat
  c : Nat
def Sl.v (s : Sl) : Value := .slice s.ad s.n s.c
structure St where
  side : Int
  cap : Int
  bo : Int
  bp : Int
  ours : Sl
  peers : Sl
  loc : Int
  rem : Int
  ack : Int
  ao : Int
  ap : Int
  so : Int
  sp : Int
  ho : Int
  hp : Int
  beh : Bool
  p0 : Nat → UInt8
  p1 : Nat → UInt8
  sig : Nat → UInt8
  shelf : Sl
  fail : Int
  closed : Int
def St.v (s : St) : Nat → Value := fun i => if i < 1 then .int .i64 s.side else if i < 2 then .int .i64 s.cap else if i < 3 then .int .i64 s.bo else if i < 4 then .int .i64 s.bp else if i < 5 then s.ours.v else if i < 6 then s.peers.v else if i < 7 then .int .i64 s.loc else if i < 8 then .int .i64 s.rem else if i < 9 then .int .i64 s.ack else if i < 10 then .int .i64 s.ao else if i < 11 then .int .i64 s.ap else if i < 12 then .int .i64 s.so else if i < 13 then .int .i64 s.sp else if i < 14 then .int .i64 s.ho else if i < 15 then .int .i64 s.hp else if i < 16 then .bool s.beh else if i < 48 then .int .u8 ((s.p0 (i - 16)).toNat : Int) else if i < 80 then .int .u8 ((s.p1 (i - 48)).toNat : Int) else if i < 112 then .int .u8 ((s.sig (i - 80)).toNat : Int) else if i < 113 then s.shelf.v else if i < 114 then .int .i64 s.fail else .int .i64 s.closed
def St.zero : St := ⟨0, 0, 0, 0, ⟨none, 0, 0⟩, ⟨none, 0, 0⟩, 0, 0, 0, 0, 0, 0, 0, 0, 0, false, fun _ => 0, fun _ => 0, fun _ => 0, ⟨none, 0, 0⟩, 0, 0⟩
theorem St.v_p0 (s : St) (i : Nat) (hi : i < 32) : s.v (16 + i) = bv s.p0 i := by
  unfold St.v bv
  rw [if_neg (by omega), if_neg (by omega), if_neg (by omega), if_neg (by omega), if_neg (by omega), if_neg (by omega), if_neg (by omega), if_neg (by omega), if_neg (by omega), if_neg (by omega), if_neg (by omega), if_neg (by omega), if_neg (by omega), if_neg (by omega), if_neg (by omega), if_neg (by omega), if_pos (by omega), show 16 + i - 16 = i by omega]
theorem St.v_p1 (s : St) (i : Nat) (hi : i < 32) : s.v (48 + i) = bv s.p1 i := by
  unfold St.v bv
  rw [if_neg (by omega), if_neg (by omega), if_neg (by omega), if_neg (by omega), if_neg (by omega), if_neg (by omega), if_neg (by omega), if_neg (by omega), if_neg (by omega), if_neg (by omega), if_neg (by omega), if_neg (by omega), if_neg (by omega), if_neg (by omega), if_neg (by omega), if_neg (by omega), if_neg (by omega), if_pos (by omega), show 48 + i - 48 = i by omega]
theorem St.v_sig (s : St) (i : Nat) (hi : i < 32) : s.v (80 + i) = bv s.sig i := by
  unfold St.v bv
  rw [if_neg (by omega), if_neg (by omega), if_neg (by omega), if_neg (by omega), if_neg (by omega), if_neg (by omega), if_neg (by omega), if_neg (by omega), if_neg (by omega), if_neg (by omega), if_neg (by omega), if_neg (by omega), if_neg (by omega), if_neg (by omega), if_neg (by omega), if_neg (by omega), if_neg (by omega), if_neg (by omega), if_pos (by omega), show 80 + i - 80 = i by omega]
theorem oneSt (s : St) (i : Nat) : (s.v i).oneCell' = true := by
  unfold St.v
  by_cases h0 : i < 1
  · rw [if_pos h0]; rfl
  rw [if_neg h0]
  by_cases h1 : i < 2
  · rw [if_pos h1]; rfl
  rw [if_neg h1]
  by_cases h2 : i < 3
  · rw [if_pos h2]; rfl
  rw [if_neg h2]
  by_cases h3 : i < 4
  · rw [if_pos h3]; rfl
  rw [if_neg h3]
  by_cases h4 : i < 5
  · rw [if_pos h4]; rfl
  rw [if_neg h4]
  by_cases h5 : i < 6
  · rw [if_pos h5]; rfl
  rw [if_neg h5]
  by_cases h6 : i < 7
  · rw [if_pos h6]; rfl
  rw [if_neg h6]
  by_cases h7 : i < 8
  · rw [if_pos h7]; rfl
  rw [if_neg h7]
  by_cases h8 : i < 9
  · rw [if_pos h8]; rfl
  rw [if_neg h8]
  by_cases h9 : i < 10
  · rw [if_pos h9]; rfl
  rw [if_neg h9]
  by_cases h10 : i < 11
  · rw [if_pos h10]; rfl
  rw [if_neg h10]
  by_cases h11 : i < 12
  · rw [if_pos h11]; rfl
  rw [if_neg h11]
  by_cases h12 : i < 13
  · rw [if_pos h12]; rfl
  rw [if_neg h12]
  by_cases h13 : i < 14
  · rw [if_pos h13]; rfl
  rw [if_neg h13]
  by_cases h14 : i < 15
  · rw [if_pos h14]; rfl
  rw [if_neg h14]
  by_cases h15 : i < 16
  · rw [if_pos h15]; rfl
  rw [if_neg h15]
  by_cases h16 : i < 48
  · rw [if_pos h16]; rfl
  rw [if_neg h16]
  by_cases h17 : i < 80
  · rw [if_pos h17]; rfl
  rw [if_neg h17]
  by_cases h18 : i < 112
  · rw [if_pos h18]; rfl
  rw [if_neg h18]
  by_cases h19 : i < 113
  · rw [if_pos h19]; rfl
  rw [if_neg h19]
  by_cases h20 : i < 114
  · rw [if_pos h20]; rfl
  rw [if_neg h20]
  rfl
theorem infoSt : (Tryz.prog.info? 32).map (·.size) = some 115 := by kernel_rfl
theorem zeroSt : Tryz.zeroCells32 = tabv St.zero.v 115 := by kernel_rfl
theorem newSt (w5 : World) (s : St) : ∃ w6 w7, w5.alloc (.cells Tryz.zeroCells32 32) = w6 ∧ Has w6 w5.heap.size 32 St.zero.v 115 ∧ w6.setRow w5.heap.size (tabv s.v 115) = w7 ∧ Has w7 w5.heap.size 32 s.v 115 ∧ Below w5.heap.size w5 w7 := by
  have q1 : Has (w5.alloc (.cells (tabv St.zero.v 115) 32)) w5.heap.size 32 St.zero.v 115 := Has.new w5 32 St.zero.v 115 _ rfl
  have b1 : Below w5.heap.size w5 (w5.alloc (.cells (tabv St.zero.v 115) 32)) := (Below.refl w5.heap.size w5).alloc (Nat.le_refl _) _
  exact ⟨_, _, by rw [zeroSt], q1, rfl, q1.row _ s.v rfl, below_setRow b1 (Nat.le_refl _) _⟩
theorem wpList_storeSt {ops : Array Oper} {rest : List Oper} {o : Oper} {a : Act} {w : World} {Q : Exit → Act → World → Prop} (hgd : o.guard = none) (x y : Operand) (ho : o.op = .store 32 x y) (hd : o.dst = none) (g : Nat) (s : St) (hx : a.eval x = .pointer (some ⟨g, 0, none⟩)) (hy : a.eval y = .agg (tabv s.v 115)) (f : Nat → Value) (hg : Has w g 32 f 115)
    (hk : wpList Tryz.prog ops Q rest a (w.setRow g (tabv s.v 115))) : wpList Tryz.prog ops Q (o :: rest) a w :=
  wpList_store_part hgd 32 x y ho hd g 0 s.v 115 hx hy 32 f 115 hg (by omega) infoSt (fun i _ => oneSt s i) s.v (fun i hi => by unfold splice; rw [if_pos (by omega), Nat.sub_zero]) hk
structure Cf where
  side : Int
  cap : Int
  ours : Int
  seed : Nat → UInt8
  key : Nat → UInt8
  pkey : Nat → UInt8
  p0 : Nat → UInt8
  p1 : Nat → UInt8
  seg : Int
def Cf.v (s : Cf) : Nat → Value := fun i => if i < 1 then .int .i64 s.side else if i < 2 then .int .i64 s.cap else if i < 3 then .int .i64 s.ours else if i < 35 then .int .u8 ((s.seed (i - 3)).toNat : Int) else if i < 67 then .int .u8 ((s.key (i - 35)).toNat : Int) else if i < 99 then .int .u8 ((s.pkey (i - 67)).toNat : Int) else if i < 131 then .int .u8 ((s.p0 (i - 99)).toNat : Int) else if i < 163 then .int .u8 ((s.p1 (i - 131)).toNat : Int) else .int .i64 s.seg
def Cf.zero : Cf := ⟨0, 0, 0, fun _ => 0, fun _ => 0, fun _ => 0, fun _ => 0, fun _ => 0, 0⟩
theorem Cf.v_seed (s : Cf) (i : Nat) (hi : i < 32) : s.v (3 + i) = bv s.seed i := by
  unfold Cf.v bv
  rw [if_neg (by omega), if_neg (by omega), if_neg (by omega), if_pos (by omega), show 3 + i - 3 = i by omega]
theorem Cf.v_key (s : Cf) (i : Nat) (hi : i < 32) : s.v (35 + i) = bv s.key i := by
  unfold Cf.v bv
  rw [if_neg (by omega), if_neg (by omega), if_neg (by omega), if_neg (by omega), if_pos (by omega), show 35 + i - 35 = i by omega]
theorem Cf.v_p0 (s : Cf) (i : Nat) (hi : i < 32) : s.v (99 + i) = bv s.p0 i := by
  unfold Cf.v bv
  rw [if_neg (by omega), if_neg (by omega), if_neg (by omega), if_neg (by omega), if_neg (by omega), if_neg (by omega), if_pos (by omega), show 99 + i - 99 = i by omega]
theorem Cf.v_p1 (s : Cf) (i : Nat) (hi : i < 32) : s.v (131 + i) = bv s.p1 i := by
  unfold Cf.v bv
  rw [if_neg (by omega), if_neg (by omega), if_neg (by omega), if_neg (by omega), if_neg (by omega), if_neg (by omega), if_neg (by omega), if_pos (by omega), show 131 + i - 131 = i by omega]
theorem oneCf (s : Cf) (i : Nat) : (s.v i).oneCell' = true := by
  unfold Cf.v
  by_cases h0 : i < 1
  · rw [if_pos h0]; rfl
  rw [if_neg h0]
  by_cases h1 : i < 2
  · rw [if_pos h1]; rfl
  rw [if_neg h1]
  by_cases h2 : i < 3
  · rw [if_pos h2]; rfl
  rw [if_neg h2]
  by_cases h3 : i < 35
  · rw [if_pos h3]; rfl
  rw [if_neg h3]
  by_cases h4 : i < 67
  · rw [if_pos h4]; rfl
  rw [if_neg h4]
  by_cases h5 : i < 99
  · rw [if_pos h5]; rfl
  rw [if_neg h5]
  by_cases h6 : i < 131
  · rw [if_pos h6]; rfl
  rw [if_neg h6]
  by_cases h7 : i < 163
  · rw [if_pos h7]; rfl
  rw [if_neg h7]
  rfl
theorem infoCf : (Tryz.prog.info? 26).map (·.size) = some 164 := by kernel_rfl
theorem zeroCf : Tryz.zeroCells26 = tabv Cf.zero.v 164 := by kernel_rfl
theorem newCf (w5 : World) (s : Cf) : ∃ w6 w7, w5.alloc (.cells Tryz.zeroCells26 26) = w6 ∧ Has w6 w5.heap.size 26 Cf.zero.v 164 ∧ w6.setRow w5.heap.size (tabv s.v 164) = w7 ∧ Has w7 w5.heap.size 26 s.v 164 ∧ Below w5.heap.size w5 w7 := by
  have q1 : Has (w5.alloc (.cells (tabv Cf.zero.v 164) 26)) w5.heap.size 26 Cf.zero.v 164 := Has.new w5 26 Cf.zero.v 164 _ rfl
  have b1 : Below w5.heap.size w5 (w5.alloc (.cells (tabv Cf.zero.v 164) 26)) := (Below.refl w5.heap.size w5).alloc (Nat.le_refl _) _
  exact ⟨_, _, by rw [zeroCf], q1, rfl, q1.row _ s.v rfl, below_setRow b1 (Nat.le_refl _) _⟩
theorem wpList_storeCf {ops : Array Oper} {rest : List Oper} {o : Oper} {a : Act} {w : World} {Q : Exit → Act → World → Prop} (hgd : o.guard = none) (x y : Operand) (ho : o.op = .store 26 x y) (hd : o.dst = none) (g : Nat) (s : Cf) (hx : a.eval x = .pointer (some ⟨g, 0, none⟩)) (hy : a.eval y = .agg (tabv s.v 164)) (f : Nat → Value) (hg : Has w g 26 f 164)
    (hk : wpList Tryz.prog ops Q rest a (w.setRow g (tabv s.v 164))) : wpList Tryz.prog ops Q (o :: rest) a w :=
  wpList_store_part hgd 26 x y ho hd g 0 s.v 164 hx hy 26 f 164 hg (by omega) infoCf (fun i _ => oneCf s i) s.v (fun i hi => by unfold splice; rw [if_pos (by omega), Nat.sub_zero]) hk
structure Rc where
  kind : Int
  upd : Upd
  upds : Sl
  idx : Int
  co : Int
  cp : Int
  sig : Nat → UInt8
  sec : Nat → UInt8
  pt : Nat → UInt8
  code : Int
def Rc.v (s : Rc) : Nat → Value := fun i => if i < 1 then .int .i64 s.kind else if i < 37 then s.upd.v (i - 1) else if i < 38 then s.upds.v else if i < 39 then .int .i64 s.idx else if i < 40 then .int .i64 s.co else if i < 41 then .int .i64 s.cp else if i < 73 then .int .u8 ((s.sig (i - 41)).toNat : Int) else if i < 105 then .int .u8 ((s.sec (i - 73)).toNat : Int) else if i < 137 then .int .u8 ((s.pt (i - 105)).toNat : Int) else .int .i64 s.code
def Rc.zero : Rc := ⟨0, Upd.zero, ⟨none, 0, 0⟩, 0, 0, 0, fun _ => 0, fun _ => 0, fun _ => 0, 0⟩
theorem Rc.v_kind (s : Rc) : s.v 0 = .int .i64 s.kind := rfl
theorem Rc.v_idx (s : Rc) : s.v 38 = .int .i64 s.idx := rfl
theorem Rc.v_sig (s : Rc) (i : Nat) (hi : i < 32) : s.v (41 + i) = bv s.sig i := by
  unfold Rc.v bv
  rw [if_neg (by omega), if_neg (by omega), if_neg (by omega), if_neg (by omega), if_neg (by omega), if_neg (by omega), if_pos (by omega), show 41 + i - 41 = i by omega]
theorem Rc.v_sec (s : Rc) (i : Nat) (hi : i < 32) : s.v (73 + i) = bv s.sec i := by
  unfold Rc.v bv
  rw [if_neg (by omega), if_neg (by omega), if_neg (by omega), if_neg (by omega), if_neg (by omega), if_neg (by omega), if_neg (by omega), if_pos (by omega), show 73 + i - 73 = i by omega]
end Go.Proofs.YtmmcoedgoekhgaaGreatDoor
/-
  dead, full, within, Fixed of the code (printed by gen_d2.py).
-/
namespace Go.Proofs.YtmmcoedgoekhgaaGreatDoor
open Go.RowKit S
set_option linter.unusedVariables false
set_option linter.unusedSimpArgs false
def deadB (s : St) : Bool := (s.fail != 0) || (s.closed != -1)
def withinN (n : Int) (l : Nat) : Nat := min n.toNat l
end Go.Proofs.YtmmcoedgoekhgaaGreatDoor
/-
  nextID, Spendable of the code (printed by gen_d3.py).
-/
namespace Go.Proofs.YtmmcoedgoekhgaaGreatDoor
open Go.RowKit S
set_option linter.unusedVariables false
set_option linter.unusedSimpArgs false
end Go.Proofs.YtmmcoedgoekhgaaGreatDoor
/-
  secret of the code.
-/
namespace Go.Proofs.YtmmcoedgoekhgaaGreatDoor
open Go.RowKit S
set_option linter.unusedVariables false
set_option linter.unusedSimpArgs false
set_option maxRecDepth 100000 in
set_option maxHeartbeats 40000000 in
theorem dsecret_any (n : Num) (c : Cf) (x : Int) (w : World) (hG : Glob n w) : Calls Tryz.prog 53 #[.agg (tabv c.v 164), .int .i64 x] w fun e w' => e = .returned (.agg (tabv (bv (secretA c.seed x).1) 32)) ∧ Below w.heap.size w w' := by
  obtain ⟨w3, hW⟩ : ∃ w3, (w.alloc (.cells (tabv c.v 164) 26)).alloc (.cells (tabv (fun _ => .int .u8 0) 32) 23) = w3 := ⟨_, rfl⟩
  have g0 : Has w3 w.heap.size 26 c.v 164 := by rw [← hW]; exact (Has.new w 26 c.v 164 _ rfl).old _
  have g1 : Has w3 (w.heap.size + 1) 23 (fun _ => .int .u8 0) 32 := by
    rw [← hW]
    have := Has.new (w.alloc (.cells (tabv c.v 164) 26)) 23 (fun _ => .int .u8 0) 32 _ rfl
    rw [size_alloc] at this
    exact this
  have gb : Below w.heap.size w w3 := by rw [← hW]; exact ((Below.refl w.heap.size w).alloc (Nat.le_refl _) _).alloc (by simp) _
  have A0 := hide (g0.at_ (k := 32) (f' := bv c.seed) 3 (by omega) (fun i hi => c.v_seed i hi))
  have HS := hide (sSecret_any n c.seed x w3 (hG.up gb))
  have G1 := hide g1
  generalize secretA c.seed x = A at HS ⊢
  obtain ⟨A1, A2⟩ := A
  rw [zero32] at hW
  clear g0 g1 hG
  go_enter Tryz.func53, Tryz.ntmps53
  go_wp2_with (first | refine wpW_load_at 23 _ rfl (w.heap.size) (3) (by rfl) (by rfl) _ 32 _ (A0.out) Tryz.underlying23 rfl info26 ?_ | (go_at_call 106; go_must (refine HS.out.mono ?_); rintro e w5 ⟨rfl, hb5⟩; obtain ⟨w6, hW6⟩ : ∃ x, w5.alloc (.cells (tabv (fun _ => .int .u8 0) 32) 23) = x := ⟨_, rfl⟩; have Q6 := hide (show Has w6 w5.heap.size 23 (fun _ => .int .u8 0) 32 by rw [← hW6]; exact Has.new w5 23 _ 32 _ rfl); have B6 := hide (show Below w5.heap.size w5 w6 by rw [← hW6]; exact (Below.refl _ _).alloc (Nat.le_refl _) _); rw [zero32] at hW6; obtain ⟨w7, hW7⟩ : ∃ x, w6.setRow w5.heap.size (tabv (bv A1) 32) = x := ⟨_, rfl⟩; have K5 := hide (G1.out.below hb5 G1.out.lt); have K7 := hide (show Has w7 (w.heap.size + 1) 23 (fun _ => .int .u8 0) 32 by rw [← hW7]; exact (K5.out.below B6.out K5.out.lt).row_other _ _ (by have := K5.out.lt; omega)); have Q7 := hide (show Has w7 w5.heap.size 23 (bv A1) 32 by rw [← hW7]; exact Q6.out.row _ _ rfl); have B7 := hide (show Below w.heap.size w w7 by rw [← hW7]; exact below_setRow ((gb.trans (hb5.mono gb.size)).trans (B6.out.mono (gb.trans (hb5.mono gb.size)).size)) (gb.trans (hb5.mono gb.size)).size _)) | (refine wpList_store_part rfl 23 _ _ rfl rfl w5.heap.size 0 (bv A1) 32 rfl rfl 23 _ 32 Q6.out (by omega) info26 (fun _ _ => rfl) (bv A1) (fun i hi => by unfold splice; rw [if_pos (by omega), Nat.sub_zero]) ?_; rw [hW7]) | refine wpW_load_at 23 _ rfl (w5.heap.size) 0 (by rfl) (by rfl) _ 32 _ (Q7.out.at_ 0 (by omega) (fun i hi => by rw [Nat.zero_add])) Tryz.underlying23 rfl info26 ?_ | refine wpList_store_part rfl 23 _ _ rfl rfl (w.heap.size + 1) 0 (bv A1) 32 rfl rfl 23 _ 32 K7.out (by omega) info26 (fun _ _ => rfl) (bv A1) (fun i hi => by unfold splice; rw [if_pos (by omega), Nat.sub_zero]) ?_)
  exact bodyPost_ret (results_cell_row rfl _ _ (w.heap.size + 1) 23 _ (0, 0) _ rfl (K7.out.row _ _ rfl) Tryz.underlying23 rfl (by rw [tabv_size]; exact info26)) rfl ⟨rfl, below_setRow B7.out (by omega) _⟩
end Go.Proofs.YtmmcoedgoekhgaaGreatDoor
/-
  removable of the code (printed by gen_d4.py).
-/
namespace Go.Proofs.YtmmcoedgoekhgaaGreatDoor
open Go.RowKit S
set_option linter.unusedVariables false
set_option linter.unusedSimpArgs false
end Go.Proofs.YtmmcoedgoekhgaaGreatDoor
/-
  remove of the code (printed by gen_d5.py).
-/
namespace Go.Proofs.YtmmcoedgoekhgaaGreatDoor
open Go.RowKit S
set_option linter.unusedVariables false
set_option linter.unusedSimpArgs false
end Go.Proofs.YtmmcoedgoekhgaaGreatDoor
/-
  Sign of the code (printed by gen_d7.py).
-/
namespace Go.Proofs.YtmmcoedgoekhgaaGreatDoor
open Go.RowKit S
set_option linter.unusedVariables false
set_option linter.unusedSimpArgs false
end Go.Proofs.YtmmcoedgoekhgaaGreatDoor
/-
  amount.Minus, Start of the code (printed by gen_d16.py).
-/
namespace Go.Proofs.YtmmcoedgoekhgaaGreatDoor
open Go.RowKit S
set_option linter.unusedVariables false
set_option linter.unusedSimpArgs false
end Go.Proofs.YtmmcoedgoekhgaaGreatDoor
/-
  Start of the code (printed by gen_d17.py).
-/
namespace Go.Proofs.YtmmcoedgoekhgaaGreatDoor
open Go.RowKit S
set_option linter.unusedVariables false
set_option linter.unusedSimpArgs false
def twoH (p q : Nat → UInt8) : Nat → Value := fun i => if i < 32 then .int .u8 ((p i).toNat : Int) else .int .u8 ((q (i - 32)).toNat : Int)
def startS (sd cp ou pe : Int) (p q : Nat → UInt8) : St := ⟨sd, cp, ou, pe, ⟨none, 0, 0⟩, ⟨none, 0, 0⟩, 0, 0, 0, 0, 0, 0, 0, 0, 0, false, p, q, fun _ => 0, ⟨none, 0, 0⟩, 0, -1⟩
set_option maxRecDepth 100000 in
theorem builtSZ : Tryz.prog.built 32 [] = some (tabv St.zero.v 115) := by kernel_rfl
set_option maxRecDepth 100000 in
theorem builtSS (sd cp ou pe : Int) (p q : Nat → UInt8) : Tryz.prog.built 32 [(0, .int .i64 sd), (1, .int .i64 cp), (2, .int .i64 ou), (3, .int .i64 pe), (13, .agg (tabv (twoH p q) 64)), (17, .int .i64 (-1))] = some (tabv (startS sd cp ou pe p q).v 115) := by kernel_rfl
theorem infoTwo : (Tryz.prog.info? 24).map (·.size) = some 64 := by kernel_rfl
theorem resSt (w : World) (g : Nat) (f : Nat → Value) (tmps : Array Value) (k : Value) (c t : Nat) (hg : Has w g 32 f 115) (hp : tmps.getD c undef = .pointer (some ⟨g, 0, none⟩)) (hq : tmps.getD t undef = k) (fn : Func) (h : fn.results = #[.cell c 32, .tmp t]) :
    (results fn tmps).run Tryz.prog w = .ok (.tuple #[.agg (tabv f 115), k]) w := by
  have := run_loadVar_row (P := Tryz.prog) w g 32 32 (tabv f 115) (0, 0) _ hg Tryz.underlying32 rfl (by rw [tabv_size]; exact infoSt)
  simp only [Array.getD_eq_getD_getElem?] at hp hq
  simp [results, h, hp, hq, asAddr, this]
end Go.Proofs.YtmmcoedgoekhgaaGreatDoor
/-
  slices.Clone of updates.
-/
namespace Go.Proofs.YtmmcoedgoekhgaaGreatDoor
open Go.RowKit S
set_option linter.unusedVariables false
set_option linter.unusedSimpArgs false
end Go.Proofs.YtmmcoedgoekhgaaGreatDoor
