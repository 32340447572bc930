/-
  Deals, Configs (printed by gen_d20.py).
-/
import Derived.Test.YtmmcoedgoekhgaaGreatDoorDClone
import Derived.Test.YtmmcoedgoekhgaaGreatDoorSLaid
import Derived.Test.YtmmcoedgoekhgaaGreatDoorDMsg
import Derived.Test.YtmmcoedgoekhgaaGreatDoorGLast
import Derived.Deep.CutRange
namespace Go.Proofs.YtmmcoedgoekhgaaGreatDoor
open Go.RowKit S
set_option linter.unusedVariables false
set_option linter.unusedSimpArgs false
structure Dl where
  cap : Int
  ours : Int
  s0 : Nat → UInt8
  s1 : Nat → UInt8
  k0 : Nat → UInt8
  k1 : Nat → UInt8
def Dl.v (s : Dl) : Nat → Value := fun i => if i < 1 then .int .i64 s.cap else if i < 2 then .int .i64 s.ours else if i < 34 then .int .u8 ((s.s0 (i - 2)).toNat : Int) else if i < 66 then .int .u8 ((s.s1 (i - 34)).toNat : Int) else if i < 98 then .int .u8 ((s.k0 (i - 66)).toNat : Int) else .int .u8 ((s.k1 (i - 98)).toNat : Int)
def Dl.zero : Dl := ⟨0, 0, fun _ => 0, fun _ => 0, fun _ => 0, fun _ => 0⟩
theorem Dl.v_s0 (s : Dl) (i : Nat) (hi : i < 32) : s.v (2 + i) = bv s.s0 i := by
  unfold Dl.v bv
  rw [if_neg (by omega), if_neg (by omega), if_pos (by omega), show 2 + i - 2 = i by omega]
theorem Dl.v_s1 (s : Dl) (i : Nat) (hi : i < 32) : s.v (34 + i) = bv s.s1 i := by
  unfold Dl.v bv
  rw [if_neg (by omega), if_neg (by omega), if_neg (by omega), if_pos (by omega), show 34 + i - 34 = i by omega]
theorem Dl.v_k0 (s : Dl) (i : Nat) (hi : i < 32) : s.v (66 + i) = bv s.k0 i := by
  unfold Dl.v bv
  rw [if_neg (by omega), if_neg (by omega), if_neg (by omega), if_neg (by omega), if_pos (by omega), show 66 + i - 66 = i by omega]
theorem Dl.v_k1 (s : Dl) (i : Nat) (hi : i < 32) : s.v (98 + i) = bv s.k1 i := by
  unfold Dl.v bv
  rw [if_neg (by omega), if_neg (by omega), if_neg (by omega), if_neg (by omega), if_neg (by omega), show 98 + i - 98 = i by omega]
/-- A side's point. -/
def pointA (h : Nat → UInt8) (n : Int) : Nat → UInt8 := sha (listOf (secretA h n).1)
def cfg0 (d : Dl) : Cf := ⟨0, d.cap, d.ours, d.s0, d.k0, d.k1, pointA d.s1 0, pointA d.s1 1, 4096⟩
def cfg1 (d : Dl) : Cf := ⟨1, d.cap, wrap64 (d.cap - d.ours), d.s1, d.k1, d.k0, pointA d.s0 0, pointA d.s0 1, 4096⟩
def twoC (a b : Cf) : Nat → Value := fun i => if i < 164 then a.v i else b.v (i - 164)
theorem info2C : (Tryz.prog.info? 57).map (·.size) = some 328 := by kernel_rfl
set_option maxRecDepth 100000 in
theorem zero2C : Tryz.zeroCells57 = tabv (twoC Cf.zero Cf.zero) 328 := by kernel_rfl
theorem one2C (a b : Cf) (i : Nat) : (twoC a b i).oneCell' = true := by
  unfold twoC
  split
  · exact oneCf _ _
  · exact oneCf _ _
set_option maxRecDepth 100000 in
theorem built2H (p q : Nat → UInt8) : Tryz.prog.built 24 [(0, .agg (tabv (bv p) 32)), (1, .agg (tabv (bv q) 32))] = some (tabv (twoH p q) 64) := by kernel_rfl
set_option maxRecDepth 100000 in
theorem builtCf (sd cp ou : Int) (s k q p0 p1 : Nat → UInt8) : Tryz.prog.built 26 [(0, .int .i64 sd), (1, .int .i64 cp), (2, .int .i64 ou), (3, .agg (tabv (bv s) 32)), (4, .agg (tabv (bv k) 32)), (5, .agg (tabv (bv q) 32)), (6, .agg (tabv (twoH p0 p1) 64)), (7, .int .i64 4096)] = some (tabv (Cf.v ⟨sd, cp, ou, s, k, q, p0, p1, 4096⟩) 164) := by kernel_rfl
theorem splice2C0 (a b c : Cf) (i : Nat) (hi : i < 328) : splice (twoC a b) 0 c.v 164 i = twoC c b i := by
  unfold splice twoC
  by_cases h : i < 164
  · rw [if_pos (by omega), if_pos h, Nat.sub_zero]
  · rw [if_neg (by omega), if_neg h, if_neg h]
theorem splice2C1 (a b c : Cf) (i : Nat) (hi : i < 328) : splice (twoC a b) 164 c.v 164 i = twoC a c i := by
  unfold splice twoC
  by_cases h : i < 164
  · rw [if_neg (by omega), if_pos h, if_pos h]
  · rw [if_pos (by omega), if_neg h]
set_option maxRecDepth 100000 in
set_option maxHeartbeats 40000000 in
theorem lpoint_any (num : Num) (h : Nat → UInt8) (x : Int) (w : World) : Calls Tryz.prog 57 #[.agg (tabv (bv h) 32), .int .i64 x] w fun e w' => e = .returned (.agg (tabv (bv (pointA h x)) 32)) ∧ Below w.heap.size w w' := by
  obtain ⟨w1, hW1⟩ : ∃ wX, w.alloc (.cells (tabv (bv h) 32) 23) = wX := ⟨_, rfl⟩
  have rs : Has w1 w.heap.size 23 (bv h) 32 := by rw [← hW1]; exact Has.new w 23 (bv h) 32 _ rfl
  have bb : Below w.heap.size w w1 := by rw [← hW1]; exact (Below.refl w.heap.size w).alloc (Nat.le_refl _) _
  have gb : Below w.heap.size w w1 := bb
  clear bb
  obtain ⟨w2, hW2⟩ : ∃ wX, w1.alloc (.cells (tabv (fun _ => .int .u8 0) 32) 23) = wX := ⟨_, rfl⟩
  have rr : Has w2 w1.heap.size 23 (fun _ => .int .u8 0) 32 := by rw [← hW2]; exact Has.new w1 23 (fun _ => .int .u8 0) 32 _ rfl
  have bb : Below w1.heap.size w1 w2 := by rw [← hW2]; exact (Below.refl w1.heap.size w1).alloc (Nat.le_refl _) _
  have rs := rs.below bb rs.lt
  have gb : Below w.heap.size w w2 := gb.trans (bb.mono gb.size)
  clear bb
  have Rb_s := hide rs
  have Rb_r := hide rr
  have GB := hide gb
  clear gb rs rr
  have LB : w.heap.size ≤ w1.heap.size := by rw [← hW1, size_alloc]; omega
  have HS := hide (fun wx : World => rSecret_any num h x wx)
  have HP := hide (fun wx : World => rpoint_any num (secretA h x).1 wx)
  unfold pointA
  generalize sha (listOf (secretA h x).1) = PT at HP ⊢
  generalize secretA h x = SA at HS HP
  obtain ⟨A1, A2⟩ := SA
  rw [zero32] at hW2
  go_enter Tryz.func57, Tryz.ntmps57
  go_wp2_with (first | refine wpW_load_at 23 _ rfl (w.heap.size) (0) (by rfl) (by rfl) _ 32 _ (Rb_s.out.at_ 0 (by omega) (fun i hi => by rw [Nat.zero_add])) Tryz.underlying23 rfl info26 ?_ | fail)
  refine (HS.out _).mono ?_
  rintro e y1 ⟨rfl, hb⟩
  have Ry1_s := hide (Rb_s.out.below hb Rb_s.out.lt)
  have Ry1_r := hide (Rb_r.out.below hb Rb_r.out.lt)
  have Gy1 := hide (GB.out.trans (hb.mono GB.out.size))
  clear hb
  obtain ⟨U1, U2, hU1, rU1, hU2, rU2, hb⟩ := newHs y1 A1
  have RU1 := hide rU1
  have RU2 := hide rU2
  clear rU1 rU2
  rw [zero32] at hU1
  have RU2_s := hide (Ry1_s.out.below hb Ry1_s.out.lt)
  have RU2_r := hide (Ry1_r.out.below hb Ry1_r.out.lt)
  have GU2 := hide (Gy1.out.trans (hb.mono Gy1.out.size))
  clear hb
  go_wp2_with (first | (rw [hU1]) | (refine wpList_storeHs rfl _ _ rfl rfl y1.heap.size A1 rfl rfl _ RU1.out ?_; rw [hU2]) | refine wpW_load_at 23 _ rfl (y1.heap.size) (0) (by rfl) (by rfl) _ 32 _ (RU2.out.at_ 0 (by omega) (fun i hi => by rw [Nat.zero_add])) Tryz.underlying23 rfl info26 ?_ | fail)
  refine (HP.out _).mono ?_
  rintro e y2 ⟨rfl, hb⟩
  have Ry2_s := hide (RU2_s.out.below hb RU2_s.out.lt)
  have Ry2_r := hide (RU2_r.out.below hb RU2_r.out.lt)
  have Ry2_x := hide (RU2.out.below hb RU2.out.lt)
  have Gy2 := hide (GU2.out.trans (hb.mono GU2.out.size))
  clear hb
  go_wp2_with (first | refine wpList_storeHs rfl _ _ rfl rfl w1.heap.size PT rfl rfl _ Ry2_r.out ?_ | fail)
  (try simp only [Exit.inBlock, Exit.then])
  exact bodyPost_ret (results_cell_row rfl _ _ w1.heap.size 23 _ (0, 0) _ rfl (Ry2_r.out.row _ _ rfl) Tryz.underlying23 rfl (by rw [tabv_size]; exact info26)) rfl ⟨rfl, below_setRow Gy2.out LB _⟩
set_option maxRecDepth 100000 in
set_option maxHeartbeats 40000000 in
theorem configs_any (num : Num) (d : Dl) (w : World) : Calls Tryz.prog 24 #[.agg (tabv d.v 130)] w fun e w' => e = .returned (.agg (tabv (twoC (cfg0 d) (cfg1 d)) 328)) ∧ Below w.heap.size w w' := by
  obtain ⟨w1, hW1⟩ : ∃ wX, w.alloc (.cells (tabv d.v 130) 55) = wX := ⟨_, rfl⟩
  have rd : Has w1 w.heap.size 55 d.v 130 := by rw [← hW1]; exact Has.new w 55 d.v 130 _ rfl
  have bb : Below w.heap.size w w1 := by rw [← hW1]; exact (Below.refl w.heap.size w).alloc (Nat.le_refl _) _
  have gb : Below w.heap.size w w1 := bb
  clear bb
  obtain ⟨w2, hW2⟩ : ∃ wX, w1.alloc (.cells (tabv (twoC Cf.zero Cf.zero) 328) 57) = wX := ⟨_, rfl⟩
  have rr : Has w2 w1.heap.size 57 (twoC Cf.zero Cf.zero) 328 := by rw [← hW2]; exact Has.new w1 57 (twoC Cf.zero Cf.zero) 328 _ rfl
  have bb : Below w1.heap.size w1 w2 := by rw [← hW2]; exact (Below.refl w1.heap.size w1).alloc (Nat.le_refl _) _
  have rd := rd.below bb rd.lt
  have gb : Below w.heap.size w w2 := gb.trans (bb.mono gb.size)
  clear bb
  obtain ⟨w3, hW3⟩ : ∃ wX, w2.alloc (.cells (tabv (twoC Cf.zero Cf.zero) 328) 57) = wX := ⟨_, rfl⟩
  have rl : Has w3 w2.heap.size 57 (twoC Cf.zero Cf.zero) 328 := by rw [← hW3]; exact Has.new w2 57 (twoC Cf.zero Cf.zero) 328 _ rfl
  have bb : Below w2.heap.size w2 w3 := by rw [← hW3]; exact (Below.refl w2.heap.size w2).alloc (Nat.le_refl _) _
  have rd := rd.below bb rd.lt
  have rr := rr.below bb rr.lt
  have gb : Below w.heap.size w w3 := gb.trans (bb.mono gb.size)
  clear bb
  have Rb_d := hide rd
  have Rb_r := hide rr
  have Rb_l := hide rl
  have GB := hide gb
  clear gb rd rr rl
  have L1 : w.heap.size < w1.heap.size := by rw [← hW1, size_alloc]; omega
  have L2 : w1.heap.size < w2.heap.size := by rw [← hW2, size_alloc]; omega
  have HP := hide (fun (h : Nat → UInt8) (x : Int) (wx : World) => lpoint_any num h x wx)
  rw [← zero2C] at hW2 hW3
  have HC0 := hide (show cfg0 d = ⟨0, d.cap, d.ours, d.s0, d.k0, d.k1, pointA d.s1 0, pointA d.s1 1, 4096⟩ from rfl)
  have HC1 := hide (show cfg1 d = ⟨1, d.cap, wrap64 (d.cap - d.ours), d.s1, d.k1, d.k0, pointA d.s0 0, pointA d.s0 1, 4096⟩ from rfl)
  generalize cfg0 d = C0 at HC0 ⊢
  generalize cfg1 d = C1 at HC1 ⊢
  go_enter Tryz.func24, Tryz.ntmps24
  go_wp2
  try rw [hW3]
  go_loopw [4] (fun i wr => ∃ k : Nat, k ≤ 2 ∧ i = .int .i64 k ∧ (∃ f, f = (if k = 0 then twoC Cf.zero Cf.zero else if k = 1 then twoC C0 Cf.zero else twoC C0 C1) ∧ Has wr w.heap.size 55 d.v 130 ∧ Has wr w2.heap.size 57 f 328 ∧ Has wr w1.heap.size 57 (twoC Cf.zero Cf.zero) 328 ∧ Below w.heap.size w wr)) (fun i _ => 2 - (intOf i).toNat)
  case atStart => exact ⟨0, by omega, rfl, _, rfl, Rb_d.out, Rb_l.out, Rb_r.out, GB.out⟩
  case round =>
    obtain ⟨k, hk, rfl, f, hf, g0, g1, g2, gb⟩ := hrel
    have hk3 : k = 0 ∨ k = 1 ∨ k = 2 := by omega
    have G0 := hide g0
    have G1 := hide g1
    have G2 := hide g2
    have GBr := hide gb
    clear g0 g1 g2 gb
    rcases hk3 with rfl | rfl | rfl
    · subst hf
      have hd : decide (((0 : Nat) : Int) < 2) = true := by decide
      skip
      have z1 : wr.cell? ⟨w.heap.size, 1, none⟩ = some (.int .i64 d.ours) := G0.out.cell 1 (by omega)
      have z0 : wr.cell? ⟨w.heap.size, 0, none⟩ = some (.int .i64 d.cap) := G0.out.cell 0 (by omega)
      skip
      go_upto_region 8 with fail
      refine wp_region_noPanic ?_
      refine wp_region_T (S := fun wx => Has wx w.heap.size 55 d.v 130 ∧ Has wx w2.heap.size 57 (twoC Cf.zero Cf.zero) 328 ∧ Has wx w1.heap.size 57 (twoC Cf.zero Cf.zero) 328 ∧ Below w.heap.size w wx) 33 (by kernel_rfl) (⟨G0.out, G1.out, G2.out, belowD GBr.out 1⟩) (fun hHeld => ?_)
      generalize hwd : World.drew _ = wd at hHeld ⊢
      refine takeP [32] 0 (some 19) (.int .i64 0) rfl rfl (by kernel_rfl) (by kernel_rfl) (by kernel_rfl) (by kernel_rfl) (by kernel_rfl) (by decide) (fun _ _ _ h => h) (by rfl) (fun w_ hw => by first | rfl | (go_simp; done) | (go_simp; rfl) | (go_simp; omega)) hHeld ?_
      simp only [Act.put, List.setIfInBounds_toArray, List.set_cons_zero, List.set_cons_succ]
      refine takeP [31] 1 (some 20) (.int .i64 0) rfl rfl (by kernel_rfl) (by kernel_rfl) (by kernel_rfl) (by kernel_rfl) (by kernel_rfl) (by decide) (fun _ _ _ h => h) (by rfl) (fun w_ hw => by first | rfl | (go_simp; done) | (go_simp; rfl) | (go_simp; omega)) hHeld ?_
      simp only [Act.put, List.setIfInBounds_toArray, List.set_cons_zero, List.set_cons_succ]
      refine takeP [31, 3] 2 (some 21) (.pointer (some ⟨w.heap.size, 0, none⟩)) rfl rfl (by kernel_rfl) (by kernel_rfl) (by kernel_rfl) (by kernel_rfl) (by kernel_rfl) (by decide) (fun _ _ _ h => h) (by rfl) (fun w_ hw => by first | rfl | (go_simp; done) | (go_simp; rfl) | (go_simp; omega)) hHeld ?_
      simp only [Act.put, List.setIfInBounds_toArray, List.set_cons_zero, List.set_cons_succ]
      refine takeP [31] 3 (some 22) (.int .i64 d.cap) rfl rfl (by kernel_rfl) (by kernel_rfl) (by kernel_rfl) (by kernel_rfl) (by kernel_rfl) (by decide) (fun _ _ _ h => h) (by rfl) (fun w_ hw => by have c : World.cell? _ ⟨w.heap.size, 0, none⟩ = some (.int .i64 d.cap) := hw.1.cell 0 (by omega); first | rfl | (go_simp; done) | (go_simp; rfl)) hHeld ?_
      simp only [Act.put, List.setIfInBounds_toArray, List.set_cons_zero, List.set_cons_succ]
      refine takeP [31] 4 (some 23) (.int .i64 d.ours) rfl rfl (by kernel_rfl) (by kernel_rfl) (by kernel_rfl) (by kernel_rfl) (by kernel_rfl) (by decide) (fun _ _ _ h => h) (by rfl) (fun w_ hw => by first | rfl | (go_simp; done) | (go_simp; rfl) | (go_simp; omega)) hHeld ?_
      simp only [Act.put, List.setIfInBounds_toArray, List.set_cons_zero, List.set_cons_succ]
      refine takeP [31, 8, 7] 5 (some 24) (.int .i64 0) rfl rfl (by kernel_rfl) (by kernel_rfl) (by kernel_rfl) (by kernel_rfl) (by kernel_rfl) (by decide) (fun _ _ _ h => h) (by rfl) (fun w_ hw => by first | rfl | (go_simp; done) | (go_simp; rfl) | (go_simp; omega)) hHeld ?_
      simp only [Act.put, List.setIfInBounds_toArray, List.set_cons_zero, List.set_cons_succ]
      refine takeP [31, 8, 7] 6 (some 25) (.pointer (some ⟨w.heap.size, 2, none⟩)) rfl rfl (by kernel_rfl) (by kernel_rfl) (by kernel_rfl) (by kernel_rfl) (by kernel_rfl) (by decide) (fun _ _ _ h => h) (by rfl) (fun w_ hw => by first | rfl | (go_simp; done) | (go_simp; rfl) | (go_simp; omega)) hHeld ?_
      simp only [Act.put, List.setIfInBounds_toArray, List.set_cons_zero, List.set_cons_succ]
      refine takeP [31, 8] 7 (some 26) (.pointer (some ⟨w.heap.size, 2, none⟩)) rfl rfl (by kernel_rfl) (by kernel_rfl) (by kernel_rfl) (by kernel_rfl) (by kernel_rfl) (by decide) (fun _ _ _ h => h) (by rfl) (fun w_ hw => by first | rfl | (go_simp; done) | (go_simp; rfl) | (go_simp; omega)) hHeld ?_
      simp only [Act.put, List.setIfInBounds_toArray, List.set_cons_zero, List.set_cons_succ]
      refine takeP [31] 8 (some 27) (.agg (tabv (bv d.s0) 32)) rfl rfl (by kernel_rfl) (by kernel_rfl) (by kernel_rfl) (by kernel_rfl) (by kernel_rfl) (by decide) (fun _ _ _ h => h) (by rfl) (fun w_ hw => run_load_at w_ 23 _ rfl (w.heap.size) 2 (by rfl) _ 32 _ (hw.1.at_ (k := 32) (f' := bv d.s0) 2 (by omega) (fun i hi => d.v_s0 i hi)) Tryz.underlying23 rfl info26) hHeld ?_
      simp only [Act.put, List.setIfInBounds_toArray, List.set_cons_zero, List.set_cons_succ]
      refine takeP [31, 12, 11] 9 (some 28) (.int .i64 0) rfl rfl (by kernel_rfl) (by kernel_rfl) (by kernel_rfl) (by kernel_rfl) (by kernel_rfl) (by decide) (fun _ _ _ h => h) (by rfl) (fun w_ hw => by first | rfl | (go_simp; done) | (go_simp; rfl) | (go_simp; omega)) hHeld ?_
      simp only [Act.put, List.setIfInBounds_toArray, List.set_cons_zero, List.set_cons_succ]
      refine takeP [31, 12, 11] 10 (some 29) (.pointer (some ⟨w.heap.size, 66, none⟩)) rfl rfl (by kernel_rfl) (by kernel_rfl) (by kernel_rfl) (by kernel_rfl) (by kernel_rfl) (by decide) (fun _ _ _ h => h) (by rfl) (fun w_ hw => by first | rfl | (go_simp; done) | (go_simp; rfl) | (go_simp; omega)) hHeld ?_
      simp only [Act.put, List.setIfInBounds_toArray, List.set_cons_zero, List.set_cons_succ]
      refine takeP [31, 12] 11 (some 30) (.pointer (some ⟨w.heap.size, 66, none⟩)) rfl rfl (by kernel_rfl) (by kernel_rfl) (by kernel_rfl) (by kernel_rfl) (by kernel_rfl) (by decide) (fun _ _ _ h => h) (by rfl) (fun w_ hw => by first | rfl | (go_simp; done) | (go_simp; rfl) | (go_simp; omega)) hHeld ?_
      simp only [Act.put, List.setIfInBounds_toArray, List.set_cons_zero, List.set_cons_succ]
      refine takeP [31] 12 (some 31) (.agg (tabv (bv d.k0) 32)) rfl rfl (by kernel_rfl) (by kernel_rfl) (by kernel_rfl) (by kernel_rfl) (by kernel_rfl) (by decide) (fun _ _ _ h => h) (by rfl) (fun w_ hw => run_load_at w_ 23 _ rfl (w.heap.size) 66 (by rfl) _ 32 _ (hw.1.at_ (k := 32) (f' := bv d.k0) 66 (by omega) (fun i hi => d.v_k0 i hi)) Tryz.underlying23 rfl info26) hHeld ?_
      simp only [Act.put, List.setIfInBounds_toArray, List.set_cons_zero, List.set_cons_succ]
      refine takeP [31, 17, 16, 14] 13 (some 32) (.int .i64 0) rfl rfl (by kernel_rfl) (by kernel_rfl) (by kernel_rfl) (by kernel_rfl) (by kernel_rfl) (by decide) (fun _ _ _ h => h) (by rfl) (fun w_ hw => by first | rfl | (go_simp; done) | (go_simp; rfl) | (go_simp; omega)) hHeld ?_
      simp only [Act.put, List.setIfInBounds_toArray, List.set_cons_zero, List.set_cons_succ]
      refine takeP [31, 17, 16] 14 (some 33) (.int .i64 1) rfl rfl (by kernel_rfl) (by kernel_rfl) (by kernel_rfl) (by kernel_rfl) (by kernel_rfl) (by decide) (fun _ _ _ h => h) (by rfl) (fun w_ hw => by first | rfl | (go_simp; done) | (go_simp; rfl) | (go_simp; omega)) hHeld ?_
      simp only [Act.put, List.setIfInBounds_toArray, List.set_cons_zero, List.set_cons_succ]
      refine takeP [31, 17, 16] 15 (some 34) (.pointer (some ⟨w.heap.size, 66, none⟩)) rfl rfl (by kernel_rfl) (by kernel_rfl) (by kernel_rfl) (by kernel_rfl) (by kernel_rfl) (by decide) (fun _ _ _ h => h) (by rfl) (fun w_ hw => by first | rfl | (go_simp; done) | (go_simp; rfl) | (go_simp; omega)) hHeld ?_
      simp only [Act.put, List.setIfInBounds_toArray, List.set_cons_zero, List.set_cons_succ]
      refine takeP [31, 17] 16 (some 35) (.pointer (some ⟨w.heap.size, 98, none⟩)) rfl rfl (by kernel_rfl) (by kernel_rfl) (by kernel_rfl) (by kernel_rfl) (by kernel_rfl) (by decide) (fun _ _ _ h => h) (by rfl) (fun w_ hw => by first | rfl | (go_simp; done) | (go_simp; rfl) | (go_simp; omega)) hHeld ?_
      simp only [Act.put, List.setIfInBounds_toArray, List.set_cons_zero, List.set_cons_succ]
      refine takeP [31] 17 (some 36) (.agg (tabv (bv d.k1) 32)) rfl rfl (by kernel_rfl) (by kernel_rfl) (by kernel_rfl) (by kernel_rfl) (by kernel_rfl) (by decide) (fun _ _ _ h => h) (by rfl) (fun w_ hw => run_load_at w_ 23 _ rfl (w.heap.size) 98 (by rfl) _ 32 _ (hw.1.at_ (k := 32) (f' := bv d.k1) 98 (by omega) (fun i hi => d.v_k1 i hi)) Tryz.underlying23 rfl info26) hHeld ?_
      simp only [Act.put, List.setIfInBounds_toArray, List.set_cons_zero, List.set_cons_succ]
      refine takeP [31, 30, 23, 22, 21, 19] 18 (some 37) (.int .i64 0) rfl rfl (by kernel_rfl) (by kernel_rfl) (by kernel_rfl) (by kernel_rfl) (by kernel_rfl) (by decide) (fun _ _ _ h => h) (by rfl) (fun w_ hw => by first | rfl | (go_simp; done) | (go_simp; rfl) | (go_simp; omega)) hHeld ?_
      simp only [Act.put, List.setIfInBounds_toArray, List.set_cons_zero, List.set_cons_succ]
      refine takeP [31, 30, 23, 22, 21] 19 (some 38) (.int .i64 1) rfl rfl (by kernel_rfl) (by kernel_rfl) (by kernel_rfl) (by kernel_rfl) (by kernel_rfl) (by decide) (fun _ _ _ h => h) (by rfl) (fun w_ hw => by first | rfl | (go_simp; done) | (go_simp; rfl) | (go_simp; omega)) hHeld ?_
      simp only [Act.put, List.setIfInBounds_toArray, List.set_cons_zero, List.set_cons_succ]
      refine takeP [31, 30, 23, 22, 21] 20 (some 39) (.pointer (some ⟨w.heap.size, 2, none⟩)) rfl rfl (by kernel_rfl) (by kernel_rfl) (by kernel_rfl) (by kernel_rfl) (by kernel_rfl) (by decide) (fun _ _ _ h => h) (by rfl) (fun w_ hw => by first | rfl | (go_simp; done) | (go_simp; rfl) | (go_simp; omega)) hHeld ?_
      simp only [Act.put, List.setIfInBounds_toArray, List.set_cons_zero, List.set_cons_succ]
      refine takeP [31, 30, 23, 22] 21 (some 40) (.pointer (some ⟨w.heap.size, 34, none⟩)) rfl rfl (by kernel_rfl) (by kernel_rfl) (by kernel_rfl) (by kernel_rfl) (by kernel_rfl) (by decide) (fun _ _ _ h => h) (by rfl) (fun w_ hw => by first | rfl | (go_simp; done) | (go_simp; rfl) | (go_simp; omega)) hHeld ?_
      simp only [Act.put, List.setIfInBounds_toArray, List.set_cons_zero, List.set_cons_succ]
      refine takeP [31, 30, 23] 22 (some 41) (.agg (tabv (bv d.s1) 32)) rfl rfl (by kernel_rfl) (by kernel_rfl) (by kernel_rfl) (by kernel_rfl) (by kernel_rfl) (by decide) (fun _ _ _ h => h) (by rfl) (fun w_ hw => run_load_at w_ 23 _ rfl (w.heap.size) 34 (by rfl) _ 32 _ (hw.1.at_ (k := 32) (f' := bv d.s1) 34 (by omega) (fun i hi => d.v_s1 i hi)) Tryz.underlying23 rfl info26) hHeld ?_
      simp only [Act.put, List.setIfInBounds_toArray, List.set_cons_zero, List.set_cons_succ]
      refine takeP [31, 30, 29, 28, 27, 25] 24 (some 43) (.int .i64 0) rfl rfl (by kernel_rfl) (by kernel_rfl) (by kernel_rfl) (by kernel_rfl) (by kernel_rfl) (by decide) (fun _ _ _ h => h) (by rfl) (fun w_ hw => by first | rfl | (go_simp; done) | (go_simp; rfl) | (go_simp; omega)) hHeld ?_
      simp only [Act.put, List.setIfInBounds_toArray, List.set_cons_zero, List.set_cons_succ]
      refine takeP [31, 30, 29, 28, 27] 25 (some 44) (.int .i64 1) rfl rfl (by kernel_rfl) (by kernel_rfl) (by kernel_rfl) (by kernel_rfl) (by kernel_rfl) (by decide) (fun _ _ _ h => h) (by rfl) (fun w_ hw => by first | rfl | (go_simp; done) | (go_simp; rfl) | (go_simp; omega)) hHeld ?_
      simp only [Act.put, List.setIfInBounds_toArray, List.set_cons_zero, List.set_cons_succ]
      refine takeP [31, 30, 29, 28, 27] 26 (some 45) (.pointer (some ⟨w.heap.size, 2, none⟩)) rfl rfl (by kernel_rfl) (by kernel_rfl) (by kernel_rfl) (by kernel_rfl) (by kernel_rfl) (by decide) (fun _ _ _ h => h) (by rfl) (fun w_ hw => by first | rfl | (go_simp; done) | (go_simp; rfl) | (go_simp; omega)) hHeld ?_
      simp only [Act.put, List.setIfInBounds_toArray, List.set_cons_zero, List.set_cons_succ]
      refine takeP [31, 30, 29, 28] 27 (some 46) (.pointer (some ⟨w.heap.size, 34, none⟩)) rfl rfl (by kernel_rfl) (by kernel_rfl) (by kernel_rfl) (by kernel_rfl) (by kernel_rfl) (by decide) (fun _ _ _ h => h) (by rfl) (fun w_ hw => by first | rfl | (go_simp; done) | (go_simp; rfl) | (go_simp; omega)) hHeld ?_
      simp only [Act.put, List.setIfInBounds_toArray, List.set_cons_zero, List.set_cons_succ]
      refine takeP [31, 30, 29] 28 (some 47) (.agg (tabv (bv d.s1) 32)) rfl rfl (by kernel_rfl) (by kernel_rfl) (by kernel_rfl) (by kernel_rfl) (by kernel_rfl) (by decide) (fun _ _ _ h => h) (by rfl) (fun w_ hw => run_load_at w_ 23 _ rfl (w.heap.size) 34 (by rfl) _ 32 _ (hw.1.at_ (k := 32) (f' := bv d.s1) 34 (by omega) (fun i hi => d.v_s1 i hi)) Tryz.underlying23 rfl info26) hHeld ?_
      simp only [Act.put, List.setIfInBounds_toArray, List.set_cons_zero, List.set_cons_succ]
      refine readyT 23 (by kernel_rfl) rfl (by rfl) (fun K hK => ?_)
      go_simp
      refine (HP.out d.s1 0 _).mono ?_
      rintro e ya ⟨rfl, hbq⟩
      try go_wp2_with fail
      refine hK.out _ _ (fun _ => ⟨hHeld.1.below hbq hHeld.1.lt, hHeld.2.1.below hbq hHeld.2.1.lt, hHeld.2.2.1.below hbq hHeld.2.2.1.lt, hHeld.2.2.2.trans (hbq.mono hHeld.2.2.2.size)⟩) (fun hH => ?_)
      clear hHeld
      have hHeld := hH (by decide)
      clear hK hH hbq
      refine readyT 29 (by kernel_rfl) rfl (by rfl) (fun K hK => ?_)
      go_simp
      refine (HP.out d.s1 1 _).mono ?_
      rintro e yb ⟨rfl, hbq⟩
      try go_wp2_with fail
      refine hK.out _ _ (fun _ => ⟨hHeld.1.below hbq hHeld.1.lt, hHeld.2.1.below hbq hHeld.2.1.lt, hHeld.2.2.1.below hbq hHeld.2.2.1.lt, hHeld.2.2.2.trans (hbq.mono hHeld.2.2.2.size)⟩) (fun hH => ?_)
      clear hHeld
      have hHeld := hH (by decide)
      clear hK hH hbq
      refine takeP [31] 30 (some 49) (.agg (tabv (twoH (pointA d.s1 0) (pointA d.s1 1)) 64)) rfl rfl (by kernel_rfl) (by kernel_rfl) (by kernel_rfl) (by kernel_rfl) (by kernel_rfl) (by decide) (fun _ _ _ h => h) (by rfl) (fun w_ hw => run_buildG w_ 24 _ rfl [(0, .agg (tabv (bv (pointA d.s1 0)) 32)), (1, .agg (tabv (bv (pointA d.s1 1)) 32))] (by first | rfl | (simp [Act.eval, Act.put]; done)) _ (built2H _ _)) hHeld ?_
      simp only [Act.put, List.setIfInBounds_toArray, List.set_cons_zero, List.set_cons_succ]
      refine takeT 31 (some 50) (.agg (tabv (Cf.v ⟨0, d.cap, d.ours, d.s0, d.k0, d.k1, (pointA d.s1 0), (pointA d.s1 1), 4096⟩) 164)) rfl rfl (by kernel_rfl) (by kernel_rfl) (by kernel_rfl) (by kernel_rfl) (by decide) (fun _ _ _ h => h) (by rfl) (fun w_ hw => run_buildG w_ 26 _ rfl [(0, .int .i64 0), (1, .int .i64 d.cap), (2, .int .i64 d.ours), (3, .agg (tabv (bv d.s0) 32)), (4, .agg (tabv (bv d.k0) 32)), (5, .agg (tabv (bv d.k1) 32)), (6, .agg (tabv (twoH (pointA d.s1 0) (pointA d.s1 1)) 64)), (7, .int .i64 4096)] (by first | rfl | (simp [Act.eval, Act.put]; done)) _ (builtCf _ _ _ _ _ _ _ _)) hHeld ?_
      simp only [Act.put, List.setIfInBounds_toArray, List.set_cons_zero, List.set_cons_succ]
      refine takeT 32 (some 51) (.pointer (some ⟨w2.heap.size, 0, none⟩)) rfl rfl (by kernel_rfl) (by kernel_rfl) (by kernel_rfl) (by kernel_rfl) (by decide) (fun _ _ _ h => h) (by rfl) (fun w_ hw => by first | rfl | (go_simp; done) | (go_simp; rfl) | (go_simp; omega)) hHeld ?_
      simp only [Act.put, List.setIfInBounds_toArray, List.set_cons_zero, List.set_cons_succ]
      rw [← HC0.out]
      refine readyT 33 (by kernel_rfl) rfl (by rfl) (fun K hK => ?_)
      refine wp_store_part 26 _ _ rfl rfl w2.heap.size 0 C0.v 164 rfl rfl 57 _ 328 hHeld.2.1 (by omega) infoCf (fun i _ => oneCf _ i) (twoC C0 Cf.zero) (fun i hi => splice2C0 _ _ _ i hi) ?_
      obtain ⟨h1, h2, h3, h4⟩ := hHeld
      have K0 := hide (show Has (World.setRow _ w2.heap.size (tabv (twoC C0 Cf.zero) 328)) w.heap.size 55 d.v 130 from h1.row_other _ _ (by omega))
      have K1 := hide (show Has (World.setRow _ w2.heap.size (tabv (twoC C0 Cf.zero) 328)) w2.heap.size 57 (twoC C0 Cf.zero) 328 from h2.row _ _ rfl)
      have K2 := hide (show Has (World.setRow _ w2.heap.size (tabv (twoC C0 Cf.zero) 328)) w1.heap.size 57 (twoC Cf.zero Cf.zero) 328 from h3.row_other _ _ (by omega))
      have KB := hide (below_setRow h4 (show w.heap.size ≤ w2.heap.size by omega) (tabv (twoC C0 Cf.zero) 328))
      refine hK.out _ _ (fun x => absurd rfl x) (fun _ => ?_)
      clear hK h1 h2 h3 h4
      refine ⟨by kernel_rfl, ?_⟩
      refine NoPanic.normal ?_
      generalize hwz : World.setRow _ w2.heap.size (tabv (twoC C0 Cf.zero) 328) = wz at K0 K1 K2 KB ⊢
      clear hwz
      go_wp2
      go_roundw
      case rel => exact ⟨1, by omega, by go_num, _, rfl, K0.out, K1.out, K2.out, KB.out⟩
      case measure => simp [intOf]
    · subst hf
      have hd : decide (((1 : Nat) : Int) < 2) = true := by decide
      have hq : ((1 : Nat) : Int) == 1 := by decide
      have z1 : wr.cell? ⟨w.heap.size, 1, none⟩ = some (.int .i64 d.ours) := G0.out.cell 1 (by omega)
      have z0 : wr.cell? ⟨w.heap.size, 0, none⟩ = some (.int .i64 d.cap) := G0.out.cell 0 (by omega)
      skip
      go_upto_region 8 with fail
      refine wp_region_noPanic ?_
      refine wp_region_T (S := fun wx => Has wx w.heap.size 55 d.v 130 ∧ Has wx w2.heap.size 57 (twoC C0 Cf.zero) 328 ∧ Has wx w1.heap.size 57 (twoC Cf.zero Cf.zero) 328 ∧ Below w.heap.size w wx) 33 (by kernel_rfl) (⟨G0.out, G1.out, G2.out, belowD GBr.out 1⟩) (fun hHeld => ?_)
      generalize hwd : World.drew _ = wd at hHeld ⊢
      refine takeP [32] 0 (some 19) (.int .i64 1) rfl rfl (by kernel_rfl) (by kernel_rfl) (by kernel_rfl) (by kernel_rfl) (by kernel_rfl) (by decide) (fun _ _ _ h => h) (by rfl) (fun w_ hw => by first | rfl | (go_simp; done) | (go_simp; rfl) | (go_simp; omega)) hHeld ?_
      simp only [Act.put, List.setIfInBounds_toArray, List.set_cons_zero, List.set_cons_succ]
      refine takeP [31] 1 (some 20) (.int .i64 1) rfl rfl (by kernel_rfl) (by kernel_rfl) (by kernel_rfl) (by kernel_rfl) (by kernel_rfl) (by decide) (fun _ _ _ h => h) (by rfl) (fun w_ hw => by first | rfl | (go_simp; done) | (go_simp; rfl) | (go_simp; omega)) hHeld ?_
      simp only [Act.put, List.setIfInBounds_toArray, List.set_cons_zero, List.set_cons_succ]
      refine takeP [31, 3] 2 (some 21) (.pointer (some ⟨w.heap.size, 0, none⟩)) rfl rfl (by kernel_rfl) (by kernel_rfl) (by kernel_rfl) (by kernel_rfl) (by kernel_rfl) (by decide) (fun _ _ _ h => h) (by rfl) (fun w_ hw => by first | rfl | (go_simp; done) | (go_simp; rfl) | (go_simp; omega)) hHeld ?_
      simp only [Act.put, List.setIfInBounds_toArray, List.set_cons_zero, List.set_cons_succ]
      refine takeP [31] 3 (some 22) (.int .i64 d.cap) rfl rfl (by kernel_rfl) (by kernel_rfl) (by kernel_rfl) (by kernel_rfl) (by kernel_rfl) (by decide) (fun _ _ _ h => h) (by rfl) (fun w_ hw => by have c : World.cell? _ ⟨w.heap.size, 0, none⟩ = some (.int .i64 d.cap) := hw.1.cell 0 (by omega); first | rfl | (go_simp; done) | (go_simp; rfl)) hHeld ?_
      simp only [Act.put, List.setIfInBounds_toArray, List.set_cons_zero, List.set_cons_succ]
      refine takeP [31] 4 (some 23) (.int .i64 (wrap64 (d.cap - d.ours))) rfl rfl (by kernel_rfl) (by kernel_rfl) (by kernel_rfl) (by kernel_rfl) (by kernel_rfl) (by decide) (fun _ _ _ h => h) (by rfl) (fun w_ hw => by first | rfl | (go_simp; done) | (go_simp; rfl) | (go_simp; omega)) hHeld ?_
      simp only [Act.put, List.setIfInBounds_toArray, List.set_cons_zero, List.set_cons_succ]
      refine takeP [31, 8, 7] 5 (some 24) (.int .i64 1) rfl rfl (by kernel_rfl) (by kernel_rfl) (by kernel_rfl) (by kernel_rfl) (by kernel_rfl) (by decide) (fun _ _ _ h => h) (by rfl) (fun w_ hw => by first | rfl | (go_simp; done) | (go_simp; rfl) | (go_simp; omega)) hHeld ?_
      simp only [Act.put, List.setIfInBounds_toArray, List.set_cons_zero, List.set_cons_succ]
      refine takeP [31, 8, 7] 6 (some 25) (.pointer (some ⟨w.heap.size, 2, none⟩)) rfl rfl (by kernel_rfl) (by kernel_rfl) (by kernel_rfl) (by kernel_rfl) (by kernel_rfl) (by decide) (fun _ _ _ h => h) (by rfl) (fun w_ hw => by first | rfl | (go_simp; done) | (go_simp; rfl) | (go_simp; omega)) hHeld ?_
      simp only [Act.put, List.setIfInBounds_toArray, List.set_cons_zero, List.set_cons_succ]
      refine takeP [31, 8] 7 (some 26) (.pointer (some ⟨w.heap.size, 34, none⟩)) rfl rfl (by kernel_rfl) (by kernel_rfl) (by kernel_rfl) (by kernel_rfl) (by kernel_rfl) (by decide) (fun _ _ _ h => h) (by rfl) (fun w_ hw => by first | rfl | (go_simp; done) | (go_simp; rfl) | (go_simp; omega)) hHeld ?_
      simp only [Act.put, List.setIfInBounds_toArray, List.set_cons_zero, List.set_cons_succ]
      refine takeP [31] 8 (some 27) (.agg (tabv (bv d.s1) 32)) rfl rfl (by kernel_rfl) (by kernel_rfl) (by kernel_rfl) (by kernel_rfl) (by kernel_rfl) (by decide) (fun _ _ _ h => h) (by rfl) (fun w_ hw => run_load_at w_ 23 _ rfl (w.heap.size) 34 (by rfl) _ 32 _ (hw.1.at_ (k := 32) (f' := bv d.s1) 34 (by omega) (fun i hi => d.v_s1 i hi)) Tryz.underlying23 rfl info26) hHeld ?_
      simp only [Act.put, List.setIfInBounds_toArray, List.set_cons_zero, List.set_cons_succ]
      refine takeP [31, 12, 11] 9 (some 28) (.int .i64 1) rfl rfl (by kernel_rfl) (by kernel_rfl) (by kernel_rfl) (by kernel_rfl) (by kernel_rfl) (by decide) (fun _ _ _ h => h) (by rfl) (fun w_ hw => by first | rfl | (go_simp; done) | (go_simp; rfl) | (go_simp; omega)) hHeld ?_
      simp only [Act.put, List.setIfInBounds_toArray, List.set_cons_zero, List.set_cons_succ]
      refine takeP [31, 12, 11] 10 (some 29) (.pointer (some ⟨w.heap.size, 66, none⟩)) rfl rfl (by kernel_rfl) (by kernel_rfl) (by kernel_rfl) (by kernel_rfl) (by kernel_rfl) (by decide) (fun _ _ _ h => h) (by rfl) (fun w_ hw => by first | rfl | (go_simp; done) | (go_simp; rfl) | (go_simp; omega)) hHeld ?_
      simp only [Act.put, List.setIfInBounds_toArray, List.set_cons_zero, List.set_cons_succ]
      refine takeP [31, 12] 11 (some 30) (.pointer (some ⟨w.heap.size, 98, none⟩)) rfl rfl (by kernel_rfl) (by kernel_rfl) (by kernel_rfl) (by kernel_rfl) (by kernel_rfl) (by decide) (fun _ _ _ h => h) (by rfl) (fun w_ hw => by first | rfl | (go_simp; done) | (go_simp; rfl) | (go_simp; omega)) hHeld ?_
      simp only [Act.put, List.setIfInBounds_toArray, List.set_cons_zero, List.set_cons_succ]
      refine takeP [31] 12 (some 31) (.agg (tabv (bv d.k1) 32)) rfl rfl (by kernel_rfl) (by kernel_rfl) (by kernel_rfl) (by kernel_rfl) (by kernel_rfl) (by decide) (fun _ _ _ h => h) (by rfl) (fun w_ hw => run_load_at w_ 23 _ rfl (w.heap.size) 98 (by rfl) _ 32 _ (hw.1.at_ (k := 32) (f' := bv d.k1) 98 (by omega) (fun i hi => d.v_k1 i hi)) Tryz.underlying23 rfl info26) hHeld ?_
      simp only [Act.put, List.setIfInBounds_toArray, List.set_cons_zero, List.set_cons_succ]
      refine takeP [31, 17, 16, 14] 13 (some 32) (.int .i64 1) rfl rfl (by kernel_rfl) (by kernel_rfl) (by kernel_rfl) (by kernel_rfl) (by kernel_rfl) (by decide) (fun _ _ _ h => h) (by rfl) (fun w_ hw => by first | rfl | (go_simp; done) | (go_simp; rfl) | (go_simp; omega)) hHeld ?_
      simp only [Act.put, List.setIfInBounds_toArray, List.set_cons_zero, List.set_cons_succ]
      refine takeP [31, 17, 16] 14 (some 33) (.int .i64 0) rfl rfl (by kernel_rfl) (by kernel_rfl) (by kernel_rfl) (by kernel_rfl) (by kernel_rfl) (by decide) (fun _ _ _ h => h) (by rfl) (fun w_ hw => by first | rfl | (go_simp; done) | (go_simp; rfl) | (go_simp; omega)) hHeld ?_
      simp only [Act.put, List.setIfInBounds_toArray, List.set_cons_zero, List.set_cons_succ]
      refine takeP [31, 17, 16] 15 (some 34) (.pointer (some ⟨w.heap.size, 66, none⟩)) rfl rfl (by kernel_rfl) (by kernel_rfl) (by kernel_rfl) (by kernel_rfl) (by kernel_rfl) (by decide) (fun _ _ _ h => h) (by rfl) (fun w_ hw => by first | rfl | (go_simp; done) | (go_simp; rfl) | (go_simp; omega)) hHeld ?_
      simp only [Act.put, List.setIfInBounds_toArray, List.set_cons_zero, List.set_cons_succ]
      refine takeP [31, 17] 16 (some 35) (.pointer (some ⟨w.heap.size, 66, none⟩)) rfl rfl (by kernel_rfl) (by kernel_rfl) (by kernel_rfl) (by kernel_rfl) (by kernel_rfl) (by decide) (fun _ _ _ h => h) (by rfl) (fun w_ hw => by first | rfl | (go_simp; done) | (go_simp; rfl) | (go_simp; omega)) hHeld ?_
      simp only [Act.put, List.setIfInBounds_toArray, List.set_cons_zero, List.set_cons_succ]
      refine takeP [31] 17 (some 36) (.agg (tabv (bv d.k0) 32)) rfl rfl (by kernel_rfl) (by kernel_rfl) (by kernel_rfl) (by kernel_rfl) (by kernel_rfl) (by decide) (fun _ _ _ h => h) (by rfl) (fun w_ hw => run_load_at w_ 23 _ rfl (w.heap.size) 66 (by rfl) _ 32 _ (hw.1.at_ (k := 32) (f' := bv d.k0) 66 (by omega) (fun i hi => d.v_k0 i hi)) Tryz.underlying23 rfl info26) hHeld ?_
      simp only [Act.put, List.setIfInBounds_toArray, List.set_cons_zero, List.set_cons_succ]
      refine takeP [31, 30, 23, 22, 21, 19] 18 (some 37) (.int .i64 1) rfl rfl (by kernel_rfl) (by kernel_rfl) (by kernel_rfl) (by kernel_rfl) (by kernel_rfl) (by decide) (fun _ _ _ h => h) (by rfl) (fun w_ hw => by first | rfl | (go_simp; done) | (go_simp; rfl) | (go_simp; omega)) hHeld ?_
      simp only [Act.put, List.setIfInBounds_toArray, List.set_cons_zero, List.set_cons_succ]
      refine takeP [31, 30, 23, 22, 21] 19 (some 38) (.int .i64 0) rfl rfl (by kernel_rfl) (by kernel_rfl) (by kernel_rfl) (by kernel_rfl) (by kernel_rfl) (by decide) (fun _ _ _ h => h) (by rfl) (fun w_ hw => by first | rfl | (go_simp; done) | (go_simp; rfl) | (go_simp; omega)) hHeld ?_
      simp only [Act.put, List.setIfInBounds_toArray, List.set_cons_zero, List.set_cons_succ]
      refine takeP [31, 30, 23, 22, 21] 20 (some 39) (.pointer (some ⟨w.heap.size, 2, none⟩)) rfl rfl (by kernel_rfl) (by kernel_rfl) (by kernel_rfl) (by kernel_rfl) (by kernel_rfl) (by decide) (fun _ _ _ h => h) (by rfl) (fun w_ hw => by first | rfl | (go_simp; done) | (go_simp; rfl) | (go_simp; omega)) hHeld ?_
      simp only [Act.put, List.setIfInBounds_toArray, List.set_cons_zero, List.set_cons_succ]
      refine takeP [31, 30, 23, 22] 21 (some 40) (.pointer (some ⟨w.heap.size, 2, none⟩)) rfl rfl (by kernel_rfl) (by kernel_rfl) (by kernel_rfl) (by kernel_rfl) (by kernel_rfl) (by decide) (fun _ _ _ h => h) (by rfl) (fun w_ hw => by first | rfl | (go_simp; done) | (go_simp; rfl) | (go_simp; omega)) hHeld ?_
      simp only [Act.put, List.setIfInBounds_toArray, List.set_cons_zero, List.set_cons_succ]
      refine takeP [31, 30, 23] 22 (some 41) (.agg (tabv (bv d.s0) 32)) rfl rfl (by kernel_rfl) (by kernel_rfl) (by kernel_rfl) (by kernel_rfl) (by kernel_rfl) (by decide) (fun _ _ _ h => h) (by rfl) (fun w_ hw => run_load_at w_ 23 _ rfl (w.heap.size) 2 (by rfl) _ 32 _ (hw.1.at_ (k := 32) (f' := bv d.s0) 2 (by omega) (fun i hi => d.v_s0 i hi)) Tryz.underlying23 rfl info26) hHeld ?_
      simp only [Act.put, List.setIfInBounds_toArray, List.set_cons_zero, List.set_cons_succ]
      refine takeP [31, 30, 29, 28, 27, 25] 24 (some 43) (.int .i64 1) rfl rfl (by kernel_rfl) (by kernel_rfl) (by kernel_rfl) (by kernel_rfl) (by kernel_rfl) (by decide) (fun _ _ _ h => h) (by rfl) (fun w_ hw => by first | rfl | (go_simp; done) | (go_simp; rfl) | (go_simp; omega)) hHeld ?_
      simp only [Act.put, List.setIfInBounds_toArray, List.set_cons_zero, List.set_cons_succ]
      refine takeP [31, 30, 29, 28, 27] 25 (some 44) (.int .i64 0) rfl rfl (by kernel_rfl) (by kernel_rfl) (by kernel_rfl) (by kernel_rfl) (by kernel_rfl) (by decide) (fun _ _ _ h => h) (by rfl) (fun w_ hw => by first | rfl | (go_simp; done) | (go_simp; rfl) | (go_simp; omega)) hHeld ?_
      simp only [Act.put, List.setIfInBounds_toArray, List.set_cons_zero, List.set_cons_succ]
      refine takeP [31, 30, 29, 28, 27] 26 (some 45) (.pointer (some ⟨w.heap.size, 2, none⟩)) rfl rfl (by kernel_rfl) (by kernel_rfl) (by kernel_rfl) (by kernel_rfl) (by kernel_rfl) (by decide) (fun _ _ _ h => h) (by rfl) (fun w_ hw => by first | rfl | (go_simp; done) | (go_simp; rfl) | (go_simp; omega)) hHeld ?_
      simp only [Act.put, List.setIfInBounds_toArray, List.set_cons_zero, List.set_cons_succ]
      refine takeP [31, 30, 29, 28] 27 (some 46) (.pointer (some ⟨w.heap.size, 2, none⟩)) rfl rfl (by kernel_rfl) (by kernel_rfl) (by kernel_rfl) (by kernel_rfl) (by kernel_rfl) (by decide) (fun _ _ _ h => h) (by rfl) (fun w_ hw => by first | rfl | (go_simp; done) | (go_simp; rfl) | (go_simp; omega)) hHeld ?_
      simp only [Act.put, List.setIfInBounds_toArray, List.set_cons_zero, List.set_cons_succ]
      refine takeP [31, 30, 29] 28 (some 47) (.agg (tabv (bv d.s0) 32)) rfl rfl (by kernel_rfl) (by kernel_rfl) (by kernel_rfl) (by kernel_rfl) (by kernel_rfl) (by decide) (fun _ _ _ h => h) (by rfl) (fun w_ hw => run_load_at w_ 23 _ rfl (w.heap.size) 2 (by rfl) _ 32 _ (hw.1.at_ (k := 32) (f' := bv d.s0) 2 (by omega) (fun i hi => d.v_s0 i hi)) Tryz.underlying23 rfl info26) hHeld ?_
      simp only [Act.put, List.setIfInBounds_toArray, List.set_cons_zero, List.set_cons_succ]
      refine readyT 23 (by kernel_rfl) rfl (by rfl) (fun K hK => ?_)
      go_simp
      refine (HP.out d.s0 0 _).mono ?_
      rintro e ya ⟨rfl, hbq⟩
      try go_wp2_with fail
      refine hK.out _ _ (fun _ => ⟨hHeld.1.below hbq hHeld.1.lt, hHeld.2.1.below hbq hHeld.2.1.lt, hHeld.2.2.1.below hbq hHeld.2.2.1.lt, hHeld.2.2.2.trans (hbq.mono hHeld.2.2.2.size)⟩) (fun hH => ?_)
      clear hHeld
      have hHeld := hH (by decide)
      clear hK hH hbq
      refine readyT 29 (by kernel_rfl) rfl (by rfl) (fun K hK => ?_)
      go_simp
      refine (HP.out d.s0 1 _).mono ?_
      rintro e yb ⟨rfl, hbq⟩
      try go_wp2_with fail
      refine hK.out _ _ (fun _ => ⟨hHeld.1.below hbq hHeld.1.lt, hHeld.2.1.below hbq hHeld.2.1.lt, hHeld.2.2.1.below hbq hHeld.2.2.1.lt, hHeld.2.2.2.trans (hbq.mono hHeld.2.2.2.size)⟩) (fun hH => ?_)
      clear hHeld
      have hHeld := hH (by decide)
      clear hK hH hbq
      refine takeP [31] 30 (some 49) (.agg (tabv (twoH (pointA d.s0 0) (pointA d.s0 1)) 64)) rfl rfl (by kernel_rfl) (by kernel_rfl) (by kernel_rfl) (by kernel_rfl) (by kernel_rfl) (by decide) (fun _ _ _ h => h) (by rfl) (fun w_ hw => run_buildG w_ 24 _ rfl [(0, .agg (tabv (bv (pointA d.s0 0)) 32)), (1, .agg (tabv (bv (pointA d.s0 1)) 32))] (by first | rfl | (simp [Act.eval, Act.put]; done)) _ (built2H _ _)) hHeld ?_
      simp only [Act.put, List.setIfInBounds_toArray, List.set_cons_zero, List.set_cons_succ]
      refine takeT 31 (some 50) (.agg (tabv (Cf.v ⟨1, d.cap, (wrap64 (d.cap - d.ours)), d.s1, d.k1, d.k0, (pointA d.s0 0), (pointA d.s0 1), 4096⟩) 164)) rfl rfl (by kernel_rfl) (by kernel_rfl) (by kernel_rfl) (by kernel_rfl) (by decide) (fun _ _ _ h => h) (by rfl) (fun w_ hw => run_buildG w_ 26 _ rfl [(0, .int .i64 1), (1, .int .i64 d.cap), (2, .int .i64 (wrap64 (d.cap - d.ours))), (3, .agg (tabv (bv d.s1) 32)), (4, .agg (tabv (bv d.k1) 32)), (5, .agg (tabv (bv d.k0) 32)), (6, .agg (tabv (twoH (pointA d.s0 0) (pointA d.s0 1)) 64)), (7, .int .i64 4096)] (by first | rfl | (simp [Act.eval, Act.put]; done)) _ (builtCf _ _ _ _ _ _ _ _)) hHeld ?_
      simp only [Act.put, List.setIfInBounds_toArray, List.set_cons_zero, List.set_cons_succ]
      refine takeT 32 (some 51) (.pointer (some ⟨w2.heap.size, 164, none⟩)) rfl rfl (by kernel_rfl) (by kernel_rfl) (by kernel_rfl) (by kernel_rfl) (by decide) (fun _ _ _ h => h) (by rfl) (fun w_ hw => by first | rfl | (go_simp; done) | (go_simp; rfl) | (go_simp; omega)) hHeld ?_
      simp only [Act.put, List.setIfInBounds_toArray, List.set_cons_zero, List.set_cons_succ]
      rw [← HC1.out]
      refine readyT 33 (by kernel_rfl) rfl (by rfl) (fun K hK => ?_)
      refine wp_store_part 26 _ _ rfl rfl w2.heap.size 164 C1.v 164 rfl rfl 57 _ 328 hHeld.2.1 (by omega) infoCf (fun i _ => oneCf _ i) (twoC C0 C1) (fun i hi => splice2C1 _ _ _ i hi) ?_
      obtain ⟨h1, h2, h3, h4⟩ := hHeld
      have K0 := hide (show Has (World.setRow _ w2.heap.size (tabv (twoC C0 C1) 328)) w.heap.size 55 d.v 130 from h1.row_other _ _ (by omega))
      have K1 := hide (show Has (World.setRow _ w2.heap.size (tabv (twoC C0 C1) 328)) w2.heap.size 57 (twoC C0 C1) 328 from h2.row _ _ rfl)
      have K2 := hide (show Has (World.setRow _ w2.heap.size (tabv (twoC C0 C1) 328)) w1.heap.size 57 (twoC Cf.zero Cf.zero) 328 from h3.row_other _ _ (by omega))
      have KB := hide (below_setRow h4 (show w.heap.size ≤ w2.heap.size by omega) (tabv (twoC C0 C1) 328))
      refine hK.out _ _ (fun x => absurd rfl x) (fun _ => ?_)
      clear hK h1 h2 h3 h4
      refine ⟨by kernel_rfl, ?_⟩
      refine NoPanic.normal ?_
      generalize hwz : World.setRow _ w2.heap.size (tabv (twoC C0 C1) 328) = wz at K0 K1 K2 KB ⊢
      clear hwz
      go_wp2
      go_roundw
      case rel => exact ⟨2, by omega, by go_num, _, rfl, K0.out, K1.out, K2.out, KB.out⟩
      case measure => simp [intOf]
    · subst hf
      have hd : decide (((2 : Nat) : Int) < 2) = false := by decide
      go_wp2_with (first | refine wpList_load_part rfl 57 _ rfl (w2.heap.size) 0 rfl 57 _ 328 328 _ G1.out (by omega) Tryz.underlying57 rfl info2C (twoC C0 C1) (fun i hi => by rw [Nat.zero_add]; rfl) ?_ | refine wpList_store_part rfl 57 _ _ rfl rfl w1.heap.size 0 (twoC C0 C1) 328 rfl rfl 57 _ 328 G2.out (by omega) info2C (fun i _ => one2C _ _ i) (twoC C0 C1) (fun i hi => by unfold splice; rw [if_pos (by omega), Nat.sub_zero]) ?_ | fail)
      (try simp only [Exit.inBlock, Exit.then])
      exact bodyPost_ret (results_cell_row rfl _ _ w1.heap.size 57 _ (0, 0) _ rfl (G2.out.row _ _ rfl) Tryz.underlying57 rfl (by rw [tabv_size]; exact info2C)) rfl ⟨rfl, below_setRow GBr.out (by omega) _⟩
end Go.Proofs.YtmmcoedgoekhgaaGreatDoor
