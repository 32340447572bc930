import Derived.Test.YtmmcoedgoekhgaaGreatDoorDRemove
import Derived.Deep.CutRange
/-
  Sign of the code (printed by gen_d7.py).
-/
namespace Go.Proofs.YtmmcoedgoekhgaaGreatDoor
open Go.RowKit S
set_option linter.unusedVariables false
set_option linter.unusedSimpArgs false
def signedR (i a b : Int) : Rc := ⟨2, Upd.zero, ⟨none, 0, 0⟩, i, a, b, fun _ => 0, fun _ => 0, fun _ => 0, 0⟩
def signA (s : St) : Rc × Int := bif deadB s then (Rc.zero, 220) else bif ((s.rem != s.ack) || (((s.ours.n : Int) == s.so) && (s.ap == s.sp))) then (Rc.zero, 8) else bif decide (s.rem > 281474976710653) then (Rc.zero, 90) else (signedR (wrap64 (s.rem + 1)) (s.ours.n : Int) s.ap, 0)
set_option maxRecDepth 100000 in
theorem builtRS (i a b : Int) : Tryz.prog.built 42 [(0, .int .i64 2), (3, .int .i64 i), (4, .agg #[.int .i64 a, .int .i64 b])] = some (tabv (signedR i a b).v 138) := by kernel_rfl
def cnV (a b : Int) : Nat → Value := fun i => if i < 1 then .int .i64 a else .int .i64 b
set_option maxRecDepth 100000 in
set_option maxHeartbeats 40000000 in
theorem dsign_any (c : Cf) (s : St) (w : World) : Calls Tryz.prog 17 #[.agg (tabv c.v 164), .agg (tabv s.v 115)] w fun e w' => e = .returned (.tuple #[.agg (tabv (signA s).1.v 138), .int .i64 (signA s).2]) ∧ Below w.heap.size w w' := by
  obtain ⟨w1, hW1⟩ : ∃ wX, w.alloc (.cells (tabv c.v 164) 26) = wX := ⟨_, rfl⟩
  have rc : Has w1 w.heap.size 26 c.v 164 := by rw [← hW1]; exact Has.new w 26 c.v 164 _ rfl
  have bb : Below w.heap.size w w1 := by rw [← hW1]; exact (Below.refl w.heap.size w).alloc (Nat.le_refl _) _
  have gb : Below w.heap.size w w1 := bb
  clear bb
  obtain ⟨w2, hW2⟩ : ∃ wX, w1.alloc (.cells (tabv s.v 115) 32) = wX := ⟨_, rfl⟩
  have rs : Has w2 w1.heap.size 32 s.v 115 := by rw [← hW2]; exact Has.new w1 32 s.v 115 _ rfl
  have bb : Below w1.heap.size w1 w2 := by rw [← hW2]; exact (Below.refl w1.heap.size w1).alloc (Nat.le_refl _) _
  have rc := rc.below bb rc.lt
  have gb : Below w.heap.size w w2 := gb.trans (bb.mono gb.size)
  clear bb
  obtain ⟨w3, hW3⟩ : ∃ wX, w2.alloc (.cells (tabv Rc.zero.v 138) 42) = wX := ⟨_, rfl⟩
  have rr : Has w3 w2.heap.size 42 Rc.zero.v 138 := by rw [← hW3]; exact Has.new w2 42 Rc.zero.v 138 _ rfl
  have bb : Below w2.heap.size w2 w3 := by rw [← hW3]; exact (Below.refl w2.heap.size w2).alloc (Nat.le_refl _) _
  have rc := rc.below bb rc.lt
  have rs := rs.below bb rs.lt
  have gb : Below w.heap.size w w3 := gb.trans (bb.mono gb.size)
  clear bb
  have Rb_c := hide rc
  have Rb_s := hide rs
  have Rb_r := hide rr
  have GB := hide gb
  clear gb rc rs rr
  have LB_r : w.heap.size ≤ w2.heap.size := by have h1 : w.heap.size < w1.heap.size := (by rw [← hW1, size_alloc]; omega); have h2 : w1.heap.size < w2.heap.size := (by rw [← hW2, size_alloc]; omega); omega
  rw [← zeroRc] at hW3
  have HD := hide (fun w : World => dead_any s w)
  unfold signA
  generalize deadB s = D at HD ⊢
  have hs4 : ∀ wx, Has wx (w1.heap.size) 32 s.v 115 → wx.cell? ⟨w1.heap.size, 4, none⟩ = some (.slice s.ours.ad s.ours.n s.ours.c) := fun wx h => h.cell 4 (by omega)
  generalize s.ours.n = n at hs4 ⊢
  generalize s.ours.ad = oa at hs4
  generalize s.ours.c = oc at hs4
  replace hs4 := hide hs4
  have hs7 : ∀ wx, Has wx (w1.heap.size) 32 s.v 115 → wx.cell? ⟨w1.heap.size, 7, none⟩ = some (.int .i64 s.rem) := fun wx h => h.cell 7 (by omega)
  have hs8 : ∀ wx, Has wx (w1.heap.size) 32 s.v 115 → wx.cell? ⟨w1.heap.size, 8, none⟩ = some (.int .i64 s.ack) := fun wx h => h.cell 8 (by omega)
  have hs11 : ∀ wx, Has wx (w1.heap.size) 32 s.v 115 → wx.cell? ⟨w1.heap.size, 11, none⟩ = some (.int .i64 s.so) := fun wx h => h.cell 11 (by omega)
  have hs12 : ∀ wx, Has wx (w1.heap.size) 32 s.v 115 → wx.cell? ⟨w1.heap.size, 12, none⟩ = some (.int .i64 s.sp) := fun wx h => h.cell 12 (by omega)
  have hs10 : ∀ wx, Has wx (w1.heap.size) 32 s.v 115 → wx.cell? ⟨w1.heap.size, 10, none⟩ = some (.int .i64 s.ap) := fun wx h => h.cell 10 (by omega)
  generalize s.rem = re at hs7 ⊢
  generalize s.ack = ak at hs8 ⊢
  generalize s.so = so at hs11 ⊢
  generalize s.sp = sp at hs12 ⊢
  generalize s.ap = ap at hs10 ⊢
  replace hs7 := hide hs7
  replace hs8 := hide hs8
  replace hs11 := hide hs11
  replace hs12 := hide hs12
  replace hs10 := hide hs10
  have z0_s4 : w3.cell? ⟨w1.heap.size, 4, none⟩ = some (.slice oa n oc) := hs4.out _ Rb_s.out
  have z0_s10 : w3.cell? ⟨w1.heap.size, 10, none⟩ = some (.int .i64 ap) := hs10.out _ Rb_s.out
  obtain ⟨w4, hW4⟩ : ∃ wX, w3.alloc (.cells #[.int .i64 (n : Int), .int .i64 ap] 29) = wX := ⟨_, rfl⟩
  have rn : Has w4 w3.heap.size 29 (cnV (n : Int) ap) 2 := by rw [← hW4]; exact Has.new w3 _ (cnV _ _) 2 _ rfl
  have hb : Below w3.heap.size w3 w4 := by rw [← hW4]; exact (Below.refl w3.heap.size w3).alloc (Nat.le_refl _) _
  have Rw4_c := hide (Rb_c.out.below hb Rb_c.out.lt)
  have Rw4_s := hide (Rb_s.out.below hb Rb_s.out.lt)
  have Rw4_r := hide (Rb_r.out.below hb Rb_r.out.lt)
  have Gw4 := hide (GB.out.trans (hb.mono GB.out.size))
  clear hb
  have Rw4_n := hide rn
  clear rn
  go_enter Tryz.func17, Tryz.ntmps17
  go_wp2_with (first | (rw [hW4]) | refine wpW_load_at 32 _ rfl (w1.heap.size) (0) (by rfl) (by rfl) _ 115 _ (Rw4_s.out.at_ 0 (by omega) (fun i hi => by rw [Nat.zero_add])) Tryz.underlying32 rfl infoSt ?_ | fail)
  refine (HD.out _).mono ?_
  rintro e y1 ⟨rfl, hb⟩
  clear z0_s4 z0_s10
  have Ry1_c := hide (Rw4_c.out.below hb Rw4_c.out.lt)
  have Ry1_s := hide (Rw4_s.out.below hb Rw4_s.out.lt)
  have Ry1_r := hide (Rw4_r.out.below hb Rw4_r.out.lt)
  have Ry1_n := hide (Rw4_n.out.below hb Rw4_n.out.lt)
  have Gy1 := hide (Gw4.out.trans (hb.mono Gw4.out.size))
  clear hb
  have z1_s7 : y1.cell? ⟨w1.heap.size, 7, none⟩ = some (.int .i64 re) := hs7.out _ Ry1_s.out
  have z1_s8 : y1.cell? ⟨w1.heap.size, 8, none⟩ = some (.int .i64 ak) := hs8.out _ Ry1_s.out
  have z1_s11 : y1.cell? ⟨w1.heap.size, 11, none⟩ = some (.int .i64 so) := hs11.out _ Ry1_s.out
  have z1_s12 : y1.cell? ⟨w1.heap.size, 12, none⟩ = some (.int .i64 sp) := hs12.out _ Ry1_s.out
  have z1_n0 : y1.cell? ⟨w3.heap.size, 0, none⟩ = some (.int .i64 (n : Int)) := Ry1_n.out.cell 0 (by omega)
  have z1_n1 : y1.cell? ⟨w3.heap.size, 1, none⟩ = some (.int .i64 ap) := Ry1_n.out.cell 1 (by omega)
  cases D with
  | true =>
    go_upto_region 3 with fail
    go_wp2_with (first | refine wpW_build (by rfl) 42 #[] rfl [] (by first | rfl | (simp [Act.eval, Act.put]; done)) _ builtRZ ?_ | refine wpList_storeRc rfl _ _ rfl rfl (w2.heap.size) (Rc.zero) rfl rfl _ Ry1_r.out ?_ | fail)
    (try simp only [Exit.inBlock, Exit.then])
    exact bodyPost_ret (resRc _ (w2.heap.size) _ _ (.int .i64 220) 4 5 (Ry1_r.out.row _ (Rc.v Rc.zero) rfl) rfl rfl _ rfl) rfl ⟨by first | rfl | (simp only [*]; rfl) | (simp [*]; done), below_setRow Gy1.out (by first | omega | exact LB_r) _⟩
  | false =>
    cases q1 : (re != ak) with
    | true =>
      go_upto_region 5 with fail
      go_wp2_with (first | refine wpW_build (by rfl) 42 #[] rfl [] (by first | rfl | (simp [Act.eval, Act.put]; done)) _ builtRZ ?_ | refine wpList_storeRc rfl _ _ rfl rfl (w2.heap.size) (Rc.zero) rfl rfl _ Ry1_r.out ?_ | fail)
      (try simp only [Exit.inBlock, Exit.then])
      exact bodyPost_ret (resRc _ (w2.heap.size) _ _ (.int .i64 8) 4 5 (Ry1_r.out.row _ (Rc.v Rc.zero) rfl) rfl rfl _ rfl) rfl ⟨by first | rfl | (simp only [*]; rfl) | (simp [*]; done), below_setRow Gy1.out (by first | omega | exact LB_r) _⟩
    | false =>
      cases q2 : ((n : Int) == so) with
      | false =>
        cases q4 : decide (re > 281474976710653) with
        | true =>
          go_upto_region 7 with fail
          go_wp2_with (first | refine wpW_build (by rfl) 42 #[] rfl [] (by first | rfl | (simp [Act.eval, Act.put]; done)) _ builtRZ ?_ | refine wpList_storeRc rfl _ _ rfl rfl (w2.heap.size) (Rc.zero) rfl rfl _ Ry1_r.out ?_ | fail)
          (try simp only [Exit.inBlock, Exit.then])
          exact bodyPost_ret (resRc _ (w2.heap.size) _ _ (.int .i64 90) 4 5 (Ry1_r.out.row _ (Rc.v Rc.zero) rfl) rfl rfl _ rfl) rfl ⟨by first | rfl | (simp only [*]; rfl) | (simp [*]; done), below_setRow Gy1.out (by first | omega | exact LB_r) _⟩
        | false =>
          go_upto_region 8 with fail
          go_wp2_with (first | refine wpW_build (by rfl) 42 #[(0, .const (.int .i64 2)), (3, .tmp 38), (4, .tmp 39)] rfl [(0, .int .i64 2), (3, .int .i64 (wrap64 (re + 1))), (4, .agg #[.int .i64 (n : Int), .int .i64 ap])] (by first | rfl | (simp [Act.eval, Act.put]; done)) _ (builtRS _ _ _) ?_ | refine wpList_storeRc rfl _ _ rfl rfl (w2.heap.size) ((signedR (wrap64 (re + 1)) (n : Int) ap)) rfl rfl _ Ry1_r.out ?_ | fail)
          (try simp only [Exit.inBlock, Exit.then])
          exact bodyPost_ret (resRc _ (w2.heap.size) _ _ (.int .i64 0) 4 5 (Ry1_r.out.row _ (Rc.v (signedR (wrap64 (re + 1)) (n : Int) ap)) rfl) rfl rfl _ rfl) rfl ⟨by first | rfl | (simp only [*]; rfl) | (simp [*]; done), below_setRow Gy1.out (by first | omega | exact LB_r) _⟩
      | true =>
        cases q3 : (ap == sp) with
        | false =>
          cases q4 : decide (re > 281474976710653) with
          | true =>
            go_upto_region 7 with fail
            go_wp2_with (first | refine wpW_build (by rfl) 42 #[] rfl [] (by first | rfl | (simp [Act.eval, Act.put]; done)) _ builtRZ ?_ | refine wpList_storeRc rfl _ _ rfl rfl (w2.heap.size) (Rc.zero) rfl rfl _ Ry1_r.out ?_ | fail)
            (try simp only [Exit.inBlock, Exit.then])
            exact bodyPost_ret (resRc _ (w2.heap.size) _ _ (.int .i64 90) 4 5 (Ry1_r.out.row _ (Rc.v Rc.zero) rfl) rfl rfl _ rfl) rfl ⟨by first | rfl | (simp only [*]; rfl) | (simp [*]; done), below_setRow Gy1.out (by first | omega | exact LB_r) _⟩
          | false =>
            go_upto_region 8 with fail
            go_wp2_with (first | refine wpW_build (by rfl) 42 #[(0, .const (.int .i64 2)), (3, .tmp 38), (4, .tmp 39)] rfl [(0, .int .i64 2), (3, .int .i64 (wrap64 (re + 1))), (4, .agg #[.int .i64 (n : Int), .int .i64 ap])] (by first | rfl | (simp [Act.eval, Act.put]; done)) _ (builtRS _ _ _) ?_ | refine wpList_storeRc rfl _ _ rfl rfl (w2.heap.size) ((signedR (wrap64 (re + 1)) (n : Int) ap)) rfl rfl _ Ry1_r.out ?_ | fail)
            (try simp only [Exit.inBlock, Exit.then])
            exact bodyPost_ret (resRc _ (w2.heap.size) _ _ (.int .i64 0) 4 5 (Ry1_r.out.row _ (Rc.v (signedR (wrap64 (re + 1)) (n : Int) ap)) rfl) rfl rfl _ rfl) rfl ⟨by first | rfl | (simp only [*]; rfl) | (simp [*]; done), below_setRow Gy1.out (by first | omega | exact LB_r) _⟩
        | true =>
          go_upto_region 5 with fail
          go_wp2_with (first | refine wpW_build (by rfl) 42 #[] rfl [] (by first | rfl | (simp [Act.eval, Act.put]; done)) _ builtRZ ?_ | refine wpList_storeRc rfl _ _ rfl rfl (w2.heap.size) (Rc.zero) rfl rfl _ Ry1_r.out ?_ | fail)
          (try simp only [Exit.inBlock, Exit.then])
          exact bodyPost_ret (resRc _ (w2.heap.size) _ _ (.int .i64 8) 4 5 (Ry1_r.out.row _ (Rc.v Rc.zero) rfl) rfl rfl _ rfl) rfl ⟨by first | rfl | (simp only [*]; rfl) | (simp [*]; done), below_setRow Gy1.out (by first | omega | exact LB_r) _⟩
end Go.Proofs.YtmmcoedgoekhgaaGreatDoor
/-
  amount.Minus, Start of the code (printed by gen_d16.py).
-/
namespace Go.Proofs.YtmmcoedgoekhgaaGreatDoor
open Go.RowKit S
set_option linter.unusedVariables false
set_option linter.unusedSimpArgs false
def minusI (a b : Int) : Int × Int := bif (isA a && (isA b && decide (b ≤ a))) then (a - b, 0) else (0, 80)
set_option maxRecDepth 100000 in
set_option maxHeartbeats 40000000 in
theorem dminus_any (a b : Int) (w : World) : Calls Tryz.prog 58 #[.int .i64 a, .int .i64 b] w fun e w' => e = .returned (.tuple #[.int .i64 (minusI a b).1, .int .i64 (minusI a b).2]) ∧ w = w' := by
  have HA := hide (right_any a)
  have HB := hide (right_any b)
  have AA : isA a = true → 0 ≤ a ∧ a ≤ 1152921504606846976 := fun h => by unfold isA at h; simpa using h
  have AB : isA b = true → 0 ≤ b ∧ b ≤ 1152921504606846976 := fun h => by unfold isA at h; simpa using h
  have AA := hide AA
  have AB := hide AB
  unfold minusI
  cases hA : isA a with
  | false =>
    rw [hA] at HA
    go_enter Tryz.func58, Tryz.ntmps58
    go_wp2_with fail
    refine (HA.out _).mono ?_
    rintro e w1 ⟨rfl, hx⟩
    obtain rfl := hx
    go_wp2
    go_ret2
    exact ⟨rfl, rfl⟩
  | true =>
    rw [hA] at HA
    cases hB : isA b with
    | false =>
      rw [hB] at HB
      go_enter Tryz.func58, Tryz.ntmps58
      go_wp2_with fail
      refine (HA.out _).mono ?_
      rintro e w1 ⟨rfl, hx⟩
      obtain rfl := hx
      go_wp2_with fail
      refine (HB.out _).mono ?_
      rintro e w1 ⟨rfl, hx⟩
      obtain rfl := hx
      go_wp2
      go_ret2
      exact ⟨rfl, rfl⟩
    | true =>
      rw [hB] at HB
      obtain ⟨a0, a1⟩ := AA.out hA
      obtain ⟨b0, b1⟩ := AB.out hB
      cases q : decide (b ≤ a) with
      | true =>
        have q2 : decide (b > a) = false := decide_eq_false (by have := of_decide_eq_true q; omega)
        go_enter Tryz.func58, Tryz.ntmps58
        go_wp2_with fail
        refine (HA.out _).mono ?_
        rintro e w1 ⟨rfl, hx⟩
        obtain rfl := hx
        go_wp2_with fail
        refine (HB.out _).mono ?_
        rintro e w1 ⟨rfl, hx⟩
        obtain rfl := hx
        go_wp2
        go_ret2
        exact ⟨rfl, rfl⟩
      | false =>
        have q2 : decide (b > a) = true := decide_eq_true (by have := of_decide_eq_false q; omega)
        go_enter Tryz.func58, Tryz.ntmps58
        go_wp2_with fail
        refine (HA.out _).mono ?_
        rintro e w1 ⟨rfl, hx⟩
        obtain rfl := hx
        go_wp2_with fail
        refine (HB.out _).mono ?_
        rintro e w1 ⟨rfl, hx⟩
        obtain rfl := hx
        go_wp2
        go_ret2
        exact ⟨rfl, rfl⟩
end Go.Proofs.YtmmcoedgoekhgaaGreatDoor
/-
  Start of the code (printed by gen_d17.py).
-/
namespace Go.Proofs.YtmmcoedgoekhgaaGreatDoor
open Go.RowKit S
set_option linter.unusedVariables false
set_option linter.unusedSimpArgs false
def twoH (p q : Nat → UInt8) : Nat → Value := fun i => if i < 32 then .int .u8 ((p i).toNat : Int) else .int .u8 ((q (i - 32)).toNat : Int)
def startS (sd cp ou pe : Int) (p q : Nat → UInt8) : St := ⟨sd, cp, ou, pe, ⟨none, 0, 0⟩, ⟨none, 0, 0⟩, 0, 0, 0, 0, 0, 0, 0, 0, 0, false, p, q, fun _ => 0, ⟨none, 0, 0⟩, 0, -1⟩
def startA (c : Cf) : St × Int := bif (decide (c.side < 0) || (decide (c.side > 1) || (decide (c.cap < 1) || ((minusI c.cap c.ours).2 != 0)))) then (St.zero, 1) else (startS c.side c.cap c.ours (minusI c.cap c.ours).1 c.p0 c.p1, 0)
set_option maxRecDepth 100000 in
theorem builtSZ : Tryz.prog.built 32 [] = some (tabv St.zero.v 115) := by kernel_rfl
set_option maxRecDepth 100000 in
theorem builtSS (sd cp ou pe : Int) (p q : Nat → UInt8) : Tryz.prog.built 32 [(0, .int .i64 sd), (1, .int .i64 cp), (2, .int .i64 ou), (3, .int .i64 pe), (13, .agg (tabv (twoH p q) 64)), (17, .int .i64 (-1))] = some (tabv (startS sd cp ou pe p q).v 115) := by kernel_rfl
theorem infoTwo : (Tryz.prog.info? 24).map (·.size) = some 64 := by kernel_rfl
theorem resSt (w : World) (g : Nat) (f : Nat → Value) (tmps : Array Value) (k : Value) (c t : Nat) (hg : Has w g 32 f 115) (hp : tmps.getD c undef = .pointer (some ⟨g, 0, none⟩)) (hq : tmps.getD t undef = k) (fn : Func) (h : fn.results = #[.cell c 32, .tmp t]) :
    (results fn tmps).run Tryz.prog w = .ok (.tuple #[.agg (tabv f 115), k]) w := by
  have := run_loadVar_row (P := Tryz.prog) w g 32 32 (tabv f 115) (0, 0) _ hg Tryz.underlying32 rfl (by rw [tabv_size]; exact infoSt)
  simp only [Array.getD_eq_getD_getElem?] at hp hq
  simp [results, h, hp, hq, asAddr, this]
set_option maxRecDepth 100000 in
set_option maxHeartbeats 40000000 in
theorem dstart_any (c : Cf) (w : World) : Calls Tryz.prog 25 #[.agg (tabv c.v 164)] w fun e w' => e = .returned (.tuple #[.agg (tabv (startA c).1.v 115), .int .i64 (startA c).2]) ∧ Below w.heap.size w w' := by
  obtain ⟨w1, hW1⟩ : ∃ wX, w.alloc (.cells (tabv c.v 164) 26) = wX := ⟨_, rfl⟩
  have rc : Has w1 w.heap.size 26 c.v 164 := by rw [← hW1]; exact Has.new w 26 c.v 164 _ rfl
  have bb : Below w.heap.size w w1 := by rw [← hW1]; exact (Below.refl w.heap.size w).alloc (Nat.le_refl _) _
  have gb : Below w.heap.size w w1 := bb
  clear bb
  obtain ⟨w2, hW2⟩ : ∃ wX, w1.alloc (.cells (tabv St.zero.v 115) 32) = wX := ⟨_, rfl⟩
  have rr : Has w2 w1.heap.size 32 St.zero.v 115 := by rw [← hW2]; exact Has.new w1 32 St.zero.v 115 _ rfl
  have bb : Below w1.heap.size w1 w2 := by rw [← hW2]; exact (Below.refl w1.heap.size w1).alloc (Nat.le_refl _) _
  have rc := rc.below bb rc.lt
  have gb : Below w.heap.size w w2 := gb.trans (bb.mono gb.size)
  clear bb
  have Rb_c := hide rc
  have Rb_r := hide rr
  have GB := hide gb
  clear gb rc rr
  have LB : w.heap.size ≤ w1.heap.size := by rw [← hW1, size_alloc]; omega
  rw [← zeroSt] at hW2
  have HM := hide (fun w : World => dminus_any c.cap c.ours w)
  have h2 : ∀ wx, Has wx w.heap.size 26 c.v 164 → At wx w.heap.size 99 (twoH c.p0 c.p1) 64 := fun wx h => h.at_ 99 (by omega) (fun i hi => by
      unfold twoH
      by_cases k : i < 32
      · rw [if_pos k]; exact c.v_p0 i k
      · rw [if_neg k]; have := c.v_p1 (i - 32) (by omega); rw [show 131 + (i - 32) = 99 + i by omega] at this; exact this)
  unfold startA
  generalize minusI c.cap c.ours = MA at HM ⊢
  obtain ⟨M1, M2⟩ := MA
  generalize c.p0 = p0 at h2 ⊢
  generalize c.p1 = p1 at h2 ⊢
  replace h2 := hide h2
  have hc0 : ∀ wx, Has wx (w.heap.size) 26 c.v 164 → wx.cell? ⟨w.heap.size, 0, none⟩ = some (.int .i64 c.side) := fun wx h => h.cell 0 (by omega)
  generalize c.side = sd at hc0 ⊢
  replace hc0 := hide hc0
  have hc1 : ∀ wx, Has wx (w.heap.size) 26 c.v 164 → wx.cell? ⟨w.heap.size, 1, none⟩ = some (.int .i64 c.cap) := fun wx h => h.cell 1 (by omega)
  generalize c.cap = cp at hc1 HM ⊢
  replace hc1 := hide hc1
  have hc2 : ∀ wx, Has wx (w.heap.size) 26 c.v 164 → wx.cell? ⟨w.heap.size, 2, none⟩ = some (.int .i64 c.ours) := fun wx h => h.cell 2 (by omega)
  generalize c.ours = ou at hc2 HM ⊢
  replace hc2 := hide hc2
  go_enter Tryz.func25, Tryz.ntmps25
  have z0_c0 : w2.cell? ⟨w.heap.size, 0, none⟩ = some (.int .i64 sd) := hc0.out _ Rb_c.out
  have z0_c1 : w2.cell? ⟨w.heap.size, 1, none⟩ = some (.int .i64 cp) := hc1.out _ Rb_c.out
  have z0_c2 : w2.cell? ⟨w.heap.size, 2, none⟩ = some (.int .i64 ou) := hc2.out _ Rb_c.out
  go_wp2_with fail
  refine (HM.out _).mono ?_
  rintro e wx ⟨rfl, hx⟩
  obtain rfl := hx
  cases q1 : decide (sd < 0) with
  | true =>
    go_upto_region 3 with fail
    go_wp2_with (first | refine wpW_build (by rfl) 32 #[] rfl [] (by first | rfl | (simp [Act.eval, Act.put]; done)) _ builtSZ ?_ | refine wpList_storeSt rfl _ _ rfl rfl w1.heap.size St.zero rfl rfl _ Rb_r.out ?_ | fail)
    (try simp only [Exit.inBlock, Exit.then])
    exact bodyPost_ret (resSt _ w1.heap.size _ _ (.int .i64 1) 2 3 (Rb_r.out.row _ (St.v St.zero) rfl) rfl rfl _ rfl) rfl ⟨by first | rfl | (simp only [*]; rfl) | (simp [*]; done), below_setRow GB.out LB _⟩
  | false =>
    cases q2 : decide (sd > 1) with
    | true =>
      go_upto_region 3 with fail
      go_wp2_with (first | refine wpW_build (by rfl) 32 #[] rfl [] (by first | rfl | (simp [Act.eval, Act.put]; done)) _ builtSZ ?_ | refine wpList_storeSt rfl _ _ rfl rfl w1.heap.size St.zero rfl rfl _ Rb_r.out ?_ | fail)
      (try simp only [Exit.inBlock, Exit.then])
      exact bodyPost_ret (resSt _ w1.heap.size _ _ (.int .i64 1) 2 3 (Rb_r.out.row _ (St.v St.zero) rfl) rfl rfl _ rfl) rfl ⟨by first | rfl | (simp only [*]; rfl) | (simp [*]; done), below_setRow GB.out LB _⟩
    | false =>
      cases q3 : decide (cp < 1) with
      | true =>
        go_upto_region 3 with fail
        go_wp2_with (first | refine wpW_build (by rfl) 32 #[] rfl [] (by first | rfl | (simp [Act.eval, Act.put]; done)) _ builtSZ ?_ | refine wpList_storeSt rfl _ _ rfl rfl w1.heap.size St.zero rfl rfl _ Rb_r.out ?_ | fail)
        (try simp only [Exit.inBlock, Exit.then])
        exact bodyPost_ret (resSt _ w1.heap.size _ _ (.int .i64 1) 2 3 (Rb_r.out.row _ (St.v St.zero) rfl) rfl rfl _ rfl) rfl ⟨by first | rfl | (simp only [*]; rfl) | (simp [*]; done), below_setRow GB.out LB _⟩
      | false =>
        cases q4 : (M2 != 0) with
        | true =>
          go_upto_region 3 with fail
          go_wp2_with (first | refine wpW_build (by rfl) 32 #[] rfl [] (by first | rfl | (simp [Act.eval, Act.put]; done)) _ builtSZ ?_ | refine wpList_storeSt rfl _ _ rfl rfl w1.heap.size St.zero rfl rfl _ Rb_r.out ?_ | fail)
          (try simp only [Exit.inBlock, Exit.then])
          exact bodyPost_ret (resSt _ w1.heap.size _ _ (.int .i64 1) 2 3 (Rb_r.out.row _ (St.v St.zero) rfl) rfl rfl _ rfl) rfl ⟨by first | rfl | (simp only [*]; rfl) | (simp [*]; done), below_setRow GB.out LB _⟩
        | false =>
          go_upto_region 4 with fail
          go_wp2_with (first | refine wpW_load_at 24 _ rfl (w.heap.size) (99) (by rfl) (by rfl) _ 64 _ (h2.out _ Rb_c.out) Tryz.underlying24 rfl infoTwo ?_ | refine wpW_build (by rfl) 32 #[(0, .tmp 33), (1, .tmp 35), (2, .tmp 37), (3, .tmp 38), (13, .tmp 40), (17, .const (.int .i64 (-1)))] rfl [(0, .int .i64 sd), (1, .int .i64 cp), (2, .int .i64 ou), (3, .int .i64 M1), (13, .agg (tabv (twoH p0 p1) 64)), (17, .int .i64 (-1))] (by first | rfl | (simp [Act.eval, Act.put]; done)) _ (builtSS _ _ _ _ _ _) ?_ | refine wpList_storeSt rfl _ _ rfl rfl w1.heap.size (startS sd cp ou M1 p0 p1) rfl rfl _ Rb_r.out ?_ | fail)
          (try simp only [Exit.inBlock, Exit.then])
          exact bodyPost_ret (resSt _ w1.heap.size _ _ (.int .i64 0) 2 3 (Rb_r.out.row _ (St.v (startS sd cp ou M1 p0 p1)) rfl) rfl rfl _ rfl) rfl ⟨by first | rfl | (simp only [*]; rfl) | (simp [*]; done), below_setRow GB.out LB _⟩
end Go.Proofs.YtmmcoedgoekhgaaGreatDoor
