/-
  Next, the code's and the document's (printed by gen_next.py).
-/
import Derived.Test.YtmmcoedgoekhgaaGreatDoorULists
namespace Go.Proofs.YtmmcoedgoekhgaaGreatDoor
set_option maxRecDepth 20000
open Go.RowKit S
set_option linter.unusedVariables false
set_option linter.unusedSimpArgs false
def listOf (h : Nat → UInt8) : List UInt8 := (List.range 32).map h
def sumU (h : Nat → UInt8) : Nat → UInt8 := sha (listOf h)
theorem Glob.upU {n : Num} {w w' : World} {b : Nat} (h : Glob n w) (hb : Below b w w') (h2 : w.heap.size ≤ b) : Glob n w' := h.below hb (Nat.le_trans h.2.2 h2)
theorem skH {P : Program} {ops : Array Oper} {Q : Exit → Act → World → Prop} {md : Region.Mode} {S : World → Prop} (i : Nat) (d : Option Tmp) {oi : Oper} {fuel : Nat} {listed : Array Bool} {a : Act} {w : World} (hi : ops[i]? = some oi)
    (hS : S w) (h : wpAnyH P md ops Q S fuel (listed.setIfInBounds i true) (a.put d undef) w) (hd : oi.dst = d := by rfl)
    (hs : Region.noSelect ops = true := by kernel_rfl) (hf : Region.free md ops listed i = true := by kernel_rfl) (hr : (Region.ready md ops listed).contains i = true := by kernel_rfl)
    (hQ : ∀ c a w, Q (.panic c) (a.put oi.dst undef) w → Q (.panic c) a w := by exact fun _ _ _ h => h) (hw : Region.wanted oi (yielded ops a.tmps) = false := by rfl) : wpAnyH P md ops Q S (fuel + 1) listed a w :=
  wpAnyH_take hi hs hf hr hQ (.inr ⟨hw, rfl⟩) hS (by rw [hd]; exact h)
/-- string(h[:]), h within a block. -/
theorem run_conv_at {w : World} {g o : Nat} {f : Nat → UInt8} (h : At w g o (bv f) 32) : (convert 150 9 (.slice (some ⟨g, o, none⟩) 32 32)).run Tryz.prog w = .ok (.string (strOf f 32)) w := by
  have hr := run_convert_bytes_arg w 150 5 Tryz.underlying150 Tryz.underlying5 g o 32 32 ((List.range 32).map fun i => ((f i).toNat : Int)) (by simp) (fun i hi => by
    rw [h i hi]
    simp [hi, bv]) 9 Tryz.underlying9
  have e : strOfNums ((List.range 32).map fun i => ((f i).toNat : Int)) = strOf f 32 := by
    simp only [strOfNums, List.map_map, Function.comp_def, Int.toNat_natCast]
    simp [strOf]
  rw [hr, e]
theorem strs_one (w : World) (s : ByteArray) : Strs (w.alloc (.cells #[.string s] 9)) (some ⟨w.heap.size, 0, none⟩) [s] := .inr ⟨w.heap.size, 0, rfl, by simp, fun i hi => by
    have hi' : i < 1 := hi
    match i, hi' with
    | 0, _ => rw [cell_of_row _ w.heap.size _ _ _ (0, 0) (heap_alloc_new w _)]; rfl⟩
theorem flat_one (h : Nat → UInt8) : flat [strOf h 32] = listOf h := by unfold flat strOf listOf; simp
theorem sum_one (n : Num) (h : Nat → UInt8) (w w1 : World) (hG : Glob n w) (e : w.alloc (.cells #[.string (strOf h 32)] 9) = w1) : Calls Tryz.prog 107 #[.slice (some ⟨w.heap.size, 0, none⟩) 1 1] w1 fun e w' => e = .returned (.agg (tabv (bv (sumU h)) 32)) ∧ Below w.heap.size w w' := by
  subst e
  refine (sum_any n _ 1 [strOf h 32] _ (hG.upU ((Below.refl w.heap.size w).alloc (Nat.le_refl _) _) (Nat.le_refl _)) (strs_one w _) (by simp [flat, strOf]) (by simp)).mono ?_
  rintro e w5 ⟨rfl, hb5⟩
  rw [flat_one]
  exact ⟨rfl, ((Below.refl w.heap.size w).alloc (Nat.le_refl _) _).trans (hb5.mono (by simp))⟩
theorem run_eqH {o : Oper} {a : Act} (w : World) (x y : Operand) (A B : Array Value) (R : Bool) (ho : o.op = .binOp .eql 23 x y 23) (hx : a.eval x = .agg A) (hy : a.eval y = .agg B)
    (hq : (Op.equalIn 10000 23 (.agg A) (.agg B)).run Tryz.prog w = .ok R w) : (execOp a.eval o).run Tryz.prog w = .ok (.value (.bool R)) w := by
  have gh := guard26
  unfold execOp
  simp only [ho, hx, hy]
  go_simp
theorem run_neH {o : Oper} {a : Act} (w : World) (x y : Operand) (A B : Array Value) (R : Bool) (ho : o.op = .binOp .neq 23 x y 23) (hx : a.eval x = .agg A) (hy : a.eval y = .agg B)
    (hq : (Op.equalIn 10000 23 (.agg A) (.agg B)).run Tryz.prog w = .ok R w) : (execOp a.eval o).run Tryz.prog w = .ok (.value (.bool (!R))) w := by
  have gh := guard26
  unfold execOp
  simp only [ho, hx, hy]
  go_simp
/-- A new variable that takes an update. -/
theorem newU (w5 : World) (s : Upd) : ∃ w6 w7, w5.alloc (.cells #[.int .i64 0, .int .i64 0, .int .i64 0, .int .u8 0, .int .u8 0, .int .u8 0, .int .u8 0, .int .u8 0, .int .u8 0, .int .u8 0, .int .u8 0, .int .u8 0, .int .u8 0, .int .u8 0, .int .u8 0, .int .u8 0, .int .u8 0, .int .u8 0, .int .u8 0, .int .u8 0, .int .u8 0, .int .u8 0, .int .u8 0, .int .u8 0, .int .u8 0, .int .u8 0, .int .u8 0, .int .u8 0, .int .u8 0, .int .u8 0, .int .u8 0, .int .u8 0, .int .u8 0, .int .u8 0, .int .u8 0, .string { data := #[] }] 34) = w6 ∧ Has w6 w5.heap.size 34 Upd.zero.v 36 ∧ w6.setRow w5.heap.size (tabv s.v 36) = w7 ∧ Has w7 w5.heap.size 34 s.v 36 ∧ Below w5.heap.size w5 w7 := by
  have q1 : Has (w5.alloc (.cells (tabv Upd.zero.v 36) 34)) w5.heap.size 34 Upd.zero.v 36 := Has.new w5 34 Upd.zero.v 36 _ rfl
  exact ⟨_, _, by rw [zero36], q1, rfl, q1.row _ s.v rfl, below_setRow ((Below.refl w5.heap.size w5).alloc (Nat.le_refl _) _) (Nat.le_refl _) _⟩
/-- What Next says of a removal: its add, the removal that is there already. -/
def followK (u : Upd) : Option Upd → Option Upd → Bool
  | none, _ => false
  | some _, some _ => false
  | some a, none => (u.kind == 3) || eqH (sumU u.hash) a.hash
def followsB (mine others : List Upd) (u : Upd) : Bool :=
  if (u.kind == 1) = true then (u.id == (addsN mine : Int)) else followK u (others.find? (isAdd u.id)) (mine.find? (isRem u.id))
def nextA (mine others : List Upd) (u : Upd) : Int :=
  if 2048 ≤ mine.length then 6 else if validB u = false then 120 else if followsB mine others u = true then 0 else 120
set_option maxRecDepth 100000 in
set_option maxHeartbeats 4000000 in
theorem follows_any (n : Num) (ad1 ad2 : Option Addr) (n1 n2 cap1 cap2 : Nat) (mine others : List Upd) (hn1 : mine.length = n1) (hn2 : others.length = n2) (hz1 : n1 ≤ 140737488351232) (hz2 : n2 ≤ 140737488351232) (u : Upd) (w : World) (hG : Glob n w) (hS1 : Upds w ad1 mine) (hS2 : Upds w ad2 others) : Calls Tryz.prog 105 #[.slice ad1 n1 cap1, .slice ad2 n2 cap2, .agg (tabv u.v 36)] w fun e w' => e = .returned (.bool (followsB mine others u)) ∧ Below w.heap.size w w' := by
  obtain ⟨w3, hW⟩ : ∃ x, w.alloc (.cells (tabv u.v 36) 34) = x := ⟨_, rfl⟩
  have g0 : Has w3 w.heap.size 34 u.v 36 := by rw [← hW]; exact Has.new w 34 u.v 36 _ rfl
  have gb : Below w.heap.size w w3 := by rw [← hW]; exact (Below.refl w.heap.size w).alloc (Nat.le_refl _) _
  have c0 : w3.cell? ⟨w.heap.size, 0, none⟩ = some (.int .i64 u.kind) := g0.cell 0 (by omega)
  have c1 : w3.cell? ⟨w.heap.size, 1, none⟩ = some (.int .i64 u.id) := g0.cell 1 (by omega)
  have glt := g0.lt
  cases k1 : (u.kind == 1) with
  | true =>
    obtain ⟨R, hR⟩ : ∃ R, (u.id == (addsN mine : Int)) = R := ⟨_, rfl⟩
    have e : followsB mine others u = R := by unfold followsB; rw [if_pos k1, hR]
    rw [e]
    clear e
    have g0' := g0
    have hA := fun (w : World) (h : Upds w ad1 mine) => adds_any ad1 n1 cap1 mine hn1 hz1 w h
    have HA := hide hA
    obtain ⟨A, hAA⟩ : ∃ A : Int, (addsN mine : Int) = A := ⟨_, rfl⟩
    rw [hAA] at hR HA
    clear hA hAA hn1 hn2 hz1 hz2
    go_enter Tryz.func105, Tryz.ntmps105
    go_wp2
    clear c0 c1 hW
    refine wp_region_noPanic ?_
    refine wp_region_held_drew (S := fun wx => Has wx w.heap.size 34 u.v 36 ∧ Upds wx ad1 mine ∧ Below w.heap.size w wx) (by kernel_rfl) (⟨g0, hS1.below gb.drew, gb.drew⟩) (fun hHeld => ?_)
    refine Cu.takeH 0 (some 14) (.pointer (some ⟨w.heap.size, 1, none⟩)) rfl rfl (by kernel_rfl) (by kernel_rfl) (by kernel_rfl) (fun _ _ _ h => h) (by rfl) (fun w hw => by first | rfl | (go_simp; done) | (go_simp; rfl)) hHeld ?_
    simp only [Act.put, List.setIfInBounds_toArray, List.set_cons_zero, List.set_cons_succ]
    refine Cu.takeH 1 (some 15) (.int .i64 u.id) rfl rfl (by kernel_rfl) (by kernel_rfl) (by kernel_rfl) (fun _ _ _ h => h) (by rfl) (fun w hw => by have c1 : w.cell? ⟨_, 1, none⟩ = some (.int .i64 u.id) := hw.1.cell 1 (by omega); first | rfl | (go_simp; done) | (go_simp; rfl)) hHeld ?_
    simp only [Act.put, List.setIfInBounds_toArray, List.set_cons_zero, List.set_cons_succ]
    refine Cu.takeH 2 (some 16) (.slice ad1 n1 cap1) rfl rfl (by kernel_rfl) (by kernel_rfl) (by kernel_rfl) (fun _ _ _ h => h) (by rfl) (fun w hw => by first | rfl | (go_simp; done) | (go_simp; rfl)) hHeld ?_
    simp only [Act.put, List.setIfInBounds_toArray, List.set_cons_zero, List.set_cons_succ]
    refine wpAnyH_ready (rs := [3]) (by kernel_rfl) (by simp) (AllReadyH.cons rfl (fun K hK => ?_) AllReadyH.nil)
    rw [if_pos (by rfl)]
    go_simp
    refine (HA.out _ hHeld.2.1).mono ?_
    rintro e w5 ⟨rfl, hb5⟩
    try go_wp2_with fail
    refine hK.out _ _ (⟨hHeld.1.below hb5 hHeld.1.lt, hHeld.2.1.below hb5, hHeld.2.2.trans (hb5.mono hHeld.2.2.size)⟩) (fun hH => ?_)
    clear hK K hHeld
    have hHeld := hH
    clear hH
    refine Cu.takeH 4 (some 18) (.bool R) rfl rfl (by kernel_rfl) (by kernel_rfl) (by kernel_rfl) (fun _ _ _ h => h) (by rfl) (fun w hw => by first | rfl | (go_simp; done) | (go_simp; rfl)) hHeld ?_
    simp only [Act.put, List.setIfInBounds_toArray, List.set_cons_zero, List.set_cons_succ]
    refine Cu.takeH 5 (some 6) (.bool R) rfl rfl (by kernel_rfl) (by kernel_rfl) (by kernel_rfl) (fun _ _ _ h => h) (by rfl) (fun w hw => by first | rfl | (go_simp; done) | (go_simp; rfl)) hHeld ?_
    simp only [Act.put, List.setIfInBounds_toArray, List.set_cons_zero, List.set_cons_succ]
    refine ⟨by kernel_rfl, ?_⟩
    refine NoPanic.normal ?_
    go_wp2
    go_ret
    exact ⟨rfl, hHeld.2.2⟩
  | false =>
    have HF := hide (fun (w : World) (h : Upds w ad2 others) => find_any ad2 n2 cap2 others hn2 hz2 u.id w h)
    have HM := hide (fun (w : World) (h : Upds w ad1 mine) => rem_any ad1 n1 cap1 mine hn1 hz1 u.id w h)
    obtain ⟨O, hO⟩ : ∃ O, others.find? (isAdd u.id) = O := ⟨_, rfl⟩
    obtain ⟨M, hM⟩ : ∃ M, mine.find? (isRem u.id) = M := ⟨_, rfl⟩
    have e : followsB mine others u = followK u O M := by
      unfold followsB; rw [if_neg (by rw [k1]; decide), hO, hM]
    rw [e]
    obtain ⟨FK, hFK⟩ : ∃ FK, followK u O M = FK := ⟨_, rfl⟩
    rw [hFK]
    have HK := hide hFK
    clear hFK
    rw [hO] at HF
    rw [hM] at HM
    have G0 := hide g0
    clear hO hM e hn1 hn2 hz1 hz2 g0
    go_enter Tryz.func105, Tryz.ntmps105
    go_wp2_with fail
    refine (HF.out _ (hS2.below gb)).mono ?_
    rintro e w5 ⟨rfl, hb5⟩
    have G5 := hide (G0.out.below hb5 glt)
    have gb5 := gb.trans (hb5.mono gb.size)
    obtain ⟨w6, w7, hW6, q1, hW7, r1, rb⟩ := newU w5 (orZ O)
    have Q1 := hide q1
    have R1 := hide r1
    have G7 := hide (G5.out.below rb G5.out.lt)
    have gb7 := gb5.trans (rb.mono gb5.size)
    have d0 : w7.cell? ⟨w.heap.size, 0, none⟩ = some (.int .i64 u.kind) := G7.out.cell 0 (by omega)
    have d1 : w7.cell? ⟨w.heap.size, 1, none⟩ = some (.int .i64 u.id) := G7.out.cell 1 (by omega)
    have R1' : Hid (Has w7 w5.heap.size 34 (orZ O).v 36) := R1
    clear c0 c1 hb5 q1 r1 rb hW gb HF
    cases O with
    | none =>
      go_wp2_with (first | refine wpList_storeU rfl _ _ rfl rfl w5.heap.size (orZ none) rfl rfl _ Q1.out ?_)
      go_ret
      exact ⟨by rw [← HK.out]; rfl, gb7⟩
    | some a =>
      go_wp2_with (first | refine wpList_storeU rfl _ _ rfl rfl w5.heap.size (orZ (some a)) rfl rfl _ Q1.out ?_ | fail)
      refine (HM.out _ (hS1.below gb7)).mono ?_
      rintro e w8 ⟨rfl, hb8⟩
      have G8 := hide (G7.out.below hb8 G7.out.lt)
      have R8 := hide (R1.out.below hb8 R1.out.lt)
      have gb8 := gb7.trans (hb8.mono gb7.size)
      obtain ⟨w9, wA, hW9, q9, hWA, r9, rb9⟩ := newU w8 (orZ M)
      have Q9 := hide q9
      have GA := hide (G8.out.below rb9 G8.out.lt)
      have RA := hide (R8.out.below rb9 R8.out.lt)
      have gbA := gb8.trans (rb9.mono gb8.size)
      have e0 : wA.cell? ⟨w.heap.size, 0, none⟩ = some (.int .i64 u.kind) := GA.out.cell 0 (by omega)
      have hGA : Glob n wA := hG.upU gbA (Nat.le_refl _)
      clear d0 d1 hb8 q9 r9 rb9 hW6 hW7 gb5 gb7 gb8 R1 Q1 HM
      generalize w5.heap.size = g7 at RA R8 ⊢
      cases M with
      | some m =>
        go_wp2_with (first | refine wpList_storeU rfl _ _ rfl rfl w8.heap.size (orZ (some m)) rfl rfl _ Q9.out ?_)
        try rw [hWA]
        go_ret
        exact ⟨by rw [← HK.out]; rfl, gbA⟩
      | none =>
        obtain ⟨R, hR⟩ : ∃ R, eqH (sumU u.hash) a.hash = R := ⟨_, rfl⟩
        have hq : ∀ w : World, (Op.equalIn 10000 23 (.agg (tabv (bv (sumU u.hash)) 32)) (.agg (tabv (bv a.hash) 32))).run Tryz.prog w = .ok R w := fun w => by rw [← hR]; exact eqHD 9998 w _ _
        have gh := guard26
        have HK2 := hide (HK.out.symm.trans (show followK u (some a) none = ((u.kind == 3) || R) by rw [← hR]; rfl))
        have SU := hide (fun (w w1 : World) (h : Glob n w) (e : w.alloc (.cells #[.string (strOf u.hash 32)] 9) = w1) => sum_one n u.hash w w1 h e)
        generalize sumU u.hash = SH at hq SU
        clear hR
        go_wp2_with (first | refine wpList_storeU rfl _ _ rfl rfl w8.heap.size (orZ none) rfl rfl _ Q9.out ?_)
        try rw [hWA]
        have RA2 : Hid (Has wA g7 34 a.v 36) := RA
        clear hW9 hWA e0
        cases k3 : (u.kind == 3) with
        | true =>
          refine wp_region_noPanic ?_
          refine wp_region_held_drew (S := fun wx => Has wx w.heap.size 34 u.v 36 ∧ Has wx g7 34 a.v 36 ∧ Glob n wx ∧ Below w.heap.size w wx) (by kernel_rfl) (⟨GA.out, RA2.out, hGA, gbA.drew⟩) (fun hHeld => ?_)
          refine Cu.takeH 0 (some 36) (.pointer (some ⟨w.heap.size, 0, none⟩)) rfl rfl (by kernel_rfl) (by kernel_rfl) (by kernel_rfl) (fun _ _ _ h => h) (by rfl) (fun w hw => by first | rfl | (go_simp; done) | (go_simp; rfl)) hHeld ?_
          simp only [Act.put, List.setIfInBounds_toArray, List.set_cons_zero, List.set_cons_succ]
          refine Cu.takeH 1 (some 37) (.int .i64 u.kind) rfl rfl (by kernel_rfl) (by kernel_rfl) (by kernel_rfl) (fun _ _ _ h => h) (by rfl) (fun w hw => by have c0 : w.cell? ⟨_, 0, none⟩ = some (.int .i64 u.kind) := hw.1.cell 0 (by omega); first | rfl | (go_simp; done) | (go_simp; rfl)) hHeld ?_
          simp only [Act.put, List.setIfInBounds_toArray, List.set_cons_zero, List.set_cons_succ]
          refine Cu.takeH 2 (some 38) (.bool true) rfl rfl (by kernel_rfl) (by kernel_rfl) (by kernel_rfl) (fun _ _ _ h => h) (by rfl) (fun w hw => by first | rfl | (go_simp; done) | (go_simp; rfl)) hHeld ?_
          simp only [Act.put, List.setIfInBounds_toArray, List.set_cons_zero, List.set_cons_succ]
          refine Cu.takeH 3 (some 39) (.bool true) rfl rfl (by kernel_rfl) (by kernel_rfl) (by kernel_rfl) (fun _ _ _ h => h) (by rfl) (fun w hw => by first | rfl | (go_simp; done) | (go_simp; rfl)) hHeld ?_
          simp only [Act.put, List.setIfInBounds_toArray, List.set_cons_zero, List.set_cons_succ]
          refine skH 4 (some 40) rfl hHeld ?_
          simp only [Act.put, List.setIfInBounds_toArray, List.set_cons_zero, List.set_cons_succ]
          refine skH 5 (some 41) rfl hHeld ?_
          simp only [Act.put, List.setIfInBounds_toArray, List.set_cons_zero, List.set_cons_succ]
          refine skH 6 (some 42) rfl hHeld ?_
          simp only [Act.put, List.setIfInBounds_toArray, List.set_cons_zero, List.set_cons_succ]
          refine skH 7 (some 43) rfl hHeld ?_
          simp only [Act.put, List.setIfInBounds_toArray, List.set_cons_zero, List.set_cons_succ]
          refine skH 8 (some 44) rfl hHeld ?_
          simp only [Act.put, List.setIfInBounds_toArray, List.set_cons_zero, List.set_cons_succ]
          refine skH 9 (some 45) rfl hHeld ?_
          simp only [Act.put, List.setIfInBounds_toArray, List.set_cons_zero, List.set_cons_succ]
          refine skH 10 (some 46) rfl hHeld ?_
          simp only [Act.put, List.setIfInBounds_toArray, List.set_cons_zero, List.set_cons_succ]
          refine skH 11 (some 47) rfl hHeld ?_
          simp only [Act.put, List.setIfInBounds_toArray, List.set_cons_zero, List.set_cons_succ]
          refine Cu.takeH 12 (some 48) (.bool true) rfl rfl (by kernel_rfl) (by kernel_rfl) (by kernel_rfl) (fun _ _ _ h => h) (by rfl) (fun w hw => by first | rfl | (go_simp; done) | (go_simp; rfl)) hHeld ?_
          simp only [Act.put, List.setIfInBounds_toArray, List.set_cons_zero, List.set_cons_succ]
          refine Cu.takeH 13 (some 6) (.bool true) rfl rfl (by kernel_rfl) (by kernel_rfl) (by kernel_rfl) (fun _ _ _ h => h) (by rfl) (fun w hw => by first | rfl | (go_simp; done) | (go_simp; rfl)) hHeld ?_
          simp only [Act.put, List.setIfInBounds_toArray, List.set_cons_zero, List.set_cons_succ]
          refine ⟨by kernel_rfl, ?_⟩
          refine NoPanic.normal ?_
          go_wp2
          go_ret
          exact ⟨by rw [HK2.out, k3]; rfl, hHeld.2.2.2⟩
        | false =>
          refine wp_region_noPanic ?_
          refine wp_region_held_drew (S := fun wx => Has wx w.heap.size 34 u.v 36 ∧ Has wx g7 34 a.v 36 ∧ Glob n wx ∧ Below w.heap.size w wx) (by kernel_rfl) (⟨GA.out, RA2.out, hGA, gbA.drew⟩) (fun hHeld => ?_)
          refine Cu.takeH 0 (some 36) (.pointer (some ⟨w.heap.size, 0, none⟩)) rfl rfl (by kernel_rfl) (by kernel_rfl) (by kernel_rfl) (fun _ _ _ h => h) (by rfl) (fun w hw => by first | rfl | (go_simp; done) | (go_simp; rfl)) hHeld ?_
          simp only [Act.put, List.setIfInBounds_toArray, List.set_cons_zero, List.set_cons_succ]
          refine Cu.takeH 1 (some 37) (.int .i64 u.kind) rfl rfl (by kernel_rfl) (by kernel_rfl) (by kernel_rfl) (fun _ _ _ h => h) (by rfl) (fun w hw => by have c0 : w.cell? ⟨_, 0, none⟩ = some (.int .i64 u.kind) := hw.1.cell 0 (by omega); first | rfl | (go_simp; done) | (go_simp; rfl)) hHeld ?_
          simp only [Act.put, List.setIfInBounds_toArray, List.set_cons_zero, List.set_cons_succ]
          refine Cu.takeH 2 (some 38) (.bool false) rfl rfl (by kernel_rfl) (by kernel_rfl) (by kernel_rfl) (fun _ _ _ h => h) (by rfl) (fun w hw => by first | rfl | (go_simp; done) | (go_simp; rfl)) hHeld ?_
          simp only [Act.put, List.setIfInBounds_toArray, List.set_cons_zero, List.set_cons_succ]
          refine Cu.takeH 3 (some 39) (.bool false) rfl rfl (by kernel_rfl) (by kernel_rfl) (by kernel_rfl) (fun _ _ _ h => h) (by rfl) (fun w hw => by first | rfl | (go_simp; done) | (go_simp; rfl)) hHeld ?_
          simp only [Act.put, List.setIfInBounds_toArray, List.set_cons_zero, List.set_cons_succ]
          refine Cu.takeH 4 (some 40) (.pointer (some ⟨w.heap.size, 3, none⟩)) rfl rfl (by kernel_rfl) (by kernel_rfl) (by kernel_rfl) (fun _ _ _ h => h) (by rfl) (fun w hw => by first | rfl | (go_simp; done) | (go_simp; rfl)) hHeld ?_
          simp only [Act.put, List.setIfInBounds_toArray, List.set_cons_zero, List.set_cons_succ]
          refine Cu.takeH 5 (some 41) (.slice (some ⟨w.heap.size, 3, none⟩) 32 32) rfl rfl (by kernel_rfl) (by kernel_rfl) (by kernel_rfl) (fun _ _ _ h => h) (by rfl) (fun w hw => by first | rfl | (go_simp; done) | (go_simp; rfl)) hHeld ?_
          simp only [Act.put, List.setIfInBounds_toArray, List.set_cons_zero, List.set_cons_succ]
          refine Cu.takeH 6 (some 42) (.string (strOf u.hash 32)) rfl rfl (by kernel_rfl) (by kernel_rfl) (by kernel_rfl) (fun _ _ _ h => h) (by rfl) (fun w hw => by have hcv := run_conv_at hw.1.at_hash; first | rfl | (go_simp; done) | (go_simp; rfl)) hHeld ?_
          simp only [Act.put, List.setIfInBounds_toArray, List.set_cons_zero, List.set_cons_succ]
          refine Cu.takeH 9 (some 45) (.pointer (some ⟨g7, 3, none⟩)) rfl rfl (by kernel_rfl) (by kernel_rfl) (by kernel_rfl) (fun _ _ _ h => h) (by rfl) (fun w hw => by first | rfl | (go_simp; done) | (go_simp; rfl)) hHeld ?_
          simp only [Act.put, List.setIfInBounds_toArray, List.set_cons_zero, List.set_cons_succ]
          refine Cu.takeH 10 (some 46) (.agg (tabv (bv a.hash) 32)) rfl rfl (by kernel_rfl) (by kernel_rfl) (by kernel_rfl) (fun _ _ _ h => h) (by rfl) (fun w hw => run_load_at w 23 _ rfl g7 3 (by rfl) (bv a.hash) 32 _ hw.2.1.at_hash Tryz.underlying23 rfl info26) hHeld ?_
          simp only [Act.put, List.setIfInBounds_toArray, List.set_cons_zero, List.set_cons_succ]
          refine wpAnyH_ready (rs := [7]) (by kernel_rfl) (by simp) (AllReadyH.cons rfl (fun K hK => ?_) AllReadyH.nil)
          rw [if_pos (by rfl)]
          go_simp
          refine hK.out _ _ (⟨GA.out.old _, RA2.out.old _, hG.upU ((gbA.alloc gbA.size _).drew) (Nat.le_refl _), (gbA.alloc gbA.size _).drew⟩) (fun hH => ?_)
          clear hK K hHeld
          have hHeld := hH
          clear hH
          refine wpAnyH_ready (rs := [8]) (by kernel_rfl) (by simp) (AllReadyH.cons rfl (fun K hK => ?_) AllReadyH.nil)
          rw [if_pos (by rfl)]
          go_simp
          refine (SU.out wA.drew _ (hGA : Glob n wA.drew) rfl).mono ?_
          rintro e V2 ⟨rfl, hbV⟩
          try go_wp2_with fail
          refine hK.out _ _ (⟨GA.out.below (w := wA.drew) hbV GA.out.lt, RA2.out.below (w := wA.drew) hbV RA2.out.lt, hG.upU (gbA.drew.trans (hbV.mono gbA.size)) (Nat.le_refl _), gbA.drew.trans (hbV.mono gbA.size)⟩) (fun hH => ?_)
          clear hK K hHeld hbV
          have hHeld := hH
          clear hH
          refine Cu.takeH 11 (some 47) (.bool R) rfl rfl (by kernel_rfl) (by kernel_rfl) (by kernel_rfl) (fun _ _ _ h => h) (by rfl) (fun w hw => run_eqH w _ _ _ _ R rfl rfl rfl (hq w)) hHeld ?_
          simp only [Act.put, List.setIfInBounds_toArray, List.set_cons_zero, List.set_cons_succ]
          refine Cu.takeH 12 (some 48) (.bool R) rfl rfl (by kernel_rfl) (by kernel_rfl) (by kernel_rfl) (fun _ _ _ h => h) (by rfl) (fun w hw => by first | rfl | (go_simp; done) | (go_simp; rfl)) hHeld ?_
          simp only [Act.put, List.setIfInBounds_toArray, List.set_cons_zero, List.set_cons_succ]
          refine Cu.takeH 13 (some 6) (.bool R) rfl rfl (by kernel_rfl) (by kernel_rfl) (by kernel_rfl) (fun _ _ _ h => h) (by rfl) (fun w hw => by first | rfl | (go_simp; done) | (go_simp; rfl)) hHeld ?_
          simp only [Act.put, List.setIfInBounds_toArray, List.set_cons_zero, List.set_cons_succ]
          refine ⟨by kernel_rfl, ?_⟩
          refine NoPanic.normal ?_
          go_wp2
          go_ret
          exact ⟨by rw [HK2.out, k3]; rfl, hHeld.2.2.2⟩
set_option maxRecDepth 100000 in
set_option maxHeartbeats 4000000 in
theorem next_any (n : Num) (ad1 ad2 : Option Addr) (n1 n2 cap1 cap2 : Nat) (mine others : List Upd) (hn1 : mine.length = n1) (hn2 : others.length = n2) (hz1 : n1 ≤ 140737488351232) (hz2 : n2 ≤ 140737488351232) (u : Upd) (w : World) (hG : Glob n w) (hS1 : Upds w ad1 mine) (hS2 : Upds w ad2 others) : Calls Tryz.prog 48 #[.slice ad1 n1 cap1, .slice ad2 n2 cap2, .agg (tabv u.v 36)] w fun e w' => e = .returned (.int .i64 (nextA mine others u)) ∧ Below w.heap.size w w' := by
  obtain ⟨w3, hW⟩ : ∃ x, w.alloc (.cells (tabv u.v 36) 34) = x := ⟨_, rfl⟩
  have g0 : Has w3 w.heap.size 34 u.v 36 := by rw [← hW]; exact Has.new w 34 u.v 36 _ rfl
  have gb : Below w.heap.size w w3 := by rw [← hW]; exact (Below.refl w.heap.size w).alloc (Nat.le_refl _) _
  have G0 := hide g0
  by_cases hf : 2048 ≤ n1
  · have hd : decide ((2048 : Int) ≤ (n1 : Int)) = true := decide_eq_true (by omega)
    rw [show nextA mine others u = 6 by unfold nextA; rw [if_pos (by omega)]]
    clear g0 hn1 hn2 hz1 hz2
    go_enter Tryz.func48, Tryz.ntmps48
    go_wp2
    go_ret
    exact ⟨rfl, gb⟩
  have hd : decide ((2048 : Int) ≤ (n1 : Int)) = false := decide_eq_false (by omega)
  have HV := hide (fun w : World => valid_any u w)
  cases hv : validB u with
  | false =>
    rw [show nextA mine others u = 120 by unfold nextA; rw [if_neg (by omega), if_pos hv]]
    rw [hv] at HV
    clear g0 hn1 hn2 hz1 hz2 hf
    go_enter Tryz.func48, Tryz.ntmps48
    go_wp2_with (first | refine wpW_load_at 34 _ rfl (w.heap.size) (0) (by rfl) (by rfl) _ 36 _ (G0.out.at_ 0 (by omega) (fun i hi => by rw [Nat.zero_add])) Tryz.underlying34 rfl infoU ?_ | fail)
    refine (HV.out _).mono ?_
    rintro e w5 ⟨rfl, hb5⟩
    have gb5 := gb.trans (hb5.mono gb.size)
    clear hW gb
    go_wp2
    go_ret
    exact ⟨rfl, gb5⟩
  | true =>
    have HF := hide (fun (w : World) (hG : Glob n w) (h1 : Upds w ad1 mine) (h2 : Upds w ad2 others) => follows_any n ad1 ad2 n1 n2 cap1 cap2 mine others hn1 hn2 hz1 hz2 u w hG h1 h2)
    rw [hv] at HV
    obtain ⟨R, hR⟩ : ∃ R, followsB mine others u = R := ⟨_, rfl⟩
    rw [hR] at HF
    cases R with
    | false =>
      rw [show nextA mine others u = 120 by unfold nextA; rw [if_neg (by omega), if_neg (by rw [hv]; decide), if_neg (by rw [hR]; decide)]]
      clear g0 hn1 hn2 hz1 hz2 hf hR hv
      go_enter Tryz.func48, Tryz.ntmps48
      go_wp2_with (first | refine wpW_load_at 34 _ rfl (w.heap.size) (0) (by rfl) (by rfl) _ 36 _ (G0.out.at_ 0 (by omega) (fun i hi => by rw [Nat.zero_add])) Tryz.underlying34 rfl infoU ?_ | fail)
      refine (HV.out _).mono ?_
      rintro e w5 ⟨rfl, hb5⟩
      have gb5 := gb.trans (hb5.mono gb.size)
      have G5 := hide (G0.out.below hb5 G0.out.lt)
      clear hW hb5
      go_wp2_with (first | refine wpW_load_at 34 _ rfl (w.heap.size) (0) (by rfl) (by rfl) _ 36 _ (G5.out.at_ 0 (by omega) (fun i hi => by rw [Nat.zero_add])) Tryz.underlying34 rfl infoU ?_ | fail)
      refine (HF.out _ (hG.upU gb5 (Nat.le_refl _)) (hS1.below gb5) (hS2.below gb5)).mono ?_
      rintro e w6 ⟨rfl, hb6⟩
      have gb6 := gb5.trans (hb6.mono gb5.size)
      clear hb6 gb gb5
      go_wp2
      go_ret
      exact ⟨rfl, gb6⟩
    | true =>
      rw [show nextA mine others u = 0 by unfold nextA; rw [if_neg (by omega), if_neg (by rw [hv]; decide), if_pos hR]]
      clear g0 hn1 hn2 hz1 hz2 hf hR hv
      go_enter Tryz.func48, Tryz.ntmps48
      go_wp2_with (first | refine wpW_load_at 34 _ rfl (w.heap.size) (0) (by rfl) (by rfl) _ 36 _ (G0.out.at_ 0 (by omega) (fun i hi => by rw [Nat.zero_add])) Tryz.underlying34 rfl infoU ?_ | fail)
      refine (HV.out _).mono ?_
      rintro e w5 ⟨rfl, hb5⟩
      have gb5 := gb.trans (hb5.mono gb.size)
      have G5 := hide (G0.out.below hb5 G0.out.lt)
      clear hW hb5
      go_wp2_with (first | refine wpW_load_at 34 _ rfl (w.heap.size) (0) (by rfl) (by rfl) _ 36 _ (G5.out.at_ 0 (by omega) (fun i hi => by rw [Nat.zero_add])) Tryz.underlying34 rfl infoU ?_ | fail)
      refine (HF.out _ (hG.upU gb5 (Nat.le_refl _)) (hS1.below gb5) (hS2.below gb5)).mono ?_
      rintro e w6 ⟨rfl, hb6⟩
      have gb6 := gb5.trans (hb6.mono gb5.size)
      clear hb6 gb gb5
      go_wp2
      go_ret
      exact ⟨rfl, gb6⟩
end Go.Proofs.YtmmcoedgoekhgaaGreatDoor
