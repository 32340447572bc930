/-
  LedgerNever: the book's taken (printed by gen_never3.py).
-/
import Derived.Test.YtbeoojnofblnjaaGNever2
import Derived.Test.YtbeoojnofblnjaaGFoldsA
namespace Go.Proofs.Ytbeoojnofblnjaa
open Go.RowKit S Go.Shelf Go.Sort
set_option linter.unusedVariables false
set_option linter.unusedSimpArgs false
set_option maxRecDepth 100000 in
set_option maxHeartbeats 4000000 in
theorem btaken_any (g : Nat) (ad0 ad1 : Option Addr) (n0 c0 n1 c1 : Nat) (l0 l1 : List Upd) (h0 : l0.length = n0) (h1 : l1.length = n1) (z0 : n0 ≤ 2048) (z1 : n1 ≤ 2048) (k0 : n0 ≤ c0) (k1 : n1 ≤ c1) (f0 f1 : Nat) (b0 b1 : Int) (bd0 : 0 ≤ b0 ∧ b0 ≤ 576460752303423487) (bd1 : 0 ≤ b1 ∧ b1 ≤ 576460752303423487) (hN : Nv b0 b1 l0 l1 f0 f1) (p q : Nat) (hp0 : f0 ≤ p) (hp1 : p ≤ n0) (hq0 : f1 ≤ q) (hq1 : q ≤ n1) (w : World) (hH : Has w g 30 (bkv (.slice ad0 n0 c0) (.slice ad1 n1 c1) f0 f1 b0 b1) 6) (u0 : Upds w ad0 l0) (u1 : Upds w ad1 l1) : Calls Try.prog 7 #[.pointer (some ⟨g, 0, none⟩), .int .i64 (p : Int), .int .i64 (q : Int)] w fun e w' => e = .returned (.bool true) ∧ Below w.heap.size w w' := by
  have vP : (l0.take p).all validB = true := List.all_eq_true.2 fun x hx => List.all_eq_true.1 hN.v0 x (List.mem_of_mem_take hx)
  have vQ : (l1.take q).all validB = true := List.all_eq_true.2 fun x hx => List.all_eq_true.1 hN.v1 x (List.mem_of_mem_take hx)
  obtain ⟨X, hX⟩ : ∃ X, balX b0 (l0.take p) (l1.take q) = X := ⟨_, rfl⟩
  obtain ⟨Y, hY⟩ : ∃ Y, balY b1 (l0.take p) (l1.take q) = Y := ⟨_, rfl⟩
  have hx := hN.balX hp0 hq0
  have hy := hN.balY hp0 hq0
  have hw := bal_whole b0 b1 (l0.take p) (l1.take q)
  rw [hX] at hx hw
  rw [hY] at hy hw
  have HXY : Hid (0 ≤ X ∧ 0 ≤ Y ∧ X + Y + sumP (foldL (l0.take p) (l1.take q)) = b0 + b1 ∧ b0 + b1 ≤ 2305843009213693952) := ⟨hx, hy, hw, by omega⟩
  have FG := hide ((foldG b0 b1 bd0 bd1 ad0 ad1 n0 c0 n1 c1 l0 l1 h0 h1 (by omega) (by omega) k0 k1 p q hp1 hq1 vP vQ _ _ rfl rfl X Y hX hY).1 ⟨hx, hy⟩)
  have zAB : IntKind.i64.wrap (b0 + b1) = b0 + b1 := by rw [IntKind.wrap_i64]; omega
  have H := hide hH
  clear hX hY hx hy hw vP vQ hN hH h0 h1 z0 z1 k0 k1 hp0 hp1 hq0 hq1 bd0 bd1
  go_enter Try.func7, Try.ntmps7
  go_upto_region 1 with fail
  go_cut [7, 8] from 9 to 35 (fun s7 s8 wx => ∃ gL B v, s7 = .pointer (some ⟨gL, 0, none⟩) ∧ s8 = .int .i64 0 ∧ LgF gL B X Y v (foldL (l0.take p) (l1.take q)) wx ∧ Below w.heap.size w wx)
  case first =>
    refine wp_region_noPanic ?_
    refine wp_region_held_drew (S := fun wx => Below w.heap.size w wx) (by kernel_rfl) ((Below.refl _ _).drew) (fun hHeld => ?_)
    refine takeH 0 (some 10) (.pointer (some ⟨g, 0, none⟩)) rfl rfl (by kernel_rfl) (by kernel_rfl) (by kernel_rfl) (fun _ _ _ h => h) (by rfl) (fun w hw => by first | rfl | (go_simp; done) | (go_simp; rfl) | (go_simp; omega)) hHeld ?_
    simp only [Act.put, List.setIfInBounds_toArray, List.set_cons_zero, List.set_cons_succ]
    refine takeH 1 (some 11) (.pointer (some ⟨g, 0, none⟩)) rfl rfl (by kernel_rfl) (by kernel_rfl) (by kernel_rfl) (fun _ _ _ h => h) (by rfl) (fun w hw => by first | rfl | (go_simp; done) | (go_simp; rfl) | (go_simp; omega)) hHeld ?_
    simp only [Act.put, List.setIfInBounds_toArray, List.set_cons_zero, List.set_cons_succ]
    refine takeH 2 (some 12) (.pointer (some ⟨g, 4, none⟩)) rfl rfl (by kernel_rfl) (by kernel_rfl) (by kernel_rfl) (fun _ _ _ h => h) (by rfl) (fun w hw => by first | rfl | (go_simp; done) | (go_simp; rfl) | (go_simp; omega)) hHeld ?_
    simp only [Act.put, List.setIfInBounds_toArray, List.set_cons_zero, List.set_cons_succ]
    refine takeH 3 (some 13) (.pointer (some ⟨g, 4, none⟩)) rfl rfl (by kernel_rfl) (by kernel_rfl) (by kernel_rfl) (fun _ _ _ h => h) (by rfl) (fun w hw => by first | rfl | (go_simp; done) | (go_simp; rfl) | (go_simp; omega)) hHeld ?_
    simp only [Act.put, List.setIfInBounds_toArray, List.set_cons_zero, List.set_cons_succ]
    refine takeH 4 (some 14) (.int .i64 b0) rfl rfl (by kernel_rfl) (by kernel_rfl) (by kernel_rfl) (fun _ _ _ h => h) (by rfl) (fun w hw => by have c : w.cell? ⟨g, 4, none⟩ = some (.int .i64 b0) := (H.out.below hw H.out.lt).cell 4 (by omega); first | (go_simp; done) | (go_simp; rfl)) hHeld ?_
    simp only [Act.put, List.setIfInBounds_toArray, List.set_cons_zero, List.set_cons_succ]
    refine takeH 5 (some 15) (.pointer (some ⟨g, 0, none⟩)) rfl rfl (by kernel_rfl) (by kernel_rfl) (by kernel_rfl) (fun _ _ _ h => h) (by rfl) (fun w hw => by first | rfl | (go_simp; done) | (go_simp; rfl) | (go_simp; omega)) hHeld ?_
    simp only [Act.put, List.setIfInBounds_toArray, List.set_cons_zero, List.set_cons_succ]
    refine takeH 6 (some 16) (.pointer (some ⟨g, 0, none⟩)) rfl rfl (by kernel_rfl) (by kernel_rfl) (by kernel_rfl) (fun _ _ _ h => h) (by rfl) (fun w hw => by first | rfl | (go_simp; done) | (go_simp; rfl) | (go_simp; omega)) hHeld ?_
    simp only [Act.put, List.setIfInBounds_toArray, List.set_cons_zero, List.set_cons_succ]
    refine takeH 7 (some 17) (.pointer (some ⟨g, 4, none⟩)) rfl rfl (by kernel_rfl) (by kernel_rfl) (by kernel_rfl) (fun _ _ _ h => h) (by rfl) (fun w hw => by first | rfl | (go_simp; done) | (go_simp; rfl) | (go_simp; omega)) hHeld ?_
    simp only [Act.put, List.setIfInBounds_toArray, List.set_cons_zero, List.set_cons_succ]
    refine takeH 8 (some 18) (.pointer (some ⟨g, 5, none⟩)) rfl rfl (by kernel_rfl) (by kernel_rfl) (by kernel_rfl) (fun _ _ _ h => h) (by rfl) (fun w hw => by first | rfl | (go_simp; done) | (go_simp; rfl) | (go_simp; omega)) hHeld ?_
    simp only [Act.put, List.setIfInBounds_toArray, List.set_cons_zero, List.set_cons_succ]
    refine takeH 9 (some 19) (.int .i64 b1) rfl rfl (by kernel_rfl) (by kernel_rfl) (by kernel_rfl) (fun _ _ _ h => h) (by rfl) (fun w hw => by have c : w.cell? ⟨g, 5, none⟩ = some (.int .i64 b1) := (H.out.below hw H.out.lt).cell 5 (by omega); first | (go_simp; done) | (go_simp; rfl)) hHeld ?_
    simp only [Act.put, List.setIfInBounds_toArray, List.set_cons_zero, List.set_cons_succ]
    refine takeH 10 (some 20) (.pointer (some ⟨g, 0, none⟩)) rfl rfl (by kernel_rfl) (by kernel_rfl) (by kernel_rfl) (fun _ _ _ h => h) (by rfl) (fun w hw => by first | rfl | (go_simp; done) | (go_simp; rfl) | (go_simp; omega)) hHeld ?_
    simp only [Act.put, List.setIfInBounds_toArray, List.set_cons_zero, List.set_cons_succ]
    refine takeH 11 (some 21) (.pointer (some ⟨g, 0, none⟩)) rfl rfl (by kernel_rfl) (by kernel_rfl) (by kernel_rfl) (fun _ _ _ h => h) (by rfl) (fun w hw => by first | rfl | (go_simp; done) | (go_simp; rfl) | (go_simp; omega)) hHeld ?_
    simp only [Act.put, List.setIfInBounds_toArray, List.set_cons_zero, List.set_cons_succ]
    refine takeH 12 (some 22) (.pointer (some ⟨g, 0, none⟩)) rfl rfl (by kernel_rfl) (by kernel_rfl) (by kernel_rfl) (fun _ _ _ h => h) (by rfl) (fun w hw => by first | rfl | (go_simp; done) | (go_simp; rfl) | (go_simp; omega)) hHeld ?_
    simp only [Act.put, List.setIfInBounds_toArray, List.set_cons_zero, List.set_cons_succ]
    refine takeH 13 (some 23) (.pointer (some ⟨g, 0, none⟩)) rfl rfl (by kernel_rfl) (by kernel_rfl) (by kernel_rfl) (fun _ _ _ h => h) (by rfl) (fun w hw => by first | rfl | (go_simp; done) | (go_simp; rfl) | (go_simp; omega)) hHeld ?_
    simp only [Act.put, List.setIfInBounds_toArray, List.set_cons_zero, List.set_cons_succ]
    refine takeH 14 (some 24) (.slice ad0 n0 c0) rfl rfl (by kernel_rfl) (by kernel_rfl) (by kernel_rfl) (fun _ _ _ h => h) (by rfl) (fun w hw => by have c : w.cell? ⟨g, 0, none⟩ = some (.slice ad0 n0 c0) := (H.out.below hw H.out.lt).cell 0 (by omega); first | (go_simp; done) | (go_simp; rfl)) hHeld ?_
    simp only [Act.put, List.setIfInBounds_toArray, List.set_cons_zero, List.set_cons_succ]
    refine takeH 15 (some 25) (.pointer (some ⟨g, 0, none⟩)) rfl rfl (by kernel_rfl) (by kernel_rfl) (by kernel_rfl) (fun _ _ _ h => h) (by rfl) (fun w hw => by first | rfl | (go_simp; done) | (go_simp; rfl) | (go_simp; omega)) hHeld ?_
    simp only [Act.put, List.setIfInBounds_toArray, List.set_cons_zero, List.set_cons_succ]
    refine takeH 16 (some 26) (.pointer (some ⟨g, 0, none⟩)) rfl rfl (by kernel_rfl) (by kernel_rfl) (by kernel_rfl) (fun _ _ _ h => h) (by rfl) (fun w hw => by first | rfl | (go_simp; done) | (go_simp; rfl) | (go_simp; omega)) hHeld ?_
    simp only [Act.put, List.setIfInBounds_toArray, List.set_cons_zero, List.set_cons_succ]
    refine takeH 17 (some 27) (.pointer (some ⟨g, 0, none⟩)) rfl rfl (by kernel_rfl) (by kernel_rfl) (by kernel_rfl) (fun _ _ _ h => h) (by rfl) (fun w hw => by first | rfl | (go_simp; done) | (go_simp; rfl) | (go_simp; omega)) hHeld ?_
    simp only [Act.put, List.setIfInBounds_toArray, List.set_cons_zero, List.set_cons_succ]
    refine takeH 18 (some 28) (.pointer (some ⟨g, 1, none⟩)) rfl rfl (by kernel_rfl) (by kernel_rfl) (by kernel_rfl) (fun _ _ _ h => h) (by rfl) (fun w hw => by first | rfl | (go_simp; done) | (go_simp; rfl) | (go_simp; omega)) hHeld ?_
    simp only [Act.put, List.setIfInBounds_toArray, List.set_cons_zero, List.set_cons_succ]
    refine takeH 19 (some 29) (.slice ad1 n1 c1) rfl rfl (by kernel_rfl) (by kernel_rfl) (by kernel_rfl) (fun _ _ _ h => h) (by rfl) (fun w hw => by have c : w.cell? ⟨g, 1, none⟩ = some (.slice ad1 n1 c1) := (H.out.below hw H.out.lt).cell 1 (by omega); first | (go_simp; done) | (go_simp; rfl)) hHeld ?_
    simp only [Act.put, List.setIfInBounds_toArray, List.set_cons_zero, List.set_cons_succ]
    refine takeH 20 (some 30) (.int .i64 (p : Int)) rfl rfl (by kernel_rfl) (by kernel_rfl) (by kernel_rfl) (fun _ _ _ h => h) (by rfl) (fun w hw => by first | rfl | (go_simp; done) | (go_simp; rfl) | (go_simp; omega)) hHeld ?_
    simp only [Act.put, List.setIfInBounds_toArray, List.set_cons_zero, List.set_cons_succ]
    refine takeH 21 (some 31) (.int .i64 (q : Int)) rfl rfl (by kernel_rfl) (by kernel_rfl) (by kernel_rfl) (fun _ _ _ h => h) (by rfl) (fun w hw => by first | rfl | (go_simp; done) | (go_simp; rfl) | (go_simp; omega)) hHeld ?_
    simp only [Act.put, List.setIfInBounds_toArray, List.set_cons_zero, List.set_cons_succ]
    refine takeH 22 (some 32) (.agg (tabv (cnv (p : Int) (q : Int)) 2)) rfl rfl (by kernel_rfl) (by kernel_rfl) (by kernel_rfl) (fun _ _ _ h => h) (by rfl) (fun w hw => by go_simp; rfl) hHeld ?_
    simp only [Act.put, List.setIfInBounds_toArray, List.set_cons_zero, List.set_cons_succ]
    generalize hwd : World.drew w = wd at hHeld ⊢
    refine wpAnyH_ready (rs := [23, 27]) (by kernel_rfl) (by simp) (AllReadyH.cons rfl (fun K hK => ?_) (AllReadyH.cons rfl (fun K hK => ?_) AllReadyH.nil))
    · rw [if_pos (by rfl)]
      go_simp
      refine (FG.out _ (u0.below hHeld) (u1.below hHeld)).mono ?_
      rintro e w__23 ⟨⟨v, rfl, oN⟩, hb⟩
      try go_wp2_with fail
      refine hK.out _ _ (hHeld.trans (hb.mono hHeld.size)) (fun hH => ?_)
      clear hK K hHeld
      have hHeld := hH
      clear hH
      refine takeH 24 (some 9) (.tuple #[.agg (tabv (ledv X Y v) 3), .int .i64 0]) rfl rfl (by kernel_rfl) (by kernel_rfl) (by kernel_rfl) (fun _ _ _ h => h) (by rfl) (fun w hw => by first | rfl | (go_simp; done) | (go_simp; rfl) | (go_simp; omega)) hHeld ?_
      simp only [Act.put, List.setIfInBounds_toArray, List.set_cons_zero, List.set_cons_succ]
      refine takeH 25 (some 34) (.agg (tabv (ledv X Y v) 3)) rfl rfl (by kernel_rfl) (by kernel_rfl) (by kernel_rfl) (fun _ _ _ h => h) (by rfl) (fun w hw => by first | rfl | (go_simp; done) | (go_simp; rfl) | (go_simp; omega)) hHeld ?_
      simp only [Act.put, List.setIfInBounds_toArray, List.set_cons_zero, List.set_cons_succ]
      refine takeH 26 (some 35) (.int .i64 0) rfl rfl (by kernel_rfl) (by kernel_rfl) (by kernel_rfl) (fun _ _ _ h => h) (by rfl) (fun w hw => by first | rfl | (go_simp; done) | (go_simp; rfl) | (go_simp; omega)) hHeld ?_
      simp only [Act.put, List.setIfInBounds_toArray, List.set_cons_zero, List.set_cons_succ]
      refine wpAnyH_ready (rs := [27]) (by kernel_rfl) (by simp) (AllReadyH.cons rfl (fun K hK => ?_) AllReadyH.nil)
      · rw [if_pos (by rfl)]
        go_simp
        have qN : Has (World.alloc (w__23) (.cells #[.int .i64 0, .int .i64 0, .slice none 0 0] 46)) (Array.size (World.heap (w__23))) 46 (ledv 0 0 (.slice none 0 0)) 3 := by rw [zeroL]; exact Has.new _ 46 _ 3 _ rfl
        have bN : Below (Array.size (World.heap (w__23))) (w__23) (World.alloc (w__23) (.cells #[.int .i64 0, .int .i64 0, .slice none 0 0] 46)) := (Below.refl _ _).alloc (Nat.le_refl _) _
        have hgN1 : w.heap.size ≤ Array.size (World.heap (w__23)) := hHeld.size
        have hno0 := fun i hi => (oN.lt i hi).2
        have oN := oN.below bN
        have sN := hHeld.trans (bN.mono hHeld.size)
        generalize hW : World.alloc (w__23) (.cells #[.int .i64 0, .int .i64 0, .slice none 0 0] 46) = w_23_27 at qN bN sN oN ⊢
        refine hK.out _ _ sN (fun hH => ?_)
        clear sN
        clear hK K hHeld
        have hHeld := hH
        clear hH
        generalize hgN : Array.size (World.heap (w__23)) = gN at qN hgN1 hno0 ⊢
        have hgl := qN.lt
        have hno : ∀ i, v.ownBlock = some i → i ≠ gN := fun i hi e => by have := hno0 i hi; omega
        try simp only [Act.put, List.setIfInBounds_toArray, List.set_cons_zero, List.set_cons_succ]
        refine wpAnyH_ready (rs := [28]) (by kernel_rfl) (by simp) (AllReadyH.cons rfl (fun K hK => ?_) AllReadyH.nil)
        · rw [if_pos (by rfl)]
          have oneN := oN.one
          refine wp_store_part 46 _ _ rfl rfl gN 0 (ledv X Y v) 3 rfl rfl 46 (ledv 0 0 (.slice none 0 0)) 3 qN (by omega) infoL (fun i _ => one_ledv _ _ _ oneN i) (ledv X Y v) (fun i hi => by unfold splice; rw [if_pos (by omega), Nat.sub_zero]) ?_
          have kN : Keep (· = gN) (w_23_27) (World.setRow (w_23_27) gN (tabv (ledv X Y v) 3)) := keep_row _ _ _ rfl
          have lgQ := LgF.mk (qN.row _ (ledv X Y v) rfl) (oN.keep kN (fun i hi e => hno i hi e))
          have sN := below_setRow hHeld hgN1 (tabv (ledv X Y v) 3)
          refine hK.out _ _ sN (fun hH => ?_)
          clear sN
          clear hK K hHeld
          have hHeld := hH
          clear hH
          refine takeH 29 (some 8) (.int .i64 0) rfl rfl (by kernel_rfl) (by kernel_rfl) (by kernel_rfl) (fun _ _ _ h => h) (by rfl) (fun w hw => by first | rfl | (go_simp; done) | (go_simp; rfl) | (go_simp; omega)) hHeld ?_
          simp only [Act.put, List.setIfInBounds_toArray, List.set_cons_zero, List.set_cons_succ]
          refine ⟨by kernel_rfl, ?_⟩
          refine NoPanic.normal ?_
          try go_wp2_with fail
          go_meet
          exact ⟨_, _, _, rfl, rfl, lgQ, hHeld⟩
    · rw [if_pos (by rfl)]
      go_simp
      have qN : Has (World.alloc (wd) (.cells #[.int .i64 0, .int .i64 0, .slice none 0 0] 46)) (Array.size (World.heap (wd))) 46 (ledv 0 0 (.slice none 0 0)) 3 := by rw [zeroL]; exact Has.new _ 46 _ 3 _ rfl
      have bN : Below (Array.size (World.heap (wd))) (wd) (World.alloc (wd) (.cells #[.int .i64 0, .int .i64 0, .slice none 0 0] 46)) := (Below.refl _ _).alloc (Nat.le_refl _) _
      have hgN1 : w.heap.size ≤ Array.size (World.heap (wd)) := hHeld.size
      have sN := hHeld.trans (bN.mono hHeld.size)
      generalize hW : World.alloc (wd) (.cells #[.int .i64 0, .int .i64 0, .slice none 0 0] 46) = w__27 at qN bN sN ⊢
      refine hK.out _ _ sN (fun hH => ?_)
      clear sN
      clear hK K hHeld
      have hHeld := hH
      clear hH
      generalize hgN : Array.size (World.heap (wd)) = gN at qN hgN1 ⊢
      have hgl := qN.lt
      try simp only [Act.put, List.setIfInBounds_toArray, List.set_cons_zero, List.set_cons_succ]
      refine wpAnyH_ready (rs := [23]) (by kernel_rfl) (by simp) (AllReadyH.cons rfl (fun K hK => ?_) AllReadyH.nil)
      · rw [if_pos (by rfl)]
        go_simp
        refine (FG.out _ (u0.below hHeld) (u1.below hHeld)).mono ?_
        rintro e w_27_23 ⟨⟨v, rfl, oN⟩, hb⟩
        try go_wp2_with fail
        have qN := qN.below hb qN.lt
        have hno : ∀ i, v.ownBlock = some i → i ≠ gN := fun i hi e => by have := (oN.lt i hi).1; omega
        refine hK.out _ _ (hHeld.trans (hb.mono hHeld.size)) (fun hH => ?_)
        clear hK K hHeld
        have hHeld := hH
        clear hH
        refine takeH 24 (some 9) (.tuple #[.agg (tabv (ledv X Y v) 3), .int .i64 0]) rfl rfl (by kernel_rfl) (by kernel_rfl) (by kernel_rfl) (fun _ _ _ h => h) (by rfl) (fun w hw => by first | rfl | (go_simp; done) | (go_simp; rfl) | (go_simp; omega)) hHeld ?_
        simp only [Act.put, List.setIfInBounds_toArray, List.set_cons_zero, List.set_cons_succ]
        refine takeH 25 (some 34) (.agg (tabv (ledv X Y v) 3)) rfl rfl (by kernel_rfl) (by kernel_rfl) (by kernel_rfl) (fun _ _ _ h => h) (by rfl) (fun w hw => by first | rfl | (go_simp; done) | (go_simp; rfl) | (go_simp; omega)) hHeld ?_
        simp only [Act.put, List.setIfInBounds_toArray, List.set_cons_zero, List.set_cons_succ]
        refine takeH 26 (some 35) (.int .i64 0) rfl rfl (by kernel_rfl) (by kernel_rfl) (by kernel_rfl) (fun _ _ _ h => h) (by rfl) (fun w hw => by first | rfl | (go_simp; done) | (go_simp; rfl) | (go_simp; omega)) hHeld ?_
        simp only [Act.put, List.setIfInBounds_toArray, List.set_cons_zero, List.set_cons_succ]
        refine wpAnyH_ready (rs := [28]) (by kernel_rfl) (by simp) (AllReadyH.cons rfl (fun K hK => ?_) AllReadyH.nil)
        · rw [if_pos (by rfl)]
          have oneN := oN.one
          refine wp_store_part 46 _ _ rfl rfl gN 0 (ledv X Y v) 3 rfl rfl 46 (ledv 0 0 (.slice none 0 0)) 3 qN (by omega) infoL (fun i _ => one_ledv _ _ _ oneN i) (ledv X Y v) (fun i hi => by unfold splice; rw [if_pos (by omega), Nat.sub_zero]) ?_
          have kN : Keep (· = gN) (w_27_23) (World.setRow (w_27_23) gN (tabv (ledv X Y v) 3)) := keep_row _ _ _ rfl
          have lgQ := LgF.mk (qN.row _ (ledv X Y v) rfl) (oN.keep kN (fun i hi e => hno i hi e))
          have sN := below_setRow hHeld hgN1 (tabv (ledv X Y v) 3)
          refine hK.out _ _ sN (fun hH => ?_)
          clear sN
          clear hK K hHeld
          have hHeld := hH
          clear hH
          refine takeH 29 (some 8) (.int .i64 0) rfl rfl (by kernel_rfl) (by kernel_rfl) (by kernel_rfl) (fun _ _ _ h => h) (by rfl) (fun w hw => by first | rfl | (go_simp; done) | (go_simp; rfl) | (go_simp; omega)) hHeld ?_
          simp only [Act.put, List.setIfInBounds_toArray, List.set_cons_zero, List.set_cons_succ]
          refine ⟨by kernel_rfl, ?_⟩
          refine NoPanic.normal ?_
          try go_wp2_with fail
          go_meet
          exact ⟨_, _, _, rfl, rfl, lgQ, hHeld⟩
  case rest =>
  obtain ⟨gL, B, v, rfl, rfl, lg, hbc⟩ := hcut
  have LN := hide lg
  have HC := hide (H.out.below hbc H.out.lt)
  clear lg
  go_wp2
  refine wp_region_noPanic ?_
  refine wp_region_held_drew (S := fun wx => Below wc.heap.size wc wx) (by kernel_rfl) ((Below.refl _ _).drew) (fun hHeld => ?_)
  refine takeH 0 (some 36) (.int .i64 0) rfl rfl (by kernel_rfl) (by kernel_rfl) (by kernel_rfl) (fun _ _ _ h => h) (by rfl) (fun w hw => by first | rfl | (go_simp; done) | (go_simp; rfl) | (go_simp; omega)) hHeld ?_
  simp only [Act.put, List.setIfInBounds_toArray, List.set_cons_zero, List.set_cons_succ]
  refine takeH 1 (some 37) (.bool true) rfl rfl (by kernel_rfl) (by kernel_rfl) (by kernel_rfl) (fun _ _ _ h => h) (by rfl) (fun w hw => by first | rfl | (go_simp; done) | (go_simp; rfl) | (go_simp; omega)) hHeld ?_
  simp only [Act.put, List.setIfInBounds_toArray, List.set_cons_zero, List.set_cons_succ]
  refine takeH 2 (some 38) (.bool true) rfl rfl (by kernel_rfl) (by kernel_rfl) (by kernel_rfl) (fun _ _ _ h => h) (by rfl) (fun w hw => by first | rfl | (go_simp; done) | (go_simp; rfl) | (go_simp; omega)) hHeld ?_
  simp only [Act.put, List.setIfInBounds_toArray, List.set_cons_zero, List.set_cons_succ]
  refine takeH 3 (some 39) (.agg (tabv (ledv X Y v) 3)) rfl rfl (by kernel_rfl) (by kernel_rfl) (by kernel_rfl) (fun _ _ _ h => h) (by rfl) (fun w hw => run_load_at w 46 _ rfl gL 0 (by rfl) _ 3 _ ((LN.out.at_.below hw LN.out.at_.lt).at_ 0 (by omega) (fun i hi => by rw [Nat.zero_add])) Try.underlying46 rfl infoL) hHeld ?_
  simp only [Act.put, List.setIfInBounds_toArray, List.set_cons_zero, List.set_cons_succ]
  refine takeH 4 (some 40) (.pointer (some ⟨g, 0, none⟩)) rfl rfl (by kernel_rfl) (by kernel_rfl) (by kernel_rfl) (fun _ _ _ h => h) (by rfl) (fun w hw => by first | rfl | (go_simp; done) | (go_simp; rfl) | (go_simp; omega)) hHeld ?_
  simp only [Act.put, List.setIfInBounds_toArray, List.set_cons_zero, List.set_cons_succ]
  refine takeH 5 (some 41) (.pointer (some ⟨g, 0, none⟩)) rfl rfl (by kernel_rfl) (by kernel_rfl) (by kernel_rfl) (fun _ _ _ h => h) (by rfl) (fun w hw => by first | rfl | (go_simp; done) | (go_simp; rfl) | (go_simp; omega)) hHeld ?_
  simp only [Act.put, List.setIfInBounds_toArray, List.set_cons_zero, List.set_cons_succ]
  refine takeH 6 (some 42) (.pointer (some ⟨g, 4, none⟩)) rfl rfl (by kernel_rfl) (by kernel_rfl) (by kernel_rfl) (fun _ _ _ h => h) (by rfl) (fun w hw => by first | rfl | (go_simp; done) | (go_simp; rfl) | (go_simp; omega)) hHeld ?_
  simp only [Act.put, List.setIfInBounds_toArray, List.set_cons_zero, List.set_cons_succ]
  refine takeH 7 (some 43) (.pointer (some ⟨g, 4, none⟩)) rfl rfl (by kernel_rfl) (by kernel_rfl) (by kernel_rfl) (fun _ _ _ h => h) (by rfl) (fun w hw => by first | rfl | (go_simp; done) | (go_simp; rfl) | (go_simp; omega)) hHeld ?_
  simp only [Act.put, List.setIfInBounds_toArray, List.set_cons_zero, List.set_cons_succ]
  refine takeH 8 (some 44) (.int .i64 b0) rfl rfl (by kernel_rfl) (by kernel_rfl) (by kernel_rfl) (fun _ _ _ h => h) (by rfl) (fun w hw => by have c : w.cell? ⟨g, 4, none⟩ = some (.int .i64 b0) := (HC.out.below hw HC.out.lt).cell 4 (by omega); first | (go_simp; done) | (go_simp; rfl)) hHeld ?_
  simp only [Act.put, List.setIfInBounds_toArray, List.set_cons_zero, List.set_cons_succ]
  refine takeH 9 (some 45) (.pointer (some ⟨g, 0, none⟩)) rfl rfl (by kernel_rfl) (by kernel_rfl) (by kernel_rfl) (fun _ _ _ h => h) (by rfl) (fun w hw => by first | rfl | (go_simp; done) | (go_simp; rfl) | (go_simp; omega)) hHeld ?_
  simp only [Act.put, List.setIfInBounds_toArray, List.set_cons_zero, List.set_cons_succ]
  refine takeH 10 (some 46) (.pointer (some ⟨g, 0, none⟩)) rfl rfl (by kernel_rfl) (by kernel_rfl) (by kernel_rfl) (fun _ _ _ h => h) (by rfl) (fun w hw => by first | rfl | (go_simp; done) | (go_simp; rfl) | (go_simp; omega)) hHeld ?_
  simp only [Act.put, List.setIfInBounds_toArray, List.set_cons_zero, List.set_cons_succ]
  refine takeH 11 (some 47) (.pointer (some ⟨g, 4, none⟩)) rfl rfl (by kernel_rfl) (by kernel_rfl) (by kernel_rfl) (fun _ _ _ h => h) (by rfl) (fun w hw => by first | rfl | (go_simp; done) | (go_simp; rfl) | (go_simp; omega)) hHeld ?_
  simp only [Act.put, List.setIfInBounds_toArray, List.set_cons_zero, List.set_cons_succ]
  refine takeH 12 (some 48) (.pointer (some ⟨g, 5, none⟩)) rfl rfl (by kernel_rfl) (by kernel_rfl) (by kernel_rfl) (fun _ _ _ h => h) (by rfl) (fun w hw => by first | rfl | (go_simp; done) | (go_simp; rfl) | (go_simp; omega)) hHeld ?_
  simp only [Act.put, List.setIfInBounds_toArray, List.set_cons_zero, List.set_cons_succ]
  refine takeH 13 (some 49) (.int .i64 b1) rfl rfl (by kernel_rfl) (by kernel_rfl) (by kernel_rfl) (fun _ _ _ h => h) (by rfl) (fun w hw => by have c : w.cell? ⟨g, 5, none⟩ = some (.int .i64 b1) := (HC.out.below hw HC.out.lt).cell 5 (by omega); first | (go_simp; done) | (go_simp; rfl)) hHeld ?_
  simp only [Act.put, List.setIfInBounds_toArray, List.set_cons_zero, List.set_cons_succ]
  refine takeH 14 (some 50) (.int .i64 (b0 + b1)) rfl rfl (by kernel_rfl) (by kernel_rfl) (by kernel_rfl) (fun _ _ _ h => h) (by rfl) (fun w hw => by have z := zAB; first | rfl | (go_simp; done) | (go_simp; rfl)) hHeld ?_
  simp only [Act.put, List.setIfInBounds_toArray, List.set_cons_zero, List.set_cons_succ]
  refine wpAnyH_ready (rs := [15]) (by kernel_rfl) (by simp) (AllReadyH.cons rfl (fun K hK => ?_) AllReadyH.nil)
  rw [if_pos (by rfl)]
  go_simp
  refine (whole_any X Y (b0 + b1) (foldL (l0.take p) (l1.take q)) v _ _ (LN.out.row.below hHeld) HXY.out.1 HXY.out.2.1 HXY.out.2.2.1 HXY.out.2.2.2 (fold_chain _ _) (fold_amt _ _)).mono ?_
  rintro e wZ ⟨rfl, hbZ⟩
  try go_wp2_with fail
  refine hK.out _ _ (hHeld.trans (hbZ.mono hHeld.size)) (fun hH => ?_)
  clear hK K hHeld
  have hHeld := hH
  clear hH
  refine takeH 16 (some 52) (.bool true) rfl rfl (by kernel_rfl) (by kernel_rfl) (by kernel_rfl) (fun _ _ _ h => h) (by rfl) (fun w hw => by first | rfl | (go_simp; done) | (go_simp; rfl) | (go_simp; omega)) hHeld ?_
  simp only [Act.put, List.setIfInBounds_toArray, List.set_cons_zero, List.set_cons_succ]
  refine takeH 17 (some 6) (.bool true) rfl rfl (by kernel_rfl) (by kernel_rfl) (by kernel_rfl) (fun _ _ _ h => h) (by rfl) (fun w hw => by first | rfl | (go_simp; done) | (go_simp; rfl) | (go_simp; omega)) hHeld ?_
  simp only [Act.put, List.setIfInBounds_toArray, List.set_cons_zero, List.set_cons_succ]
  refine ⟨by kernel_rfl, ?_⟩
  refine NoPanic.normal ?_
  try go_wp2
  go_ret
  exact ⟨rfl, hbc.trans (hHeld.mono hbc.size)⟩
end Go.Proofs.Ytbeoojnofblnjaa
