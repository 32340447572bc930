/-
  first: the example that the document gives.
-/
import Derived.Test.YtfacfbmfnpioeaaDoorERef
import Derived.Deep.DeepCutAuto
namespace Go.Proofs.YtfacfbmfnpioeaaDoor
open Go.RowKit S
set_option maxHeartbeats 1600000 in
theorem first_any (n : Num) (w : World) (hG : Glob n w) :
    Calls Tryd.prog 8 #[] w fun e w' => e = .returned (.bool true) ∧ Below w.heap.size w w' := by
  have kb : Below w.heap.size w w := Below.refl _ _
  have hGl := hG
  obtain ⟨M, hM⟩ : ∃ M, mac (fun _ => 0) [] = M := ⟨_, rfl⟩
  have m0 : M 0 = 182 := by rw [← hM]; decide +kernel
  have m1 : M 1 = 19 := by rw [← hM]; decide +kernel
  have m2 : M 30 = 197 := by rw [← hM]; decide +kernel
  have m3 : M 31 = 173 := by rw [← hM]; decide +kernel
  have hsg : ∀ w : World, Glob n w → Calls Tryd.prog 6 #[.agg #[.int .u8 0, .int .u8 0, .int .u8 0, .int .u8 0, .int .u8 0, .int .u8 0, .int .u8 0, .int .u8 0, .int .u8 0, .int .u8 0, .int .u8 0, .int .u8 0, .int .u8 0, .int .u8 0, .int .u8 0, .int .u8 0, .int .u8 0, .int .u8 0, .int .u8 0, .int .u8 0, .int .u8 0, .int .u8 0, .int .u8 0, .int .u8 0, .int .u8 0, .int .u8 0, .int .u8 0, .int .u8 0, .int .u8 0, .int .u8 0, .int .u8 0, .int .u8 0], .string { data := #[] }] w fun e w' => e = .returned (.agg (tabv (bv M) 32)) ∧ Below w.heap.size w w' := fun w h => by rw [← hM]; exact sign_any n (fun _ => 0) { data := #[] } w h (by decide)
  have hrt : ∀ (sig : Nat → UInt8) (R : Bool), sameH sig M = R → ∀ w : World, Glob n w → Calls Tryd.prog 7 #[.agg #[.int .u8 0, .int .u8 0, .int .u8 0, .int .u8 0, .int .u8 0, .int .u8 0, .int .u8 0, .int .u8 0, .int .u8 0, .int .u8 0, .int .u8 0, .int .u8 0, .int .u8 0, .int .u8 0, .int .u8 0, .int .u8 0, .int .u8 0, .int .u8 0, .int .u8 0, .int .u8 0, .int .u8 0, .int .u8 0, .int .u8 0, .int .u8 0, .int .u8 0, .int .u8 0, .int .u8 0, .int .u8 0, .int .u8 0, .int .u8 0, .int .u8 0, .int .u8 0], .string { data := #[] }, .agg (tabv (bv sig) 32)] w fun e w' => e = .returned (.bool R) ∧ Below w.heap.size w w' := fun sig R hR w h => by rw [← hR, ← hM]; exact right_any n (fun _ => 0) sig { data := #[] } w h (by decide)
  obtain ⟨N2, hN2⟩ : ∃ x, upd M 31 172 = x := ⟨_, rfl⟩
  have R1 := hide (hrt M true (sameH_refl M))
  have R2 := hide (hrt N2 false (by rw [← hN2]; exact sameH_false (k := 31) (by omega) (by unfold upd; rw [if_pos rfl, m3]; decide)))
  have A1 := hide hsg
  clear hsg hrt hM
  go_enter Tryd.func8, Tryd.ntmps8
  go_wp2_with fail
  refine (A1.out _ hGl).mono ?_
  rintro e w1 ⟨rfl, hb2⟩
  have hGl := hGl.up hb2
  have kb := kb.trans (hb2.mono kb.size)
  clear hb2
  have hn5 := Has.new w1 23 (fun _ => .int .u8 0) 32 _ rfl
  rw [zero32] at hn5
  obtain ⟨b4, hb4⟩ : ∃ g, w1.heap.size = g := ⟨_, rfl⟩
  obtain ⟨w3, hz6⟩ : ∃ x, (w1.alloc (.cells (tabv (fun _ => .int .u8 0) 32) 23)).setRow w1.heap.size (tabv (bv M) 32) = x := ⟨_, rfl⟩
  have hbx : Below w1.heap.size w1 w3 := by rw [← hz6]; exact below_setRow ((Below.refl _ _).alloc (Nat.le_refl _) _) (Nat.le_refl _) _
  have hGl := hGl.up hbx
  have kb := kb.trans (hbx.mono kb.size)
  have q1 : Has w3 b4 23 (bv M) 32 := by rw [zero32] at hz6; rw [← hz6, ← hb4]; exact hn5.row _ _ rfl
  rw [zero32] at hz6
  have Hhn5 := hide hn5
  have Hhz6 := hide hz6
  have Hhb4 := hide hb4
  clear hn5 hz6 hb4 hbx
  have Hq1 := hide q1
  have hs3 := kb.size
  have hn9 := Has.new w3 23 (fun _ => .int .u8 0) 32 _ rfl
  rw [zero32] at hn9
  obtain ⟨b8, hb8⟩ : ∃ g, w3.heap.size = g := ⟨_, rfl⟩
  obtain ⟨w7, hz10⟩ : ∃ x, (w3.alloc (.cells (tabv (fun _ => .int .u8 0) 32) 23)).setRow w3.heap.size (tabv (bv M) 32) = x := ⟨_, rfl⟩
  have hbx : Below w3.heap.size w3 w7 := by rw [← hz10]; exact below_setRow ((Below.refl _ _).alloc (Nat.le_refl _) _) (Nat.le_refl _) _
  have q1 := q1.below hbx q1.lt
  have hGl := hGl.up hbx
  have kb := kb.trans (hbx.mono kb.size)
  have q2 : Has w7 b8 23 (bv M) 32 := by rw [zero32] at hz10; rw [← hz10, ← hb8]; exact hn9.row _ _ rfl
  rw [zero32] at hz10
  have Hhn9 := hide hn9
  have Hhz10 := hide hz10
  have Hhb8 := hide hb8
  clear hn9 hz10 hb8 hbx
  have c31 := q2.cell 31 (by omega)
  simp only [bv, m3] at c31
  have cf := q2.frozen 31
  have hx : bits .xor .u8 173 1 = 172 := by decide
  have hne : b4 ≠ b8 := by have h1 := Hq1.out.lt; have h2 := Hhb8.out; omega
  go_upto_region 4 with (first | (refine wpList_store_part rfl 23 _ _ rfl rfl w1.heap.size 0 (bv M) 32 rfl rfl 23 _ 32 Hhn5.out (by omega) info26 (fun _ _ => rfl) (bv M) (fun i hi => by unfold splice; first | (rw [if_pos (by omega), Nat.sub_zero]) | (rw [if_pos (by omega)]; rfl)) ?_; rw [Hhz6.out]; try rw [Hhb4.out]) | (refine wpList_store_part rfl 23 _ _ rfl rfl w3.heap.size 0 (bv M) 32 rfl rfl 23 _ 32 Hhn9.out (by omega) info26 (fun _ _ => rfl) (bv M) (fun i hi => by unfold splice; first | (rw [if_pos (by omega), Nat.sub_zero]) | (rw [if_pos (by omega)]; rfl)) ?_; rw [Hhz10.out]; try rw [Hhb8.out]) | refine wpList_load_part rfl 23 _ rfl b4 0 rfl 23 _ 32 32 _ Hq1.out (by omega) Tryd.underlying23 rfl info26 (bv M) (fun i hi => by rw [Nat.zero_add]) ?_)
  clear Hq1
  generalize hV : World.setCell _ _ _ = v5
  have q1 : Has v5 b4 23 (bv M) 32 := by rw [← hV]; exact q1.other _ _ hne
  have q2 : Has v5 b8 23 (bv N2) 32 := by rw [← hV, ← hN2, ← bv_upd]; exact q2.set 31 _
  have hbx : Below w.heap.size w v5 := by rw [← hV]; exact kb.setCell (by have h1 := Hhb8.out; simp only; omega) _
  have hGl := hG.below hbx hG.2.2
  have kb := hbx
  clear hV hbx c31 cf hs3
  have c0 := q1.cell 0 (by omega)
  simp only [bv, m0] at c0
  have c1 := q1.cell 1 (by omega)
  simp only [bv, m1] at c1
  have c30 := q1.cell 30 (by omega)
  simp only [bv, m2] at c30
  have c31 := q1.cell 31 (by omega)
  simp only [bv, m3] at c31
  have Hq1 := hide q1
  go_wp2_with (first | refine wpList_load_part rfl 23 _ rfl b4 0 rfl 23 _ 32 32 _ Hq1.out (by omega) Tryd.underlying23 rfl info26 (bv M) (fun i hi => by rw [Nat.zero_add]) ?_ | refine wpList_load_want (by rfl) 23 _ rfl b4 0 rfl 23 _ 32 32 _ Hq1.out (by omega) Tryd.underlying23 rfl info26 (bv M) (fun i hi => by rw [Nat.zero_add]) ?_)
  clear Hq1
  refine (R1.out _ hGl).mono ?_
  rintro e w11 ⟨rfl, hb12⟩
  have q1 := q1.below hb12 q1.lt
  have q2 := q2.below hb12 q2.lt
  have hGl := hGl.up hb12
  have kb := kb.trans (hb12.mono kb.size)
  clear hb12
  have Hq2 := hide q2
  go_wp2_with (first | refine wpList_load_part rfl 23 _ rfl b8 0 rfl 23 _ 32 32 _ Hq2.out (by omega) Tryd.underlying23 rfl info26 (bv N2) (fun i hi => by rw [Nat.zero_add]) ?_ | refine wpList_load_want (by rfl) 23 _ rfl b8 0 rfl 23 _ 32 32 _ Hq2.out (by omega) Tryd.underlying23 rfl info26 (bv N2) (fun i hi => by rw [Nat.zero_add]) ?_)
  clear Hq2
  refine (R2.out _ hGl).mono ?_
  rintro e w13 ⟨rfl, hb14⟩
  have q1 := q1.below hb14 q1.lt
  have q2 := q2.below hb14 q2.lt
  have hGl := hGl.up hb14
  have kb := kb.trans (hb14.mono kb.size)
  clear hb14
  go_wp2
  go_ret
  exact ⟨rfl, kb⟩
end Go.Proofs.YtfacfbmfnpioeaaDoor
