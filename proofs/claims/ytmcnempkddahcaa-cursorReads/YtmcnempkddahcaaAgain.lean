/-
  again: a value read where its bytes stand.
-/
import Derived.Test.YtmcnempkddahcaaLays
import Derived.Deep.DrawnRows
namespace Go.Proofs.Ytmcnempkddahcaa
open Go.RowKit
set_option linter.unusedVariables false
theorem run_conv_op {P : Program} {o : Oper} {a : Act} (s d : TypeId) (x : Operand) (ho : o.op = .convert s d x) (X r : Value) (hx : a.eval x = X) (w : World) (hr : (convert s d X).run P w = .ok r w) : (execOp a.eval o).run P w = .ok (.value r) w := by
  unfold execOp
  simp only [ho, hx, hr, Sem.run_bind, Sem.run_pure, Result.andThen_ok]
theorem run_eq_hash {o : Oper} {a : Act} (x y : Operand) (u : TypeId) (ho : o.op = .binOp .eql 54 x y u) (f g : Nat → UInt8) (hx : a.eval x = .agg (tabv (bv f) 32)) (hy : a.eval y = .agg (tabv (bv g) 32)) (hfg : ∀ i, i < 32 → f i = g i) (w : World) : (execOp a.eval o).run Try.prog w = .ok (.value (.bool true)) w := by
  have e : ((List.range 32).all fun i => f i == g i) = true := by
    rw [List.all_eq_true]
    intro i hi
    rw [hfg i (List.mem_range.1 hi)]
    simp
  have h1 := eq54 w f g
  rw [e] at h1
  have hg : (eqGuard .eql 54 x y (.agg (tabv (bv f) 32)) (.agg (tabv (bv g) 32))).run Try.prog w = .ok () w := by
    simp [eqGuard]
  have h2 : (binOp .eql 54 (.agg (tabv (bv f) 32)) (.agg (tabv (bv g) 32))).run Try.prog w = .ok (.bool true) w := by
    simp [binOp, Op.equal, Op.maxDepth, h1]
  unfold execOp
  simp only [ho, hx, hy, Sem.run_bind, hg, h2, Sem.run_pure, Result.andThen_ok]
theorem Has.same3 {w w' : World} {g m : Nat} {t : TypeId} {f : Nat → Value} (h : Has w g t f m) (e : w'.heap[g]? = w.heap[g]?) : Has w' g t f m := by unfold Has; rw [e]; exact h
theorem nb_to (x n : Nat) (b : List UInt8) : (be (takeA n (ofL (nb x n ++ b), 0)).data.toList : Nat) = x % 256 ^ n := num_nb x n b
theorem nbS_to (x n : Nat) (b : List UInt8) : takeS n (ofL (nb x n ++ b), 0) = (ofL b, 0) := takeS_head _ _ _ (by rw [nb_length])
theorem hOf_hl (h : Nat → UInt8) (i : Nat) (hi : i < 32) : hOf (ofL (hl h)) i = h i := by
  unfold hOf byteAt hl
  rw [ofL_data, List.getD_eq_getElem?_getD, List.getElem?_map, List.getElem?_range hi]; rfl
attribute [local go_sem ↓] Go.wp_at_zero Go.wp_at_succ

set_option maxRecDepth 5000 in
set_option maxHeartbeats 4000000 in
theorem again_0 (V : VL) (x : Nat) (hV : V.ok x) (hk : kd V.K = 0) (r : List UInt8) (hr : r.length ≤ 140737488355328) (hlong : longB V = false) (p : Nat) (w : World) (hC : CR w p (ofL (vb V x ++ r), 0)) :
    Calls Try.prog 33 #[.pointer (some ⟨p, 0, none⟩), .agg (tabv (vv V) 37)] w fun e w' => e = .returned (.bool true) ∧ CR w' p (ofL r, 0) ∧ Mr p w w' := by
  have g0 := Has.new w 56 (vv V) 37 _ rfl
  have gb := (Below.refl w.heap.size w).alloc (Nat.le_refl _) (.cells (tabv (vv V) 37) 56)
  have HG := hide gb
  have HH := hide g0
  have hpw := hC.lt
  have HK := hide (valKind V)
  rw [hk] at HK
  rw [vb_at V x 0 hk] at hC
  rw [if_pos rfl] at hC
  obtain ⟨C, hCc⟩ : ∃ C : Int, ((x % 256 : Nat) : Int) = C := ⟨_, rfl⟩
  have KC : Hid (∀ w : World, (convert 37 5 (.int .u64 V.U)).run Try.prog w = .ok (.int .u8 C) w) := fun w => run_conv 37 5 .u64 .u8 V.U C (by kernel_rfl) (by kernel_rfl) (by kernel_rfl) (by rw [hV.u, wrap_un .u8 8 rfl rfl, ← hCc]) w
  have HA : Hid (((be (takeA 1 (ofL (nb x 1 ++ r), 0)).data.toList : Nat) : Int) = C) := by show _ = _; rw [← hCc]; congr 1; exact nb_to x 1 r
  have HN : Hid (takeS 1 (ofL (nb x 1 ++ r), 0) = (ofL r, 0)) := nbS_to x 1 r
  clear hCc
  have HC := hide (hC.below gb)
  clear g0 gb hC
  go_enter Try.func33, Try.ntmps33
  go_wp2_with (refine wpList_load_part rfl 56 _ rfl w.heap.size 0 rfl 56 _ 37 37 _ HH.out (by omega) Try.underlying56 rfl info56 (vv V) (fun i _ => by rw [Nat.zero_add]) ?_)
  refine (HK.out _).mono ?_
  rintro e w1 ⟨rfl, hb1⟩
  have hH1 := HH.out.below hb1 HH.out.lt
  have hC1 := HC.out.below hb1
  have hM1 : Mr p w w1 := Mr.of (HG.out.trans (hb1.mono HG.out.size))
  have hgs : w.heap.size < w1.heap.size := hH1.lt
  clear hb1 HK HC HH
  obtain ⟨g, hgg⟩ : ∃ g, w.heap.size = g := ⟨_, rfl⟩
  rw [hgg] at hH1 hgs
  have HPG : Hid (p ≠ g) := by show _ ≠ _; omega
  go_wp2
  clear hgg
  refine wp_region_noPanic ?_
  refine wp_region_held_drew (S := fun wx => Has wx g 56 (vv V) 37) (by kernel_rfl) hH1 (fun hHeld => ?_)
  refine takeH 0 (some 9) (.pointer (some ⟨p, 0, none⟩)) rfl rfl (by kernel_rfl) (by kernel_rfl) (by kernel_rfl) (fun _ _ _ h => h) (by rfl) (fun w hw => by first | rfl | (go_simp; done) | (go_simp; rfl)) hHeld ?_
  simp only [Act.put, List.setIfInBounds_toArray, List.set_cons_zero, List.set_cons_succ]
  refine takeH 2 (some 11) (.pointer (some ⟨g, 1, none⟩)) rfl rfl (by kernel_rfl) (by kernel_rfl) (by kernel_rfl) (fun _ _ _ h => h) (by rfl) (fun w hw => by first | rfl | (go_simp; done) | (go_simp; rfl)) hHeld ?_
  simp only [Act.put, List.setIfInBounds_toArray, List.set_cons_zero, List.set_cons_succ]
  refine takeH 3 (some 12) (.int .u64 V.U) rfl rfl (by kernel_rfl) (by kernel_rfl) (by kernel_rfl) (fun _ _ _ h => h) (by rfl) (fun w hw => by have hd := (vcells hw).2.1; first | (go_simp; done) | (go_simp; rfl)) hHeld ?_
  simp only [Act.put, List.setIfInBounds_toArray, List.set_cons_zero, List.set_cons_succ]
  refine takeH 4 (some 13) (.int .u8 C) rfl rfl (by kernel_rfl) (by kernel_rfl) (by kernel_rfl) (fun _ _ _ h => h) (by rfl) (fun w hw => run_conv_op 37 5 _ rfl (.int .u64 V.U) (.int .u8 C) (by rfl) w (KC.out w)) hHeld ?_
  simp only [Act.put, List.setIfInBounds_toArray, List.set_cons_zero, List.set_cons_succ]
  refine wpAnyH_ready (rs := [1]) (by kernel_rfl) (by simp) (AllReadyH.cons rfl (fun K hK => ?_) AllReadyH.nil)
  rw [if_pos (by rfl)]
  go_simp
  refine (rU8 p _ w1.drew hC1).mono ?_
  rintro e w3 ⟨rfl, h3, hM3⟩
  rw [HN.out] at h3
  rw [HA.out]
  try go_wp2_with fail
  refine hK.out _ _ (hHeld.same3 (hM3.block g hgs (fun e => HPG.out e.symm))) (fun hHeld => ?_)
  clear hK K
  refine takeH 5 (some 14) (.bool true) rfl rfl (by kernel_rfl) (by kernel_rfl) (by kernel_rfl) (fun _ _ _ h => h) (by rfl) (fun w hw => by first | rfl | (go_simp; done) | (go_simp; rfl)) hHeld ?_
  simp only [Act.put, List.setIfInBounds_toArray, List.set_cons_zero, List.set_cons_succ]
  refine takeH 6 (some 4) (.bool true) rfl rfl (by kernel_rfl) (by kernel_rfl) (by kernel_rfl) (fun _ _ _ h => h) (by rfl) (fun w hw => by first | rfl | (go_simp; done) | (go_simp; rfl)) hHeld ?_
  simp only [Act.put, List.setIfInBounds_toArray, List.set_cons_zero, List.set_cons_succ]
  refine ⟨by kernel_rfl, ?_⟩
  refine NoPanic.normal ?_
  go_wp2
  go_ret
  exact ⟨rfl, h3, hM1.trans (Mr.trans (Mr.of (Below.refl w1.heap.size w1).drew) hM3)⟩
set_option maxRecDepth 5000 in
set_option maxHeartbeats 4000000 in
theorem again_1 (V : VL) (x : Nat) (hV : V.ok x) (hk : kd V.K = 1) (r : List UInt8) (hr : r.length ≤ 140737488355328) (hlong : longB V = false) (p : Nat) (w : World) (hC : CR w p (ofL (vb V x ++ r), 0)) :
    Calls Try.prog 33 #[.pointer (some ⟨p, 0, none⟩), .agg (tabv (vv V) 37)] w fun e w' => e = .returned (.bool true) ∧ CR w' p (ofL r, 0) ∧ Mr p w w' := by
  have g0 := Has.new w 56 (vv V) 37 _ rfl
  have gb := (Below.refl w.heap.size w).alloc (Nat.le_refl _) (.cells (tabv (vv V) 37) 56)
  have HG := hide gb
  have HH := hide g0
  have hpw := hC.lt
  have HK := hide (valKind V)
  rw [hk] at HK
  rw [vb_at V x 1 hk] at hC
  rw [if_neg (by decide), if_pos rfl] at hC
  obtain ⟨C, hCc⟩ : ∃ C : Int, ((x % 65536 : Nat) : Int) = C := ⟨_, rfl⟩
  have KC : Hid (∀ w : World, (convert 37 45 (.int .u64 V.U)).run Try.prog w = .ok (.int .u16 C) w) := fun w => run_conv 37 45 .u64 .u16 V.U C (by kernel_rfl) (by kernel_rfl) (by kernel_rfl) (by rw [hV.u, wrap_un .u16 16 rfl rfl, ← hCc]) w
  have HA : Hid (((be (takeA 2 (ofL (nb x 2 ++ r), 0)).data.toList : Nat) : Int) = C) := by show _ = _; rw [← hCc]; congr 1; exact nb_to x 2 r
  have HN : Hid (takeS 2 (ofL (nb x 2 ++ r), 0) = (ofL r, 0)) := nbS_to x 2 r
  clear hCc
  have HC := hide (hC.below gb)
  clear g0 gb hC
  go_enter Try.func33, Try.ntmps33
  go_wp2_with (refine wpList_load_part rfl 56 _ rfl w.heap.size 0 rfl 56 _ 37 37 _ HH.out (by omega) Try.underlying56 rfl info56 (vv V) (fun i _ => by rw [Nat.zero_add]) ?_)
  refine (HK.out _).mono ?_
  rintro e w1 ⟨rfl, hb1⟩
  have hH1 := HH.out.below hb1 HH.out.lt
  have hC1 := HC.out.below hb1
  have hM1 : Mr p w w1 := Mr.of (HG.out.trans (hb1.mono HG.out.size))
  have hgs : w.heap.size < w1.heap.size := hH1.lt
  clear hb1 HK HC HH
  obtain ⟨g, hgg⟩ : ∃ g, w.heap.size = g := ⟨_, rfl⟩
  rw [hgg] at hH1 hgs
  have HPG : Hid (p ≠ g) := by show _ ≠ _; omega
  go_wp2
  clear hgg
  refine wp_region_noPanic ?_
  refine wp_region_held_drew (S := fun wx => Has wx g 56 (vv V) 37) (by kernel_rfl) hH1 (fun hHeld => ?_)
  refine takeH 0 (some 17) (.pointer (some ⟨p, 0, none⟩)) rfl rfl (by kernel_rfl) (by kernel_rfl) (by kernel_rfl) (fun _ _ _ h => h) (by rfl) (fun w hw => by first | rfl | (go_simp; done) | (go_simp; rfl)) hHeld ?_
  simp only [Act.put, List.setIfInBounds_toArray, List.set_cons_zero, List.set_cons_succ]
  refine takeH 2 (some 19) (.pointer (some ⟨g, 1, none⟩)) rfl rfl (by kernel_rfl) (by kernel_rfl) (by kernel_rfl) (fun _ _ _ h => h) (by rfl) (fun w hw => by first | rfl | (go_simp; done) | (go_simp; rfl)) hHeld ?_
  simp only [Act.put, List.setIfInBounds_toArray, List.set_cons_zero, List.set_cons_succ]
  refine takeH 3 (some 20) (.int .u64 V.U) rfl rfl (by kernel_rfl) (by kernel_rfl) (by kernel_rfl) (fun _ _ _ h => h) (by rfl) (fun w hw => by have hd := (vcells hw).2.1; first | (go_simp; done) | (go_simp; rfl)) hHeld ?_
  simp only [Act.put, List.setIfInBounds_toArray, List.set_cons_zero, List.set_cons_succ]
  refine takeH 4 (some 21) (.int .u16 C) rfl rfl (by kernel_rfl) (by kernel_rfl) (by kernel_rfl) (fun _ _ _ h => h) (by rfl) (fun w hw => run_conv_op 37 45 _ rfl (.int .u64 V.U) (.int .u16 C) (by rfl) w (KC.out w)) hHeld ?_
  simp only [Act.put, List.setIfInBounds_toArray, List.set_cons_zero, List.set_cons_succ]
  refine wpAnyH_ready (rs := [1]) (by kernel_rfl) (by simp) (AllReadyH.cons rfl (fun K hK => ?_) AllReadyH.nil)
  rw [if_pos (by rfl)]
  go_simp
  refine (rU16 p _ w1.drew hC1).mono ?_
  rintro e w3 ⟨rfl, h3, hM3⟩
  rw [HN.out] at h3
  rw [HA.out]
  try go_wp2_with fail
  refine hK.out _ _ (hHeld.same3 (hM3.block g hgs (fun e => HPG.out e.symm))) (fun hHeld => ?_)
  clear hK K
  refine takeH 5 (some 22) (.bool true) rfl rfl (by kernel_rfl) (by kernel_rfl) (by kernel_rfl) (fun _ _ _ h => h) (by rfl) (fun w hw => by first | rfl | (go_simp; done) | (go_simp; rfl)) hHeld ?_
  simp only [Act.put, List.setIfInBounds_toArray, List.set_cons_zero, List.set_cons_succ]
  refine takeH 6 (some 4) (.bool true) rfl rfl (by kernel_rfl) (by kernel_rfl) (by kernel_rfl) (fun _ _ _ h => h) (by rfl) (fun w hw => by first | rfl | (go_simp; done) | (go_simp; rfl)) hHeld ?_
  simp only [Act.put, List.setIfInBounds_toArray, List.set_cons_zero, List.set_cons_succ]
  refine ⟨by kernel_rfl, ?_⟩
  refine NoPanic.normal ?_
  go_wp2
  go_ret
  exact ⟨rfl, h3, hM1.trans (Mr.trans (Mr.of (Below.refl w1.heap.size w1).drew) hM3)⟩
set_option maxRecDepth 5000 in
set_option maxHeartbeats 4000000 in
theorem again_2 (V : VL) (x : Nat) (hV : V.ok x) (hk : kd V.K = 2) (r : List UInt8) (hr : r.length ≤ 140737488355328) (hlong : longB V = false) (p : Nat) (w : World) (hC : CR w p (ofL (vb V x ++ r), 0)) :
    Calls Try.prog 33 #[.pointer (some ⟨p, 0, none⟩), .agg (tabv (vv V) 37)] w fun e w' => e = .returned (.bool true) ∧ CR w' p (ofL r, 0) ∧ Mr p w w' := by
  have g0 := Has.new w 56 (vv V) 37 _ rfl
  have gb := (Below.refl w.heap.size w).alloc (Nat.le_refl _) (.cells (tabv (vv V) 37) 56)
  have HG := hide gb
  have HH := hide g0
  have hpw := hC.lt
  have HK := hide (valKind V)
  rw [hk] at HK
  rw [vb_at V x 2 hk] at hC
  rw [if_neg (by decide), if_neg (by decide), if_pos rfl] at hC
  obtain ⟨C, hCc⟩ : ∃ C : Int, ((x % 4294967296 : Nat) : Int) = C := ⟨_, rfl⟩
  have KC : Hid (∀ w : World, (convert 37 42 (.int .u64 V.U)).run Try.prog w = .ok (.int .u32 C) w) := fun w => run_conv 37 42 .u64 .u32 V.U C (by kernel_rfl) (by kernel_rfl) (by kernel_rfl) (by rw [hV.u, wrap_un .u32 32 rfl rfl, ← hCc]) w
  have HA : Hid (((be (takeA 4 (ofL (nb x 4 ++ r), 0)).data.toList : Nat) : Int) = C) := by show _ = _; rw [← hCc]; congr 1; exact nb_to x 4 r
  have HN : Hid (takeS 4 (ofL (nb x 4 ++ r), 0) = (ofL r, 0)) := nbS_to x 4 r
  clear hCc
  have HC := hide (hC.below gb)
  clear g0 gb hC
  go_enter Try.func33, Try.ntmps33
  go_wp2_with (refine wpList_load_part rfl 56 _ rfl w.heap.size 0 rfl 56 _ 37 37 _ HH.out (by omega) Try.underlying56 rfl info56 (vv V) (fun i _ => by rw [Nat.zero_add]) ?_)
  refine (HK.out _).mono ?_
  rintro e w1 ⟨rfl, hb1⟩
  have hH1 := HH.out.below hb1 HH.out.lt
  have hC1 := HC.out.below hb1
  have hM1 : Mr p w w1 := Mr.of (HG.out.trans (hb1.mono HG.out.size))
  have hgs : w.heap.size < w1.heap.size := hH1.lt
  clear hb1 HK HC HH
  obtain ⟨g, hgg⟩ : ∃ g, w.heap.size = g := ⟨_, rfl⟩
  rw [hgg] at hH1 hgs
  have HPG : Hid (p ≠ g) := by show _ ≠ _; omega
  go_wp2
  clear hgg
  refine wp_region_noPanic ?_
  refine wp_region_held_drew (S := fun wx => Has wx g 56 (vv V) 37) (by kernel_rfl) hH1 (fun hHeld => ?_)
  refine takeH 0 (some 25) (.pointer (some ⟨p, 0, none⟩)) rfl rfl (by kernel_rfl) (by kernel_rfl) (by kernel_rfl) (fun _ _ _ h => h) (by rfl) (fun w hw => by first | rfl | (go_simp; done) | (go_simp; rfl)) hHeld ?_
  simp only [Act.put, List.setIfInBounds_toArray, List.set_cons_zero, List.set_cons_succ]
  refine takeH 2 (some 27) (.pointer (some ⟨g, 1, none⟩)) rfl rfl (by kernel_rfl) (by kernel_rfl) (by kernel_rfl) (fun _ _ _ h => h) (by rfl) (fun w hw => by first | rfl | (go_simp; done) | (go_simp; rfl)) hHeld ?_
  simp only [Act.put, List.setIfInBounds_toArray, List.set_cons_zero, List.set_cons_succ]
  refine takeH 3 (some 28) (.int .u64 V.U) rfl rfl (by kernel_rfl) (by kernel_rfl) (by kernel_rfl) (fun _ _ _ h => h) (by rfl) (fun w hw => by have hd := (vcells hw).2.1; first | (go_simp; done) | (go_simp; rfl)) hHeld ?_
  simp only [Act.put, List.setIfInBounds_toArray, List.set_cons_zero, List.set_cons_succ]
  refine takeH 4 (some 29) (.int .u32 C) rfl rfl (by kernel_rfl) (by kernel_rfl) (by kernel_rfl) (fun _ _ _ h => h) (by rfl) (fun w hw => run_conv_op 37 42 _ rfl (.int .u64 V.U) (.int .u32 C) (by rfl) w (KC.out w)) hHeld ?_
  simp only [Act.put, List.setIfInBounds_toArray, List.set_cons_zero, List.set_cons_succ]
  refine wpAnyH_ready (rs := [1]) (by kernel_rfl) (by simp) (AllReadyH.cons rfl (fun K hK => ?_) AllReadyH.nil)
  rw [if_pos (by rfl)]
  go_simp
  refine (rU32 p _ w1.drew hC1).mono ?_
  rintro e w3 ⟨rfl, h3, hM3⟩
  rw [HN.out] at h3
  rw [HA.out]
  try go_wp2_with fail
  refine hK.out _ _ (hHeld.same3 (hM3.block g hgs (fun e => HPG.out e.symm))) (fun hHeld => ?_)
  clear hK K
  refine takeH 5 (some 30) (.bool true) rfl rfl (by kernel_rfl) (by kernel_rfl) (by kernel_rfl) (fun _ _ _ h => h) (by rfl) (fun w hw => by first | rfl | (go_simp; done) | (go_simp; rfl)) hHeld ?_
  simp only [Act.put, List.setIfInBounds_toArray, List.set_cons_zero, List.set_cons_succ]
  refine takeH 6 (some 4) (.bool true) rfl rfl (by kernel_rfl) (by kernel_rfl) (by kernel_rfl) (fun _ _ _ h => h) (by rfl) (fun w hw => by first | rfl | (go_simp; done) | (go_simp; rfl)) hHeld ?_
  simp only [Act.put, List.setIfInBounds_toArray, List.set_cons_zero, List.set_cons_succ]
  refine ⟨by kernel_rfl, ?_⟩
  refine NoPanic.normal ?_
  go_wp2
  go_ret
  exact ⟨rfl, h3, hM1.trans (Mr.trans (Mr.of (Below.refl w1.heap.size w1).drew) hM3)⟩
set_option maxRecDepth 5000 in
set_option maxHeartbeats 4000000 in
theorem again_3 (V : VL) (x : Nat) (hV : V.ok x) (hk : kd V.K = 3) (r : List UInt8) (hr : r.length ≤ 140737488355328) (hlong : longB V = false) (p : Nat) (w : World) (hC : CR w p (ofL (vb V x ++ r), 0)) :
    Calls Try.prog 33 #[.pointer (some ⟨p, 0, none⟩), .agg (tabv (vv V) 37)] w fun e w' => e = .returned (.bool true) ∧ CR w' p (ofL r, 0) ∧ Mr p w w' := by
  have g0 := Has.new w 56 (vv V) 37 _ rfl
  have gb := (Below.refl w.heap.size w).alloc (Nat.le_refl _) (.cells (tabv (vv V) 37) 56)
  have HG := hide gb
  have HH := hide g0
  have hpw := hC.lt
  have HK := hide (valKind V)
  rw [hk] at HK
  rw [vb_at V x 3 hk] at hC
  rw [if_neg (by decide), if_neg (by decide), if_neg (by decide), if_pos rfl] at hC
  obtain ⟨C, hCc⟩ : ∃ C : Int, V.U = C := ⟨_, rfl⟩
  have HA : Hid (((be (takeA 8 (ofL (nb x 8 ++ r), 0)).data.toList : Nat) : Int) = C) := by show _ = _; rw [← hCc, hV.u]; congr 1; exact (nb_to x 8 r).trans (Nat.mod_eq_of_lt (by have := hV.ux; omega))
  have HN : Hid (takeS 8 (ofL (nb x 8 ++ r), 0) = (ofL r, 0)) := nbS_to x 8 r
  have HCU := hide hCc
  clear hCc
  have HC := hide (hC.below gb)
  clear g0 gb hC
  go_enter Try.func33, Try.ntmps33
  go_wp2_with (refine wpList_load_part rfl 56 _ rfl w.heap.size 0 rfl 56 _ 37 37 _ HH.out (by omega) Try.underlying56 rfl info56 (vv V) (fun i _ => by rw [Nat.zero_add]) ?_)
  refine (HK.out _).mono ?_
  rintro e w1 ⟨rfl, hb1⟩
  have hH1 := HH.out.below hb1 HH.out.lt
  have hC1 := HC.out.below hb1
  have hM1 : Mr p w w1 := Mr.of (HG.out.trans (hb1.mono HG.out.size))
  have hgs : w.heap.size < w1.heap.size := hH1.lt
  clear hb1 HK HC HH
  obtain ⟨g, hgg⟩ : ∃ g, w.heap.size = g := ⟨_, rfl⟩
  rw [hgg] at hH1 hgs
  have HPG : Hid (p ≠ g) := by show _ ≠ _; omega
  go_wp2
  clear hgg
  refine wp_region_noPanic ?_
  refine wp_region_held_drew (S := fun wx => Has wx g 56 (vv V) 37) (by kernel_rfl) hH1 (fun hHeld => ?_)
  refine takeH 0 (some 33) (.pointer (some ⟨p, 0, none⟩)) rfl rfl (by kernel_rfl) (by kernel_rfl) (by kernel_rfl) (fun _ _ _ h => h) (by rfl) (fun w hw => by first | rfl | (go_simp; done) | (go_simp; rfl)) hHeld ?_
  simp only [Act.put, List.setIfInBounds_toArray, List.set_cons_zero, List.set_cons_succ]
  refine takeH 2 (some 35) (.pointer (some ⟨g, 1, none⟩)) rfl rfl (by kernel_rfl) (by kernel_rfl) (by kernel_rfl) (fun _ _ _ h => h) (by rfl) (fun w hw => by first | rfl | (go_simp; done) | (go_simp; rfl)) hHeld ?_
  simp only [Act.put, List.setIfInBounds_toArray, List.set_cons_zero, List.set_cons_succ]
  refine takeH 3 (some 36) (.int .u64 C) rfl rfl (by kernel_rfl) (by kernel_rfl) (by kernel_rfl) (fun _ _ _ h => h) (by rfl) (fun w hw => by have hd := (vcells hw).2.1; rw [HCU.out] at hd; first | (go_simp; done) | (go_simp; rfl)) hHeld ?_
  simp only [Act.put, List.setIfInBounds_toArray, List.set_cons_zero, List.set_cons_succ]
  refine wpAnyH_ready (rs := [1]) (by kernel_rfl) (by simp) (AllReadyH.cons rfl (fun K hK => ?_) AllReadyH.nil)
  rw [if_pos (by rfl)]
  go_simp
  refine (rU64 p _ w1.drew hC1).mono ?_
  rintro e w3 ⟨rfl, h3, hM3⟩
  rw [HN.out] at h3
  rw [HA.out]
  try go_wp2_with fail
  refine hK.out _ _ (hHeld.same3 (hM3.block g hgs (fun e => HPG.out e.symm))) (fun hHeld => ?_)
  clear hK K
  refine takeH 4 (some 37) (.bool true) rfl rfl (by kernel_rfl) (by kernel_rfl) (by kernel_rfl) (fun _ _ _ h => h) (by rfl) (fun w hw => by first | rfl | (go_simp; done) | (go_simp; rfl)) hHeld ?_
  simp only [Act.put, List.setIfInBounds_toArray, List.set_cons_zero, List.set_cons_succ]
  refine takeH 5 (some 4) (.bool true) rfl rfl (by kernel_rfl) (by kernel_rfl) (by kernel_rfl) (fun _ _ _ h => h) (by rfl) (fun w hw => by first | rfl | (go_simp; done) | (go_simp; rfl)) hHeld ?_
  simp only [Act.put, List.setIfInBounds_toArray, List.set_cons_zero, List.set_cons_succ]
  refine ⟨by kernel_rfl, ?_⟩
  refine NoPanic.normal ?_
  go_wp2
  go_ret
  exact ⟨rfl, h3, hM1.trans (Mr.trans (Mr.of (Below.refl w1.heap.size w1).drew) hM3)⟩
set_option maxRecDepth 5000 in
set_option maxHeartbeats 4000000 in
theorem again_4 (V : VL) (x : Nat) (hV : V.ok x) (hk : kd V.K = 4) (r : List UInt8) (hr : r.length ≤ 140737488355328) (hlong : longB V = false) (p : Nat) (w : World) (hC : CR w p (ofL (vb V x ++ r), 0)) :
    Calls Try.prog 33 #[.pointer (some ⟨p, 0, none⟩), .agg (tabv (vv V) 37)] w fun e w' => e = .returned (.bool true) ∧ CR w' p (ofL r, 0) ∧ Mr p w w' := by
  have g0 := Has.new w 56 (vv V) 37 _ rfl
  have gb := (Below.refl w.heap.size w).alloc (Nat.le_refl _) (.cells (tabv (vv V) 37) 56)
  have HG := hide gb
  have HH := hide g0
  have hpw := hC.lt
  have HK := hide (valKind V)
  rw [hk] at HK
  rw [vb_at V x 4 hk] at hC
  rw [if_neg (by decide), if_neg (by decide), if_neg (by decide), if_neg (by decide), if_pos rfl] at hC
  have HA : Hid (IntKind.i64.wrap (num 8 (ofL (nb (iw V) 8 ++ r), 0) : Int) = V.I) := by
    show _ = _
    have e : num 8 (ofL (nb (iw V) 8 ++ r), 0) = iw V % 256 ^ 8 := num_nb (iw V) 8 r
    have e2 := iw_eq V
    have h0 := hV.i0
    have h1 := hV.i1
    have e3 : IntKind.u64.wrap V.I = V.I % 18446744073709551616 := by simp [IntKind.wrap, IntKind.bits, IntKind.signed]
    rw [e, Nat.mod_eq_of_lt (by omega), ← e2, e3, IntKind.wrap_i64]
    omega
  have HN : Hid (takeS 8 (ofL (nb (iw V) 8 ++ r), 0) = (ofL r, 0)) := nbS_to (iw V) 8 r
  have HC := hide (hC.below gb)
  clear g0 gb hC
  go_enter Try.func33, Try.ntmps33
  go_wp2_with (refine wpList_load_part rfl 56 _ rfl w.heap.size 0 rfl 56 _ 37 37 _ HH.out (by omega) Try.underlying56 rfl info56 (vv V) (fun i _ => by rw [Nat.zero_add]) ?_)
  refine (HK.out _).mono ?_
  rintro e w1 ⟨rfl, hb1⟩
  have hH1 := HH.out.below hb1 HH.out.lt
  have hC1 := HC.out.below hb1
  have hM1 : Mr p w w1 := Mr.of (HG.out.trans (hb1.mono HG.out.size))
  have hgs : w.heap.size < w1.heap.size := hH1.lt
  clear hb1 HK HC HH
  obtain ⟨g, hgg⟩ : ∃ g, w.heap.size = g := ⟨_, rfl⟩
  rw [hgg] at hH1 hgs
  have HPG : Hid (p ≠ g) := by show _ ≠ _; omega
  go_wp2
  clear hgg
  refine wp_region_noPanic ?_
  refine wp_region_held_drew (S := fun wx => Has wx g 56 (vv V) 37) (by kernel_rfl) hH1 (fun hHeld => ?_)
  refine takeH 0 (some 40) (.pointer (some ⟨p, 0, none⟩)) rfl rfl (by kernel_rfl) (by kernel_rfl) (by kernel_rfl) (fun _ _ _ h => h) (by rfl) (fun w hw => by first | rfl | (go_simp; done) | (go_simp; rfl)) hHeld ?_
  simp only [Act.put, List.setIfInBounds_toArray, List.set_cons_zero, List.set_cons_succ]
  refine takeH 2 (some 42) (.pointer (some ⟨g, 2, none⟩)) rfl rfl (by kernel_rfl) (by kernel_rfl) (by kernel_rfl) (fun _ _ _ h => h) (by rfl) (fun w hw => by first | rfl | (go_simp; done) | (go_simp; rfl)) hHeld ?_
  simp only [Act.put, List.setIfInBounds_toArray, List.set_cons_zero, List.set_cons_succ]
  refine takeH 3 (some 43) (.int .i64 V.I) rfl rfl (by kernel_rfl) (by kernel_rfl) (by kernel_rfl) (fun _ _ _ h => h) (by rfl) (fun w hw => by have hd := (vcells hw).2.2.1; first | (go_simp; done) | (go_simp; rfl)) hHeld ?_
  simp only [Act.put, List.setIfInBounds_toArray, List.set_cons_zero, List.set_cons_succ]
  refine wpAnyH_ready (rs := [1]) (by kernel_rfl) (by simp) (AllReadyH.cons rfl (fun K hK => ?_) AllReadyH.nil)
  rw [if_pos (by rfl)]
  go_simp
  refine (rI64 p _ w1.drew hC1 V.I HA.out).mono ?_
  rintro e w3 ⟨rfl, h3, hM3⟩
  rw [HN.out] at h3
  try go_wp2_with fail
  refine hK.out _ _ (hHeld.same3 (hM3.block g hgs (fun e => HPG.out e.symm))) (fun hHeld => ?_)
  clear hK K
  refine takeH 4 (some 44) (.bool true) rfl rfl (by kernel_rfl) (by kernel_rfl) (by kernel_rfl) (fun _ _ _ h => h) (by rfl) (fun w hw => by first | rfl | (go_simp; done) | (go_simp; rfl)) hHeld ?_
  simp only [Act.put, List.setIfInBounds_toArray, List.set_cons_zero, List.set_cons_succ]
  refine takeH 5 (some 4) (.bool true) rfl rfl (by kernel_rfl) (by kernel_rfl) (by kernel_rfl) (fun _ _ _ h => h) (by rfl) (fun w hw => by first | rfl | (go_simp; done) | (go_simp; rfl)) hHeld ?_
  simp only [Act.put, List.setIfInBounds_toArray, List.set_cons_zero, List.set_cons_succ]
  refine ⟨by kernel_rfl, ?_⟩
  refine NoPanic.normal ?_
  go_wp2
  go_ret
  exact ⟨rfl, h3, hM1.trans (Mr.trans (Mr.of (Below.refl w1.heap.size w1).drew) hM3)⟩
set_option maxRecDepth 5000 in
set_option maxHeartbeats 4000000 in
theorem again_5 (V : VL) (x : Nat) (hV : V.ok x) (hk : kd V.K = 5) (r : List UInt8) (hr : r.length ≤ 140737488355328) (hlong : longB V = false) (p : Nat) (w : World) (hC : CR w p (ofL (vb V x ++ r), 0)) :
    Calls Try.prog 33 #[.pointer (some ⟨p, 0, none⟩), .agg (tabv (vv V) 37)] w fun e w' => e = .returned (.bool true) ∧ CR w' p (ofL r, 0) ∧ Mr p w w' := by
  have g0 := Has.new w 56 (vv V) 37 _ rfl
  have gb := (Below.refl w.heap.size w).alloc (Nat.le_refl _) (.cells (tabv (vv V) 37) 56)
  have HG := hide gb
  have HH := hide g0
  have hpw := hC.lt
  have HK := hide (valKind V)
  rw [hk] at HK
  rw [vb_at V x 5 hk] at hC
  rw [if_neg (by decide), if_neg (by decide), if_neg (by decide), if_neg (by decide), if_neg (by decide), if_pos rfl] at hC
  have HA : Hid (takeA 32 (ofL (hl V.h ++ r), 0) = ofL (hl V.h)) := takeA_head _ _ _ (by rw [hl_length]; rfl)
  have HN : Hid (takeS 32 (ofL (hl V.h ++ r), 0) = (ofL r, 0)) := takeS_head _ _ _ (by rw [hl_length]; rfl)
  have HC := hide (hC.below gb)
  clear g0 gb hC
  go_enter Try.func33, Try.ntmps33
  go_wp2_with (refine wpList_load_part rfl 56 _ rfl w.heap.size 0 rfl 56 _ 37 37 _ HH.out (by omega) Try.underlying56 rfl info56 (vv V) (fun i _ => by rw [Nat.zero_add]) ?_)
  refine (HK.out _).mono ?_
  rintro e w1 ⟨rfl, hb1⟩
  have hH1 := HH.out.below hb1 HH.out.lt
  have hC1 := HC.out.below hb1
  have hM1 : Mr p w w1 := Mr.of (HG.out.trans (hb1.mono HG.out.size))
  have hgs : w.heap.size < w1.heap.size := hH1.lt
  clear hb1 HK HC HH
  obtain ⟨g, hgg⟩ : ∃ g, w.heap.size = g := ⟨_, rfl⟩
  rw [hgg] at hH1 hgs
  have HPG : Hid (p ≠ g) := by show _ ≠ _; omega
  go_wp2
  clear hgg
  refine wp_region_noPanic ?_
  refine wp_region_held_drew (S := fun wx => Has wx g 56 (vv V) 37) (by kernel_rfl) hH1 (fun hHeld => ?_)
  refine takeH 0 (some 47) (.pointer (some ⟨p, 0, none⟩)) rfl rfl (by kernel_rfl) (by kernel_rfl) (by kernel_rfl) (fun _ _ _ h => h) (by rfl) (fun w hw => by first | rfl | (go_simp; done) | (go_simp; rfl)) hHeld ?_
  simp only [Act.put, List.setIfInBounds_toArray, List.set_cons_zero, List.set_cons_succ]
  refine takeH 2 (some 49) (.pointer (some ⟨g, 3, none⟩)) rfl rfl (by kernel_rfl) (by kernel_rfl) (by kernel_rfl) (fun _ _ _ h => h) (by rfl) (fun w hw => by first | rfl | (go_simp; done) | (go_simp; rfl)) hHeld ?_
  simp only [Act.put, List.setIfInBounds_toArray, List.set_cons_zero, List.set_cons_succ]
  refine takeH 3 (some 50) (.agg (tabv (bv V.h) 32)) rfl rfl (by kernel_rfl) (by kernel_rfl) (by kernel_rfl) (fun _ _ _ h => h) (by rfl) (fun w hw => run_load_part w 54 _ rfl g 3 rfl 56 _ 37 32 _ hw (by omega) Try.underlying54 rfl info54 (bv V.h) (fun i hi => by unfold vv bv; rw [if_neg (by omega), if_neg (by omega), if_neg (by omega), if_pos (by omega), Nat.add_sub_cancel_left])) hHeld ?_
  simp only [Act.put, List.setIfInBounds_toArray, List.set_cons_zero, List.set_cons_succ]
  refine wpAnyH_ready (rs := [1]) (by kernel_rfl) (by simp) (AllReadyH.cons rfl (fun K hK => ?_) AllReadyH.nil)
  rw [if_pos (by rfl)]
  go_simp
  refine (rHash p _ w1.drew hC1).mono ?_
  rintro e w3 ⟨rfl, h3, hM3⟩
  rw [HN.out] at h3
  rw [HA.out]
  try go_wp2_with fail
  refine hK.out _ _ (hHeld.same3 (hM3.block g hgs (fun e => HPG.out e.symm))) (fun hHeld => ?_)
  clear hK K
  refine takeH 4 (some 51) (.bool true) rfl rfl (by kernel_rfl) (by kernel_rfl) (by kernel_rfl) (fun _ _ _ h => h) (by rfl) (fun w hw => run_eq_hash _ _ _ rfl _ _ (by rfl) (by rfl) (fun i hi => hOf_hl V.h i hi) w) hHeld ?_
  simp only [Act.put, List.setIfInBounds_toArray, List.set_cons_zero, List.set_cons_succ]
  refine takeH 5 (some 4) (.bool true) rfl rfl (by kernel_rfl) (by kernel_rfl) (by kernel_rfl) (fun _ _ _ h => h) (by rfl) (fun w hw => by first | rfl | (go_simp; done) | (go_simp; rfl)) hHeld ?_
  simp only [Act.put, List.setIfInBounds_toArray, List.set_cons_zero, List.set_cons_succ]
  refine ⟨by kernel_rfl, ?_⟩
  refine NoPanic.normal ?_
  go_wp2
  go_ret
  exact ⟨rfl, h3, hM1.trans (Mr.trans (Mr.of (Below.refl w1.heap.size w1).drew) hM3)⟩
set_option maxRecDepth 5000 in
set_option maxHeartbeats 4000000 in
theorem again_6 (V : VL) (x : Nat) (hV : V.ok x) (hk : kd V.K = 6) (r : List UInt8) (hr : r.length ≤ 140737488355328) (hlong : longB V = false) (p : Nat) (w : World) (hC : CR w p (ofL (vb V x ++ r), 0)) :
    Calls Try.prog 33 #[.pointer (some ⟨p, 0, none⟩), .agg (tabv (vv V) 37)] w fun e w' => e = .returned (.bool true) ∧ CR w' p (ofL r, 0) ∧ Mr p w w' := by
  have g0 := Has.new w 56 (vv V) 37 _ rfl
  have gb := (Below.refl w.heap.size w).alloc (Nat.le_refl _) (.cells (tabv (vv V) 37) 56)
  have HG := hide gb
  have HH := hide g0
  have hpw := hC.lt
  have HK := hide (valKind V)
  rw [hk] at HK
  rw [vb_at V x 6 hk] at hC
  rw [if_neg (by decide), if_neg (by decide), if_neg (by decide), if_neg (by decide), if_neg (by decide), if_neg (by decide), if_pos rfl] at hC
  have hvs := hV.s
  have hz := textOf_size V
  have HT := hide (fun w => valText V w hV.s)
  have hlt : (textOf V).size ≤ 65535 := by
    unfold longB at hlong
    rw [hk, decide_eq_true rfl, Bool.true_and, decide_eq_false_iff_not] at hlong
    omega
  rw [List.append_assoc] at hC
  obtain ⟨a1, a2⟩ := text_ok (textOf V).size (textOf V).data.toList r ((textOf V).size : Int) (str_len _) hlt (Int.le_refl _)
  rw [ofL_of] at a1
  have HY : Hid ((ofL (nb (textOf V).size 2 ++ ((textOf V).data.toList ++ r))).size ≤ 281474976710656) := by
    show _ ≤ _
    rw [ofL_size, List.length_append, nb_length, List.length_append, str_len]; omega
  obtain ⟨y, hy⟩ : ∃ y, ofL (nb (textOf V).size 2 ++ ((textOf V).data.toList ++ r)) = y := ⟨_, rfl⟩
  rw [hy] at a1 a2 HY hC
  obtain ⟨t, ht⟩ : ∃ t, textOf V = t := ⟨_, rfl⟩
  rw [ht] at a1 a2 HT
  have HA := hide a1
  have HN := hide a2
  clear a1 a2 hy ht hz hlt hvs
  have HC := hide (hC.below gb)
  clear g0 gb hC
  go_enter Try.func33, Try.ntmps33
  go_wp2_with (refine wpList_load_part rfl 56 _ rfl w.heap.size 0 rfl 56 _ 37 37 _ HH.out (by omega) Try.underlying56 rfl info56 (vv V) (fun i _ => by rw [Nat.zero_add]) ?_)
  refine (HK.out _).mono ?_
  rintro e w1 ⟨rfl, hb1⟩
  have hH1 := HH.out.below hb1 HH.out.lt
  have hC1 := HC.out.below hb1
  have hM1 : Mr p w w1 := Mr.of (HG.out.trans (hb1.mono HG.out.size))
  have hgs : w.heap.size < w1.heap.size := hH1.lt
  clear hb1 HK HC HH
  obtain ⟨g, hgg⟩ : ∃ g, w.heap.size = g := ⟨_, rfl⟩
  rw [hgg] at hH1 hgs
  have HPG : Hid (p ≠ g) := by show _ ≠ _; omega
  go_wp2
  clear hgg
  refine wp_region_noPanic ?_
  refine wp_region_held_drew (S := fun wx => Has wx g 56 (vv V) 37) (by kernel_rfl) hH1 (fun hHeld => ?_)
  refine takeH 0 (some 54) (.pointer (some ⟨p, 0, none⟩)) rfl rfl (by kernel_rfl) (by kernel_rfl) (by kernel_rfl) (fun _ _ _ h => h) (by rfl) (fun w hw => by first | rfl | (go_simp; done) | (go_simp; rfl)) hHeld ?_
  simp only [Act.put, List.setIfInBounds_toArray, List.set_cons_zero, List.set_cons_succ]
  refine takeH 1 (some 55) (.agg (tabv (vv V) 37)) rfl rfl (by kernel_rfl) (by kernel_rfl) (by kernel_rfl) (fun _ _ _ h => h) (by rfl) (fun w hw => run_load_part w 56 _ rfl g 0 rfl 56 _ 37 37 _ hw (by omega) Try.underlying56 rfl info56 (vv V) (fun i _ => by rw [Nat.zero_add])) hHeld ?_
  simp only [Act.put, List.setIfInBounds_toArray, List.set_cons_zero, List.set_cons_succ]
  refine takeH 5 (some 59) (.agg (tabv (vv V) 37)) rfl rfl (by kernel_rfl) (by kernel_rfl) (by kernel_rfl) (fun _ _ _ h => h) (by rfl) (fun w hw => run_load_part w 56 _ rfl g 0 rfl 56 _ 37 37 _ hw (by omega) Try.underlying56 rfl info56 (vv V) (fun i _ => by rw [Nat.zero_add])) hHeld ?_
  simp only [Act.put, List.setIfInBounds_toArray, List.set_cons_zero, List.set_cons_succ]
  refine wpAnyH_ready (rs := [2]) (by kernel_rfl) (by simp) (AllReadyH.cons rfl (fun K hK => ?_) AllReadyH.nil)
  rw [if_pos (by rfl)]
  go_simp
  refine (HT.out w1.drew).mono ?_
  rintro e w2 ⟨rfl, hb2⟩
  have hC2 := CR.below (w := w1.drew) hC1 hb2
  have hgs2 : g < w2.heap.size := Nat.lt_of_lt_of_le hgs hb2.size
  have hM2 : Mr p w w2 := hM1.trans (Mr.trans (Mr.of (Below.refl w1.heap.size w1).drew) (Mr.of hb2))
  try go_wp2_with fail
  refine hK.out _ _ (hHeld.below hb2 hgs) (fun hHeld => ?_)
  clear hK K
  refine takeH 3 (some 57) (.int .i64 (t.size : Int)) rfl rfl (by kernel_rfl) (by kernel_rfl) (by kernel_rfl) (fun _ _ _ h => h) (by rfl) (fun w hw => by first | rfl | (go_simp; done) | (go_simp; rfl)) hHeld ?_
  simp only [Act.put, List.setIfInBounds_toArray, List.set_cons_zero, List.set_cons_succ]
  refine wpAnyH_ready (rs := [4]) (by kernel_rfl) (by simp) (AllReadyH.cons rfl (fun K hK => ?_) AllReadyH.nil)
  rw [if_pos (by rfl)]
  go_simp
  refine (rText (t.size : Int) p _ w2 hC2 HY.out).mono ?_
  rintro e w3 ⟨rfl, h3, hM3⟩
  rw [HN.out] at h3
  rw [HA.out]
  have hgs3 : g < w3.heap.size := Nat.lt_of_lt_of_le hgs2 hM3.size
  try go_wp2_with fail
  refine hK.out _ _ (hHeld.same3 (hM3.block g hgs2 (fun e => HPG.out e.symm))) (fun hHeld => ?_)
  clear hK K
  refine wpAnyH_ready (rs := [6]) (by kernel_rfl) (by simp) (AllReadyH.cons rfl (fun K hK => ?_) AllReadyH.nil)
  rw [if_pos (by rfl)]
  go_simp
  refine (HT.out w3).mono ?_
  rintro e w4 ⟨rfl, hb4⟩
  have h4 := h3.below hb4
  try go_wp2_with fail
  refine hK.out _ _ (hHeld.below hb4 hgs3) (fun hHeld => ?_)
  clear hK K
  refine takeH 7 (some 61) (.bool true) rfl rfl (by kernel_rfl) (by kernel_rfl) (by kernel_rfl) (fun _ _ _ h => h) (by rfl) (fun w hw => by first | rfl | (go_simp; done) | (go_simp; rfl)) hHeld ?_
  simp only [Act.put, List.setIfInBounds_toArray, List.set_cons_zero, List.set_cons_succ]
  refine takeH 8 (some 4) (.bool true) rfl rfl (by kernel_rfl) (by kernel_rfl) (by kernel_rfl) (fun _ _ _ h => h) (by rfl) (fun w hw => by first | rfl | (go_simp; done) | (go_simp; rfl)) hHeld ?_
  simp only [Act.put, List.setIfInBounds_toArray, List.set_cons_zero, List.set_cons_succ]
  refine ⟨by kernel_rfl, ?_⟩
  refine NoPanic.normal ?_
  go_wp2
  go_ret
  exact ⟨rfl, h4, (hM2.trans hM3).trans (Mr.of hb4)⟩
set_option maxRecDepth 5000 in
set_option maxHeartbeats 4000000 in
theorem again_7 (V : VL) (x : Nat) (hV : V.ok x) (hk : kd V.K = 7) (r : List UInt8) (hr : r.length ≤ 140737488355328) (hlong : longB V = false) (p : Nat) (w : World) (hC : CR w p (ofL (vb V x ++ r), 0)) :
    Calls Try.prog 33 #[.pointer (some ⟨p, 0, none⟩), .agg (tabv (vv V) 37)] w fun e w' => e = .returned (.bool true) ∧ CR w' p (ofL r, 0) ∧ Mr p w w' := by
  have g0 := Has.new w 56 (vv V) 37 _ rfl
  have gb := (Below.refl w.heap.size w).alloc (Nat.le_refl _) (.cells (tabv (vv V) 37) 56)
  have HG := hide gb
  have HH := hide g0
  have hpw := hC.lt
  have HK := hide (valKind V)
  rw [hk] at HK
  rw [vb_at V x 7 hk] at hC
  rw [if_neg (by decide), if_neg (by decide), if_neg (by decide), if_neg (by decide), if_neg (by decide), if_neg (by decide), if_neg (by decide)] at hC
  have hvs := hV.s
  have hz := textOf_size V
  have HT := hide (fun w => valText V w hV.s)
  obtain ⟨a1, a2⟩ := raw_ok (textOf V).data.toList r ((textOf V).size : Int) (by rw [str_len])
  rw [ofL_of] at a1
  have HY : Hid ((ofL ((textOf V).data.toList ++ r)).size ≤ 281474976710656) := by
    show _ ≤ _
    rw [ofL_size, List.length_append, str_len]; omega
  obtain ⟨y, hy⟩ : ∃ y, ofL ((textOf V).data.toList ++ r) = y := ⟨_, rfl⟩
  rw [hy] at a1 a2 HY hC
  obtain ⟨t, ht⟩ : ∃ t, textOf V = t := ⟨_, rfl⟩
  rw [ht] at a1 a2 HT
  have HA := hide a1
  have HN := hide a2
  clear a1 a2 hy ht hz hvs
  have HC := hide (hC.below gb)
  clear g0 gb hC
  go_enter Try.func33, Try.ntmps33
  go_wp2_with (refine wpList_load_part rfl 56 _ rfl w.heap.size 0 rfl 56 _ 37 37 _ HH.out (by omega) Try.underlying56 rfl info56 (vv V) (fun i _ => by rw [Nat.zero_add]) ?_)
  refine (HK.out _).mono ?_
  rintro e w1 ⟨rfl, hb1⟩
  have hH1 := HH.out.below hb1 HH.out.lt
  have hC1 := HC.out.below hb1
  have hM1 : Mr p w w1 := Mr.of (HG.out.trans (hb1.mono HG.out.size))
  have hgs : w.heap.size < w1.heap.size := hH1.lt
  clear hb1 HK HC HH
  obtain ⟨g, hgg⟩ : ∃ g, w.heap.size = g := ⟨_, rfl⟩
  rw [hgg] at hH1 hgs
  have HPG : Hid (p ≠ g) := by show _ ≠ _; omega
  go_wp2
  clear hgg
  refine wp_region_noPanic ?_
  refine wp_region_held_drew (S := fun wx => Has wx g 56 (vv V) 37) (by kernel_rfl) hH1 (fun hHeld => ?_)
  refine takeH 0 (some 62) (.pointer (some ⟨p, 0, none⟩)) rfl rfl (by kernel_rfl) (by kernel_rfl) (by kernel_rfl) (fun _ _ _ h => h) (by rfl) (fun w hw => by first | rfl | (go_simp; done) | (go_simp; rfl)) hHeld ?_
  simp only [Act.put, List.setIfInBounds_toArray, List.set_cons_zero, List.set_cons_succ]
  refine takeH 1 (some 63) (.agg (tabv (vv V) 37)) rfl rfl (by kernel_rfl) (by kernel_rfl) (by kernel_rfl) (fun _ _ _ h => h) (by rfl) (fun w hw => run_load_part w 56 _ rfl g 0 rfl 56 _ 37 37 _ hw (by omega) Try.underlying56 rfl info56 (vv V) (fun i _ => by rw [Nat.zero_add])) hHeld ?_
  simp only [Act.put, List.setIfInBounds_toArray, List.set_cons_zero, List.set_cons_succ]
  refine takeH 5 (some 67) (.agg (tabv (vv V) 37)) rfl rfl (by kernel_rfl) (by kernel_rfl) (by kernel_rfl) (fun _ _ _ h => h) (by rfl) (fun w hw => run_load_part w 56 _ rfl g 0 rfl 56 _ 37 37 _ hw (by omega) Try.underlying56 rfl info56 (vv V) (fun i _ => by rw [Nat.zero_add])) hHeld ?_
  simp only [Act.put, List.setIfInBounds_toArray, List.set_cons_zero, List.set_cons_succ]
  refine wpAnyH_ready (rs := [2]) (by kernel_rfl) (by simp) (AllReadyH.cons rfl (fun K hK => ?_) AllReadyH.nil)
  rw [if_pos (by rfl)]
  go_simp
  refine (HT.out w1.drew).mono ?_
  rintro e w2 ⟨rfl, hb2⟩
  have hC2 := CR.below (w := w1.drew) hC1 hb2
  have hgs2 : g < w2.heap.size := Nat.lt_of_lt_of_le hgs hb2.size
  have hM2 : Mr p w w2 := hM1.trans (Mr.trans (Mr.of (Below.refl w1.heap.size w1).drew) (Mr.of hb2))
  try go_wp2_with fail
  refine hK.out _ _ (hHeld.below hb2 hgs) (fun hHeld => ?_)
  clear hK K
  refine takeH 3 (some 65) (.int .i64 (t.size : Int)) rfl rfl (by kernel_rfl) (by kernel_rfl) (by kernel_rfl) (fun _ _ _ h => h) (by rfl) (fun w hw => by first | rfl | (go_simp; done) | (go_simp; rfl)) hHeld ?_
  simp only [Act.put, List.setIfInBounds_toArray, List.set_cons_zero, List.set_cons_succ]
  refine wpAnyH_ready (rs := [4]) (by kernel_rfl) (by simp) (AllReadyH.cons rfl (fun K hK => ?_) AllReadyH.nil)
  rw [if_pos (by rfl)]
  go_simp
  refine (rRaw (t.size : Int) p _ w2 hC2 HY.out).mono ?_
  rintro e w3 ⟨rfl, h3, hM3⟩
  rw [HN.out] at h3
  rw [HA.out]
  have hgs3 : g < w3.heap.size := Nat.lt_of_lt_of_le hgs2 hM3.size
  try go_wp2_with fail
  refine hK.out _ _ (hHeld.same3 (hM3.block g hgs2 (fun e => HPG.out e.symm))) (fun hHeld => ?_)
  clear hK K
  refine wpAnyH_ready (rs := [6]) (by kernel_rfl) (by simp) (AllReadyH.cons rfl (fun K hK => ?_) AllReadyH.nil)
  rw [if_pos (by rfl)]
  go_simp
  refine (HT.out w3).mono ?_
  rintro e w4 ⟨rfl, hb4⟩
  have h4 := h3.below hb4
  try go_wp2_with fail
  refine hK.out _ _ (hHeld.below hb4 hgs3) (fun hHeld => ?_)
  clear hK K
  refine takeH 7 (some 69) (.bool true) rfl rfl (by kernel_rfl) (by kernel_rfl) (by kernel_rfl) (fun _ _ _ h => h) (by rfl) (fun w hw => by first | rfl | (go_simp; done) | (go_simp; rfl)) hHeld ?_
  simp only [Act.put, List.setIfInBounds_toArray, List.set_cons_zero, List.set_cons_succ]
  refine takeH 8 (some 4) (.bool true) rfl rfl (by kernel_rfl) (by kernel_rfl) (by kernel_rfl) (fun _ _ _ h => h) (by rfl) (fun w hw => by first | rfl | (go_simp; done) | (go_simp; rfl)) hHeld ?_
  simp only [Act.put, List.setIfInBounds_toArray, List.set_cons_zero, List.set_cons_succ]
  refine ⟨by kernel_rfl, ?_⟩
  refine NoPanic.normal ?_
  go_wp2
  go_ret
  exact ⟨rfl, h4, (hM2.trans hM3).trans (Mr.of hb4)⟩
theorem again_any (V : VL) (x : Nat) (hV : V.ok x) (r : List UInt8) (hr : r.length ≤ 140737488355328) (hlong : longB V = false) (p : Nat) (w : World) (hC : CR w p (ofL (vb V x ++ r), 0)) :
    Calls Try.prog 33 #[.pointer (some ⟨p, 0, none⟩), .agg (tabv (vv V) 37)] w fun e w' => e = .returned (.bool true) ∧ CR w' p (ofL r, 0) ∧ Mr p w w' := by
  rcases kd_cases V.K with h | h | h | h | h | h | h | h
  · exact again_0 V x hV h r hr hlong p w hC
  · exact again_1 V x hV h r hr hlong p w hC
  · exact again_2 V x hV h r hr hlong p w hC
  · exact again_3 V x hV h r hr hlong p w hC
  · exact again_4 V x hV h r hr hlong p w hC
  · exact again_5 V x hV h r hr hlong p w hC
  · exact again_6 V x hV h r hr hlong p w hC
  · exact again_7 V x hV h r hr hlong p w hC
end Go.Proofs.Ytmcnempkddahcaa
