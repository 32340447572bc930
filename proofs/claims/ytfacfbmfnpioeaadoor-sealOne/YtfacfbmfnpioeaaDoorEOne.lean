/-
  The walk of SealOne.
-/
import Derived.Test.YtfacfbmfnpioeaaDoorEFirst
import Derived.Test.YtfacfbmfnpioeaaDoorLast
import Derived.Deep.DeepCutAuto
namespace Go.Proofs.YtfacfbmfnpioeaaDoor
open Go.RowKit S
theorem and255 (X : Int) : ∃ k : Nat, bits .and .i64 X 255 = (k : Int) ∧ k < 256 := by
  have e : bits .and .i64 X 255 = IntKind.i64.wrap ((BitVec.ofInt 64 X &&& BitVec.ofInt 64 255).toNat : Int) := rfl
  have h : (BitVec.ofInt 64 X &&& BitVec.ofInt 64 255).toNat < 256 := by
    rw [BitVec.toNat_and]
    exact Nat.lt_of_le_of_lt Nat.and_le_right (by decide)
  refine ⟨_, ?_, h⟩
  rw [e, IntKind.wrap_i64]
  omega
def shl8 (r : Nat) : UInt8 := UInt8.ofNat (2 ^ r % 256)
theorem turned_ne (x : UInt8) (r : Nat) (h : r < 8) : x ≠ x ^^^ shl8 r := by
  have hz : shl8 r ≠ 0 := by
    have : ∀ r : Fin 8, shl8 r ≠ 0 := by decide
    exact this ⟨r, h⟩
  intro e
  apply hz
  have := congrArg (fun y => x ^^^ y) e
  simpa [← UInt8.xor_assoc] using this.symm
theorem shl8_run (r : Nat) (h : r < 8) : IntKind.u8.wrap ((2 : Int) ^ r) = ((shl8 r).toNat : Int) := by
  have : ∀ r : Fin 8, IntKind.u8.wrap ((2 : Int) ^ r.val) = ((shl8 r.val).toNat : Int) := by decide
  exact this ⟨r, h⟩
set_option maxHeartbeats 1600000 in
theorem one_walk (n : Num) (key : Nat → UInt8) (s : ByteArray) (sig : Nat → UInt8) (B : Int) (w : World) (hG : Glob n w) (hs : s.size ≤ 140737488351232) :
    Calls Tryd.prog 3 #[.agg (tabv (bv key) 32), .string s, .agg (tabv (bv sig) 32), .int .i64 B] w fun e w' => e = .returned (.bool true) ∧ Below w.heap.size w w' := by
  obtain ⟨W, hW⟩ : ∃ x, (World.alloc (World.alloc w (.cells (tabv (bv key) 32) 23)) (.cells (tabv (bv sig) 32) 23)) = x := ⟨_, rfl⟩
  have g0 : Has W (w.heap.size) 23 (bv key) 32 := by
    rw [← hW]
    have := Has.new w 23 (bv key) 32 _ rfl
    exact this.old _
  have g1 : Has W (w.heap.size + 1) 23 (bv sig) 32 := by
    rw [← hW]
    have := Has.new (World.alloc w (.cells (tabv (bv key) 32) 23)) 23 (bv sig) 32 _ rfl
    rw [size_alloc] at this
    exact this
  have gb : Below w.heap.size w W := by rw [← hW]; exact (((Below.refl w.heap.size w).alloc (by simp) _).alloc (by simp) _)
  have kb := gb
  have hGl := hG.below gb hG.2.2
  clear gb
  have q0 := g0
  clear g0
  have q1 := g1
  clear g1
  have SS := hide (fun (w : World) (h : Glob n w) => sign_any n key s w h (by omega))
  obtain ⟨M, hM⟩ : ∃ M, mac key s.data.toList = M := ⟨_, rfl⟩
  rw [hM] at SS
  have hrt : ∀ (sg : Nat → UInt8) (R : Bool), sameH sg M = R → ∀ w : World, Glob n w → Calls Tryd.prog 7 #[.agg (tabv (bv key) 32), .string s, .agg (tabv (bv sg) 32)] w fun e w' => e = .returned (.bool R) ∧ Below w.heap.size w w' := fun sg R hR w h => by rw [← hR, ← hM]; exact right_any n key sg s w h (by omega)
  clear hM
  obtain ⟨k, hk, hkb⟩ := and255 B
  have HK := hide hk
  clear hk
  obtain ⟨q, hq⟩ : ∃ q, k / 8 = q := ⟨_, rfl⟩
  obtain ⟨r, hr⟩ : ∃ r, k % 8 = r := ⟨_, rfl⟩
  have hq32 : q < 32 := by omega
  have hr8 : r < 8 := by omega
  have hk8 : k = 8 * q + r := by omega
  have HK8 := hide hk8
  clear hk8
  obtain ⟨N2, hN2⟩ : ∃ x, upd M q (M q ^^^ shl8 r) = x := ⟨_, rfl⟩
  have hN : sameH N2 M = false := by rw [← hN2]; exact sameH_false hq32 (by unfold upd; rw [if_pos rfl]; exact turned_ne _ r hr8)
  obtain ⟨R, hR⟩ : ∃ R, sameH sig M = R := ⟨_, rfl⟩
  have R1 := hide (hrt M true (sameH_refl M))
  have R2 := hide (hrt N2 false hN)
  have R3 := hide (hrt sig R hR)
  clear hrt hN hq hr
  have hs0 : w.heap.size + 2 ≤ W.heap.size := by have := q1.lt; omega
  have HS00 := hide hs0
  clear hs0
  go_enter Tryd.func3, Tryd.ntmps3
  have Hq0 := hide q0
  go_wp2_with (first | refine wpList_load_part rfl 23 _ rfl w.heap.size 0 rfl 23 _ 32 32 _ Hq0.out (by omega) Tryd.underlying23 rfl info26 (bv key) (fun i hi => by rw [Nat.zero_add]) ?_)
  clear Hq0
  refine (SS.out _ hGl).mono ?_
  rintro e w1 ⟨rfl, hb2⟩
  have q0 := q0.below hb2 q0.lt
  have q1 := q1.below hb2 q1.lt
  have hGl := hGl.up hb2
  have kb := kb.trans (hb2.mono kb.size)
  clear hb2
  have hn5 := Has.new w1 23 (fun _ => .int .u8 0) 32 _ rfl
  rw [zero32] at hn5
  obtain ⟨b4, hb4⟩ : ∃ g, w1.heap.size = g := ⟨_, rfl⟩
  obtain ⟨w3, hz6⟩ : ∃ x, (w1.alloc (.cells (tabv (fun _ => .int .u8 0) 32) 23)).setRow w1.heap.size (tabv (bv M) 32) = x := ⟨_, rfl⟩
  have hbx : Below w1.heap.size w1 w3 := by rw [← hz6]; exact below_setRow ((Below.refl _ _).alloc (Nat.le_refl _) _) (Nat.le_refl _) _
  have q0 := q0.below hbx q0.lt
  have q1 := q1.below hbx q1.lt
  have hGl := hGl.up hbx
  have kb := kb.trans (hbx.mono kb.size)
  have q2 : Has w3 b4 23 (bv M) 32 := by rw [zero32] at hz6; rw [← hz6, ← hb4]; exact hn5.row _ _ rfl
  rw [zero32] at hz6
  have Hhn5 := hide hn5
  have Hhz6 := hide hz6
  have Hhb4 := hide hb4
  clear hn5 hz6 hb4 hbx
  have Hq2 := hide q2
  have hs3 := kb.size
  have hs0 : w.heap.size + 2 ≤ w3.heap.size := by have := q1.lt; omega
  have HS0 := hide hs0
  clear hs0 HS00
  have hn9 := Has.new w3 23 (fun _ => .int .u8 0) 32 _ rfl
  rw [zero32] at hn9
  obtain ⟨b8, hb8⟩ : ∃ g, w3.heap.size = g := ⟨_, rfl⟩
  obtain ⟨w7, hz10⟩ : ∃ x, (w3.alloc (.cells (tabv (fun _ => .int .u8 0) 32) 23)).setRow w3.heap.size (tabv (bv M) 32) = x := ⟨_, rfl⟩
  have hbx : Below w3.heap.size w3 w7 := by rw [← hz10]; exact below_setRow ((Below.refl _ _).alloc (Nat.le_refl _) _) (Nat.le_refl _) _
  have q0 := q0.below hbx q0.lt
  have q1 := q1.below hbx q1.lt
  have q2 := q2.below hbx q2.lt
  have hGl := hGl.up hbx
  have kb := kb.trans (hbx.mono kb.size)
  have q3 : Has w7 b8 23 (bv M) 32 := by rw [zero32] at hz10; rw [← hz10, ← hb8]; exact hn9.row _ _ rfl
  rw [zero32] at hz10
  have Hhn9 := hide hn9
  have Hhz10 := hide hz10
  have Hhb8 := hide hb8
  clear hn9 hz10 hb8 hbx
  have hne : b4 ≠ b8 := by have h1 := Hq2.out.lt; have h2 := Hhb8.out; omega
  go_upto_region 3 with (first | (refine wpList_store_part rfl 23 _ _ rfl rfl w1.heap.size 0 (bv M) 32 rfl rfl 23 _ 32 Hhn5.out (by omega) info26 (fun _ _ => rfl) (bv M) (fun i hi => by unfold splice; first | (rw [if_pos (by omega), Nat.sub_zero]) | (rw [if_pos (by omega)]; rfl)) ?_; rw [Hhz6.out]; try rw [Hhb4.out]) | (refine wpList_store_part rfl 23 _ _ rfl rfl w3.heap.size 0 (bv M) 32 rfl rfl 23 _ 32 Hhn9.out (by omega) info26 (fun _ _ => rfl) (bv M) (fun i hi => by unfold splice; first | (rw [if_pos (by omega), Nat.sub_zero]) | (rw [if_pos (by omega)]; rfl)) ?_; rw [Hhz10.out]; try rw [Hhb8.out]) | refine wpList_load_part rfl 23 _ rfl b4 0 rfl 23 _ 32 32 _ Hq2.out (by omega) Tryd.underlying23 rfl info26 (bv M) (fun i hi => by rw [Nat.zero_add]) ?_)
  clear Hq2
  have hk := HK.out
  go_wp2
  try rw [hk]
  clear hk
  have t1 : Int.tdiv (k : Int) 8 = (q : Int) := by have := HK8.out; rw [Int.tdiv_eq_ediv_of_nonneg (by omega)]; omega
  have t2 : Int.tmod (k : Int) 8 = (r : Int) := by have := HK8.out; rw [Int.tmod_eq_emod_of_nonneg (by omega)]; omega
  have t3 := shl8_run r hr8
  have t5 : IntKind.i64.wrap (q : Int) = (q : Int) := by rw [IntKind.wrap_i64]; omega
  have t4 : bits .xor .u8 ((M q).toNat : Int) ((shl8 r).toNat : Int) = ((M q ^^^ shl8 r).toNat : Int) := u8_xor_byte _ _
  have cq := q3.cell q hq32
  simp only [bv] at cq
  have HQ3 := hide q3
  refine wp_region_noPanic ?_
  refine wp_region_T (S := fun wx => Has wx b8 23 (bv M) 32 ∧ wx.cell? ⟨b8, q, none⟩ = some (.int .u8 ((M q).toNat : Int))) 11 (by kernel_rfl) ⟨q3, cq⟩ (fun hHeld => ?_)
  refine tU 0 (some 17) (.int .i64 k) rfl (fun w hw => by first | rfl | (go_simp; done) | (go_simp; rfl) | (go_simp; omega)) hHeld ?_
  simp only [Act.put, List.setIfInBounds_toArray, List.set_cons_zero, List.set_cons_succ]
  refine tU 1 (some 18) (.int .i64 q) rfl (fun w hw => by have t1 := t1; have t5 := t5; first | rfl | (go_simp; done) | (go_simp; rfl) | (go_simp; omega)) hHeld ?_
  simp only [Act.put, List.setIfInBounds_toArray, List.set_cons_zero, List.set_cons_succ]
  refine tU 2 (some 19) (.int .i64 k) rfl (fun w hw => by first | rfl | (go_simp; done) | (go_simp; rfl) | (go_simp; omega)) hHeld ?_
  simp only [Act.put, List.setIfInBounds_toArray, List.set_cons_zero, List.set_cons_succ]
  refine tU 3 (some 20) (.int .i64 q) rfl (fun w hw => by have t1 := t1; have t5 := t5; first | rfl | (go_simp; done) | (go_simp; rfl) | (go_simp; omega)) hHeld ?_
  simp only [Act.put, List.setIfInBounds_toArray, List.set_cons_zero, List.set_cons_succ]
  refine tU 4 (some 21) (.pointer (some ⟨b8, q, none⟩)) rfl (fun w hw => by have hd1 : (0 : Int) ≤ (q : Int) := (by omega); have hd2 : (q : Int) < 32 := (by omega); first | rfl | (go_simp; done) | (go_simp; rfl) | (go_simp; omega)) hHeld ?_
  simp only [Act.put, List.setIfInBounds_toArray, List.set_cons_zero, List.set_cons_succ]
  refine tU 5 (some 22) (.int .u8 ((M q).toNat : Int)) rfl (fun w hw => by have hw2 := hw.2; first | rfl | (go_simp; done) | (go_simp; rfl) | (go_simp; omega)) hHeld ?_
  simp only [Act.put, List.setIfInBounds_toArray, List.set_cons_zero, List.set_cons_succ]
  refine tU 6 (some 23) (.int .i64 k) rfl (fun w hw => by first | rfl | (go_simp; done) | (go_simp; rfl) | (go_simp; omega)) hHeld ?_
  simp only [Act.put, List.setIfInBounds_toArray, List.set_cons_zero, List.set_cons_succ]
  refine tU 7 (some 24) (.int .i64 r) rfl (fun w hw => by have t2 := t2; first | rfl | (go_simp; done) | (go_simp; rfl) | (go_simp; omega)) hHeld ?_
  simp only [Act.put, List.setIfInBounds_toArray, List.set_cons_zero, List.set_cons_succ]
  refine tU 8 (some 25) (.int .u8 ((shl8 r).toNat : Int)) rfl (fun w hw => by have t3 := t3; first | rfl | (go_simp; done) | (go_simp; rfl) | (go_simp; omega)) hHeld ?_
  simp only [Act.put, List.setIfInBounds_toArray, List.set_cons_zero, List.set_cons_succ]
  refine tU 9 (some 26) (.int .u8 ((M q ^^^ shl8 r).toNat : Int)) rfl (fun w hw => by have t4 := t4; first | rfl | (go_simp; done) | (go_simp; rfl) | (go_simp; omega)) hHeld ?_
  simp only [Act.put, List.setIfInBounds_toArray, List.set_cons_zero, List.set_cons_succ]
  refine tU 10 (some 27) (.pointer (some ⟨b8, q, none⟩)) rfl (fun w hw => by have hd1 : (0 : Int) ≤ (q : Int) := (by omega); have hd2 : (q : Int) < 32 := (by omega); first | rfl | (go_simp; done) | (go_simp; rfl) | (go_simp; omega)) hHeld ?_
  simp only [Act.put, List.setIfInBounds_toArray, List.set_cons_zero, List.set_cons_succ]
  have cfz := hHeld.1.frozen q
  have hsx := hHeld.1.cell q hq32
  refine readyT 11 (by kernel_rfl) rfl (by rfl) (fun K hK => ?_)
  go_simp
  refine hK.out _ _ (fun x => absurd rfl x) (fun _ => ?_)
  clear hK K hHeld
  refine ⟨by kernel_rfl, ?_⟩
  refine NoPanic.normal ?_
  generalize hV : World.setCell _ _ _ = v5
  have hsz : w.heap.size ≤ b8 := by have h1 := Hhb8.out; omega
  have q0 : Has v5 w.heap.size 23 (bv key) 32 := by rw [← hV]; exact q0.other _ _ (by have h1 := Hhb8.out; have h2 := HS0.out; simp only; omega)
  have q1 : Has v5 (w.heap.size + 1) 23 (bv sig) 32 := by rw [← hV]; exact q1.other _ _ (by have h1 := Hhb8.out; have h2 := HS0.out; simp only; omega)
  have q2 : Has v5 b4 23 (bv M) 32 := by rw [← hV]; exact q2.other _ _ hne
  have q3 : Has v5 b8 23 (bv N2) 32 := by rw [← hV, ← hN2, ← bv_upd]; exact q3.set q _
  have kb : Below w.heap.size w v5 := by rw [← hV]; exact kb.setCell (by simp only; omega) _
  have hGl := hG.below kb hG.2.2
  clear hV HQ3 cq t1 t2 t3 t4 t5 cfz hsx hsz
  have hqs : ∀ w : World, (Op.equalIn 10000 23 (.agg (tabv (bv sig) 32)) (.agg (tabv (bv M) 32))).run Tryd.prog w = .ok R w := fun w => by rw [eqH, hR]
  have hqm : ∀ w : World, (Op.equalIn 10000 23 (.agg (tabv (bv M) 32)) (.agg (tabv (bv M) 32))).run Tryd.prog w = .ok true w := fun w => by rw [eqH, sameH_refl]
  have hgt := guard26
  have hrr : (R == R) = true := by simp
  clear hR
  go_wp2
  refine wp_region_noPanic ?_
  refine wp_region_held_drew (S := fun wx => Glob n wx ∧ Has wx w.heap.size 23 (bv key) 32 ∧ Has wx (w.heap.size + 1) 23 (bv sig) 32 ∧ Has wx b4 23 (bv M) 32 ∧ Has wx b8 23 (bv N2) 32 ∧ Below w.heap.size w wx) (by kernel_rfl) ⟨hGl, q0, q1, q2, q3, kb.drew.drew⟩ (fun hHeld => ?_)
  refine takeH 0 (some 28) (.agg (tabv (bv key) 32)) rfl rfl (by kernel_rfl) (by kernel_rfl) (by kernel_rfl) (fun _ _ _ h => h) (by rfl) (fun w hw => run_load_part w 23 _ rfl _ 0 rfl 23 _ 32 32 _ hw.2.1 (by omega) Tryd.underlying23 rfl info26 (bv key) (fun i _ => by rw [Nat.zero_add])) hHeld ?_
  simp only [Act.put, List.setIfInBounds_toArray, List.set_cons_zero, List.set_cons_succ]
  refine takeH 1 (some 29) (.string s) rfl rfl (by kernel_rfl) (by kernel_rfl) (by kernel_rfl) (fun _ _ _ h => h) (by rfl) (fun w hw => by first | rfl | (go_simp; done) | (go_simp; omega) | (go_simp; simp; done)) hHeld ?_
  simp only [Act.put, List.setIfInBounds_toArray, List.set_cons_zero, List.set_cons_succ]
  refine takeH 2 (some 30) (.agg (tabv (bv M) 32)) rfl rfl (by kernel_rfl) (by kernel_rfl) (by kernel_rfl) (fun _ _ _ h => h) (by rfl) (fun w hw => run_load_part w 23 _ rfl _ 0 rfl 23 _ 32 32 _ hw.2.2.2.1 (by omega) Tryd.underlying23 rfl info26 (bv M) (fun i _ => by rw [Nat.zero_add])) hHeld ?_
  simp only [Act.put, List.setIfInBounds_toArray, List.set_cons_zero, List.set_cons_succ]
  refine wpAnyH_ready (rs := [3]) (by kernel_rfl) (by simp) (AllReadyH.cons rfl (fun K hK => ?_) AllReadyH.nil)
  rw [if_pos (by rfl)]
  go_simp
  refine (R1.out _ hHeld.1).mono ?_
  rintro e w5 ⟨rfl, hb5⟩
  try go_wp2_with fail
  refine hK.out _ _ (⟨hHeld.1.below hb5 hHeld.1.2.2, hHeld.2.1.below hb5 hHeld.2.1.lt, hHeld.2.2.1.below hb5 hHeld.2.2.1.lt, hHeld.2.2.2.1.below hb5 hHeld.2.2.2.1.lt, hHeld.2.2.2.2.1.below hb5 hHeld.2.2.2.2.1.lt, hHeld.2.2.2.2.2.trans (hb5.mono hHeld.2.2.2.2.2.size)⟩) (fun hHeld => ?_)
  clear hK K
  refine takeH 4 (some 32) (.bool true) rfl rfl (by kernel_rfl) (by kernel_rfl) (by kernel_rfl) (fun _ _ _ h => h) (by rfl) (fun w hw => by first | rfl | (go_simp; done) | (go_simp; omega) | (go_simp; simp; done)) hHeld ?_
  simp only [Act.put, List.setIfInBounds_toArray, List.set_cons_zero, List.set_cons_succ]
  refine takeH 5 (some 33) (.agg (tabv (bv key) 32)) rfl rfl (by kernel_rfl) (by kernel_rfl) (by kernel_rfl) (fun _ _ _ h => h) (by rfl) (fun w hw => run_load_part w 23 _ rfl _ 0 rfl 23 _ 32 32 _ hw.2.1 (by omega) Tryd.underlying23 rfl info26 (bv key) (fun i _ => by rw [Nat.zero_add])) hHeld ?_
  simp only [Act.put, List.setIfInBounds_toArray, List.set_cons_zero, List.set_cons_succ]
  refine takeH 6 (some 34) (.string s) rfl rfl (by kernel_rfl) (by kernel_rfl) (by kernel_rfl) (fun _ _ _ h => h) (by rfl) (fun w hw => by first | rfl | (go_simp; done) | (go_simp; omega) | (go_simp; simp; done)) hHeld ?_
  simp only [Act.put, List.setIfInBounds_toArray, List.set_cons_zero, List.set_cons_succ]
  refine takeH 7 (some 35) (.agg (tabv (bv N2) 32)) rfl rfl (by kernel_rfl) (by kernel_rfl) (by kernel_rfl) (fun _ _ _ h => h) (by rfl) (fun w hw => run_load_part w 23 _ rfl _ 0 rfl 23 _ 32 32 _ hw.2.2.2.2.1 (by omega) Tryd.underlying23 rfl info26 (bv N2) (fun i _ => by rw [Nat.zero_add])) hHeld ?_
  simp only [Act.put, List.setIfInBounds_toArray, List.set_cons_zero, List.set_cons_succ]
  refine wpAnyH_ready (rs := [8]) (by kernel_rfl) (by simp) (AllReadyH.cons rfl (fun K hK => ?_) AllReadyH.nil)
  rw [if_pos (by rfl)]
  go_simp
  refine (R2.out _ hHeld.1).mono ?_
  rintro e w5 ⟨rfl, hb5⟩
  try go_wp2_with fail
  refine hK.out _ _ (⟨hHeld.1.below hb5 hHeld.1.2.2, hHeld.2.1.below hb5 hHeld.2.1.lt, hHeld.2.2.1.below hb5 hHeld.2.2.1.lt, hHeld.2.2.2.1.below hb5 hHeld.2.2.2.1.lt, hHeld.2.2.2.2.1.below hb5 hHeld.2.2.2.2.1.lt, hHeld.2.2.2.2.2.trans (hb5.mono hHeld.2.2.2.2.2.size)⟩) (fun hHeld => ?_)
  clear hK K
  refine takeH 9 (some 37) (.bool true) rfl rfl (by kernel_rfl) (by kernel_rfl) (by kernel_rfl) (fun _ _ _ h => h) (by rfl) (fun w hw => by first | rfl | (go_simp; done) | (go_simp; omega) | (go_simp; simp; done)) hHeld ?_
  simp only [Act.put, List.setIfInBounds_toArray, List.set_cons_zero, List.set_cons_succ]
  refine takeH 10 (some 38) (.bool true) rfl rfl (by kernel_rfl) (by kernel_rfl) (by kernel_rfl) (fun _ _ _ h => h) (by rfl) (fun w hw => by first | rfl | (go_simp; done) | (go_simp; omega) | (go_simp; simp; done)) hHeld ?_
  simp only [Act.put, List.setIfInBounds_toArray, List.set_cons_zero, List.set_cons_succ]
  refine takeH 11 (some 39) (.bool true) rfl rfl (by kernel_rfl) (by kernel_rfl) (by kernel_rfl) (fun _ _ _ h => h) (by rfl) (fun w hw => by first | rfl | (go_simp; done) | (go_simp; omega) | (go_simp; simp; done)) hHeld ?_
  simp only [Act.put, List.setIfInBounds_toArray, List.set_cons_zero, List.set_cons_succ]
  refine takeH 12 (some 40) (.agg (tabv (bv key) 32)) rfl rfl (by kernel_rfl) (by kernel_rfl) (by kernel_rfl) (fun _ _ _ h => h) (by rfl) (fun w hw => run_load_part w 23 _ rfl _ 0 rfl 23 _ 32 32 _ hw.2.1 (by omega) Tryd.underlying23 rfl info26 (bv key) (fun i _ => by rw [Nat.zero_add])) hHeld ?_
  simp only [Act.put, List.setIfInBounds_toArray, List.set_cons_zero, List.set_cons_succ]
  refine takeH 13 (some 41) (.string s) rfl rfl (by kernel_rfl) (by kernel_rfl) (by kernel_rfl) (fun _ _ _ h => h) (by rfl) (fun w hw => by first | rfl | (go_simp; done) | (go_simp; omega) | (go_simp; simp; done)) hHeld ?_
  simp only [Act.put, List.setIfInBounds_toArray, List.set_cons_zero, List.set_cons_succ]
  refine takeH 14 (some 42) (.agg (tabv (bv sig) 32)) rfl rfl (by kernel_rfl) (by kernel_rfl) (by kernel_rfl) (fun _ _ _ h => h) (by rfl) (fun w hw => run_load_part w 23 _ rfl _ 0 rfl 23 _ 32 32 _ hw.2.2.1 (by omega) Tryd.underlying23 rfl info26 (bv sig) (fun i _ => by rw [Nat.zero_add])) hHeld ?_
  simp only [Act.put, List.setIfInBounds_toArray, List.set_cons_zero, List.set_cons_succ]
  refine takeH 16 (some 44) (.agg (tabv (bv sig) 32)) rfl rfl (by kernel_rfl) (by kernel_rfl) (by kernel_rfl) (fun _ _ _ h => h) (by rfl) (fun w hw => run_load_part w 23 _ rfl _ 0 rfl 23 _ 32 32 _ hw.2.2.1 (by omega) Tryd.underlying23 rfl info26 (bv sig) (fun i _ => by rw [Nat.zero_add])) hHeld ?_
  simp only [Act.put, List.setIfInBounds_toArray, List.set_cons_zero, List.set_cons_succ]
  refine takeH 17 (some 45) (.agg (tabv (bv M) 32)) rfl rfl (by kernel_rfl) (by kernel_rfl) (by kernel_rfl) (fun _ _ _ h => h) (by rfl) (fun w hw => run_load_part w 23 _ rfl _ 0 rfl 23 _ 32 32 _ hw.2.2.2.1 (by omega) Tryd.underlying23 rfl info26 (bv M) (fun i _ => by rw [Nat.zero_add])) hHeld ?_
  simp only [Act.put, List.setIfInBounds_toArray, List.set_cons_zero, List.set_cons_succ]
  refine takeH 18 (some 46) (.bool R) rfl rfl (by kernel_rfl) (by kernel_rfl) (by kernel_rfl) (fun _ _ _ h => h) (by rfl) (fun w hw => by first | rfl | (go_simp; done) | (go_simp; omega) | (go_simp; simp; done)) hHeld ?_
  simp only [Act.put, List.setIfInBounds_toArray, List.set_cons_zero, List.set_cons_succ]
  refine wpAnyH_ready (rs := [15]) (by kernel_rfl) (by simp) (AllReadyH.cons rfl (fun K hK => ?_) AllReadyH.nil)
  rw [if_pos (by rfl)]
  go_simp
  refine (R3.out _ hHeld.1).mono ?_
  rintro e w5 ⟨rfl, hb5⟩
  try go_wp2_with fail
  refine hK.out _ _ (⟨hHeld.1.below hb5 hHeld.1.2.2, hHeld.2.1.below hb5 hHeld.2.1.lt, hHeld.2.2.1.below hb5 hHeld.2.2.1.lt, hHeld.2.2.2.1.below hb5 hHeld.2.2.2.1.lt, hHeld.2.2.2.2.1.below hb5 hHeld.2.2.2.2.1.lt, hHeld.2.2.2.2.2.trans (hb5.mono hHeld.2.2.2.2.2.size)⟩) (fun hHeld => ?_)
  clear hK K
  refine takeH 19 (some 47) (.bool true) rfl rfl (by kernel_rfl) (by kernel_rfl) (by kernel_rfl) (fun _ _ _ h => h) (by rfl) (fun w hw => by first | rfl | (go_simp; done) | (go_simp; omega) | (go_simp; simp; done)) hHeld ?_
  simp only [Act.put, List.setIfInBounds_toArray, List.set_cons_zero, List.set_cons_succ]
  refine takeH 20 (some 48) (.bool true) rfl rfl (by kernel_rfl) (by kernel_rfl) (by kernel_rfl) (fun _ _ _ h => h) (by rfl) (fun w hw => by first | rfl | (go_simp; done) | (go_simp; omega) | (go_simp; simp; done)) hHeld ?_
  simp only [Act.put, List.setIfInBounds_toArray, List.set_cons_zero, List.set_cons_succ]
  refine takeH 21 (some 49) (.bool true) rfl rfl (by kernel_rfl) (by kernel_rfl) (by kernel_rfl) (fun _ _ _ h => h) (by rfl) (fun w hw => by first | rfl | (go_simp; done) | (go_simp; omega) | (go_simp; simp; done)) hHeld ?_
  simp only [Act.put, List.setIfInBounds_toArray, List.set_cons_zero, List.set_cons_succ]
  refine takeH 22 (some 50) (.agg (tabv (bv key) 32)) rfl rfl (by kernel_rfl) (by kernel_rfl) (by kernel_rfl) (fun _ _ _ h => h) (by rfl) (fun w hw => run_load_part w 23 _ rfl _ 0 rfl 23 _ 32 32 _ hw.2.1 (by omega) Tryd.underlying23 rfl info26 (bv key) (fun i _ => by rw [Nat.zero_add])) hHeld ?_
  simp only [Act.put, List.setIfInBounds_toArray, List.set_cons_zero, List.set_cons_succ]
  refine takeH 23 (some 51) (.string s) rfl rfl (by kernel_rfl) (by kernel_rfl) (by kernel_rfl) (fun _ _ _ h => h) (by rfl) (fun w hw => by first | rfl | (go_simp; done) | (go_simp; omega) | (go_simp; simp; done)) hHeld ?_
  simp only [Act.put, List.setIfInBounds_toArray, List.set_cons_zero, List.set_cons_succ]
  refine takeH 25 (some 53) (.agg (tabv (bv M) 32)) rfl rfl (by kernel_rfl) (by kernel_rfl) (by kernel_rfl) (fun _ _ _ h => h) (by rfl) (fun w hw => run_load_part w 23 _ rfl _ 0 rfl 23 _ 32 32 _ hw.2.2.2.1 (by omega) Tryd.underlying23 rfl info26 (bv M) (fun i _ => by rw [Nat.zero_add])) hHeld ?_
  simp only [Act.put, List.setIfInBounds_toArray, List.set_cons_zero, List.set_cons_succ]
  refine wpAnyH_ready (rs := [24]) (by kernel_rfl) (by simp) (AllReadyH.cons rfl (fun K hK => ?_) AllReadyH.nil)
  rw [if_pos (by rfl)]
  go_simp
  refine (SS.out _ hHeld.1).mono ?_
  rintro e w5 ⟨rfl, hb5⟩
  try go_wp2_with fail
  refine hK.out _ _ (⟨hHeld.1.below hb5 hHeld.1.2.2, hHeld.2.1.below hb5 hHeld.2.1.lt, hHeld.2.2.1.below hb5 hHeld.2.2.1.lt, hHeld.2.2.2.1.below hb5 hHeld.2.2.2.1.lt, hHeld.2.2.2.2.1.below hb5 hHeld.2.2.2.2.1.lt, hHeld.2.2.2.2.2.trans (hb5.mono hHeld.2.2.2.2.2.size)⟩) (fun hHeld => ?_)
  clear hK K
  refine takeH 26 (some 54) (.bool true) rfl rfl (by kernel_rfl) (by kernel_rfl) (by kernel_rfl) (fun _ _ _ h => h) (by rfl) (fun w hw => by first | rfl | (go_simp; done) | (go_simp; omega) | (go_simp; simp; done)) hHeld ?_
  simp only [Act.put, List.setIfInBounds_toArray, List.set_cons_zero, List.set_cons_succ]
  refine takeH 27 (some 55) (.bool true) rfl rfl (by kernel_rfl) (by kernel_rfl) (by kernel_rfl) (fun _ _ _ h => h) (by rfl) (fun w hw => by first | rfl | (go_simp; done) | (go_simp; omega) | (go_simp; simp; done)) hHeld ?_
  simp only [Act.put, List.setIfInBounds_toArray, List.set_cons_zero, List.set_cons_succ]
  refine takeH 28 (some 56) (.bool true) rfl rfl (by kernel_rfl) (by kernel_rfl) (by kernel_rfl) (fun _ _ _ h => h) (by rfl) (fun w hw => by first | rfl | (go_simp; done) | (go_simp; omega) | (go_simp; simp; done)) hHeld ?_
  simp only [Act.put, List.setIfInBounds_toArray, List.set_cons_zero, List.set_cons_succ]
  refine wpAnyH_ready (rs := [29]) (by kernel_rfl) (by simp) (AllReadyH.cons rfl (fun K hK => ?_) AllReadyH.nil)
  rw [if_pos (by rfl)]
  go_simp
  refine (first_any n _ hHeld.1).mono ?_
  rintro e w5 ⟨rfl, hb5⟩
  try go_wp2_with fail
  refine hK.out _ _ (⟨hHeld.1.below hb5 hHeld.1.2.2, hHeld.2.1.below hb5 hHeld.2.1.lt, hHeld.2.2.1.below hb5 hHeld.2.2.1.lt, hHeld.2.2.2.1.below hb5 hHeld.2.2.2.1.lt, hHeld.2.2.2.2.1.below hb5 hHeld.2.2.2.2.1.lt, hHeld.2.2.2.2.2.trans (hb5.mono hHeld.2.2.2.2.2.size)⟩) (fun hHeld => ?_)
  clear hK K
  refine takeH 30 (some 58) (.bool true) rfl rfl (by kernel_rfl) (by kernel_rfl) (by kernel_rfl) (fun _ _ _ h => h) (by rfl) (fun w hw => by first | rfl | (go_simp; done) | (go_simp; omega) | (go_simp; simp; done)) hHeld ?_
  simp only [Act.put, List.setIfInBounds_toArray, List.set_cons_zero, List.set_cons_succ]
  refine takeH 31 (some 8) (.bool true) rfl rfl (by kernel_rfl) (by kernel_rfl) (by kernel_rfl) (fun _ _ _ h => h) (by rfl) (fun w hw => by first | rfl | (go_simp; done) | (go_simp; omega) | (go_simp; simp; done)) hHeld ?_
  simp only [Act.put, List.setIfInBounds_toArray, List.set_cons_zero, List.set_cons_succ]
  refine ⟨by kernel_rfl, ?_⟩
  refine NoPanic.normal ?_
  go_wp2
  go_ret
  exact ⟨rfl, hHeld.2.2.2.2.2⟩
end Go.Proofs.YtfacfbmfnpioeaaDoor
