/-
  first: some answers that the document fixes.
-/
import Derived.Test.YtkhogpnmkonajaaDoorEqHash
import Derived.Deep.RegionWith
import Derived.Deep.MidRow
import Derived.Deep.RegionHeld3
import Derived.Deep.DrawnRows
namespace Go.Proofs.YtkhogpnmkonajaaDoor
open Go.RowKit S
def lit1 : List UInt8 := [98, 97, 55, 56, 49, 54, 98, 102, 56, 102, 48, 49, 99, 102, 101, 97, 52, 49, 52, 49, 52, 48, 100, 101, 53, 100, 97, 101, 50, 50, 50, 51, 98, 48, 48, 51, 54, 49, 97, 51, 57, 54, 49, 55, 55, 97, 57, 99, 98, 52, 49, 48, 102, 102, 54, 49, 102, 50, 48, 48, 49, 53, 97, 100]
def lit2 : List UInt8 := [98, 54, 49, 51, 54, 55, 57, 97, 48, 56, 49, 52, 100, 57, 101, 99, 55, 55, 50, 102, 57, 53, 100, 55, 55, 56, 99, 51, 53, 102, 99, 53, 102, 102, 49, 54, 57, 55, 99, 52, 57, 51, 55, 49, 53, 54, 53, 51, 99, 54, 99, 55, 49, 50, 49, 52, 52, 50, 57, 50, 99, 53, 97, 100]
theorem good1 : Good lit1 := by unfold Good; decide +kernel
theorem sha1 : (List.range 32).map (pv lit1) = (List.range 32).map (sha [97, 98, 99]) := by decide +kernel
theorem sha1_at (i : Nat) (h : i < 32) : pv lit1 i = sha [97, 98, 99] i := by
  have := congrArg (fun l => l[i]?) sha1
  simpa [h] using this
theorem hex1 : strOf (hexd (sha [97, 98, 99])) 64 = ⟨lit1.toArray⟩ := by
  have : (List.range 64).map (hexd (sha [97, 98, 99])) = lit1 := by decide +kernel
  unfold strOf; rw [this]
theorem hex2 : strOf (hexd (mac (fun _ => 0) [])) 64 = ⟨lit2.toArray⟩ := by
  have : (List.range 64).map (hexd (mac (fun _ => 0) [])) = lit2 := by decide +kernel
  unfold strOf; rw [this]

theorem parse1 (w : World) : Calls Tryd.prog 15 #[.string { data := #[98, 97, 55, 56, 49, 54, 98, 102, 56, 102, 48, 49, 99, 102, 101, 97, 52, 49, 52, 49, 52, 48, 100, 101, 53, 100, 97, 101, 50, 50, 50, 51, 98, 48, 48, 51, 54, 49, 97, 51, 57, 54, 49, 55, 55, 97, 57, 99, 98, 52, 49, 48, 102, 102, 54, 49, 102, 50, 48, 48, 49, 53, 97, 100] }] w fun e w' => e = .returned (.tuple #[.agg (tabv (bv (sha [97, 98, 99])) 32), .int .i64 0]) ∧ Below w.heap.size w w' := by
  refine (parse_any _ w).mono ?_
  rintro e w1 ⟨h | h, hb⟩
  · rw [h.2]
    refine ⟨?_, hb⟩
    rw [tabv_congr (bv (sha [97, 98, 99])) (bv (pv lit1)) 32 (fun i hi => by unfold bv; rw [sha1_at i hi])]
    rfl
  · exact absurd good1 h.1
theorem takeH {P : Program} {ops : Array Oper} {Q : Exit → Act → World → Prop} {md : Region.Mode} {S : World → Prop} (i : Nat) (d : Option Tmp) (v : Value) {oi : Oper} {fuel : Nat} {listed : Array Bool} {a : Act} {w : World} (hi : ops[i]? = some oi) (hd : oi.dst = d)
    (hs : Region.noSelect ops = true) (hf : Region.free md ops listed i = true) (hr : (Region.ready md ops listed).contains i = true)
    (hQ : ∀ c a w, Q (.panic c) (a.put oi.dst v) w → Q (.panic c) a w) (hw : Region.wanted oi (yielded ops a.tmps) = true) (hy : ∀ w, S w → (execOp a.eval oi).run P w = .ok (.value v) w) (hS : S w)
    (h : wpAnyH P md ops Q S fuel (listed.setIfInBounds i true) (a.put d v) w) : wpAnyH P md ops Q S (fuel + 1) listed a w :=
  wpAnyH_take hi hs hf hr hQ (.inl ⟨hw, hy⟩) hS (by rw [hd]; exact h)
attribute [local go_sem ↓] Go.wp_at_zero Go.wp_at_succ
set_option maxHeartbeats 1600000 in
theorem first_any (n : Num) (w : World) (hG : Glob n w) :
    Calls Tryd.prog 9 #[] w fun e w' => e = .returned (.bool true) ∧ Below w.heap.size w w' := by
  obtain ⟨H, hH⟩ : ∃ H, sha [97, 98, 99] = H := ⟨_, rfl⟩
  obtain ⟨M, hMM⟩ : ∃ M, mac (fun _ => 0) [] = M := ⟨_, rfl⟩
  have p1 := parse1 w
  have hS1 : ∀ w : World, Glob n w → Calls Tryd.prog 10 #[.slice (some ⟨w.heap.size, 0, none⟩) 3 3] (w.alloc (.cells #[.string { data := #[97] }, .string { data := #[] }, .string { data := #[98, 99] }] 9)).drew fun e w' => e = .returned (.agg (tabv (bv H) 32)) ∧ Below w.heap.size w w' := fun w hG => by
    have mb : Below w.heap.size w (w.alloc (.cells #[.string { data := #[97] }, .string { data := #[] }, .string { data := #[98, 99] }] 9)).drew := ((Below.refl _ _).alloc (Nat.le_refl _) _).drew
    refine (sum_any n (some ⟨w.heap.size, 0, none⟩) 3 [{ data := #[97] }, { data := #[] }, { data := #[98, 99] }] _ (hG.below mb hG.2.2) (Strs.mk w 9 [{ data := #[97] }, { data := #[] }, { data := #[98, 99] }]) (by decide) (by decide)).mono ?_
    rintro e w5 ⟨rfl, hb5⟩
    refine ⟨?_, mb.trans (hb5.mono mb.size)⟩
    rw [← hH]; rfl
  have hX1 : ∀ w : World, Calls Tryd.prog 13 #[.agg (tabv (bv H) 32)] w fun e w' => e = .returned (.string { data := #[98, 97, 55, 56, 49, 54, 98, 102, 56, 102, 48, 49, 99, 102, 101, 97, 52, 49, 52, 49, 52, 48, 100, 101, 53, 100, 97, 101, 50, 50, 50, 51, 98, 48, 48, 51, 54, 49, 97, 51, 57, 54, 49, 55, 55, 97, 57, 99, 98, 52, 49, 48, 102, 102, 54, 49, 102, 50, 48, 48, 49, 53, 97, 100] }) ∧ Below w.heap.size w w' := fun w => by
    rw [← hH]
    have h := hex_any (sha [97, 98, 99]) w
    rw [hex1] at h
    exact h
  have hM : ∀ w : World, Glob n w → Calls Tryd.prog 11 #[.agg #[.int .u8 0, .int .u8 0, .int .u8 0, .int .u8 0, .int .u8 0, .int .u8 0, .int .u8 0, .int .u8 0, .int .u8 0, .int .u8 0, .int .u8 0, .int .u8 0, .int .u8 0, .int .u8 0, .int .u8 0, .int .u8 0, .int .u8 0, .int .u8 0, .int .u8 0, .int .u8 0, .int .u8 0, .int .u8 0, .int .u8 0, .int .u8 0, .int .u8 0, .int .u8 0, .int .u8 0, .int .u8 0, .int .u8 0, .int .u8 0, .int .u8 0, .int .u8 0], .string { data := #[] }] w fun e w' => e = .returned (.agg (tabv (bv M) 32)) ∧ Below w.heap.size w w' := fun w hG => by
    rw [← hMM]
    exact mac_any n (fun _ => 0) { data := #[] } w hG (by decide)
  have hX2 : ∀ w : World, Calls Tryd.prog 13 #[.agg (tabv (bv M) 32)] w fun e w' => e = .returned (.string { data := #[98, 54, 49, 51, 54, 55, 57, 97, 48, 56, 49, 52, 100, 57, 101, 99, 55, 55, 50, 102, 57, 53, 100, 55, 55, 56, 99, 51, 53, 102, 99, 53, 102, 102, 49, 54, 57, 55, 99, 52, 57, 51, 55, 49, 53, 54, 53, 51, 99, 54, 99, 55, 49, 50, 49, 52, 52, 50, 57, 50, 99, 53, 97, 100] }) ∧ Below w.heap.size w w' := fun w => by
    rw [← hMM]
    have h := hex_any (mac (fun _ => 0) []) w
    rw [hex2] at h
    exact h
  have hq : ∀ w : World, (Op.equalIn 10000 26 (.agg (tabv (bv H) 32)) (.agg (tabv (bv H) 32))).run Tryd.prog w = .ok true w := fun w => by
    rw [eq26, all_same]
  rw [hH] at p1
  have P1 := hide p1
  have S1 := hide hS1
  have X1 := hide hX1
  have M1 := hide hM
  have X2 := hide hX2
  clear p1 hS1 hX1 hM hX2 hH hMM
  go_enter Tryd.func9, Tryd.ntmps9
  go_wp2_with fail
  refine P1.out.mono ?_
  rintro e w1 ⟨rfl, hb1⟩
  have hn := Has.new w1 26 (fun _ => .int .u8 0) 32 _ rfl
  have HN := hide hn
  clear hn
  go_wp2_with (refine wpList_store_part rfl 26 _ _ rfl rfl w1.heap.size 0 (bv H) 32 rfl rfl 26 _ 32 HN.out (by omega) info26 (fun _ _ => rfl) (bv H) (fun i hi => by unfold splice; rw [if_pos (by omega), Nat.sub_zero]) ?_)
  generalize hW : World.setRow (World.alloc w1 _) _ _ = W
  have g1 : Has W w1.heap.size 26 (bv H) 32 := by rw [← hW]; exact HN.out.row _ _ rfl
  have gb : Below w1.heap.size w1 W := by rw [← hW]; exact below_setRow ((Below.refl _ _).alloc (Nat.le_refl _) _) (Nat.le_refl _) _
  have gb2 := hb1.trans (gb.mono hb1.size)
  have gG := hG.below gb2 hG.2.2
  clear hW HN gb hG
  generalize w1.heap.size = p at g1 ⊢
  refine wp_region_noPanic ?_
  refine wp_region_held_drew (S := fun wx => Glob n wx ∧ Has wx p 26 (bv H) 32 ∧ Below w.heap.size w wx) (by kernel_rfl) ⟨gG, g1, gb2.drew⟩ (fun hHeld => ?_)
  refine takeH 0 (some 7) (.int .i64 0) rfl rfl (by kernel_rfl) (by kernel_rfl) (by kernel_rfl) (fun _ _ _ h => h) (by rfl) (fun w hw => by first | rfl | (go_simp; done) | (go_simp; rfl)) hHeld ?_
  simp only [Act.put, List.setIfInBounds_toArray, List.set_cons_zero, List.set_cons_succ]
  refine takeH 1 (some 8) (.bool true) rfl rfl (by kernel_rfl) (by kernel_rfl) (by kernel_rfl) (fun _ _ _ h => h) (by rfl) (fun w hw => by first | rfl | (go_simp; done) | (go_simp; rfl)) hHeld ?_
  simp only [Act.put, List.setIfInBounds_toArray, List.set_cons_zero, List.set_cons_succ]
  refine takeH 2 (some 9) (.bool true) rfl rfl (by kernel_rfl) (by kernel_rfl) (by kernel_rfl) (fun _ _ _ h => h) (by rfl) (fun w hw => by first | rfl | (go_simp; done) | (go_simp; rfl)) hHeld ?_
  simp only [Act.put, List.setIfInBounds_toArray, List.set_cons_zero, List.set_cons_succ]
  refine takeH 5 (some 12) (.agg (tabv (bv H) 32)) rfl rfl (by kernel_rfl) (by kernel_rfl) (by kernel_rfl) (fun _ _ _ h => h) (by rfl) (fun w hw => run_load_part w 26 _ rfl p 0 rfl 26 _ 32 32 _ hw.2.1 (by omega) Tryd.underlying26 rfl info26 (bv H) (fun i _ => by rw [Nat.zero_add])) hHeld ?_
  simp only [Act.put, List.setIfInBounds_toArray, List.set_cons_zero, List.set_cons_succ]
  refine wpAnyH_ready (rs := [3]) (by kernel_rfl) (by simp) (AllReadyH.cons rfl (fun K hK => ?_) AllReadyH.nil)
  rw [if_pos (by rfl)]
  go_simp
  refine hK.out _ _ (⟨gG.below ((Below.refl W.heap.size W).alloc (Nat.le_refl _) _).drew gG.2.2, (g1.old _).drew, (gb2.alloc gb2.size _).drew⟩) (fun hHeld => ?_)
  clear hK K
  refine wpAnyH_ready (rs := [4]) (by kernel_rfl) (by simp) (AllReadyH.cons rfl (fun K hK => ?_) AllReadyH.nil)
  rw [if_pos (by rfl)]
  go_simp
  refine (S1.out W gG).mono ?_
  rintro e w5 ⟨rfl, hb5⟩
  try go_wp2_with fail
  refine hK.out _ _ (⟨gG.below hb5 gG.2.2, g1.below hb5 g1.lt, gb2.trans (hb5.mono gb2.size)⟩) (fun hHeld => ?_)
  clear hK K
  refine takeH 6 (some 13) (.bool true) rfl rfl (by kernel_rfl) (by kernel_rfl) (by kernel_rfl) (fun _ _ _ h => h) (by rfl) (fun w hw => by first | rfl | (go_simp; done) | (go_simp; rfl)) hHeld ?_
  simp only [Act.put, List.setIfInBounds_toArray, List.set_cons_zero, List.set_cons_succ]
  refine takeH 7 (some 14) (.bool true) rfl rfl (by kernel_rfl) (by kernel_rfl) (by kernel_rfl) (fun _ _ _ h => h) (by rfl) (fun w hw => by first | rfl | (go_simp; done) | (go_simp; rfl)) hHeld ?_
  simp only [Act.put, List.setIfInBounds_toArray, List.set_cons_zero, List.set_cons_succ]
  refine takeH 8 (some 15) (.bool true) rfl rfl (by kernel_rfl) (by kernel_rfl) (by kernel_rfl) (fun _ _ _ h => h) (by rfl) (fun w hw => by first | rfl | (go_simp; done) | (go_simp; rfl)) hHeld ?_
  simp only [Act.put, List.setIfInBounds_toArray, List.set_cons_zero, List.set_cons_succ]
  refine takeH 9 (some 16) (.agg (tabv (bv H) 32)) rfl rfl (by kernel_rfl) (by kernel_rfl) (by kernel_rfl) (fun _ _ _ h => h) (by rfl) (fun w hw => run_load_part w 26 _ rfl p 0 rfl 26 _ 32 32 _ hw.2.1 (by omega) Tryd.underlying26 rfl info26 (bv H) (fun i _ => by rw [Nat.zero_add])) hHeld ?_
  simp only [Act.put, List.setIfInBounds_toArray, List.set_cons_zero, List.set_cons_succ]
  refine wpAnyH_ready (rs := [10]) (by kernel_rfl) (by simp) (AllReadyH.cons rfl (fun K hK => ?_) AllReadyH.nil)
  rw [if_pos (by rfl)]
  go_simp
  refine (X1.out _).mono ?_
  rintro e w5 ⟨rfl, hb5⟩
  try go_wp2_with fail
  refine hK.out _ _ (⟨hHeld.1.below hb5 hHeld.1.2.2, hHeld.2.1.below hb5 hHeld.2.1.lt, hHeld.2.2.trans (hb5.mono hHeld.2.2.size)⟩) (fun hHeld => ?_)
  clear hK K
  refine takeH 11 (some 18) (.bool true) rfl rfl (by kernel_rfl) (by kernel_rfl) (by kernel_rfl) (fun _ _ _ h => h) (by rfl) (fun w hw => by first | rfl | (go_simp; done) | (go_simp; rfl)) hHeld ?_
  simp only [Act.put, List.setIfInBounds_toArray, List.set_cons_zero, List.set_cons_succ]
  refine takeH 12 (some 19) (.bool true) rfl rfl (by kernel_rfl) (by kernel_rfl) (by kernel_rfl) (fun _ _ _ h => h) (by rfl) (fun w hw => by first | rfl | (go_simp; done) | (go_simp; rfl)) hHeld ?_
  simp only [Act.put, List.setIfInBounds_toArray, List.set_cons_zero, List.set_cons_succ]
  refine takeH 13 (some 20) (.bool true) rfl rfl (by kernel_rfl) (by kernel_rfl) (by kernel_rfl) (fun _ _ _ h => h) (by rfl) (fun w hw => by first | rfl | (go_simp; done) | (go_simp; rfl)) hHeld ?_
  simp only [Act.put, List.setIfInBounds_toArray, List.set_cons_zero, List.set_cons_succ]
  refine takeH 14 (some 21) (.agg (tabv (bv (fun _ => 0)) 32)) rfl rfl (by kernel_rfl) (by kernel_rfl) (by kernel_rfl) (fun _ _ _ h => h) (by rfl) (fun w hw => by first | rfl | (go_simp; done) | (go_simp; rfl)) hHeld ?_
  simp only [Act.put, List.setIfInBounds_toArray, List.set_cons_zero, List.set_cons_succ]
  refine wpAnyH_ready (rs := [15]) (by kernel_rfl) (by simp) (AllReadyH.cons rfl (fun K hK => ?_) AllReadyH.nil)
  rw [if_pos (by rfl)]
  go_simp
  refine (M1.out _ hHeld.1).mono ?_
  rintro e w5 ⟨rfl, hb5⟩
  try go_wp2_with fail
  refine hK.out _ _ (⟨hHeld.1.below hb5 hHeld.1.2.2, hHeld.2.1.below hb5 hHeld.2.1.lt, hHeld.2.2.trans (hb5.mono hHeld.2.2.size)⟩) (fun hHeld => ?_)
  clear hK K
  refine wpAnyH_ready (rs := [16]) (by kernel_rfl) (by simp) (AllReadyH.cons rfl (fun K hK => ?_) AllReadyH.nil)
  rw [if_pos (by rfl)]
  go_simp
  refine (X2.out _).mono ?_
  rintro e w5 ⟨rfl, hb5⟩
  try go_wp2_with fail
  refine hK.out _ _ (⟨hHeld.1.below hb5 hHeld.1.2.2, hHeld.2.1.below hb5 hHeld.2.1.lt, hHeld.2.2.trans (hb5.mono hHeld.2.2.size)⟩) (fun hHeld => ?_)
  clear hK K
  refine takeH 17 (some 24) (.bool true) rfl rfl (by kernel_rfl) (by kernel_rfl) (by kernel_rfl) (fun _ _ _ h => h) (by rfl) (fun w hw => by first | rfl | (go_simp; done) | (go_simp; rfl)) hHeld ?_
  simp only [Act.put, List.setIfInBounds_toArray, List.set_cons_zero, List.set_cons_succ]
  refine takeH 18 (some 25) (.bool true) rfl rfl (by kernel_rfl) (by kernel_rfl) (by kernel_rfl) (fun _ _ _ h => h) (by rfl) (fun w hw => by first | rfl | (go_simp; done) | (go_simp; rfl)) hHeld ?_
  simp only [Act.put, List.setIfInBounds_toArray, List.set_cons_zero, List.set_cons_succ]
  refine takeH 19 (some 0) (.bool true) rfl rfl (by kernel_rfl) (by kernel_rfl) (by kernel_rfl) (fun _ _ _ h => h) (by rfl) (fun w hw => by first | rfl | (go_simp; done) | (go_simp; rfl)) hHeld ?_
  simp only [Act.put, List.setIfInBounds_toArray, List.set_cons_zero]
  refine ⟨by kernel_rfl, ?_⟩
  refine NoPanic.normal ?_
  go_wp2
  go_ret
  exact ⟨rfl, hHeld.2.2⟩
end Go.Proofs.YtkhogpnmkonajaaDoor
