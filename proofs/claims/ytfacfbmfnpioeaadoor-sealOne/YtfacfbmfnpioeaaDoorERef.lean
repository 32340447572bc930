/-
  Sign and Right of the document's.
-/
import Derived.Test.YtfacfbmfnpioeaaDoorEMac
import Derived.Test.YtfacfbmfnpioeaaDoorECode
namespace Go.Proofs.YtfacfbmfnpioeaaDoor
open Go.RowKit S
set_option maxHeartbeats 800000 in
theorem rsign_any (n : Num) (key : Nat → UInt8) (s : ByteArray) (w : World) (hl : s.size ≤ 140737488351232) :
    Calls Tryd.prog 9 #[.agg (tabv (bv key) 32), .string s] w fun e w' => e = .returned (.agg (tabv (bv (mac key s.data.toList)) 32)) ∧ Below w.heap.size w w' := by
  have h0 : Has ((w.alloc (.cells (tabv (bv key) 32) 23)).alloc (.cells (tabv (fun _ => .int .u8 0) 32) 23)) w.heap.size 23 (bv key) 32 := (Has.new w 23 (bv key) 32 _ rfl).old _
  have h1 : Has ((w.alloc (.cells (tabv (bv key) 32) 23)).alloc (.cells (tabv (fun _ => .int .u8 0) 32) 23)) (w.heap.size + 1) 23 (fun _ => .int .u8 0) 32 := by
    have := Has.new (w.alloc (.cells (tabv (bv key) 32) 23)) 23 (fun _ => .int .u8 0) 32 _ rfl
    rw [size_alloc] at this
    exact this
  have hb : Below w.heap.size w ((w.alloc (.cells (tabv (bv key) 32) 23)).alloc (.cells (tabv (fun _ => .int .u8 0) 32) 23)) := ((Below.refl w.heap.size w).alloc (Nat.le_refl _) _).alloc (by simp) _
  have H0 := hide h0
  have H1 := hide h1
  clear h0 h1
  go_enter Tryd.func9, Tryd.ntmps9
  go_wp2_with (refine wpList_load_part rfl 23 _ rfl w.heap.size 0 rfl 23 _ 32 32 _ H0.out (by omega) Tryd.underlying23 rfl info26 (bv key) (fun i _ => by rw [Nat.zero_add]) ?_)
  refine (refMac_any n key s _ hl).mono ?_
  rintro e w1 ⟨rfl, hb1⟩
  have k1 := H1.out.below hb1 H1.out.lt
  have kb := hb.trans (hb1.mono hb.size)
  clear H0 H1 hb hb1
  go_wp2_with (refine wpList_store_part rfl 23 _ _ rfl rfl (w.heap.size + 1) 0 (bv (mac key s.data.toList)) 32 rfl rfl 23 _ 32 k1 (by omega) info26 (fun _ _ => rfl) (bv (mac key s.data.toList)) (fun i hi => by unfold splice; rw [if_pos (by omega), Nat.sub_zero]) ?_)
  exact bodyPost_ret (results_cell_row rfl _ _ (w.heap.size + 1) 23 _ (0, 0) _ rfl (k1.row _ _ rfl) Tryd.underlying23 rfl (by rw [tabv_size]; exact info26)) rfl ⟨rfl, below_setRow kb (by omega) _⟩
theorem sameH_false {f g : Nat → UInt8} {k : Nat} (hk : k < 32) (h : f k ≠ g k) : sameH g f = false := by
  cases e : sameH g f with
  | false => rfl
  | true => exact absurd ((sameH_iff g f).1 e k hk).symm h
set_option maxHeartbeats 1600000 in
theorem rright_any (n : Num) (key sig : Nat → UInt8) (s : ByteArray) (w : World) (hl : s.size ≤ 140737488351232) :
    Calls Tryd.prog 10 #[.agg (tabv (bv key) 32), .string s, .agg (tabv (bv sig) 32)] w fun e w' => e = .returned (.bool (sameH sig (mac key s.data.toList))) ∧ Below w.heap.size w w' := by
  obtain ⟨M, hM⟩ : ∃ M, mac key s.data.toList = M := ⟨_, rfl⟩
  have hsg : ∀ w : World, Calls Tryd.prog 9 #[.agg (tabv (bv key) 32), .string s] w fun e w' => e = .returned (.agg (tabv (bv M) 32)) ∧ Below w.heap.size w w' := fun w => by rw [← hM]; exact rsign_any n key s w hl
  rw [hM]
  clear hM
  have A1 := hide hsg
  clear hsg
  obtain ⟨W, hW⟩ : ∃ x, (World.alloc (World.alloc w (.cells (tabv (bv key) 32) 23)) (.cells (tabv (bv sig) 32) 23)) = x := ⟨_, rfl⟩
  have g0 : Has W (w.heap.size) 23 (bv key) 32 := by
    rw [← hW]
    have := Has.new w 23 (bv key) 32 _ rfl
    exact this.old _
  have g1 : Has W (w.heap.size + 1) 23 (bv sig) 32 := by
    rw [← hW]
    have := Has.new (World.alloc w (.cells (tabv (bv key) 32) 23)) 23 (bv sig) 32 _ rfl
    rw [size_alloc] at this
    exact this
  have gb : Below w.heap.size w W := by rw [← hW]; exact (((Below.refl w.heap.size w).alloc (by simp) _).alloc (by simp) _)
  go_enter Tryd.func10, Tryd.ntmps10
  have G0 := hide g0
  clear g0
  go_wp2_with (refine wpList_load_part rfl 23 _ rfl w.heap.size 0 rfl 23 _ 32 32 _ G0.out (by omega) Tryd.underlying23 rfl info26 (bv key) (fun i _ => by rw [Nat.zero_add]) ?_)
  refine (A1.out _).mono ?_
  rintro e w1 ⟨rfl, hb1⟩
  have k1 := g1.below hb1 g1.lt
  have kb := gb.trans (hb1.mono gb.size)
  have ks := hb1.size
  clear G0 hW g1 gb hb1
  have hn := Has.new w1 23 (fun _ => .int .u8 0) 32 _ rfl
  have HN := hide hn
  clear hn
  go_wp2_with (refine wpList_store_part rfl 23 _ _ rfl rfl w1.heap.size 0 (bv M) 32 rfl rfl 23 _ 32 HN.out (by omega) info26 (fun _ _ => rfl) (bv M) (fun i hi => by unfold splice; rw [if_pos (by omega), Nat.sub_zero]) ?_)
  generalize hW : World.setRow (World.alloc w1 _) _ _ = w3
  have jb : Below w1.heap.size w1 w3 := by rw [← hW]; exact below_setRow ((Below.refl _ _).alloc (Nat.le_refl _) _) (Nat.le_refl _) _
  have j2 : Has w3 w1.heap.size 23 (bv M) 32 := by rw [← hW]; exact HN.out.row _ _ rfl
  have j1 := k1.below jb k1.lt
  have jbb := kb.trans (jb.mono kb.size)
  clear hW HN k1 kb jb ks
  generalize w1.heap.size = g2 at j2 ⊢
  go_loopw [8] (fun i wr => ∃ k : Nat, k ≤ 32 ∧ i = .int .i64 k ∧ (∀ j, j < k → M j = sig j) ∧ Has wr (w.heap.size + 1) 23 (bv sig) 32 ∧ Has wr g2 23 (bv M) 32 ∧ Below w.heap.size w wr) (fun i _ => 32 - (intOf i).toNat)
  case atStart => exact ⟨0, by omega, rfl, fun j hj => absurd hj (by omega), j1, j2, jbb⟩
  case round =>
    clear j1 j2 jbb
    obtain ⟨k, hk, rfl, hsame, j1, j2, jbb⟩ := hrel
    by_cases hlt : k < 32
    · have c1 := j1.cell k hlt
      have c2 := j2.cell k hlt
      simp only [bv] at c1 c2
      have hd : decide ((k : Int) < 32) = true := by simp; omega
      by_cases he : M k = sig k
      · have hde : (((M k).toNat : Int) != ((sig k).toNat : Int)) = false := by rw [he]; simp
        go_wp2_with fail
        go_quiet (fail)
        go_wp2
        go_roundw
        case rel => exact ⟨k + 1, by omega, by go_num, fun j hj => by rcases Nat.lt_succ_iff_lt_or_eq.1 hj with h | rfl; exact hsame j h; exact he, j1.drewN _, j2.drewN _, below_drewN jbb _⟩
        case measure => simp [intOf]; omega
      · have hde : (((M k).toNat : Int) != ((sig k).toNat : Int)) = true := by
          rw [bne_iff_ne]; intro h; exact he (UInt8.toNat_inj.1 (by omega))
        have hR := sameH_false (g := sig) hlt he
        go_wp2_with fail
        go_quiet (fail)
        go_wp2
        go_ret
        exact ⟨by rw [hR]; rfl, below_drewN jbb _⟩
    · obtain rfl : k = 32 := by omega
      have hR : sameH sig M = true := (sameH_iff sig M).2 fun i hi => (hsame i hi).symm
      have hd : decide (((32 : Nat) : Int) < 32) = false := by simp
      go_wp2
      go_ret
      exact ⟨by rw [hR]; rfl, jbb⟩
end Go.Proofs.YtfacfbmfnpioeaaDoor
