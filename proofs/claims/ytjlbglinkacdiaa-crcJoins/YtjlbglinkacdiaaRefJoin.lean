/-
  The document's Join.
-/
import Derived.Test.YtjlbglinkacdiaaTurned
import Derived.Deep.DrawnRows
import Derived.Deep.RegionHeld3
namespace Go.Proofs.Ytjlbglinkacdiaa
open Go.RowKit C
theorem C.Has.drew {n : Num} {w : World} {g : Nat} {t : TypeId} {f : Nat → BitVec 32} {m : Nat} (h : Has n w g t f m) : Has n w.drew g t f m := h
theorem C.Has.some {n : Num} {w : World} {g : Nat} {t : TypeId} {f : Nat → BitVec 32} {m : Nat} (h : Has n w g t f m) (i : Nat) (hi : i < m) : (w.cell? ⟨g, i, none⟩).isSome = true := by simp [h.cell i hi]
def tabL (n : Num) (f : Nat → BitVec 32) (m : Nat) : List Value := (tab n f m).toList
theorem C.Has.range {n : Num} {w : World} {g : Nat} {t : TypeId} {f : Nat → BitVec 32} {m : Nat} (h : Has n w g t f m) : w.rangeAt g 0 (tabL n f m) := by
  intro j v hv
  unfold tabL at hv
  rw [Nat.zero_add, cell_of_row w g j _ t (0, 0) h]
  simpa using hv
theorem tabL_arr (n : Num) (f : Nat → BitVec 32) (m : Nat) : (tabL n f m).toArray = tab n f m := by simp [tabL]
theorem info34L (n : Num) (f : Nat → BitVec 32) : (Try.prog.info? 34).map (·.size) = some (tabL n f 32).length := by
  rw [show (tabL n f 32).length = 32 from by simp [tabL, tab_size]]; kernel_rfl
theorem turned_L (n : Num) (x : BitVec 32) (e : Nat) (w : World) :
    Calls Try.prog 21 #[.agg (tabL n (fun i => stN e (one i)) 32).toArray, .int .u32 (n.u x)] w fun en w' => en = .returned (.int .u32 (n.u (stN e x))) ∧ Below w.heap.size w w' := by
  rw [tabL_arr]; exact turned_stN n x e w
theorem keepS {w : World} {g u k : Nat} {L : List Value} {x : Value} (hgu : g < u) (h1 : w.rangeAt g 0 L) (h2 : w.cell? ⟨g, k, none⟩ = some x) (h3 : (w.cell? ⟨u, k, none⟩).isSome = true) (h4 : w.frozen? ⟨u, k, none⟩ = false) (v : Value) :
    (w.setCell ⟨u, k, none⟩ v).rangeAt g 0 L ∧ (w.setCell ⟨u, k, none⟩ v).cell? ⟨g, k, none⟩ = some x ∧ ((w.setCell ⟨u, k, none⟩ v).cell? ⟨u, k, none⟩).isSome = true ∧ (w.setCell ⟨u, k, none⟩ v).frozen? ⟨u, k, none⟩ = false := by
  have hb : (w.setCell ⟨u, k, none⟩ v).heap[g]? = w.heap[g]? := heap_setCell_other w ⟨u, k, none⟩ g v (by simp; omega)
  refine ⟨fun j y hy => ?_, ?_, ?_, ?_⟩
  · rw [World.cell?_of_block (w := w) hb]; exact h1 j y hy
  · rw [World.cell?_of_block (w := w) hb]; exact h2
  · obtain ⟨y, hy⟩ := Option.isSome_iff_exists.1 h3
    obtain ⟨v', hv'⟩ := cell?_setCell_some (p := ⟨u, k, none⟩) (x := v) hy
    rw [hv']; rfl
  · rw [World.frozen?_setCell]; exact h4
attribute [local go_sem] Num.xor
attribute [local go_sem ↓] Go.wp_at_zero Go.wp_at_succ
set_option maxHeartbeats 400000 in
theorem refJoin_any (n : Num) (a b : BitVec 32) (z : Int) (w : World) (hz0 : -9223372036854775808 ≤ z) (hz1 : z ≤ 9223372036854775807) :
    Calls Try.prog 15 #[.int .u32 (n.u a), .int .u32 (n.u b), .int .i64 z] w fun e w' => e = .returned (.int .u32 (n.u (stN (8 * z.toNat) a ^^^ b))) ∧ Below w.heap.size w w' := by
  go_enter Try.func15, Try.ntmps15
  go_wp2
  have hm0 := Has.new n w 34 _ 32 _ (zeros32 n (fun i => stN 8 (one i)))
  have hbm := (Below.refl w.heap.size w).alloc (Nat.le_refl _) (.cells #[.int .u32 0, .int .u32 0, .int .u32 0, .int .u32 0, .int .u32 0, .int .u32 0, .int .u32 0, .int .u32 0, .int .u32 0, .int .u32 0, .int .u32 0, .int .u32 0, .int .u32 0, .int .u32 0, .int .u32 0, .int .u32 0, .int .u32 0, .int .u32 0, .int .u32 0, .int .u32 0, .int .u32 0, .int .u32 0, .int .u32 0, .int .u32 0, .int .u32 0, .int .u32 0, .int .u32 0, .int .u32 0, .int .u32 0, .int .u32 0, .int .u32 0, .int .u32 0] 34)
  generalize w.alloc _ = w1 at hm0 hbm ⊢
  go_loopw [8] (fun i wr => ∃ k : Nat, k ≤ 32 ∧ i = .int .i64 k ∧ Has n wr w.heap.size 34 (upto (fun i => stN 8 (one i)) k) 32 ∧ Below w.heap.size w wr) (fun i _ => 32 - (intOf i).toNat)
  case atStart => exact ⟨0, by omega, rfl, hm0, hbm⟩
  case round =>
    clear hm0 hbm
    obtain ⟨k, hk, rfl, ht, hb⟩ := hrel
    by_cases hlt : k < 32
    · have hc := ht.cell k hlt
      have hf := ht.frozen k
      have hd : decide ((k : Int) < 32) = true := by simp; omega
      go_wp2
      go_loop [9, 10] (fun x j => ∃ q : Nat, q ≤ 8 ∧ j = .int .i64 q ∧ x = .int .u32 (n.u (stN q (one k)))) (fun _ j => 8 - (intOf j).toNat)
      case atStart => exact ⟨0, by omega, rfl, int_eq (n.one k hlt)⟩
      case round =>
        obtain ⟨q, hq, rfl, rfl⟩ := hrel
        by_cases hl : q < 8
        · go_wp2_with (go_at_call 20; refine (refStep_any n _ _).mono ?_; rintro e w' ⟨rfl, rfl⟩)
          go_round
          case rel => exact ⟨q + 1, by omega, by go_num, int_eq (by rw [stN_succ])⟩
          case measure => simp [intOf]; omega
        · have hq4 : q = 8 := by omega
          subst hq4
          go_wp2
          go_roundw
          case rel =>
            refine ⟨k + 1, by omega, by go_num, ?_, hb.setCell (by simp) _⟩
            have := ht.set k (stN 8 (one k))
            rw [upd_upto (fun i => stN 8 (one i)) k] at this
            exact this
          case measure => simp [intOf]; omega
    · have hk16 : k = 32 := by omega
      subst hk16
      go_wp2
      rw [show ((32 : Nat) : Int) = 32 from rfl]
      have ht' : Has n wr w.heap.size 34 (fun i => stN 8 (one i)) 32 := by unfold Has at ht ⊢; rw [ht, tab_full]
      clear ht
      go_loopw [0, 2] (fun x y ws => ∃ (a' : BitVec 32) (z' : Int) (e : Nat), -9223372036854775808 ≤ z' ∧ z' ≤ 9223372036854775807 ∧ y = .int .i64 z' ∧ x = .int .u32 (n.u a') ∧ stN (8 * e * z'.toNat) a' = stN (8 * z.toNat) a ∧ Has n ws w.heap.size 34 (fun i => stN (8 * e) (one i)) 32 ∧ Below w.heap.size w ws) (fun _ y _ => (intOf y).toNat)
      case atStart => exact ⟨a, z, 1, hz0, hz1, rfl, rfl, rfl, ht', hb⟩
      case round =>
        clear ht' hb
        obtain ⟨a', z', e, h0, h1, rfl, rfl, hst, hm, hb⟩ := hrel
        by_cases hp : 0 < z'
        · obtain ⟨q, rfl⟩ := Int.eq_ofNat_of_zero_le (by omega : 0 ≤ z')
          have hd : decide ((q : Int) > 0) = true := by simp; omega
          rw [Int.toNat_natCast, halves] at hst
          by_cases ho : q % 2 = 1
          · have hbit : ((q : Int) % 2 == 1) = true := by simp; omega
            rw [if_pos ho] at hst
            have HS := hide hst
            have HO := hide ho
            clear hst ho
            go_wp2_with (refine wpList_load_row rfl 34 _ rfl w.heap.size rfl 34 _ (0, 0) _ hm Try.underlying34 rfl (info34 n _) ?_)
            refine (turned_stN n _ _ _).mono ?_
            rintro en w2 ⟨rfl, hb2⟩
            have hm2 := hm.below hb2 hm.lt
            go_wp2
            have hu0 := Has.new n w2 34 _ 32 _ (zeros32 n (fun i => stN (8 * e + 8 * e) (one i)))
            have hm3 := hm2.old (.cells #[.int .u32 0, .int .u32 0, .int .u32 0, .int .u32 0, .int .u32 0, .int .u32 0, .int .u32 0, .int .u32 0, .int .u32 0, .int .u32 0, .int .u32 0, .int .u32 0, .int .u32 0, .int .u32 0, .int .u32 0, .int .u32 0, .int .u32 0, .int .u32 0, .int .u32 0, .int .u32 0, .int .u32 0, .int .u32 0, .int .u32 0, .int .u32 0, .int .u32 0, .int .u32 0, .int .u32 0, .int .u32 0, .int .u32 0, .int .u32 0, .int .u32 0, .int .u32 0] 34) hm2.lt
            have hb3 := (hb.trans (hb2.mono hb.size)).alloc (Nat.le_trans hb.size hb2.size) (.cells #[.int .u32 0, .int .u32 0, .int .u32 0, .int .u32 0, .int .u32 0, .int .u32 0, .int .u32 0, .int .u32 0, .int .u32 0, .int .u32 0, .int .u32 0, .int .u32 0, .int .u32 0, .int .u32 0, .int .u32 0, .int .u32 0, .int .u32 0, .int .u32 0, .int .u32 0, .int .u32 0, .int .u32 0, .int .u32 0, .int .u32 0, .int .u32 0, .int .u32 0, .int .u32 0, .int .u32 0, .int .u32 0, .int .u32 0, .int .u32 0, .int .u32 0, .int .u32 0] 34)
            have hgu : w.heap.size < w2.heap.size := hm2.lt
            generalize w2.alloc _ = w3 at hu0 hm3 hb3 ⊢
            generalize w2.heap.size = u at hu0 hgu ⊢
            go_loopw [12] (fun i ws => ∃ k : Nat, k ≤ 32 ∧ i = .int .i64 k ∧ Has n ws u 34 (upto (fun i => stN (8 * e + 8 * e) (one i)) k) 32 ∧ Has n ws w.heap.size 34 (fun i => stN (8 * e) (one i)) 32 ∧ Below w.heap.size w ws) (fun i _ => 32 - (intOf i).toNat)
            case atStart => exact ⟨0, by omega, rfl, hu0, hm3, hb3⟩
            case round =>
              clear hu0 hm3 hb3
              obtain ⟨k, hk, rfl, hu, hm4, hb4⟩ := hrel
              by_cases hlt : k < 32
              · have hc := hm4.cell k hlt
                have hk0 : (0 : Int) ≤ (k : Int) := by omega
                have hk1 : (k : Int) < 32 := by omega
                have hd : decide ((k : Int) < 32) = true := by simp; omega
                have hr := hm4.range
                have hLi := info34L n (fun i => stN (8 * e) (one i))
                have hcu := hu.some k hlt
                have hfu := hu.frozen k
                have hty := Try.underlying34
                go_wp2
                go_region_held3 (fun wx => wx.rangeAt w.heap.size 0 (tabL n (fun i => stN (8 * e) (one i)) 32) ∧ wx.cell? ⟨w.heap.size, k, none⟩ = some (.int .u32 (n.u (stN (8 * e) (one k)))) ∧ (wx.cell? ⟨u, k, none⟩).isSome = true ∧ wx.frozen? ⟨u, k, none⟩ = false) (first | (go_keep; done) | ((try dsimp only); refine keepS hgu ?_ ?_ ?_ ?_ _ <;> assumption)) (first | (go_at_call 21; refine (turned_L n _ _ _).mono ?_; rintro en w5 ⟨rfl, hb5⟩; have g1 := Has.range (Has.below hm4.drew hb5 hm4.lt); have g2 := Has.cell (Has.below hm4.drew hb5 hm4.lt) k hlt; have g3 := Has.some (Has.below hu.drew hb5 hu.lt) k hlt; have g4 := Has.frozen (Has.below hu.drew hb5 hu.lt) k; have g5 := Has.cell (Has.below hu.drew hb5 hu.lt) k hlt))
                go_wp2
                go_roundw
                case rel =>
                  refine ⟨k + 1, by omega, by go_num, ?_, Has.other (Has.below hm4.drew hb5 hm4.lt) _ _ (by simp; omega), Below.setCell (hb4.drew.trans (hb5.mono hb4.size)) (by simp; omega) _⟩
                  have := Has.set (Has.below hu.drew hb5 hu.lt) k (stN (8 * e) (stN (8 * e) (one k)))
                  rw [← stN_add, upd_upto (fun i => stN (8 * e + 8 * e) (one i)) k] at this
                  rw [← stN_add]
                  exact this
                case measure => simp [intOf]; omega
              · have hk16 : k = 32 := by omega
                subst hk16
                go_wp2_with (first | refine wpList_load_row rfl 34 _ rfl u rfl 34 _ (0, 0) _ hu Try.underlying34 rfl (info34 n _) ?_ | refine wpList_store_row rfl 34 _ _ rfl w.heap.size (tab n (upto (fun i => stN (8 * e + 8 * e) (one i)) 32) 32) rfl rfl 34 (tab n (fun i => stN (8 * e) (one i)) 32) hm4 (info34 n _) ((tab_size n _ _).trans (tab_size n _ _).symm) (tab_one n _ _) ?_)
                go_roundw
                case rel =>
                  refine ⟨stN (8 * e) a', ↑(q / 2), e + e, by omega, by omega, by go_num, rfl, ?_, ?_, below_setRow hb4 (Nat.le_refl _) _⟩
                  · rw [Int.toNat_natCast]; exact HS.out
                  · rw [show 8 * (e + e) = 8 * e + 8 * e by omega, tab_full]; exact hm4.row _
                case measure => simp [intOf]; omega
          · have hbit : ((q : Int) % 2 == 1) = false := by simp; omega
            have hd2 : decide (0 < q) = true := by simp; omega
            rw [if_neg ho] at hst
            have HS := hide hst
            have HO := hide ho
            clear hst ho
            have hb2 := Below.refl wr.heap.size wr
            have hm2 := hm
            go_wp2
            have hu0 := Has.new n wr 34 _ 32 _ (zeros32 n (fun i => stN (8 * e + 8 * e) (one i)))
            have hm3 := hm2.old (.cells #[.int .u32 0, .int .u32 0, .int .u32 0, .int .u32 0, .int .u32 0, .int .u32 0, .int .u32 0, .int .u32 0, .int .u32 0, .int .u32 0, .int .u32 0, .int .u32 0, .int .u32 0, .int .u32 0, .int .u32 0, .int .u32 0, .int .u32 0, .int .u32 0, .int .u32 0, .int .u32 0, .int .u32 0, .int .u32 0, .int .u32 0, .int .u32 0, .int .u32 0, .int .u32 0, .int .u32 0, .int .u32 0, .int .u32 0, .int .u32 0, .int .u32 0, .int .u32 0] 34) hm2.lt
            have hb3 := (hb.trans (hb2.mono hb.size)).alloc (Nat.le_trans hb.size hb2.size) (.cells #[.int .u32 0, .int .u32 0, .int .u32 0, .int .u32 0, .int .u32 0, .int .u32 0, .int .u32 0, .int .u32 0, .int .u32 0, .int .u32 0, .int .u32 0, .int .u32 0, .int .u32 0, .int .u32 0, .int .u32 0, .int .u32 0, .int .u32 0, .int .u32 0, .int .u32 0, .int .u32 0, .int .u32 0, .int .u32 0, .int .u32 0, .int .u32 0, .int .u32 0, .int .u32 0, .int .u32 0, .int .u32 0, .int .u32 0, .int .u32 0, .int .u32 0, .int .u32 0] 34)
            have hgu : w.heap.size < wr.heap.size := hm2.lt
            generalize wr.alloc _ = w3 at hu0 hm3 hb3 ⊢
            generalize wr.heap.size = u at hu0 hgu ⊢
            go_loopw [12] (fun i ws => ∃ k : Nat, k ≤ 32 ∧ i = .int .i64 k ∧ Has n ws u 34 (upto (fun i => stN (8 * e + 8 * e) (one i)) k) 32 ∧ Has n ws w.heap.size 34 (fun i => stN (8 * e) (one i)) 32 ∧ Below w.heap.size w ws) (fun i _ => 32 - (intOf i).toNat)
            case atStart => exact ⟨0, by omega, rfl, hu0, hm3, hb3⟩
            case round =>
              clear hu0 hm3 hb3
              obtain ⟨k, hk, rfl, hu, hm4, hb4⟩ := hrel
              by_cases hlt : k < 32
              · have hc := hm4.cell k hlt
                have hk0 : (0 : Int) ≤ (k : Int) := by omega
                have hk1 : (k : Int) < 32 := by omega
                have hd : decide ((k : Int) < 32) = true := by simp; omega
                have hr := hm4.range
                have hLi := info34L n (fun i => stN (8 * e) (one i))
                have hcu := hu.some k hlt
                have hfu := hu.frozen k
                have hty := Try.underlying34
                go_wp2
                go_region_held3 (fun wx => wx.rangeAt w.heap.size 0 (tabL n (fun i => stN (8 * e) (one i)) 32) ∧ wx.cell? ⟨w.heap.size, k, none⟩ = some (.int .u32 (n.u (stN (8 * e) (one k)))) ∧ (wx.cell? ⟨u, k, none⟩).isSome = true ∧ wx.frozen? ⟨u, k, none⟩ = false) (first | (go_keep; done) | ((try dsimp only); refine keepS hgu ?_ ?_ ?_ ?_ _ <;> assumption)) (first | (go_at_call 21; refine (turned_L n _ _ _).mono ?_; rintro en w5 ⟨rfl, hb5⟩; have g1 := Has.range (Has.below hm4.drew hb5 hm4.lt); have g2 := Has.cell (Has.below hm4.drew hb5 hm4.lt) k hlt; have g3 := Has.some (Has.below hu.drew hb5 hu.lt) k hlt; have g4 := Has.frozen (Has.below hu.drew hb5 hu.lt) k; have g5 := Has.cell (Has.below hu.drew hb5 hu.lt) k hlt))
                go_wp2
                go_roundw
                case rel =>
                  refine ⟨k + 1, by omega, by go_num, ?_, Has.other (Has.below hm4.drew hb5 hm4.lt) _ _ (by simp; omega), Below.setCell (hb4.drew.trans (hb5.mono hb4.size)) (by simp; omega) _⟩
                  have := Has.set (Has.below hu.drew hb5 hu.lt) k (stN (8 * e) (stN (8 * e) (one k)))
                  rw [← stN_add, upd_upto (fun i => stN (8 * e + 8 * e) (one i)) k] at this
                  rw [← stN_add]
                  exact this
                case measure => simp [intOf]; omega
              · have hk16 : k = 32 := by omega
                subst hk16
                go_wp2_with (first | refine wpList_load_row rfl 34 _ rfl u rfl 34 _ (0, 0) _ hu Try.underlying34 rfl (info34 n _) ?_ | refine wpList_store_row rfl 34 _ _ rfl w.heap.size (tab n (upto (fun i => stN (8 * e + 8 * e) (one i)) 32) 32) rfl rfl 34 (tab n (fun i => stN (8 * e) (one i)) 32) hm4 (info34 n _) ((tab_size n _ _).trans (tab_size n _ _).symm) (tab_one n _ _) ?_)
                go_roundw
                case rel =>
                  refine ⟨a', ↑(q / 2), e + e, by omega, by omega, by go_num, rfl, ?_, ?_, below_setRow hb4 (Nat.le_refl _) _⟩
                  · rw [Int.toNat_natCast]; exact HS.out
                  · rw [show 8 * (e + e) = 8 * e + 8 * e by omega, tab_full]; exact hm4.row _
                case measure => simp [intOf]; omega
        · have hd : decide (z' > 0) = false := by simp; omega
          have hz : z'.toNat = 0 := by omega
          rw [hz, Nat.mul_zero] at hst
          have HS := hide hst
          clear hst hz
          go_wp2
          go_ret
          refine ⟨ret_int ?_, hb⟩
          rw [← HS.out]; rfl
end Go.Proofs.Ytjlbglinkacdiaa
