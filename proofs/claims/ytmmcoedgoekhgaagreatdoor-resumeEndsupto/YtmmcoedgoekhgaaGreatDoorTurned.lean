import Derived.Test.YtmmcoedgoekhgaaGreatDoorTab
/-
  The words of a block.
-/
namespace Go.Proofs.YtmmcoedgoekhgaaGreatDoor
set_option maxRecDepth 20000
open Go.RowKit S
theorem len44 : Tryz.prog.arrayLen 196 = 64 := by kernel_rfl
theorem el44 : Tryz.prog.elem 196 = 5 := by kernel_rfl
theorem und44 : Tryz.prog.underlying 196 = some (.array (Tryz.prog.arrayLen 196) (Tryz.prog.elem 196)) := by kernel_rfl
theorem size5 (w : World) : (sizeOf 5).run Tryz.prog w = .ok 1 w := by
  have h : (Tryz.prog.info? 5).map (·.size) = some 1 := by kernel_rfl
  cases hq : Tryz.prog.info? 5 with
  | none => simp [hq] at h
  | some i => simp [hq] at h; simp [sizeOf, typeInfo, hq, h]
theorem sl44_lh (w : World) (g o l h : Nat) (L H : Int) (eL : L = (l : Int)) (eH : H = (h : Int)) (hl : l ≤ h) (hh : h ≤ 64) (h1 : l < 64) :
    (Instr.sliceAt 196 (.pointer (some ⟨g, o, none⟩)) (some (.int .i64 L)) (some (.int .i64 H)) none).run Tryz.prog w = .ok (.slice (some ⟨g, o + l, none⟩) (h - l) (64 - l)) w := by
  subst eL eH
  rw [run_sliceAt_array_lh w 196 _ und44 _ _ _ _ (by omega) (by omega) (by rw [len44]; omega), el44, size5, len44]
  simp only [Result.andThen_ok, slicedAt, Int.toNat_natCast, Nat.mul_one]
  rw [if_neg (by omega)]
  congr 3
  unfold Addr.add; split <;> simp_all
theorem sl44_l (w : World) (g o l : Nat) (k : IntKind) (h1 : l < 64) :
    (Instr.sliceAt 196 (.pointer (some ⟨g, o, none⟩)) (some (.int k (l : Int))) none none).run Tryz.prog w = .ok (.slice (some ⟨g, o + l, none⟩) (64 - l) (64 - l)) w := by
  rw [run_sliceAt_array_l w 196 _ und44 _ _ (by omega) (by rw [len44]; omega), el44, size5, len44]
  simp only [Result.andThen_ok, slicedAt, Int.toNat_natCast, Nat.mul_one]
  rw [if_neg (by omega)]
  congr 3
  unfold Addr.add; split <;> simp_all
def bv (b : Nat → UInt8) : Nat → Value := fun i => .int .u8 ((b i).toNat : Int)
def wv (n : Num) (f : Nat → BitVec 32) : Nat → Value := fun i => .int .u32 (n.u (f i))
theorem size_alloc (w : World) (o : Obj) : (w.alloc o).heap.size = w.heap.size + 1 := by simp
theorem wv_upd (n : Num) (f : Nat → BitVec 32) (k : Nat) (v : BitVec 32) : upd (wv n f) k (.int .u32 (n.u v)) = wv n (upd f k v) := by
  funext i; simp only [upd, wv]; split <;> rfl
theorem bv_upd (f : Nat → UInt8) (k : Nat) (v : UInt8) : upd (bv f) k (.int .u8 (v.toNat : Int)) = bv (upd f k v) := by
  funext i; simp only [upd, bv]; split <;> rfl
/-- The first k words of the block, zeros behind. -/
def wup (b : Nat → UInt8) (k : Nat) : Nat → BitVec 32 := fun i => if i < k then word b i else 0#32
theorem info59 : (Tryz.prog.info? 229).map (·.size) = some 64 := by kernel_rfl
theorem info43 : (Tryz.prog.info? 195).map (·.size) = some 8 := by kernel_rfl
theorem info44 : (Tryz.prog.info? 196).map (·.size) = some 64 := by kernel_rfl
theorem info26 : (Tryz.prog.info? 23).map (·.size) = some 32 := by kernel_rfl
theorem wup_next (b : Nat → UInt8) (k : Nat) : upd (wup b k) k (word b k) = wup b (k + 1) := by
  funext i; unfold upd wup
  by_cases e : i = k
  · subst e; rw [if_pos rfl, if_pos (by omega)]
  · rw [if_neg e]; by_cases h : i < k
    · rw [if_pos h, if_pos (by omega)]
    · rw [if_neg h, if_neg (by omega)]
theorem Num.shl24 (n : Num) (a : BitVec 32) : n.u a * (16777216 : Int) % (4294967296 : Int) = n.u (a <<< 24) := n.shl a 24
theorem Num.shl16 (n : Num) (a : BitVec 32) : n.u a * (65536 : Int) % (4294967296 : Int) = n.u (a <<< 16) := n.shl a 16
theorem Num.shl8 (n : Num) (a : BitVec 32) : n.u a * (256 : Int) % (4294967296 : Int) = n.u (a <<< 8) := n.shl a 8
theorem Num.shr3 (n : Num) (a : BitVec 32) : n.u a / (8 : Int) = n.u (a >>> 3) := n.shr a 3
theorem Num.shr10 (n : Num) (a : BitVec 32) : n.u a / (1024 : Int) = n.u (a >>> 10) := n.shr a 10
theorem word_num (n : Num) (b : Nat → UInt8) (k : Nat) : bits .or .u32 (bits .or .u32 (bits .or .u32 (((b (4 * k)).toNat : Int) % 4294967296 * 16777216 % 4294967296) (((b (4 * k + 1)).toNat : Int) % 4294967296 * 65536 % 4294967296)) (((b (4 * k + 2)).toNat : Int) % 4294967296 * 256 % 4294967296)) (((b (4 * k + 3)).toNat : Int) % 4294967296) = n.u (word b k) := by
  rw [n.byteM, n.byteM, n.byteM, n.byteM, n.shl24, n.shl16, n.shl8, n.or, n.or, n.or]; rfl
attribute [local go_sem] Num.shr3 Num.shr10 Num.shl Num.shr Num.or Num.xor Num.and Num.add
set_option maxHeartbeats 400000 in
theorem words_any (n : Num) (b : Nat → UInt8) (w : World) :
    Calls Tryz.prog 213 #[.agg (tabv (bv b) 64)] w fun e w' => e = .returned (.agg (tabv (wv n (words b)) 64)) ∧ Below w.heap.size w w' := by
  go_enter Tryz.func213, Tryz.ntmps213
  go_wp2
  generalize hW : World.alloc (World.alloc (World.alloc w _) _) _ = w3
  have h0 : Has w3 w.heap.size 196 (bv b) 64 := by rw [← hW]; exact ((Has.new w 196 (bv b) 64 _ rfl).old _).old _
  have h1 : Has w3 (w.heap.size + 1) 229 (fun _ => .int .u32 0) 64 := by
    rw [← hW]
    have := (Has.new (w.alloc (.cells (tabv (bv b) 64) 196)) 229 (fun _ => .int .u32 0) 64 _ rfl).old (.cells (tabv (fun _ => .int .u32 0) 64) 229)
    rw [size_alloc] at this
    exact this
  have h2 : Has w3 (w.heap.size + 1 + 1) 229 (wv n (wup b 0)) 64 := by
    rw [← hW]
    have := Has.new ((w.alloc (.cells (tabv (bv b) 64) 196)).alloc (.cells (tabv (fun _ => .int .u32 0) 64) 229)) 229 (fun _ => .int .u32 0) 64 _ rfl
    have e := this.congr (wv n (wup b 0)) (fun i _ => by unfold wv wup; rw [if_neg (by omega), n.zero])
    rw [size_alloc, size_alloc] at e
    exact e
  have hb : Below w.heap.size w w3 := by
    rw [← hW]; exact (((Below.refl w.heap.size w).alloc (Nat.le_refl _) _).alloc (by simp) _).alloc (by simp; omega) _
  clear hW
  go_loopw [11] (fun i wr => ∃ k : Nat, k ≤ 16 ∧ i = .int .i64 k ∧ Has wr w.heap.size 196 (bv b) 64 ∧ Has wr (w.heap.size + 1) 229 (fun _ => .int .u32 0) 64 ∧ Has wr (w.heap.size + 1 + 1) 229 (wv n (wup b k)) 64 ∧ Below w.heap.size w wr) (fun i _ => 16 - (intOf i).toNat)
  case atStart => exact ⟨0, by omega, rfl, h0, h1, h2, hb⟩
  case round =>
    clear h0 h1 h2 hb
    obtain ⟨k, hk, rfl, h0, h1, h2, hb⟩ := hrel
    by_cases hlt : k < 16
    · have c0 : wr.cell? ⟨w.heap.size, 4 * k, none⟩ = _ := h0.cell (4 * k) (by omega)
      have c1 := h0.cell (4 * k + 1) (by omega)
      have c2 := h0.cell (4 * k + 2) (by omega)
      have c3 := h0.cell (4 * k + 3) (by omega)
      have cw := h2.cell k (by omega)
      have cf := h2.frozen k
      simp only [bv, wv] at c0 c1 c2 c3 cw
      have hd : decide ((k : Int) < 16) = true := by simp; omega
      have hsl := sl44_lh wr w.heap.size 0 (4 * k) (4 * k + 4) (4 * (k : Int)) (4 * (k : Int) + 4) (by omega) (by omega) (by omega) (by omega) (by omega)
      rw [Nat.zero_add, Nat.add_sub_cancel_left] at hsl
      go_wp2
      refine wp_region_drew_tail 24 (by kernel_rfl) (by kernel_rfl) ?_
      simp only [List.take_succ_cons, List.take_zero, List.drop_succ_cons, List.drop_zero]
      repeat (go_big_quiet_step (fail))
      refine wpQuiet_nil ?_
      intro _ hw'
      obtain ⟨nq, rfl⟩ := hw'
      go_wp2
      go_roundw
      case rel =>
        refine ⟨k + 1, by omega, by go_num, (h0.drewN nq).other _ _ (by simp; omega), (h1.drewN nq).other _ _ (by simp), ?_, (below_drewN hb nq).setCell (by simp; omega) _⟩
        have := (h2.drewN nq).set k (.int .u32 (n.u (word b k)))
        rw [wv_upd, wup_next] at this
        rw [word_num n]
        exact this
      case measure => simp [intOf]; omega
    · have hk16 : k = 16 := by omega
      subst hk16
      go_wp2
      rw [show ((16 : Nat) : Int) = 16 from rfl]
      go_loopw [6] (fun i wr => ∃ t : Nat, 16 ≤ t ∧ t ≤ 64 ∧ i = .int .i64 t ∧ Has wr (w.heap.size + 1) 229 (fun _ => .int .u32 0) 64 ∧ Has wr (w.heap.size + 1 + 1) 229 (wv n (grown (wup b 16) (t - 16))) 64 ∧ Below w.heap.size w wr) (fun i _ => 64 - (intOf i).toNat)
      case atStart => exact ⟨16, by omega, by omega, rfl, h1, h2, hb⟩
      case round =>
        clear h0 h1 h2 hb hk
        obtain ⟨t, ht0, ht, rfl, h1, h2, hb⟩ := hrel
        by_cases hlt : t < 64
        · have c0 := h2.cell (t - 16) (by omega)
          have c1 := h2.cell (t - 15) (by omega)
          have c2 := h2.cell (t - 2) (by omega)
          have c3 := h2.cell (t - 7) (by omega)
          have cw := h2.cell t (by omega)
          have cf := h2.frozen t
          simp only [wv] at c0 c1 c2 c3 cw
          have hd : decide ((t : Int) < 64) = true := by simp; omega
          go_wp2
          go_quiet (fail)
          go_wp2_with (go_at_call 214; go_must (refine (rot_int n _ _ (by decide) (by decide) _).mono ?_); rintro e w' ⟨rfl, rfl⟩)
          refine wp_region_drew_tail 15 (by kernel_rfl) (by kernel_rfl) ?_
          simp only [List.take_succ_cons, List.take_zero, List.drop_succ_cons, List.drop_zero]
          repeat (go_big_quiet_step (fail))
          refine wpQuiet_nil ?_
          intro _ hw'
          obtain ⟨np, rfl⟩ := hw'
          go_wp2
          go_roundw
          case rel =>
            refine ⟨t + 1, by omega, by omega, by go_num, (h1.drewN (nq + np)).other _ _ (by simp), ?_, (below_drewN hb (nq + np)).setCell (by simp; omega) _⟩
            have := (h2.drewN (nq + np)).set t (.int .u32 (n.u (grown (wup b 16) (t - 16) (t - 16) + s0 (grown (wup b 16) (t - 16) (t - 15)) + grown (wup b 16) (t - 16) (t - 7) + s1 (grown (wup b 16) (t - 16) (t - 2)))))
            rw [wv_upd] at this
            have e : upd (grown (wup b 16) (t - 16)) t (grown (wup b 16) (t - 16) (t - 16) + s0 (grown (wup b 16) (t - 16) (t - 15)) + grown (wup b 16) (t - 16) (t - 7) + s1 (grown (wup b 16) (t - 16) (t - 2))) = grown (wup b 16) (t + 1 - 16) := by
              obtain ⟨j, rfl⟩ : ∃ j, t = 16 + j := ⟨t - 16, by omega⟩
              rw [show 16 + j + 1 - 16 = j + 1 by omega, show 16 + j - 16 = j by omega, show 16 + j - 15 = j + 1 by omega, show 16 + j - 7 = j + 9 by omega, show 16 + j - 2 = j + 14 by omega]
              rfl
            rw [e] at this
            exact this
          case measure => simp [intOf]; omega
        · have ht64 : t = 64 := by omega
          subst ht64
          go_wp2_with (first | refine wpList_load_part rfl 229 _ rfl (w.heap.size + 1 + 1) 0 rfl 229 _ 64 64 _ h2 (by omega) Tryz.underlying229 rfl info59 (wv n (grown (wup b 16) 48)) (fun i _ => by rw [Nat.zero_add]) ?_ | refine wpList_store_part rfl 229 _ _ rfl rfl (w.heap.size + 1) 0 (wv n (grown (wup b 16) 48)) 64 rfl rfl 229 _ 64 h1 (by omega) info59 (fun _ _ => rfl) (wv n (grown (wup b 16) 48)) (fun i hi => by unfold splice; rw [if_pos (by omega), Nat.sub_zero]) ?_)
          exact bodyPost_ret (results_cell_row rfl _ _ (w.heap.size + 1) 229 _ (0, 0) _ rfl (h1.row _ _ rfl) Tryz.underlying229 rfl (by rw [tabv_size]; exact info59)) rfl ⟨rfl, below_setRow hb (by omega) _⟩
end Go.Proofs.YtmmcoedgoekhgaaGreatDoor
/-
  A block turns a state.
-/
namespace Go.Proofs.YtmmcoedgoekhgaaGreatDoor
set_option maxRecDepth 20000
open Go.RowKit S
theorem idx43 (f : Nat → Value) (w : World) (k : Nat) (hk : k < 8) : (Instr.index 195 (.agg (tabv f 8)) (.int .i64 (k : Int))).run Tryz.prog w = .ok (f k) w := by
  have h2 : (0 : Int) ≤ (k : Int) ∧ (k : Int) < 8 := by omega
  have h3 := tabv_get f 8 k hk
  simp [Instr.index, asIntOf, run_underlying Tryz.underlying195, h2, part, isAgg, run_underlying Tryz.underlying194, h3]
  omega
/-- What the two tables of the program hold. -/
def Glob (n : Num) (w : World) : Prop := (∀ i, i < 64 → w.cell? ⟨1, i, none⟩ = some (wv n K i)) ∧ (∀ i, i < 8 → w.cell? ⟨0, i, none⟩ = some (wv n first i)) ∧ 2 ≤ w.heap.size
theorem Glob.below {n : Num} {w w' : World} {b : Nat} (h : Glob n w) (hb : Below b w w') (h2 : 2 ≤ b) : Glob n w' := by
  refine ⟨fun i hi => ?_, fun i hi => ?_, Nat.le_trans h.2.2 hb.size⟩
  · rw [World.cell?_of_block (w := w) (hb.block 1 (by omega))]; exact h.1 i hi
  · rw [World.cell?_of_block (w := w) (hb.block 0 (by omega))]; exact h.2.1 i hi
theorem Num.not' (n : Num) (a : BitVec 32) : bits .xor .u32 (if IntKind.u32.signed = true then -1 else IntKind.u32.max) (n.u a) = n.u (~~~a) := n.not a
attribute [local go_sem] Num.not' Num.shr3 Num.shr10 Num.shl Num.shr Num.or Num.xor Num.and Num.add Num.not
theorem eight (n : Num) (R : Nat → BitVec 32) : (#[.int .u32 (n.u (R 0)), .int .u32 (n.u (R 1)), .int .u32 (n.u (R 2)), .int .u32 (n.u (R 3)), .int .u32 (n.u (R 4)), .int .u32 (n.u (R 5)), .int .u32 (n.u (R 6)), .int .u32 (n.u (R 7))] : Array Value) = tabv (wv n R) 8 := rfl
def addUp (st R : Nat → BitVec 32) (k : Nat) : Nat → BitVec 32 := fun i => if i < k then st i + R i else st i
theorem addUp_next (st R : Nat → BitVec 32) (k : Nat) : upd (addUp st R k) k (st k + R k) = addUp st R (k + 1) := by
  funext i; unfold upd addUp
  by_cases e : i = k
  · subst e; rw [if_pos rfl, if_pos (by omega)]
  · rw [if_neg e]; by_cases h : i < k
    · rw [if_pos h, if_pos (by omega)]
    · rw [if_neg h, if_neg (by omega)]
set_option maxRecDepth 100000 in
set_option maxHeartbeats 800000 in
theorem turned_any (n : Num) (st : Nat → BitVec 32) (b : Nat → UInt8) (w : World) (hG : Glob n w) :
    Calls Tryz.prog 194 #[.agg (tabv (wv n st) 8), .agg (tabv (bv b) 64)] w fun e w' => e = .returned (.agg (tabv (wv n (turn st b)) 8)) ∧ Below w.heap.size w w' := by
  have h1 : Has (((w.alloc (.cells (tabv (wv n st) 8) 195)).alloc (.cells (tabv (bv b) 64) 196)).alloc (.cells (tabv (fun _ => .int .u32 0) 8) 195)) (w.heap.size + 1) 196 (bv b) 64 := by
    have := (Has.new (w.alloc (.cells (tabv (wv n st) 8) 195)) 196 (bv b) 64 _ rfl).old (.cells (tabv (fun _ => .int .u32 0) 8) 195)
    rw [size_alloc] at this
    exact this
  have HH := hide h1
  clear h1
  go_enter Tryz.func194, Tryz.ntmps194
  go_wp2_with (refine wpList_load_part rfl 196 _ rfl (w.heap.size + 1) 0 rfl 196 _ 64 64 _ HH.out (by omega) Tryz.underlying196 rfl info44 (bv b) (fun i _ => by rw [Nat.zero_add]) ?_)
  have g0 : Has (((w.alloc (.cells (tabv (wv n st) 8) 195)).alloc (.cells (tabv (bv b) 64) 196)).alloc (.cells (tabv (fun _ => .int .u32 0) 8) 195)) w.heap.size 195 (wv n st) 8 := ((Has.new w 195 (wv n st) 8 _ rfl).old _).old _
  have g2 : Has (((w.alloc (.cells (tabv (wv n st) 8) 195)).alloc (.cells (tabv (bv b) 64) 196)).alloc (.cells (tabv (fun _ => .int .u32 0) 8) 195)) (w.heap.size + 1 + 1) 195 (fun _ => .int .u32 0) 8 := by
    have := Has.new ((w.alloc (.cells (tabv (wv n st) 8) 195)).alloc (.cells (tabv (bv b) 64) 196)) 195 (fun _ => .int .u32 0) 8 _ rfl
    rw [size_alloc, size_alloc] at this
    exact this
  have gb : Below w.heap.size w (((w.alloc (.cells (tabv (wv n st) 8) 195)).alloc (.cells (tabv (bv b) 64) 196)).alloc (.cells (tabv (fun _ => .int .u32 0) 8) 195)) := (((Below.refl w.heap.size w).alloc (Nat.le_refl _) _).alloc (by simp) _).alloc (by simp; omega) _
  refine (words_any n b _).mono ?_
  rintro e w1 ⟨rfl, hb1⟩
  have k0 := g0.below hb1 g0.lt
  have k2 := g2.below hb1 g2.lt
  have kb := gb.trans (hb1.mono gb.size)
  have kG : Glob n w1 := hG.below kb (hG.2.2)
  have hs1 : w.heap.size + 1 + 1 < w1.heap.size := k2.lt
  clear g0 g2 gb HH hb1 hG
  have hn := Has.new w1 229 (fun _ => .int .u32 0) 64 _ rfl
  have HN := hide hn
  clear hn
  go_wp2_with (refine wpList_store_part rfl 229 _ _ rfl rfl w1.heap.size 0 (wv n (words b)) 64 rfl rfl 229 _ 64 HN.out (by omega) info59 (fun _ _ => rfl) (wv n (words b)) (fun i hi => by unfold splice; rw [if_pos (by omega), Nat.sub_zero]) ?_)
  generalize hW : World.setRow (World.alloc w1 _) _ _ = w2
  have j3 : Has w2 w1.heap.size 229 (wv n (words b)) 64 := by rw [← hW]; exact HN.out.row _ _ rfl
  have j0 : Has w2 w.heap.size 195 (wv n st) 8 := by rw [← hW]; exact (k0.old _).row_other _ _ (by omega)
  have j2 : Has w2 (w.heap.size + 1 + 1) 195 (fun _ => .int .u32 0) 8 := by rw [← hW]; exact (k2.old _).row_other _ _ (by omega)
  have jb : Below w.heap.size w w2 := by rw [← hW]; exact below_setRow (kb.alloc (by omega) _) (by omega) _
  have jG : Glob n w2 := by rw [← hW]; exact kG.below (below_setRow ((Below.refl w1.heap.size w1).alloc (Nat.le_refl _) _) (Nat.le_refl _) _) kG.2.2
  clear hW k0 k2 kb kG HN
  generalize w1.heap.size = g3 at hs1 j3 ⊢
  have x0 := j0.cell 0 (by omega)
  have x1 := j0.cell 1 (by omega)
  have x2 := j0.cell 2 (by omega)
  have x3 := j0.cell 3 (by omega)
  have x4 := j0.cell 4 (by omega)
  have x5 := j0.cell 5 (by omega)
  have x6 := j0.cell 6 (by omega)
  have x7 := j0.cell 7 (by omega)
  simp only [wv] at x0 x1 x2 x3 x4 x5 x6 x7
  go_quiet (fail)
  go_wp2
  go_quiet (fail)
  go_wp2
  clear x0 x1 x2 x3 x4 x5 x6 x7
  go_loopw [37, 6, 7, 8, 9, 10, 11, 12, 13] (fun i a0 a1 a2 a3 a4 a5 a6 a7 wr => ∃ k : Nat, k ≤ 64 ∧ i = .int .i64 k ∧ a0 = .int .u32 (n.u (rounds (words b) st k 0)) ∧ a1 = .int .u32 (n.u (rounds (words b) st k 1)) ∧ a2 = .int .u32 (n.u (rounds (words b) st k 2)) ∧ a3 = .int .u32 (n.u (rounds (words b) st k 3)) ∧ a4 = .int .u32 (n.u (rounds (words b) st k 4)) ∧ a5 = .int .u32 (n.u (rounds (words b) st k 5)) ∧ a6 = .int .u32 (n.u (rounds (words b) st k 6)) ∧ a7 = .int .u32 (n.u (rounds (words b) st k 7)) ∧ Has wr g3 229 (wv n (words b)) 64 ∧ Has wr w.heap.size 195 (wv n st) 8 ∧ Has wr (w.heap.size + 1 + 1) 195 (fun _ => .int .u32 0) 8 ∧ Below w.heap.size w wr ∧ Glob n wr) (fun i _ _ _ _ _ _ _ _ _ => 64 - (intOf i).toNat)
  case atStart => exact ⟨0, by omega, rfl, rfl, rfl, rfl, rfl, rfl, rfl, rfl, rfl, j3, j0, j2, below_drewN (below_drewN jb _) _, jG⟩
  case round =>
    clear j3 j0 j2 jb jG
    obtain ⟨k, hk, rfl, rfl, rfl, rfl, rfl, rfl, rfl, rfl, rfl, j3, j0, j2, jb, jG⟩ := hrel
    by_cases hlt : k < 64
    · have cK := jG.1 k hlt
      have cw := j3.cell k hlt
      simp only [wv] at cK cw
      have hd : decide ((k : Int) < 64) = true := by simp; omega
      obtain ⟨R, hR⟩ : ∃ R, rounds (words b) st k = R := ⟨_, rfl⟩
      rw [hR]
      have HR := hide hR
      clear hR
      go_wp2
      go_quiet ((go_at_call 214; exact Calls.quiet_of_same (rot_int n _ _ (by decide) (by decide) _)))
      go_wp2_with (go_at_call 214; go_must (refine (rot_int n _ _ (by decide) (by decide) _).mono ?_); rintro e w' ⟨rfl, rfl⟩)
      go_roundw
      case rel =>
        exact ⟨k + 1, by omega, by go_num, by rw [← HR.out]; first | rfl | (rw [n.add]; rfl) | (rw [n.add, n.add]; rfl), by rw [← HR.out]; first | rfl | (rw [n.add]; rfl) | (rw [n.add, n.add]; rfl), by rw [← HR.out]; first | rfl | (rw [n.add]; rfl) | (rw [n.add, n.add]; rfl), by rw [← HR.out]; first | rfl | (rw [n.add]; rfl) | (rw [n.add, n.add]; rfl), by rw [← HR.out]; first | rfl | (rw [n.add]; rfl) | (rw [n.add, n.add]; rfl), by rw [← HR.out]; first | rfl | (rw [n.add]; rfl) | (rw [n.add, n.add]; rfl), by rw [← HR.out]; first | rfl | (rw [n.add]; rfl) | (rw [n.add, n.add]; rfl), by rw [← HR.out]; first | rfl | (rw [n.add]; rfl) | (rw [n.add, n.add]; rfl), j3, j0, j2, below_drewN jb _, jG⟩
      case measure => simp [intOf]; omega
    · have hk64 : k = 64 := by omega
      subst hk64
      go_wp2
      rw [show ((64 : Nat) : Int) = 64 from rfl]
      rw [eight n (rounds (words b) st 64)]
      obtain ⟨R, hR⟩ : ∃ R, rounds (words b) st 64 = R := ⟨_, rfl⟩
      rw [hR]
      have HR := hide hR
      clear hR
      go_loopw [109] (fun i wr => ∃ k : Nat, k ≤ 8 ∧ i = .int .i64 k ∧ Has wr w.heap.size 195 (wv n (addUp st R k)) 8 ∧ Has wr (w.heap.size + 1 + 1) 195 (fun _ => .int .u32 0) 8 ∧ Below w.heap.size w wr) (fun i _ => 8 - (intOf i).toNat)
      case atStart => exact ⟨0, by omega, rfl, j0.congr _ (fun i _ => by unfold wv addUp; rw [if_neg (by omega)]), j2, jb⟩
      case round =>
        clear j0 j2 jb jG j3
        obtain ⟨k, hk, rfl, j0, j2, jb⟩ := hrel
        by_cases hlt : k < 8
        · have cw := j0.cell k hlt
          have cf := j0.frozen k
          have ca : addUp st R k k = st k := by unfold addUp; rw [if_neg (by omega)]
          simp only [wv, ca] at cw
          have ht := idx43 (wv n R) wr k hlt
          simp only [wv] at ht
          have hd : decide ((k : Int) < 8) = true := by simp; omega
          go_wp2
          go_roundw
          case rel =>
            refine ⟨k + 1, by omega, by go_num, ?_, j2.other _ _ (by simp; omega), jb.setCell (by simp) _⟩
            have := j0.set k (.int .u32 (n.u (st k + R k)))
            rw [wv_upd, addUp_next] at this
            exact this
          case measure => simp [intOf]; omega
        · have hk8 : k = 8 := by omega
          subst hk8
          go_wp2_with (first | refine wpList_load_part rfl 195 _ rfl w.heap.size 0 rfl 195 _ 8 8 _ j0 (by omega) Tryz.underlying195 rfl info43 (wv n (addUp st R 8)) (fun i _ => by rw [Nat.zero_add]) ?_ | refine wpList_store_part rfl 195 _ _ rfl rfl (w.heap.size + 1 + 1) 0 (wv n (addUp st R 8)) 8 rfl rfl 195 _ 8 j2 (by omega) info43 (fun _ _ => rfl) (wv n (addUp st R 8)) (fun i hi => by unfold splice; rw [if_pos (by omega), Nat.sub_zero]) ?_)
          refine bodyPost_ret (results_cell_row rfl _ _ (w.heap.size + 1 + 1) 195 _ (0, 0) _ rfl (j2.row _ _ rfl) Tryz.underlying195 rfl (by rw [tabv_size]; exact info43)) rfl ⟨?_, below_setRow jb (by omega) _⟩
          rw [tabv_congr (wv n (addUp st R 8)) (wv n (turn st b)) 8 (fun i hi => by unfold wv addUp turn; rw [if_pos hi, HR.out])]
end Go.Proofs.YtmmcoedgoekhgaaGreatDoor
