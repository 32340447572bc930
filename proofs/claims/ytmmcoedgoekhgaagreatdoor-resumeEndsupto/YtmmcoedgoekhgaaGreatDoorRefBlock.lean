/-
  The document's block.
-/
import Derived.Test.YtmmcoedgoekhgaaGreatDoorBytesText
namespace Go.Proofs.YtmmcoedgoekhgaaGreatDoor
set_option maxRecDepth 20000
open Go.RowKit S
theorem wpList_builtTo {P : Program} {ops : Array Oper} {rest : List Oper} {o : Oper} {a : Act} {w : World} {Q : Exit → Act → World → Prop} (hg : o.guard = none) (t : TypeId) (parts : Array (Nat × Operand)) (ho : o.op = .build t parts)
    (cells : Array Value) (hf : P.built t (parts.map fun (i, x) => (i, a.eval x)).toList = some cells)
    (h : wpList P ops Q rest (a.put o.dst (.agg cells)) w) : wpList P ops Q (o :: rest) a w := by
  refine wpList_build hg t parts ho (by rw [hf]; rfl) ?_
  rw [hf]
  exact h
theorem wpList_store_arr {P : Program} {ops : Array Oper} {rest : List Oper} {o : Oper} {a : Act} {w : World} {Q : Exit → Act → World → Prop} (hgd : o.guard = none) (ty : TypeId) (x y : Operand) (ho : o.op = .store ty x y) (hd : o.dst = none)
    (g of : Nat) (h : Nat → Value) (m : Nat) (hx : a.eval x = .pointer (some ⟨g, of, none⟩)) {cs : Array Value} (hy : a.eval y = .agg cs) (hcs : cs = tabv h m)
    (t : TypeId) (f : Nat → Value) (M : Nat) (hg : Has w g t f M) (hm : of + m ≤ M) (hi : (P.info? ty).map (·.size) = some m)
    (h1 : ∀ i, i < m → (h i).oneCell' = true) (f' : Nat → Value) (hf : ∀ i, i < M → splice f of h m i = f' i)
    (hk : wpList P ops Q rest a (w.setRow g (tabv f' M))) : wpList P ops Q (o :: rest) a w :=
  wpList_store_part hgd ty x y ho hd g of h m hx (by rw [hy, hcs]) t f M hg hm hi h1 f' hf hk
set_option maxHeartbeats 800000 in
set_option maxRecDepth 100000 in
theorem refRounds_any (n : Num) (w : World) : Calls Tryz.prog 195 #[] w fun e w' => e = .returned (.agg (tabv (wv n K) 64)) ∧ Below w.heap.size w w' := by
  have hn := Has.new w 229 (fun _ => .int .u32 0) 64 _ rfl
  have HN := hide hn
  clear hn
  go_enter Tryz.func195, Tryz.ntmps195
  go_wp2_with (first | refine wpList_builtTo rfl 229 _ rfl (tabv (fun i => .int .u32 ((K i).toNat : Int)) 64) (by kernel_rfl) ?_ | refine wpList_store_part rfl 229 _ _ rfl rfl w.heap.size 0 (fun i => .int .u32 ((K i).toNat : Int)) 64 rfl rfl 229 _ 64 HN.out (by omega) info59 (fun _ _ => rfl) (wv n K) (fun i hi => by unfold splice; rw [if_pos (by omega), Nat.sub_zero]; unfold wv; rw [n.eq]) ?_)
  exact bodyPost_ret (results_cell_row rfl _ _ w.heap.size 229 _ (0, 0) _ rfl (HN.out.row _ _ rfl) Tryz.underlying229 rfl (by rw [tabv_size]; exact info59)) rfl ⟨rfl, below_setRow ((Below.refl _ _).alloc (Nat.le_refl _) _) (Nat.le_refl _) _⟩
attribute [local go_sem] Num.not' Num.shr3 Num.shr10 Num.shl Num.shr Num.or Num.xor Num.and Num.add Num.not
set_option maxRecDepth 100000 in
set_option maxHeartbeats 1600000 in
theorem refBlock_any (n : Num) (h : Nat → BitVec 32) (B gp len cap : Nat) (l : List UInt8) (p : Nat) (w : World) (hB : Bytes w B (.slice (some ⟨gp, 0, none⟩) len cap) l) (hlen : len = l.length) (hp : p + 64 ≤ l.length) (hl : l.length ≤ 140737488355328) :
    Calls Tryz.prog 169 #[.agg (tabv (wv n h) 8), .slice (some ⟨gp, 0, none⟩) len cap, .int .i64 (p : Int)] w fun e w' => e = .returned (.agg (tabv (wv n (turn h (fun i => byteAt l (p + i)))) 8)) ∧ Below w.heap.size w w' := by
  obtain ⟨b, hbf⟩ : ∃ b : Nat → UInt8, (fun i => byteAt l (p + i)) = b := ⟨_, rfl⟩
  have hcell : ∀ i, i < 64 → w.cell? ⟨gp, p + i, none⟩ = some (.int .u8 ((b i).toNat : Int)) := fun i hi => by
    rw [hB.cells (p + i) (by omega), ← hbf]; rfl
  have hgp : gp < w.heap.size := (World.ownsRow.lt hB gp rfl).2
  rw [hbf]
  clear hB hbf
  go_enter Tryz.func169, Tryz.ntmps169
  go_wp2_with fail
  have g0 : Has ((w.alloc (.cells (tabv (wv n h) 8) 195)).alloc (.cells (tabv (fun _ => .int .u32 0) 8) 195)) w.heap.size 195 (wv n h) 8 := (Has.new w 195 (wv n h) 8 _ rfl).old _
  have g1 : Has ((w.alloc (.cells (tabv (wv n h) 8) 195)).alloc (.cells (tabv (fun _ => .int .u32 0) 8) 195)) (w.heap.size + 1) 195 (fun _ => .int .u32 0) 8 := by
    have := Has.new (w.alloc (.cells (tabv (wv n h) 8) 195)) 195 (fun _ => .int .u32 0) 8 _ rfl
    rw [size_alloc] at this
    exact this
  have gb : Below w.heap.size w ((w.alloc (.cells (tabv (wv n h) 8) 195)).alloc (.cells (tabv (fun _ => .int .u32 0) 8) 195)) := ((Below.refl w.heap.size w).alloc (Nat.le_refl _) _).alloc (by simp) _
  refine (refRounds_any n _).mono ?_
  rintro e w1 ⟨rfl, hb1⟩
  have k0 := g0.below hb1 g0.lt
  have k1 := g1.below hb1 g1.lt
  have kb := gb.trans (hb1.mono gb.size)
  have hs1 : w.heap.size + 1 < w1.heap.size := k1.lt
  clear g0 g1 gb hb1
  have hn := Has.new w1 229 (fun _ => .int .u32 0) 64 _ rfl
  have HN := hide hn
  clear hn
  go_wp2_with (refine wpList_store_part rfl 229 _ _ rfl rfl w1.heap.size 0 (wv n K) 64 rfl rfl 229 _ 64 HN.out (by omega) info59 (fun _ _ => rfl) (wv n K) (fun i hi => by unfold splice; rw [if_pos (by omega), Nat.sub_zero]) ?_)
  generalize hW : World.alloc (World.setRow (World.alloc w1 _) _ _) _ = w3
  have j3 : Has w3 w1.heap.size 229 (wv n K) 64 := by rw [← hW]; exact (HN.out.row _ _ rfl).old _
  have j4 : Has w3 (w1.heap.size + 1) 229 (wv n (wup b 0)) 64 := by
    rw [← hW]
    have := (Has.new ((w1.alloc (.cells (tabv (fun _ => .int .u32 0) 64) 229)).setRow w1.heap.size (tabv (wv n K) 64)) 229 (fun _ => .int .u32 0) 64 _ rfl).congr (wv n (wup b 0)) (fun i _ => by unfold wv wup; rw [if_neg (by omega), n.zero])
    rw [size_setRow, size_alloc] at this
    exact this
  have j0 : Has w3 w.heap.size 195 (wv n h) 8 := by rw [← hW]; exact ((k0.old _).row_other _ _ (by omega)).old _
  have j1 : Has w3 (w.heap.size + 1) 195 (fun _ => .int .u32 0) 8 := by rw [← hW]; exact ((k1.old _).row_other _ _ (by omega)).old _
  have jb : Below w.heap.size w w3 := by rw [← hW]; exact (below_setRow (kb.alloc (by omega) _) (by omega) _).alloc (by simp; omega) _
  clear hW HN k0 k1 kb
  generalize w1.heap.size = g3 at hs1 j3 j4 ⊢
  go_loopw [9] (fun i wr => ∃ k : Nat, k ≤ 16 ∧ i = .int .i64 k ∧ Has wr g3 229 (wv n K) 64 ∧ Has wr (g3 + 1) 229 (wv n (wup b k)) 64 ∧ Has wr w.heap.size 195 (wv n h) 8 ∧ Has wr (w.heap.size + 1) 195 (fun _ => .int .u32 0) 8 ∧ Below w.heap.size w wr) (fun i _ => 16 - (intOf i).toNat)
  case atStart => exact ⟨0, by omega, rfl, j3, j4, j0, j1, jb⟩
  case round =>
    clear j3 j4 j0 j1 jb
    obtain ⟨k, hk, rfl, j3, j4, j0, j1, jb⟩ := hrel
    by_cases hlt : k < 16
    · have cc : ∀ i, i < 64 → wr.cell? ⟨gp, p + i, none⟩ = some (.int .u8 ((b i).toNat : Int)) := fun i hi => by
        rw [World.cell?_of_block (w := w) (jb.block gp hgp)]; exact hcell i hi
      have c0 := cc (4 * k) (by omega)
      have c1 := cc (4 * k + 1) (by omega)
      have c2 := cc (4 * k + 2) (by omega)
      have c3 := cc (4 * k + 3) (by omega)
      rw [← Nat.add_assoc] at c1 c2 c3
      clear cc
      have cw := j4.cell k (by omega)
      have cf := j4.frozen k
      simp only [wv] at cw
      have hd : decide ((k : Int) < 16) = true := by simp; omega
      have HC := hide hcell
      clear hcell
      go_wp2
      refine wp_region_drew_tail 31 (by kernel_rfl) (by kernel_rfl) ?_
      simp only [List.take_succ_cons, List.take_zero, List.drop_succ_cons, List.drop_zero]
      repeat (go_big_quiet_step (fail))
      refine wpQuiet_nil ?_
      intro _ hw'
      obtain ⟨nq, rfl⟩ := hw'
      go_wp2
      go_roundw
      case rel =>
        refine ⟨k + 1, by omega, by go_num, (j3.drewN nq).other _ _ (by simp), ?_, (j0.drewN nq).other _ _ (by simp; omega), (j1.drewN nq).other _ _ (by simp; omega), (below_drewN jb nq).setCell (by simp; omega) _⟩
        have := (j4.drewN nq).set k (.int .u32 (n.u (word b k)))
        rw [wv_upd, wup_next] at this
        rw [word_num n]
        exact this
      case measure => simp [intOf]; omega
    · have hk16 : k = 16 := by omega
      subst hk16
      go_wp2
      rw [show ((16 : Nat) : Int) = 16 from rfl]
      go_loopw [11] (fun i wr => ∃ t : Nat, 16 ≤ t ∧ t ≤ 64 ∧ i = .int .i64 t ∧ Has wr g3 229 (wv n K) 64 ∧ Has wr (g3 + 1) 229 (wv n (grown (wup b 16) (t - 16))) 64 ∧ Has wr w.heap.size 195 (wv n h) 8 ∧ Has wr (w.heap.size + 1) 195 (fun _ => .int .u32 0) 8 ∧ Below w.heap.size w wr) (fun i _ => 64 - (intOf i).toNat)
      case atStart => exact ⟨16, by omega, by omega, rfl, j3, j4, j0, j1, jb⟩
      case round =>
        clear j3 j4 j0 j1 jb
        obtain ⟨t, ht0, ht, rfl, j3, j4, j0, j1, jb⟩ := hrel
        by_cases hlt : t < 64
        · have c0 := j4.cell (t - 16) (by omega)
          have c1 := j4.cell (t - 15) (by omega)
          have c2 := j4.cell (t - 2) (by omega)
          have c3 := j4.cell (t - 7) (by omega)
          have cw := j4.cell t (by omega)
          have cf := j4.frozen t
          simp only [wv] at c0 c1 c2 c3 cw
          have hd : decide ((t : Int) < 64) = true := by simp; omega
          go_wp2
          refine wp_region_drew_tail 29 (by kernel_rfl) (by kernel_rfl) ?_
          simp only [List.take_succ_cons, List.take_zero, List.drop_succ_cons, List.drop_zero]
          repeat (go_big_quiet_step ((go_at_call 196; exact Calls.quiet_of (refRot_int n _ _ (by decide) (by decide) _))))
          refine wpQuiet_nil ?_
          intro _ hw'
          obtain ⟨nq, rfl⟩ := hw'
          go_wp2
          go_roundw
          case rel =>
            refine ⟨t + 1, by omega, by omega, by go_num, (j3.drewN nq).other _ _ (by simp), ?_, (j0.drewN nq).other _ _ (by simp; omega), (j1.drewN nq).other _ _ (by simp; omega), (below_drewN jb nq).setCell (by simp; omega) _⟩
            have := (j4.drewN nq).set t (.int .u32 (n.u (grown (wup b 16) (t - 16) (t - 16) + s0 (grown (wup b 16) (t - 16) (t - 15)) + grown (wup b 16) (t - 16) (t - 7) + s1 (grown (wup b 16) (t - 16) (t - 2)))))
            rw [wv_upd] at this
            have e : upd (grown (wup b 16) (t - 16)) t (grown (wup b 16) (t - 16) (t - 16) + s0 (grown (wup b 16) (t - 16) (t - 15)) + grown (wup b 16) (t - 16) (t - 7) + s1 (grown (wup b 16) (t - 16) (t - 2))) = grown (wup b 16) (t + 1 - 16) := by
              obtain ⟨j, rfl⟩ : ∃ j, t = 16 + j := ⟨t - 16, by omega⟩
              rw [show 16 + j + 1 - 16 = j + 1 by omega, show 16 + j - 16 = j by omega, show 16 + j - 15 = j + 1 by omega, show 16 + j - 7 = j + 9 by omega, show 16 + j - 2 = j + 14 by omega]
              rfl
            rw [e] at this
            exact this
          case measure => simp [intOf]; omega
        · have ht64 : t = 64 := by omega
          subst ht64
          have hnew := Has.new wr 195 (fun _ => .int .u32 0) 8 _ rfl
          have HN := hide hnew
          clear hnew
          have hgr : g3 + 1 < wr.heap.size := j4.lt
          go_wp2_with (first | refine wpList_load_part rfl 195 _ rfl w.heap.size 0 rfl 195 _ 8 8 _ j0 (by omega) Tryz.underlying195 rfl info43 (wv n h) (fun i _ => by rw [Nat.zero_add]) ?_ | refine wpList_store_part rfl 195 _ _ rfl rfl wr.heap.size 0 (wv n h) 8 rfl rfl 195 _ 8 HN.out (by omega) info43 (fun _ _ => rfl) (wv n h) (fun i hi => by unfold splice; rw [if_pos (by omega), Nat.sub_zero]) ?_)
          generalize hW : World.setRow (World.alloc wr _) _ _ = w4
          have i5 : Has w4 wr.heap.size 195 (wv n (rounds (words b) h 0)) 8 := by rw [← hW]; exact HN.out.row _ _ rfl
          have i3 : Has w4 g3 229 (wv n K) 64 := by rw [← hW]; exact (j3.old _).row_other _ _ (by omega)
          have i4 : Has w4 (g3 + 1) 229 (wv n (words b)) 64 := by rw [← hW]; exact (j4.old _).row_other _ _ (by omega)
          have i0 : Has w4 w.heap.size 195 (wv n h) 8 := by rw [← hW]; exact (j0.old _).row_other _ _ (by omega)
          have i1 : Has w4 (w.heap.size + 1) 195 (fun _ => .int .u32 0) 8 := by rw [← hW]; exact (j1.old _).row_other _ _ (by omega)
          have ib : Below w.heap.size w w4 := by rw [← hW]; exact below_setRow (jb.alloc (by omega) _) (by omega) _
          clear hW HN j3 j4 j0 j1 jb
          generalize wr.heap.size = g5 at hgr i5 ⊢
          try rw [show ((64 : Nat) : Int) = 64 from rfl]
          go_loopw [15] (fun i wr => ∃ k : Nat, k ≤ 64 ∧ i = .int .i64 k ∧ Has wr g5 195 (wv n (rounds (words b) h k)) 8 ∧ Has wr g3 229 (wv n K) 64 ∧ Has wr (g3 + 1) 229 (wv n (words b)) 64 ∧ Has wr w.heap.size 195 (wv n h) 8 ∧ Has wr (w.heap.size + 1) 195 (fun _ => .int .u32 0) 8 ∧ Below w.heap.size w wr) (fun i _ => 64 - (intOf i).toNat)
          case atStart => exact ⟨0, by omega, rfl, i5, i3, i4, i0, i1, ib⟩
          case round =>
            clear i5 i3 i4 i0 i1 ib
            obtain ⟨k, hk, rfl, i5, i3, i4, i0, i1, ib⟩ := hrel
            by_cases hlt : k < 64
            · have cK := i3.cell k hlt
              have cw := i4.cell k hlt
              simp only [wv] at cK cw
              have hd : decide ((k : Int) < 64) = true := by simp; omega
              have hR1 : rounds (words b) h (k + 1) = round (K k) (words b k) (rounds (words b) h k) := rfl
              obtain ⟨R, hR⟩ : ∃ R, rounds (words b) h k = R := ⟨_, rfl⟩
              rw [hR] at i5 hR1
              have x0 := i5.cell 0 (by omega)
              have x1 := i5.cell 1 (by omega)
              have x2 := i5.cell 2 (by omega)
              have x3 := i5.cell 3 (by omega)
              have x4 := i5.cell 4 (by omega)
              have x5 := i5.cell 5 (by omega)
              have x6 := i5.cell 6 (by omega)
              have x7 := i5.cell 7 (by omega)
              simp only [wv] at x0 x1 x2 x3 x4 x5 x6 x7
              have HR := hide hR1
              have HI := hide i5
              clear hR hR1 i5
              go_wp2
              go_quiet ((go_at_call 196; exact Calls.quiet_of (refRot_int n _ _ (by decide) (by decide) _)))
              go_wp2
              obtain ⟨wq, hwq⟩ : ∃ wq, wr.drewN nq = wq := ⟨_, rfl⟩
              have hcw : ∀ a, wq.cell? a = wr.cell? a := fun a => by rw [← hwq]; rfl
              rw [← hcw] at x0 x1 x2 x3 x4 x5 x6 x7 cK cw
              have hH5 : Has wq g5 195 (wv n R) 8 := by rw [← hwq]; exact HI.out
              have i3q : Has wq g3 229 (wv n K) 64 := by rw [← hwq]; exact i3
              have i4q : Has wq (g3 + 1) 229 (wv n (words b)) 64 := by rw [← hwq]; exact i4
              have i0q : Has wq w.heap.size 195 (wv n h) 8 := by rw [← hwq]; exact i0
              have i1q : Has wq (w.heap.size + 1) 195 (fun _ => .int .u32 0) 8 := by rw [← hwq]; exact i1
              have ibq : Below w.heap.size w wq := by rw [← hwq]; exact below_drewN ib nq
              rw [hwq]
              have HQ := hide hH5
              clear hcw hwq hH5 HI i3 i4 i0 i1 ib nq
              go_quiet ((go_at_call 196; exact Calls.quiet_of (refRot_int n _ _ (by decide) (by decide) _)))
              go_wp2_with (refine wpList_store_arr rfl 195 _ _ rfl rfl g5 0 (wv n (round (K k) (words b k) R)) 8 rfl rfl (by first | rfl | (simp only [n.add]; rfl)) 195 _ 8 (HQ.out.drewN _) (by omega) info43 (fun _ _ => rfl) (wv n (round (K k) (words b k) R)) (fun i hi => by unfold splice; rw [if_pos (by omega), Nat.sub_zero]) ?_)
              go_roundw
              case rel =>
                refine ⟨k + 1, by omega, by go_num, ?_, (i3q.drewN nq).row_other _ _ (by omega), (i4q.drewN nq).row_other _ _ (by omega), (i0q.drewN nq).row_other _ _ (by omega), (i1q.drewN nq).row_other _ _ (by omega), below_setRow (below_drewN ibq nq) (by omega) _⟩
                rw [HR.out]
                exact (HQ.out.drewN nq).row _ _ rfl
              case measure => simp [intOf]; omega
            · have hk64 : k = 64 := by omega
              subst hk64
              go_wp2
              rw [show ((64 : Nat) : Int) = 64 from rfl]
              obtain ⟨R, hR⟩ : ∃ R, rounds (words b) h 64 = R := ⟨_, rfl⟩
              rw [hR] at i5
              have HR := hide hR
              clear hR i3 i4
              go_loopw [20] (fun i wr => ∃ k : Nat, k ≤ 8 ∧ i = .int .i64 k ∧ Has wr g5 195 (wv n (addUp R h k)) 8 ∧ Has wr w.heap.size 195 (wv n h) 8 ∧ Has wr (w.heap.size + 1) 195 (fun _ => .int .u32 0) 8 ∧ Below w.heap.size w wr) (fun i _ => 8 - (intOf i).toNat)
              case atStart => exact ⟨0, by omega, rfl, i5.congr _ (fun i _ => by unfold wv addUp; rw [if_neg (by omega)]), i0, i1, ib⟩
              case round =>
                clear i5 i0 i1 ib
                obtain ⟨k, hk, rfl, i5, i0, i1, ib⟩ := hrel
                by_cases hlt : k < 8
                · have cw := i5.cell k hlt
                  have cf := i5.frozen k
                  have ca : addUp R h k k = R k := by unfold addUp; rw [if_neg (by omega)]
                  simp only [wv, ca] at cw
                  have ch := i0.cell k hlt
                  simp only [wv] at ch
                  have hd : decide ((k : Int) < 8) = true := by simp; omega
                  go_wp2
                  refine wp_region_drew_tail 9 (by kernel_rfl) (by kernel_rfl) ?_
                  simp only [List.take_succ_cons, List.take_zero, List.drop_succ_cons, List.drop_zero]
                  repeat (go_big_quiet_step (fail))
                  refine wpQuiet_nil ?_
                  intro _ hw'
                  obtain ⟨nq, rfl⟩ := hw'
                  go_wp2
                  go_roundw
                  case rel =>
                    refine ⟨k + 1, by omega, by go_num, ?_, (i0.drewN nq).other _ _ (by simp; omega), (i1.drewN nq).other _ _ (by simp; omega), (below_drewN ib nq).setCell (by simp; omega) _⟩
                    have := (i5.drewN nq).set k (.int .u32 (n.u (R k + h k)))
                    rw [wv_upd, addUp_next] at this
                    exact this
                  case measure => simp [intOf]; omega
                · have hk8 : k = 8 := by omega
                  subst hk8
                  go_wp2_with (first | refine wpList_load_part rfl 195 _ rfl g5 0 rfl 195 _ 8 8 _ i5 (by omega) Tryz.underlying195 rfl info43 (wv n (addUp R h 8)) (fun i _ => by rw [Nat.zero_add]) ?_ | refine wpList_store_part rfl 195 _ _ rfl rfl (w.heap.size + 1) 0 (wv n (addUp R h 8)) 8 rfl rfl 195 _ 8 i1 (by omega) info43 (fun _ _ => rfl) (wv n (addUp R h 8)) (fun i hi => by unfold splice; rw [if_pos (by omega), Nat.sub_zero]) ?_)
                  refine bodyPost_ret (results_cell_row rfl _ _ (w.heap.size + 1) 195 _ (0, 0) _ rfl (i1.row _ _ rfl) Tryz.underlying195 rfl (by rw [tabv_size]; exact info43)) rfl ⟨?_, below_setRow ib (by omega) _⟩
                  rw [tabv_congr (wv n (addUp R h 8)) (wv n (turn h b)) 8 (fun i hi => by unfold wv addUp turn; rw [if_pos hi, HR.out, BitVec.add_comm])]
end Go.Proofs.YtmmcoedgoekhgaaGreatDoor
