/-
  readApart (printed by gen_r27.py).
-/
import Derived.Test.YtlohfoggcdaeiaaGreatRStepM
import Derived.Test.YtlohfoggcdaeiaaGreatROpenA
import Derived.Test.YtlohfoggcdaeiaaGreatRKeep2
import Derived.Deep.DeepCutAuto
import Derived.Deep.Cut
import Derived.Deep.CutRange
namespace Go.Proofs.YtlohfoggcdaeiaaGreat
open Go.RowKit S
set_option linter.unusedVariables false
set_option linter.unusedSimpArgs false
open Cu (nb be hl ofL CW Mw CR Mr RS takeS takeA hOf nil8 doneS)
section
variable {ops : Array Oper} {rest : List Oper} {o : Oper} {a : Act} {w : World} {Q : Exit → Act → World → Prop}
theorem wpW_sliceK (hw : Region.wanted o (yielded ops a.tmps) = true) (x h : Operand) (ho : o.op = .slice 27 x none (some h) none) (ad : Option Addr) (n cap k : Nat) (hx : a.eval x = .slice ad n cap) (hh : a.eval h = .int .i64 (k : Int)) (hk : k ≤ cap)
    (kk : wpList Tryz.prog ops Q rest (a.put o.dst (.slice ad k cap)) w) : wpList Tryz.prog ops Q (o :: rest) a w := by
  refine wpList_step fun K hK => ?_
  rw [if_pos hw]
  unfold Oper.wp execOp
  simp only [ho, hx, hh, Option.map_some, Option.map_none, sliceK w ad n cap k hk, Sem.run_bind, Sem.run_pure, Result.andThen_ok]
  exact hK _ _ kk
end
def uI (i : Int) : Upd := ⟨1, i, 1, fun _ => 0, nilB⟩
def uK (k : Int) : Upd := ⟨k, 0, 0, fun _ => 0, nilB⟩
def ups (m : Nat) : List Upd := (List.range m).map fun i : Nat => uI (i : Int)
theorem ups_len (m : Nat) : (ups m).length = m := by unfold ups; simp
theorem ups_next (m : Nat) : ups (m + 1) = ups m ++ [uI (m : Int)] := by unfold ups; rw [List.range_succ, List.map_append]; rfl
theorem ups_valid (m : Nat) (hm : m ≤ 7) : (ups m).all validB = true := by
  rw [List.all_eq_true]
  intro u hu
  obtain ⟨i, hi, rfl⟩ := List.mem_map.1 hu
  have hi := List.mem_range.1 hi
  have : ∀ i : Nat, i < 7 → validB (uI (i : Int)) = true := by decide +kernel
  exact this i (by omega)
def r3 (x : Sl) : Rc := ⟨3, Upd.zero, x, 1, 0, 0, z32, z32, z32, 0⟩
theorem r3_set (x y : Sl) : setU (r3 x) y = r3 y := rfl
theorem r3_valid (x : Sl) (m : Nat) (hm : m ≤ 7) (hx : x.n = m) : validR (r3 x) (ups m) = true := by
  unfold validR
  have h1 : isRec (r3 x).kind = true := rfl
  have h2 : bareB (strip (r3 x)) = true := by
    have e : strip (r3 x) = ⟨3, Upd.zero, nilS, 0, 0, 0, z32, z32, z32, 0⟩ := rfl
    rw [e]
    unfold bareB
    simp [eqU_refl, eqH_refl, nilS]
  have h3 : ownV (r3 x) (ups m) = true := by
    have e : ownV (r3 x) (ups m) = (idxB 1 && (decide (x.n ≤ 512) && (ups m).all validB)) := rfl
    rw [e, ups_valid m hm, decide_eq_true (by omega)]
    rfl
  rw [h1, h2, h3]
  rfl
set_option maxRecDepth 100000 in
theorem builtUI (i : Int) : Tryz.prog.built 36 [(0, .int .i64 1), (1, .int .i64 i), (2, .int .i64 1)] = some (tabv (uI i).v 36) := by kernel_rfl
set_option maxRecDepth 100000 in
theorem builtUK (k : Int) : Tryz.prog.built 36 [(0, .int .i64 k)] = some (tabv (uK k).v 36) := by kernel_rfl
set_option maxRecDepth 100000 in
theorem builtR3 (x : Sl) : Tryz.prog.built 38 [(0, .int .i64 3), (3, .int .i64 1), (2, .slice x.ad x.n x.c)] = some (tabv (r3 x).v 138) := by kernel_rfl
/-- What Read tells of the record's bytes, and where its updates lie. -/
theorem read_r3 (y : Sl) (m : Nat) (hm : m ≤ 7) (hy : y.n = m) (w : World) : Calls Tryz.prog 12 #[.string (ofL (bytesR (r3 y) (ups m)))] w fun e w' => (∃ (x : Sl) (n : Nat), e = .returned (.tuple #[.agg (tabv (r3 x).v 138), .int .i64 (n : Int), .int .i64 0]) ∧ OwnU w.heap.size w' x.v (ups m)) ∧ Below w.heap.size w w' := by
  have hv := r3_valid y m hm hy
  have hn : (ups m).length = (r3 y).upds.n := by rw [ups_len]; exact hy.symm
  obtain ⟨v, vs, hS, hR⟩ := rd_back hv hn []
  rw [List.append_nil] at hR
  have hA := sameR_all hS hv hn
  have hl := bytesR_len hv hn
  have RD := rcread_any (ofL (bytesR (r3 y) (ups m))) w (by rw [Cu.ofL_size]; omega)
  rw [hR] at RD
  refine RD.mono ?_
  rintro e w' ⟨⟨x, rfl, hO⟩, hb⟩
  refine ⟨⟨x, (bytesR (r3 y) (ups m)).length, ?_, OwnU.congr hO hA.2.2.2.2.2.2.2.2.2⟩, hb⟩
  rw [allR_tab hA x]
  rfl
set_option maxRecDepth 100000 in
set_option maxHeartbeats 40000000 in
theorem readApart_yes [Inhabited S.Tbl] (n : Nat) (hn : n ≤ 140737488351232) (w : World) (hG : Glob num w) : Calls Tryz.prog 15 #[.int .i64 (n : Int)] w fun e w' => e = .returned (.bool true) ∧ Below w.heap.size w w' := by
  have hni : (n : Int) ≤ 140737488351232 := by omega
  obtain ⟨c, hc⟩ : ∃ c, n % 7 = c := ⟨_, rfl⟩
  have hc6 : c ≤ 6 := by omega
  have hR : (n : Int).tmod 7 = (c : Int) := by rw [Int.tmod_eq_emod_of_nonneg (by omega)]; omega
  have hci : (c : Int) ≤ 6 := by omega
  have h2 := hG.2.2
  clear hc
  go_enter Tryz.func15, Tryz.ntmps15
  go_wp2
  go_loopw [3, 4] (fun v i wr => ∃ (j : Nat) (y : Sl), j ≤ c + 1 ∧ i = .int .i64 (j : Int) ∧ v = .slice y.ad y.n y.c ∧ OwnU w.heap.size wr y.v (ups j) ∧ Below w.heap.size w wr) (fun _ i _ => c + 1 - (intOf i).toNat)
  case atStart => exact ⟨0, nilS, Nat.zero_le _, rfl, rfl, OwnU.nil _ _, Below.refl _ _⟩
  case round =>
    obtain ⟨j, y, hj, rfl, rfl, hO, hB⟩ := hrel
    by_cases hjc : j < c + 1
    · have hd : decide ((j : Int) < (c : Int) + 1) = true := decide_eq_true (by omega)
      obtain ⟨v9, w8, w9, RS, RA, O9, gr9, bl9, own9, hw8⟩ := appU_at wr w.heap.size y.v (ups j) (uI (j : Int)) hO (by rw [ups_len]; omega) hB.size
      obtain ⟨x9, rfl⟩ := slOf O9
      have RSH := hide RS
      have RAH : Hid ((Builtin.append_ #[27, 27] 27 #[.slice y.ad y.n y.c, .slice (some ⟨wr.heap.size, 0, none⟩) 1 1]).run Tryz.prog w8 = .ok (.slice x9.ad x9.n x9.c) w9) := RA
      have O9 : Hid (OwnU w.heap.size w9 x9.v (ups (j + 1))) := by show OwnU _ _ _ _; rw [ups_next]; exact O9
      have B9 : Below w.heap.size w w9 := hB.trans bl9
      have hj7 : (j : Int) ≤ 7 := by omega
      clear RS RA gr9 bl9 own9 hw8 hO hB
      go_wp2_with (first | refine wpW_build (by rfl) 36 #[(0, .const (.int .i64 1)), (1, .tmp 25), (2, .const (.int .i64 1))] rfl [(0, .int .i64 1), (1, .int .i64 (j : Int)), (2, .int .i64 1)] (by first | rfl | (simp [Act.eval, Act.put]; done)) _ (builtUI (j : Int)) ?_ | refine wpList_slice1 rfl 27 _ rfl (.agg (tabv (uI (j : Int)).v 36)) rfl RSH.out ?_ | refine wpList_app rfl _ _ _ rfl RAH.out ?_ | fail)
      go_roundw
      case rel => exact ⟨j + 1, x9, by omega, by go_num, rfl, O9.out, B9⟩
      case measure => simp [intOf]; omega
    · obtain rfl : j = c + 1 := by omega
      have hd : decide (((c + 1 : Nat) : Int) < (c : Int) + 1) = false := decide_eq_false (by omega)
      have hyn := (OwnU.sl hO).1
      rw [ups_len] at hyn
      have hO0 := hide hO
      clear hO hjc hj
      obtain ⟨m, hm⟩ : ∃ m, c + 1 = m := ⟨_, rfl⟩
      rw [hm] at hyn hO0 hd ⊢
      have hm7 : m ≤ 7 := by omega
      have hm1 : 1 ≤ m := by omega
      have hd : decide ((m : Int) < (c : Int) + 1) = false := decide_eq_false (by omega)
      have hcm : (c : Int) + 1 = (m : Int) := by omega
      have hval := r3_valid y m hm7 hyn.symm
      have WR := rcwrite_any (r3 y) (ups m) (by rw [ups_len]; exact hyn) wr (OwnU.sl hO0.out).2.1
      rw [show wrS (r3 y) (ups m) = ofL (bytesR (r3 y) (ups m)) by unfold wrS; rw [if_pos hval], show wrE (r3 y) (ups m) = 0 by unfold wrE; rw [if_pos hval]] at WR
      have WR := hide WR
      have RD := hide (fun wx : World => read_r3 y m hm7 hyn.symm wx)
      obtain ⟨BB, hBB⟩ : ∃ X, ofL (bytesR (r3 y) (ups m)) = X := ⟨_, rfl⟩
      rw [hBB] at WR RD
      clear hBB hval hm
      have hd2 : decide ((m : Int) < (m : Int)) = false := decide_eq_false (by omega)
      go_wp2_with (first | refine wpW_build (by rfl) 38 #[(0, .const (.int .i64 3)), (3, .const (.int .i64 1)), (2, .tmp 30)] rfl [(0, .int .i64 3), (3, .int .i64 1), (2, .slice y.ad y.n y.c)] (by first | rfl | (simp [Act.eval, Act.put]; done)) _ (builtR3 y) ?_ | fail)
      refine WR.out.mono ?_
      rintro e w2 ⟨rfl, hb2⟩
      have B2 : Below w.heap.size w w2 := hB.trans (hb2.mono hB.size)
      have O2 := hO0.out.below hb2 (Nat.le_refl _)
      have BL2 : w.heap.size ≤ w2.heap.size := B2.size
      clear WR hO0 hb2 hR hcm
      go_wp2_with fail
      refine (RD.out w2).mono ?_
      rintro e wq1 ⟨⟨x1, nn1, rfl, hX1⟩, hbq1⟩
      obtain ⟨wn1, ws1, hWn1, qn1, hWs1, qs1, bs1⟩ := newRc wq1 (r3 x1)
      have Qn1 := hide qn1
      have bz1 : Below w2.heap.size w2 ws1 := hbq1.trans (bs1.mono hbq1.size)
      go_upto_region 8 with (first | rw [hWs1] | (go_big_may; first | refine wpList_storeRc rfl _ _ rfl rfl (wq1.heap.size) (r3 x1) rfl rfl _ Qn1.out ?_) | fail)
      try rw [hWs1]
      generalize hg1 : wq1.heap.size = g7 at qs1 ⊢
      have O3 := O2.below bz1 (Nat.le_refl _)
      have X3 := hX1.below bs1 (Nat.le_refl _)
      have B3 : Below w.heap.size w ws1 := B2.trans (bz1.mono B2.size)
      have l1 : w2.heap.size ≤ g7 := by rw [← hg1]; exact hbq1.size
      have l2 : ∀ k, x1.v.ownBlock = some k → w2.heap.size ≤ k ∧ k < g7 := fun k hk => by rw [← hg1]; exact hX1.lt k hk
      have l0 : ∀ k, y.v.ownBlock = some k → k < w2.heap.size := fun k hk => (O2.lt k hk).2
      have Q7 := hide qs1
      clear hWn1 hWs1 Qn1 qn1 qs1 hX1 hbq1 bs1 bz1 O2 B2 hg1
      go_wp2_with fail
      refine (RD.out ws1).mono ?_
      rintro e wq2 ⟨⟨x2, nn2, rfl, hX2⟩, hbq2⟩
      obtain ⟨wn2, ws2, hWn2, qn2, hWs2, qs2, bs2⟩ := newRc wq2 (r3 x2)
      have Qn2 := hide qn2
      have bz2 : Below ws1.heap.size ws1 ws2 := hbq2.trans (bs2.mono hbq2.size)
      go_upto_region 9 with (first | rw [hWs2] | (go_big_may; first | refine wpList_storeRc rfl _ _ rfl rfl (wq2.heap.size) (r3 x2) rfl rfl _ Qn2.out ?_) | fail)
      try rw [hWs2]
      generalize hg2 : wq2.heap.size = g10 at qs2 ⊢
      have O4 := O3.below bz2 (Nat.le_refl _)
      have X4 := X3.below bz2 (Nat.le_refl _)
      have Y4 := hX2.below bs2 (Nat.le_refl _)
      have B4 : Below w.heap.size w ws2 := B3.trans (bz2.mono B3.size)
      have Q7' := hide (Q7.out.below bz2 Q7.out.lt)
      have l3 : g7 < ws1.heap.size := Q7.out.lt
      have l4 : ws1.heap.size ≤ g10 := by rw [← hg2]; exact hbq2.size
      have l5 : ∀ k, x2.v.ownBlock = some k → ws1.heap.size ≤ k ∧ k < g10 := fun k hk => by rw [← hg2]; exact hX2.lt k hk
      have Q10 := hide qs2
      have RW : Rws w.heap.size ws2 [.u y (ups m), .u x1 (ups m), .u x2 (ups m)] [g7, g10] := by
        have a1 : g7 < ws2.heap.size := Q7'.out.lt
        have a2 : g10 < ws2.heap.size := Q10.out.lt
        have a3 := B4.size
        refine ⟨fun i r hr => ?_, fun i j r q hi hj hne k hk hk2 => ?_, fun g hg => ?_, fun i r hr k hk hF => ?_⟩
        · match i, hr with
          | 0, hr => cases hr; exact O4
          | 1, hr => cases hr; exact OwnU.mono X4 BL2
          | 2, hr => cases hr; exact OwnU.mono Y4 (Nat.le_trans BL2 (by omega))
        · have key : ∀ (i : Nat) (r : Rw), [Rw.u y (ups m), Rw.u x1 (ups m), Rw.u x2 (ups m)][i]? = some r → r.x.v.ownBlock = some k → (i = 0 ∧ k < w2.heap.size) ∨ (i = 1 ∧ w2.heap.size ≤ k ∧ k < g7) ∨ (i = 2 ∧ ws1.heap.size ≤ k) := fun i r hr hk => by
            match i, hr with
            | 0, hr => cases hr; exact .inl ⟨rfl, l0 k hk⟩
            | 1, hr => cases hr; exact .inr (.inl ⟨rfl, l2 k hk⟩)
            | 2, hr => cases hr; exact .inr (.inr ⟨rfl, (l5 k hk).1⟩)
          have k1 := key i r hi hk
          have k2 := key j q hj hk2
          omega
        · simp only [List.mem_cons, List.not_mem_nil, or_false] at hg
          omega
        · simp only [List.mem_cons, List.not_mem_nil, or_false] at hF
          match i, hr with
          | 0, hr => cases hr; have := l0 k hk; omega
          | 1, hr => cases hr; have := l2 k hk; omega
          | 2, hr => cases hr; have := l5 k hk; omega
      have GE : Hid (g7 ≠ g10) := by show g7 ≠ g10; omega
      have G7 : Hid (w.heap.size ≤ g7) := by show _ ≤ _; omega
      have G10 : Hid (w.heap.size ≤ g10) := by show _ ≤ _; omega
      clear hWn2 hWs2 Qn2 qn2 qs2 hX2 hbq2 bs2 bz2 O3 X3 B3 Q7 O4 X4 Y4 l0 l1 l2 l3 l4 l5 hg2
      generalize hw0 : ws2 = wz at RW B4 Q7' Q10 ⊢
      clear hw0
      have RWH := hide RW
      have s1 := (RW.upds (i := 1) rfl)
      have s2 := (RW.upds (i := 2) rfl)
      have s0 := (RW.upds (i := 0) rfl)
      have n1 : x1.n = m := by rw [← s1.1, ups_len]
      have n2 : x2.n = m := by rw [← s2.1, ups_len]
      obtain ⟨ya, yn, yc⟩ := y
      obtain ⟨xa, xn, xc⟩ := x1
      obtain ⟨za, zn, zc⟩ := x2
      simp only at hyn n1 n2 s0 s1 s2
      subst hyn
      subst n1
      subst n2
      have SL1 := hide (fun (wx : World) (hb : Below wz.heap.size wz wx) => sameL_any xa ya zn xc yc (ups zn) (ups_len _) (by omega) wx (s1.2.1.below hb) (s0.2.1.below hb))
      have SL2 := hide (fun (wx : World) (hb : Below wz.heap.size wz wx) => sameL_any za ya zn zc yc (ups zn) (ups_len _) (by omega) wx (s2.2.1.below hb) (s0.2.1.below hb))
      have c7 : wz.cell? ⟨g7, 37, none⟩ = some (.slice xa zn xc) := Q7'.out.cell 37 (by omega)
      clear s0 s1 s2 RW
      go_wp2_with fail
      refine (SL1.out _ (Below.refl _ _)).mono ?_
      rintro e w5 ⟨rfl, hb5⟩
      have c10 : w5.cell? ⟨g10, 37, none⟩ = some (.slice za zn zc) := (Q10.out.below hb5 Q10.out.lt).cell 37 (by omega)
      clear c7
      go_wp2_with fail
      refine (SL2.out _ hb5).mono ?_
      rintro e w6 ⟨rfl, hb6⟩
      have hb7 : Below wz.heap.size wz w6 := hb5.trans (hb6.mono hb5.size)
      have R6 := RWH.out.low hb7
      have V7 := Q7'.out.below hb7 Q7'.out.lt
      have V10 := Q10.out.below hb7 Q10.out.lt
      have B6 : Below w.heap.size w w6 := B4.trans (hb7.mono B4.size)
      clear SL1 SL2 c10 hb5 hb6 hb7 RWH Q7' Q10 B4
      go_upto_region 11 with fail
      go_wp2
      go_loopw [13] (fun i wr => ∃ j : Nat, j ≤ zn ∧ i = .int .i64 (j : Int) ∧ Rws w.heap.size wr [.u ⟨ya, zn, yc⟩ (ups zn), .u ⟨xa, zn, xc⟩ (ow (uK (-1)) (ups zn) j), .u ⟨za, zn, zc⟩ (ups zn)] [g7, g10] ∧ Has wr g7 38 (r3 ⟨xa, zn, xc⟩).v 138 ∧ Has wr g10 38 (r3 ⟨za, zn, zc⟩).v 138 ∧ Below w.heap.size w wr) (fun i _ => zn - (intOf i).toNat)
      case atStart => exact ⟨0, Nat.zero_le _, rfl, by rw [ow_zero]; exact R6, V7, V10, B6⟩
      case round =>
        obtain ⟨j, hj, rfl, hRW, hV7, hV10, hBr⟩ := hrel
        clear R6 V7 V10 B6
        have c7 : wr.cell? ⟨g7, 37, none⟩ = some (.slice xa zn xc) := hV7.cell 37 (by omega)
        by_cases hjm : j < zn
        · have hd : decide ((j : Int) < (zn : Int)) = true := decide_eq_true (by omega)
          have hd' : decide (j < zn) = true := decide_eq_true hjm
          have hol : (ow (uK (-1)) (ups zn) j).length = zn := by rw [ow_len _ _ _ (by rw [ups_len]; exact hj), ups_len]
          obtain ⟨g, fx, hxa, hH, hnc, hgF, hBg, hset⟩ := hRW.put (i := 1) rfl (j := j) (by rw [hol]; exact hjm)
          simp only at hxa hH hnc hset
          subst hxa
          simp only [List.mem_cons, List.not_mem_nil, or_false, not_or] at hgF
          obtain ⟨wn, hwn⟩ : ∃ y, wr.setRow g (tabv (splice fx (j * 36) (uK (-1)).v 36) (xc * 36)) = y := ⟨_, rfl⟩
          have RN : Rws w.heap.size wn [.u ⟨ya, zn, yc⟩ (ups zn), .u ⟨some ⟨g, 0, none⟩, zn, xc⟩ (ow (uK (-1)) (ups zn) (j + 1)), .u ⟨za, zn, zc⟩ (ups zn)] [g7, g10] := by
            have := hset (uK (-1))
            rw [hwn, ow_set _ _ _ (by rw [ups_len]; exact hjm)] at this
            exact this
          have W7 : Has wn g7 38 (r3 ⟨some ⟨g, 0, none⟩, zn, xc⟩).v 138 := by rw [← hwn]; exact hV7.row_other _ _ (fun e => hgF.1 e.symm)
          have W10 : Has wn g10 38 (r3 ⟨za, zn, zc⟩).v 138 := by rw [← hwn]; exact hV10.row_other _ _ (fun e => hgF.2 e.symm)
          have BN : Below w.heap.size w wn := by rw [← hwn]; exact below_setRow hBr hBg _
          have HH := hide hH
          have HWN := hide hwn
          have jlt : (j : Int) < (zn : Int) := by omega
          clear hset hwn hH hRW hV7 hV10 hBr hol hgF hBg
          go_wp2_with (first | refine wpW_build (by rfl) 36 #[(0, .const (.int .i64 (-1)))] rfl [(0, .int .i64 (-1))] (by first | rfl | (simp [Act.eval, Act.put]; done)) _ (builtUK (-1)) ?_ | (refine wpList_store_part rfl 36 _ _ rfl rfl g (j * 36) (uK (-1)).v 36 rfl rfl 36 _ (xc * 36) HH.out (by omega) infoU (fun i _ => oneV _ i) (splice fx (j * 36) (uK (-1)).v 36) (fun _ _ => rfl) ?_; rw [HWN.out]) | fail)
          go_roundw
          case rel => exact ⟨j + 1, by omega, by go_num, RN, W7, W10, BN⟩
          case measure => simp [intOf]; omega
        · obtain rfl : j = zn := by omega
          have hd : decide ((j : Int) < (j : Int)) = false := decide_eq_false (by omega)
          have hd' : decide (j < j) = false := decide_eq_false (by omega)
          have eo : ow (uK (-1)) (ups j) j = List.replicate j (uK (-1)) := by
            have := ow_all (uK (-1)) (ups j)
            rw [ups_len] at this
            exact this
          rw [eo] at hRW
          clear eo hjm hj
          have b10 := GE.out
          obtain ⟨p1, wp1, wo1, RSp, RAp, RWp, FXp, Bp⟩ := hRW.push (i := 1) rfl (uK (-2)) (by rw [List.length_replicate]; omega) hBr.size
          have RWp : Rws w.heap.size wo1 [.u ⟨ya, j, yc⟩ (ups j), .u p1 (List.replicate j (uK (-1)) ++ [uK (-2)]), .u ⟨za, j, zc⟩ (ups j)] [g7, g10] := RWp
          have U7 : Has wo1 g7 38 (r3 ⟨xa, j, xc⟩).v 138 := hV7.same (FXp g7 (by simp))
          have U10 : Has wo1 g10 38 (r3 ⟨za, j, zc⟩).v 138 := hV10.same (FXp g10 (by simp))
          have RSH := hide RSp
          have RAH : Hid ((Builtin.append_ #[27, 27] 27 #[.slice xa j xc, .slice (some ⟨wr.heap.size, 0, none⟩) 1 1]).run Tryz.prog wp1 = .ok (.slice p1.ad p1.n p1.c) wo1) := RAp
          have c7o : wo1.cell? ⟨g7, 37, none⟩ = some (.slice xa j xc) := U7.cell 37 (by omega)
          have f7 := U7.frozen 37
          obtain ⟨wc1, hwc1⟩ : ∃ y, wo1.setCell ⟨g7, 37, none⟩ (.slice p1.ad p1.n p1.c) = y := ⟨_, rfl⟩
          have B1 : Below w.heap.size w wc1 := by rw [← hwc1]; exact (hBr.trans Bp).setCell (G7.out) _
          have T7 : Has wc1 g7 38 (r3 p1).v 138 := by rw [← hwc1]; exact U7.rUpds p1
          have T10 : Has wc1 g10 38 (r3 ⟨za, j, zc⟩).v 138 := by rw [← hwc1]; exact U10.other _ _ (by show g10 ≠ g7; exact fun e => b10 e.symm)
          have RT : Rws w.heap.size wc1 [.u ⟨ya, j, yc⟩ (ups j), .u p1 (List.replicate j (uK (-1)) ++ [uK (-2)]), .u ⟨za, j, zc⟩ (ups j)] [g7, g10] := by rw [← hwc1]; exact RWp.cell (by simp) _ _
          clear RSp RAp RWp FXp Bp U7 U10 hRW hV7 hV10 hBr
          go_upto_region 16 with (first | rw [hwc1] | (go_big_may; first | refine wpW_build (by rfl) 36 #[(0, .const (.int .i64 (-2)))] rfl [(0, .int .i64 (-2))] (by first | rfl | (simp [Act.eval, Act.put]; done)) _ (builtUK (-2)) ?_ | refine wpList_slice1 rfl 27 _ rfl (.agg (tabv (uK (-2)).v 36)) rfl RSH.out ?_ | refine wpList_app rfl _ _ _ rfl RAH.out ?_) | fail)
          try rw [hwc1]
          clear RSH RAH c7 c7o f7 hwc1
          obtain ⟨p2, wp2, wo2, RSp, RAp, RWp, FXp, Bp⟩ := RT.push (i := 2) rfl (uK (-3)) (by rw [ups_len]; omega) B1.size
          have RWp : Rws w.heap.size wo2 [.u ⟨ya, j, yc⟩ (ups j), .u p1 (List.replicate j (uK (-1)) ++ [uK (-2)]), .u p2 (ups j ++ [uK (-3)])] [g7, g10] := RWp
          have U7 : Has wo2 g7 38 (r3 p1).v 138 := T7.same (FXp g7 (by simp))
          have U10 : Has wo2 g10 38 (r3 ⟨za, j, zc⟩).v 138 := T10.same (FXp g10 (by simp))
          have RSH := hide RSp
          have RAH : Hid ((Builtin.append_ #[27, 27] 27 #[.slice za j zc, .slice (some ⟨wc1.heap.size, 0, none⟩) 1 1]).run Tryz.prog wp2 = .ok (.slice p2.ad p2.n p2.c) wo2) := RAp
          have c10 : wc1.cell? ⟨g10, 37, none⟩ = some (.slice za j zc) := T10.cell 37 (by omega)
          have c10o : wo2.cell? ⟨g10, 37, none⟩ = some (.slice za j zc) := U10.cell 37 (by omega)
          have f10 := U10.frozen 37
          obtain ⟨wc2, hwc2⟩ : ∃ y, wo2.setCell ⟨g10, 37, none⟩ (.slice p2.ad p2.n p2.c) = y := ⟨_, rfl⟩
          have B2 : Below w.heap.size w wc2 := by rw [← hwc2]; exact (B1.trans Bp).setCell (G10.out) _
          have S10 : Has wc2 g10 38 (r3 p2).v 138 := by rw [← hwc2]; exact U10.rUpds p2
          have S7 : Has wc2 g7 38 (r3 p1).v 138 := by rw [← hwc2]; exact U7.other _ _ (by show g7 ≠ g10; exact b10)
          have RT2 : Rws w.heap.size wc2 [.u ⟨ya, j, yc⟩ (ups j), .u p1 (List.replicate j (uK (-1)) ++ [uK (-2)]), .u p2 (ups j ++ [uK (-3)])] [g7, g10] := by rw [← hwc2]; exact RWp.cell (by simp) _ _
          clear RSp RAp RWp FXp Bp U7 U10 RT T7 T10 B1
          go_upto_region 17 with (first | rw [hwc2] | (go_big_may; first | refine wpW_build (by rfl) 36 #[(0, .const (.int .i64 (-3)))] rfl [(0, .int .i64 (-3))] (by first | rfl | (simp [Act.eval, Act.put]; done)) _ (builtUK (-3)) ?_ | refine wpList_slice1 rfl 27 _ rfl (.agg (tabv (uK (-3)).v 36)) rfl RSH.out ?_ | refine wpList_app rfl _ _ _ rfl RAH.out ?_) | fail)
          try rw [hwc2]
          clear RSH RAH c10 c10o f10 hwc2
          go_wp2_with fail
          refine (RD.out wc2).mono ?_
          rintro e wq3 ⟨⟨x3, nn3, rfl, hX3⟩, hbq3⟩
          obtain ⟨wn3, ws3, hWn3, qn3, hWs3, qs3, bs3⟩ := newRc wq3 (r3 x3)
          have Qn3 := hide qn3
          have bz3 : Below wc2.heap.size wc2 ws3 := hbq3.trans (bs3.mono hbq3.size)
          go_upto_region 18 with (first | rw [hWs3] | (go_big_may; first | refine wpList_storeRc rfl _ _ rfl rfl (wq3.heap.size) (r3 x3) rfl rfl _ Qn3.out ?_) | fail)
          try rw [hWs3]
          generalize hg3 : wq3.heap.size = g14 at qs3 ⊢
          have R9 := RT2.low bz3
          have K7 := hide (S7.below bz3 S7.lt)
          have K10 := hide (S10.below bz3 S10.lt)
          have X9 := OwnU.sl (hX3.below bs3 (Nat.le_refl _))
          have B9 : Below w.heap.size w ws3 := B2.trans (bz3.mono B2.size)
          have s0 := R9.upds (i := 0) rfl
          have s1 := R9.upds (i := 1) rfl
          have s2 := R9.upds (i := 2) rfl
          rw [List.length_append, List.length_replicate, List.length_singleton] at s1
          rw [List.length_append, ups_len, List.length_singleton] at s2
          rw [ups_len] at X9
          obtain ⟨pb, po, hpa, hpl, hAp⟩ := s1.2.1.get j (uK (-2)) (by rw [List.getElem?_append_right (by simp)]; simp)
          obtain ⟨pb', po', hpa', _, hAq⟩ := s1.2.1.get 0 (uK (-1)) (by rw [List.getElem?_append_left (by simp; omega), List.getElem?_replicate, if_pos (by omega)])
          rw [hpa] at hpa'
          cases hpa'
          obtain ⟨qb, qo, hqa, hql, hAr⟩ := s2.2.1.get j (uK (-3)) (by rw [List.getElem?_append_right (by rw [ups_len]; exact Nat.le_refl _), ups_len]; simp)
          have ut : Upds ws3 p2.ad (ups j) := by
            have := s2.2.1.front j
            rw [List.take_left' (ups_len j)] at this
            exact this
          obtain ⟨p1a, p1n, p1c⟩ := p1
          obtain ⟨p2a, p2n, p2c⟩ := p2
          obtain ⟨x3a, x3n, x3c⟩ := x3
          simp only at hpa hqa s0 s1 s2 X9 ut
          subst hpa
          subst hqa
          have e3n : x3n = j := X9.1.symm
          subst e3n
          have SLa := hide (fun (wx : World) (hb : Below ws3.heap.size ws3 wx) => sameL_any x3a ya x3n x3c yc (ups x3n) (ups_len _) (by omega) wx (X9.2.1.below hb) (s0.2.1.below hb))
          have SLb := hide (fun (wx : World) (hb : Below ws3.heap.size ws3 wx) => sameL_any (some ⟨qb, qo, none⟩) ya x3n p2c yc (ups x3n) (ups_len _) (by omega) wx (ut.below hb) (s0.2.1.below hb))
          have c14 : ws3.cell? ⟨g14, 37, none⟩ = some (.slice x3a x3n x3c) := qs3.cell 37 (by omega)
          have HAP := hide hAp
          have HAQ := hide hAq
          have HAR := hide hAr
          have HPL := hide hpl
          have HQL := hide hql
          have hp1 : p1n = x3n + 1 := s1.1.symm
          have hp2 : p2n = x3n + 1 := s2.1.symm
          have hjp : (x3n : Int) < (p1n : Int) := by omega
          have hjq : (x3n : Int) < (p2n : Int) := by omega
          have h0p : (0 : Int) < (p1n : Int) := by omega
          have hjc : x3n ≤ p2c := by omega
          have HP1 := hide hp1
          have HP2 := hide hp2
          clear hWn3 hWs3 Qn3 qn3 qs3 hX3 hbq3 bs3 bz3 RT2 S7 S10 B2 R9 s0 s1 s2 X9 ut hAp hAq hAr hpl hql hp1 hp2 hg3 RD
          go_wp2_with fail
          refine (SLa.out _ (Below.refl _ _)).mono ?_
          rintro e wa ⟨rfl, hba⟩
          have c10 : wa.cell? ⟨g10, 37, none⟩ = some (.slice (some ⟨qb, qo, none⟩) p2n p2c) := (K10.out.below hba K10.out.lt).cell 37 (by omega)
          clear c14 SLa
          go_wp2_with (first | refine wpW_sliceK (by rfl) _ _ rfl (some ⟨qb, qo, none⟩) p2n p2c x3n (by rfl) (by rfl) hjc ?_ | fail)
          refine (SLb.out _ hba).mono ?_
          rintro e wb ⟨rfl, hbb⟩
          have hbz : Below ws3.heap.size ws3 wb := hba.trans (hbb.mono hba.size)
          have d10 : wb.cell? ⟨g10, 37, none⟩ = some (.slice (some ⟨qb, qo, none⟩) p2n p2c) := (K10.out.below hbz K10.out.lt).cell 37 (by omega)
          have d7 : wb.cell? ⟨g7, 37, none⟩ = some (.slice (some ⟨pb, po, none⟩) p1n p1c) := (K7.out.below hbz K7.out.lt).cell 37 (by omega)
          have da : wb.cell? ⟨pb, po + x3n * 36, none⟩ = some (.int .i64 (-2)) := (HAP.out.below hbz HPL.out) 0 (by omega)
          have dq : wb.cell? ⟨pb, po, none⟩ = some (.int .i64 (-1)) := by
            have := (HAQ.out.below hbz HPL.out) 0 (by omega)
            rw [show po + 0 * 36 + 0 = po by omega] at this
            exact this
          have db : wb.cell? ⟨qb, qo + x3n * 36, none⟩ = some (.int .i64 (-3)) := (HAR.out.below hbz HQL.out) 0 (by omega)
          have B10 : Below w.heap.size w wb := B9.trans (hbz.mono B9.size)
          clear c10 SLb hba hbb hbz B9 K7 K10 HAP HAQ HAR
          go_wp2
          go_ret
          exact ⟨rfl, B10⟩
end Go.Proofs.YtlohfoggcdaeiaaGreat
