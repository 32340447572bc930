/-
  RecordApart: the walk (printed by gen_r29.py).
-/
import Derived.Test.YtlohfoggcdaeiaaGreatRApM
import Derived.Test.YtlohfoggcdaeiaaGreatRRApart
import Derived.Deep.DeepCutAuto
import Derived.Deep.Cut
import Derived.Deep.CutRange
namespace Go.Proofs.YtlohfoggcdaeiaaGreat
open Go.RowKit S
set_option linter.unusedVariables false
set_option linter.unusedSimpArgs false
open Cu (nb be hl ofL CW Mw CR Mr RS takeS takeA hOf nil8 doneS)
theorem run_neFg {o : Oper} {a : Act} (w : World) (x y : Operand) (A B : Array Value) (R : Bool) (ho : o.op = .binOp .neq 49 x y 49) (hx : a.eval x = .agg A) (hy : a.eval y = .agg B)
    (hq : ∀ w : World, (Op.equalIn 10000 49 (.agg A) (.agg B)).run Tryz.prog w = .ok R w) : (execOp a.eval o).run Tryz.prog w = .ok (.value (.bool (!R))) w := by
  have gh := guardS
  unfold execOp
  simp only [ho, hx, hy]
  go_simp
theorem run_neF {o : Oper} {a : Act} (w : World) (x y : Operand) (s : Slot) (ho : o.op = .binOp .neq 49 x y 49) (hx : a.eval x = .agg (tabv s.v 34)) (hy : a.eval y = .agg (tabv s.v 34)) : (execOp a.eval o).run Tryz.prog w = .ok (.value (.bool false)) w :=
  run_neFg w x y _ _ true ho hx hy (fun w => by rw [eqSD, eqSl_refl])
section
variable {P : Program} {ops : Array Oper} {rest : List Oper} {o : Oper} {a : Act} {w w' : World} {Q : Exit → Act → World → Prop}
theorem wpList_slice0 {v : Value} (hg : o.guard = none) (T : TypeId) (ho : o.op = .buildSlice T 0 #[]) (h : (Instr.buildSlice T 0 #[]).run P w = .ok v w') (k : wpList P ops Q rest (a.put o.dst v) w') : wpList P ops Q (o :: rest) a w := by
  refine wpList_step fun K hK => ?_
  have hw : Region.wanted o (yielded ops a.tmps) = true := by unfold Region.wanted; rw [hg]
  rw [if_pos hw]
  exact wpRun (by simp [execOp, ho, h, Result.andThen]) (hK _ _ k)
end
set_option maxRecDepth 100000 in
set_option maxHeartbeats 40000000 in
theorem apart_walk [Inhabited S.Tbl] (x0 x1 x2 : Sl) (lo lp : List Upd) (ls : List Slot) (co : Int) (h0 : lo.length = x0.n) (h1 : lp.length = x1.n) (h3 : ls.length = x2.n) (z0 : x0.n ≤ 1954687338211) (z1 : x1.n ≤ 1954687338211) (z2 : x2.n ≤ 2932031007317) (w : World) (u0 : Upds w x0.ad lo) (u1 : Upds w x1.ad lp) (u2 : Slots w x2.ad ls) (hG : Glob num w) : Calls Tryz.prog 5 #[.slice x0.ad x0.n x0.c, .slice x1.ad x1.n x1.c, .slice x2.ad x2.n x2.c, .int .i64 co] w fun e w' => e = .returned (.bool true) ∧ Below w.heap.size w w' := by
  have h2 := hG.2.2
  have HD := hide (head_any w hG)
  have n0i : (x0.n : Int) ≤ 1954687338212 := by omega
  have n1i : (x1.n : Int) ≤ 1954687338212 := by omega
  have n2i : (x2.n : Int) ≤ 2932031007400 := by omega
  obtain ⟨kk, hk⟩ : ∃ k, bits .and .i64 co 32767 = k := ⟨_, rfl⟩
  have bk : 0 ≤ kk ∧ kk < 32768 := by rw [← hk]; exact and_lt co 15 (by omega)
  obtain ⟨k0, k9⟩ := bk
  go_enter Tryz.func5, Tryz.ntmps5
  go_wp2_with fail
  refine HD.out.mono ?_
  rintro e w1 ⟨rfl, b1⟩
  clear HD
  obtain ⟨y0, wa, wb, RA1, RA2, O0, bb0⟩ := newRowU w1 x0 lo h0 (u0.below b1) (by omega)
  have bwb : Below w.heap.size w wb := b1.trans (bb0.mono b1.size)
  obtain ⟨y1, wc, wd, RB1, RB2, O1, bb1⟩ := newRowU wb x1 lp h1 (u1.below bwb) (by omega)
  have bwd : Below w.heap.size w wd := bwb.trans (bb1.mono bwb.size)
  obtain ⟨y2, we, wf, RC1, RC2, O2, bb2⟩ := newRowS wd x2 ls h3 (u2.belowW bwd) (by omega)
  have bwf : Below w.heap.size w wf := bwd.trans (bb2.mono bwd.size)
  obtain ⟨wg, wh, hWg, qg, hWh, qh, bh⟩ := newSt wf (setSl sA y0 y1 y2)
  have A1 := hide RA1
  have A2 := hide RA2
  have A3 := hide RB1
  have A4 := hide RB2
  have A5 := hide RC1
  have A6 := hide RC2
  have QG := hide qg
  have l0 : ∀ k, y0.v.ownBlock = some k → w1.heap.size ≤ k ∧ k < wb.heap.size := fun k hk => O0.lt k hk
  have l1 : ∀ k, y1.v.ownBlock = some k → wb.heap.size ≤ k ∧ k < wd.heap.size := fun k hk => O1.lt k hk
  have l2 : ∀ k, y2.v.ownBlock = some k → wd.heap.size ≤ k ∧ k < wf.heap.size := fun k hk => O2.lt k hk
  have s1 := b1.size
  have s2 := bb0.size
  have s3 := bb1.size
  have s4 := bb2.size
  have OS9 : OS w.heap.size wh (setSl sA y0 y1 y2) lo lp ls := by
    have P0 : OwnU w1.heap.size wh y0.v lo := ((O0.below bb1 (Nat.le_refl _)).below bb2 (Nat.le_refl _)).below bh (Nat.le_refl _)
    have P1 : OwnU wb.heap.size wh y1.v lp := (O1.below bb2 (Nat.le_refl _)).below bh (Nat.le_refl _)
    have P2 : OwnS wd.heap.size wh y2.v ls := O2.below bh (Nat.le_refl _)
    exact ⟨P0.mono s1, P1.mono (by omega), P2.mono (by omega), fun k e1 e2 => by have := l0 k e1; have := l1 k e2; omega, fun k e1 e2 => by have := l0 k e1; have := l2 k e2; omega, fun k e1 e2 => by have := l1 k e1; have := l2 k e2; omega⟩
  have Bh : Below w.heap.size w wh := bwf.trans (bh.mono bwf.size)
  have lt9 : ∀ k, y0.v.ownBlock = some k ∨ y1.v.ownBlock = some k ∨ y2.v.ownBlock = some k → k < wf.heap.size := fun k hk => by
    rcases hk with e | e | e
    · have := l0 k e; omega
    · have := l1 k e; omega
    · have := l2 k e; omega
  clear RA1 RA2 RB1 RB2 RC1 RC2 O0 O1 O2 bb0 bb1 bb2 bh qg bwb bwd b1 l0 l1 l2
  go_upto_region 4 with (first | rw [hWh] | (go_big_may; first | refine wpList_slice0 rfl 27 rfl A1.out ?_ | refine wpList_slice0 rfl 27 rfl A3.out ?_ | refine wpList_slice0 rfl 29 rfl A5.out ?_ | refine wpList_app rfl _ _ _ rfl A2.out ?_ | refine wpList_app rfl _ _ _ rfl A4.out ?_ | refine wpList_app rfl _ _ _ rfl A6.out ?_ | refine wpW_build (by rfl) 31 #[(4, .tmp 26), (5, .tmp 29), (15, .tmp 32), (17, .const (.int .i64 (-1)))] rfl [(4, .slice y0.ad y0.n y0.c), (5, .slice y1.ad y1.n y1.c), (15, .slice y2.ad y2.n y2.c), (17, .int .i64 (-1))] (by first | rfl | (simp [Act.eval, Act.put]; done)) _ (builtSA y0 y1 y2) ?_ | refine wpList_storeSt rfl _ _ rfl rfl (wf.heap.size) (setSl sA y0 y1 y2) rfl rfl _ QG.out ?_) | fail)
  try rw [hWh]
  generalize hg9 : wf.heap.size = g9 at qh lt9 ⊢
  have G9 : w.heap.size ≤ g9 := by rw [← hg9]; exact bwf.size
  clear hWg hWh QG A1 A2 A3 A4 A5 A6 s1 s2 s3 s4 hg9 bwf
  obtain ⟨wi, wj, hWi, qi, hWj, qj, bj⟩ := newRc wh (flR (1 + kk))
  have QI := hide qi
  have kw : 1 + kk ≤ 32768 := by omega
  go_upto_region 5 with (first | rw [hWj] | (go_big_may; first | refine wpW_build (by rfl) 38 #[(0, .const (.int .i64 5)), (8, .tmp 36)] rfl [(0, .int .i64 5), (8, .int .i64 (1 + kk))] (by first | rfl | (simp [Act.eval, Act.put]; done)) _ (builtFl (1 + kk)) ?_ | refine wpList_storeRc rfl _ _ rfl rfl (wh.heap.size) (flR (1 + kk)) rfl rfl _ QI.out ?_) | fail)
  try rw [hWj]
  have OS10 := OS9.below bj
  have V9 := qh.below bj qh.lt
  have Bj : Below w.heap.size w wj := Bh.trans (bj.mono Bh.size)
  generalize hg10 : wh.heap.size = g10 at qj ⊢
  have G10 : g9 < g10 := by rw [← hg10]; exact qh.lt
  have G10j : g10 < wj.heap.size := qj.lt
  clear hWi hWj QI qi bj OS9 qh Bh hg10 hk
  have zn0 : lo.length * 72 ≤ 140737488355328 := by omega
  have zn1 : lp.length * 72 ≤ 140737488355328 := by omega
  have zn2 : ls.length * 48 ≤ 140737488355328 := by omega
  have okF : apOk (setSl sA y0 y1 y2) lo lp ls (flR (1 + kk)) [] = true := by rw [ok_fl]; exact (codB_iff _).2 (by omega)
  have AP := hide (fun (wx : World) (hb : Below wj.heap.size wj wx) => apply_os (flR (1 + kk)) [] rfl wx (OS10.below hb) zn0 zn1 zn2 (Upds.nil _ _) (hG.below (Bj.trans (hb.mono Bj.size)) h2))
  have Q9 := hide V9
  have Q10 := hide qj
  obtain ⟨A, hA⟩ : ∃ A, newS (setSl sA y0 y1 y2) lp (flR (1 + kk)) [] = A := ⟨_, rfl⟩
  have eO : newO lo (flR (1 + kk)) = lo := rfl
  have eP : newP (setSl sA y0 y1 y2) lp (flR (1 + kk)) [] = lp := rfl
  have eF : newF ls (flR (1 + kk)) = ls := rfl
  go_wp2_with (first | refine wpW_load_at 31 _ rfl (g9) (0) (by rfl) (by rfl) _ 115 _ ((Q9.out).at_ 0 (by omega) (fun i hi => by rw [Nat.zero_add])) Tryz.underlying31 rfl infoSt ?_ | refine wpW_load_at 38 _ rfl (g10) (0) (by rfl) (by rfl) _ 138 _ ((Q10.out).at_ 0 (by omega) (fun i hi => by rw [Nat.zero_add])) Tryz.underlying38 rfl infoRc ?_ | fail)
  refine (AP.out wj (Below.refl _ _)).mono ?_
  rintro e wq1 ⟨hbq1, hA1⟩
  obtain ⟨a0, a1, a2, rfl, hO1⟩ := hA1.yes okF
  rw [eO, eP, eF] at hO1
  rw [hA] at hO1 ⊢
  obtain ⟨wn1, ws1, hWn1, qn1, hWs1, qs1, bs1⟩ := newSt wq1 (setSl A a0 a1 a2)
  have Qn1 := hide qn1
  have bz1 : Below wj.heap.size wj ws1 := hbq1.trans (bs1.mono hbq1.size)
  go_upto_region 6 with (first | rw [hWs1] | (go_big_may; first | refine wpList_storeSt rfl _ _ rfl rfl (wq1.heap.size) (setSl A a0 a1 a2) rfl rfl _ Qn1.out ?_) | fail)
  try rw [hWs1]
  have P1 := hO1.below bs1
  have lt1 : ∀ j, a0.v.ownBlock = some j ∨ a1.v.ownBlock = some j ∨ a2.v.ownBlock = some j → wj.heap.size ≤ j ∧ j < wq1.heap.size := fun j hj => by
    rcases hj with e | e | e
    · exact hO1.o.lt j e
    · exact hO1.p.lt j e
    · exact hO1.f.lt j e
  generalize hg1 : wq1.heap.size = g11 at qs1 lt1 ⊢
  have gl1 : wj.heap.size ≤ g11 := by rw [← hg1]; exact hbq1.size
  clear hWn1 hWs1 Qn1 qn1 hO1 hA1 hbq1 bs1 hg1
  have Q9b := hide (Q9.out.below bz1 Q9.out.lt)
  have Q10b := hide (Q10.out.below bz1 Q10.out.lt)
  have gz11 : g11 < ws1.heap.size := qs1.lt
  have sz1 := bz1.size
  go_wp2_with (first | refine wpW_load_at 31 _ rfl (g9) (0) (by rfl) (by rfl) _ 115 _ ((Q9b.out).at_ 0 (by omega) (fun i hi => by rw [Nat.zero_add])) Tryz.underlying31 rfl infoSt ?_ | refine wpW_load_at 38 _ rfl (g10) (0) (by rfl) (by rfl) _ 138 _ ((Q10b.out).at_ 0 (by omega) (fun i hi => by rw [Nat.zero_add])) Tryz.underlying38 rfl infoRc ?_ | fail)
  refine (AP.out ws1 bz1).mono ?_
  rintro e wq2 ⟨hbq2, hA2⟩
  obtain ⟨b0, b1, b2, rfl, hO2⟩ := hA2.yes okF
  rw [eO, eP, eF] at hO2
  rw [hA] at hO2 ⊢
  obtain ⟨wn2, ws2, hWn2, qn2, hWs2, qs2, bs2⟩ := newSt wq2 (setSl A b0 b1 b2)
  have Qn2 := hide qn2
  have bz2 : Below ws1.heap.size ws1 ws2 := hbq2.trans (bs2.mono hbq2.size)
  go_upto_region 7 with (first | rw [hWs2] | (go_big_may; first | refine wpList_storeSt rfl _ _ rfl rfl (wq2.heap.size) (setSl A b0 b1 b2) rfl rfl _ Qn2.out ?_) | fail)
  try rw [hWs2]
  have P2 := hO2.below bs2
  have lt2 : ∀ j, b0.v.ownBlock = some j ∨ b1.v.ownBlock = some j ∨ b2.v.ownBlock = some j → ws1.heap.size ≤ j ∧ j < wq2.heap.size := fun j hj => by
    rcases hj with e | e | e
    · exact hO2.o.lt j e
    · exact hO2.p.lt j e
    · exact hO2.f.lt j e
  generalize hg2 : wq2.heap.size = g13 at qs2 lt2 ⊢
  have gl2 : ws1.heap.size ≤ g13 := by rw [← hg2]; exact hbq2.size
  clear hWn2 hWs2 Qn2 qn2 hO2 hA2 hbq2 bs2 hg2
  have bzz : Below wj.heap.size wj ws2 := bz1.trans (bz2.mono bz1.size)
  have AVV : AV w g9 g10 g11 g13 A A y0 y1 y2 a0 a1 a2 b0 b1 b2 lo lp ls lo lp ls lo lp ls ws2 := by
    have gz13 : g13 < ws2.heap.size := qs2.lt
    have sz2 := bz2.size
    have sj := Bj.size
    have f9 : g9 < ws2.heap.size := by omega
    refine ⟨Q9b.out.below bz2 Q9b.out.lt, qs1.below bz2 qs1.lt, qs2, ?_, Bj.trans (bzz.mono Bj.size), G9, G10, by omega, by omega⟩
    have hF : ∀ g ∈ [g9, g10, g11, g13], g < ws2.heap.size := fun g hg => by
      simp only [List.mem_cons, List.not_mem_nil, or_false] at hg
      omega
    have R1 : Rws w.heap.size ws2 [.u y0 lo, .u y1 lp, .f y2 ls] [g9, g10, g11, g13] := Rws.os ((OS10.below bzz)) hF (fun g hg => .inr fun k hk e => by
      have := lt9 k hk
      simp only [List.mem_cons, List.not_mem_nil, or_false] at hg
      omega)
    have R2 : Rws wj.heap.size ws2 [.u a0 lo, .u a1 lp, .f a2 ls] [g9, g10, g11, g13] := Rws.os (s := setSl A a0 a1 a2) (P1.below bz2) hF (fun g hg => .inr fun k hk e => by
      have := lt1 k hk
      simp only [List.mem_cons, List.not_mem_nil, or_false] at hg
      omega)
    have R3 : Rws ws1.heap.size ws2 [.u b0 lo, .u b1 lp, .f b2 ls] [g9, g10, g11, g13] := Rws.os (s := setSl A b0 b1 b2) P2 hF (fun g hg => .inr fun k hk e => by
      have := lt2 k hk
      simp only [List.mem_cons, List.not_mem_nil, or_false] at hg
      omega)
    have three : ∀ {L : List Rw} {p q r : Sl} {lo lp : List Upd} {ls : List Slot}, L = [.u p lo, .u q lp, .f r ls] → ∀ (i : Nat) (x : Rw), L[i]? = some x → ∀ k, x.x.v.ownBlock = some k → p.v.ownBlock = some k ∨ q.v.ownBlock = some k ∨ r.v.ownBlock = some k := fun {L p q r lo lp ls} hL i x hx k hk => by
      subst hL
      match i, hx with
      | 0, hx => cases hx; exact .inl hk
      | 1, hx => cases hx; exact .inr (.inl hk)
      | 2, hx => cases hx; exact .inr (.inr hk)
    have R12 := R1.app R2 (fun i x hx k hk => by have := lt9 k (three rfl i x hx k hk); omega) Bj.size
    exact R12.app R3 (fun i x hx k hk => by
      rcases Nat.lt_or_ge i 3 with hi | hi
      · rw [List.getElem?_append_left (by simpa using hi)] at hx
        have := lt9 k (three rfl i x hx k hk); omega
      · rw [List.getElem?_append_right (by simpa using hi)] at hx
        have := lt1 k (three rfl _ x hx k hk); omega) (by omega)
  have AVH := hide AVV
  have U0 := hide (show Upds ws2 x0.ad lo from u0.below AVV.bel)
  have U1 := hide (show Upds ws2 x1.ad lp from u1.below AVV.bel)
  have U2 := hide (show Slots ws2 x2.ad ls from u2.belowW AVV.bel)
  have UU0 := hide u0
  have UU1 := hide u1
  have UU2 := hide u2
  have HGG := hide hG
  clear AVV OS10 V9 Bj qj zn0 zn1 zn2 okF AP Q9 Q10 eO eP eF Q9b Q10b gz11 sz1 P1 P2 lt1 lt2 lt9 gl1 gl2 bz1 bz2 bzz qs1 qs2 hA G9 G10 G10j k0 k9 kw u0 u1 u2 hG
  generalize hwz : ws2 = wz at AVH U0 U1 U2 ⊢
  clear hwz
  have t3 := (AVH.out.rw.upds (i := 3) rfl)
  have t4 := (AVH.out.rw.upds (i := 4) rfl)
  have t5 := (AVH.out.rw.slots (i := 5) rfl)
  have t6 := (AVH.out.rw.upds (i := 6) rfl)
  have t7 := (AVH.out.rw.upds (i := 7) rfl)
  have t8 := (AVH.out.rw.slots (i := 8) rfl)
  have t0 := (AVH.out.rw.upds (i := 0) rfl)
  have t1 := (AVH.out.rw.upds (i := 1) rfl)
  have t2 := (AVH.out.rw.slots (i := 2) rfl)
  obtain ⟨x0a, n, x0c⟩ := x0
  obtain ⟨x1a, m, x1c⟩ := x1
  obtain ⟨x2a, q, x2c⟩ := x2
  obtain ⟨a0a, a0n, a0c⟩ := a0
  obtain ⟨a1a, a1n, a1c⟩ := a1
  obtain ⟨a2a, a2n, a2c⟩ := a2
  obtain ⟨b0a, b0n, b0c⟩ := b0
  obtain ⟨b1a, b1n, b1c⟩ := b1
  obtain ⟨b2a, b2n, b2c⟩ := b2
  obtain ⟨y0a, y0n, y0c⟩ := y0
  obtain ⟨y1a, y1n, y1c⟩ := y1
  obtain ⟨y2a, y2n, y2c⟩ := y2
  simp only at h0 h1 h3 t0 t1 t2 t3 t4 t5 t6 t7 t8 n0i n1i n2i z0 z1 z2 U0 U1 U2 UU0 UU1 UU2
  have e3 : n = a0n := by omega
  have e4 : m = a1n := by omega
  have e5 : q = a2n := by omega
  have e6 : n = b0n := by omega
  have e7 : m = b1n := by omega
  have e8 : q = b2n := by omega
  have e0 : n = y0n := by omega
  have e1 : m = y1n := by omega
  have e2 : q = y2n := by omega
  subst e3
  subst e4
  subst e5
  subst e6
  subst e7
  subst e8
  subst e0
  subst e1
  subst e2
  have SA := hide (fun (wx : World) (hb : Below wz.heap.size wz wx) => sameL_any a0a x0a n a0c x0c lo h0 (by omega) wx (t3.2.1.below hb) (U0.out.below hb))
  have SB := hide (fun (wx : World) (hb : Below wz.heap.size wz wx) => sameL_any a1a x1a m a1c x1c lp h1 (by omega) wx (t4.2.1.below hb) (U1.out.below hb))
  have SC := hide (fun (wx : World) (hb : Below wz.heap.size wz wx) => sameL_any b0a x0a n b0c x0c lo h0 (by omega) wx (t6.2.1.below hb) (U0.out.below hb))
  have SD := hide (fun (wx : World) (hb : Below wz.heap.size wz wx) => sameL_any b1a x1a m b1c x1c lp h1 (by omega) wx (t7.2.1.below hb) (U1.out.below hb))
  have V11 := hide AVH.out.v11
  have V13 := hide AVH.out.v13
  have c1 : wz.cell? ⟨g11, 4, none⟩ = some (.slice a0a n a0c) := V11.out.cell 4 (by omega)
  have L0 := hide h0
  have L1 := hide h1
  have L3 := hide h3
  clear t0 t1 t2 t3 t4 t5 t6 t7 t8 h0 h1 h3 U0 U1 U2
  go_wp2_with fail
  refine (SA.out _ (Below.refl _ _)).mono ?_
  rintro e w2 ⟨rfl, hb2⟩
  have c2 : w2.cell? ⟨g11, 5, none⟩ = some (.slice a1a m a1c) := (V11.out.below hb2 V11.out.lt).cell 5 (by omega)
  clear c1 SA
  go_wp2_with fail
  refine (SB.out _ hb2).mono ?_
  rintro e w3 ⟨rfl, hb3⟩
  have hc3 : Below wz.heap.size wz w3 := hb2.trans (hb3.mono hb2.size)
  have c3 : w3.cell? ⟨g13, 4, none⟩ = some (.slice b0a n b0c) := (V13.out.below hc3 V13.out.lt).cell 4 (by omega)
  clear c2 SB hb2 hb3
  go_wp2_with fail
  refine (SC.out _ hc3).mono ?_
  rintro e w4 ⟨rfl, hb4⟩
  have hc4 : Below wz.heap.size wz w4 := hc3.trans (hb4.mono hc3.size)
  have c4 : w4.cell? ⟨g13, 5, none⟩ = some (.slice b1a m b1c) := (V13.out.below hc4 V13.out.lt).cell 5 (by omega)
  clear c3 SC hb4 hc3
  go_wp2_with fail
  refine (SD.out _ hc4).mono ?_
  rintro e w5 ⟨rfl, hb5⟩
  have hc5 : Below wz.heap.size wz w5 := hc4.trans (hb5.mono hc4.size)
  have c5 : w5.cell? ⟨g11, 112, none⟩ = some (.slice a2a q a2c) := (V11.out.below hc5 V11.out.lt).cell 112 (by omega)
  have c6 : w5.cell? ⟨g13, 112, none⟩ = some (.slice b2a q b2c) := (V13.out.below hc5 V13.out.lt).cell 112 (by omega)
  have AV5 := hide (AVH.out.low hc5)
  clear c4 SD hb5 hc4 V11 V13 AVH hc5
  go_upto_region 9 with fail
  clear c5 c6
  go_wp2
  go_loopw [15] (fun i wr => ∃ j : Nat, j ≤ n ∧ i = .int .i64 (j : Int) ∧ AV w g9 g10 g11 g13 A A ⟨y0a, n, y0c⟩ ⟨y1a, m, y1c⟩ ⟨y2a, q, y2c⟩ ⟨a0a, n, a0c⟩ ⟨a1a, m, a1c⟩ ⟨a2a, q, a2c⟩ ⟨b0a, n, b0c⟩ ⟨b1a, m, b1c⟩ ⟨b2a, q, b2c⟩ lo lp ls (ow (uK (-1)) lo j) lp ls lo lp ls wr) (fun i _ => n - (intOf i).toNat)
  case atStart => exact ⟨0, Nat.zero_le _, rfl, by rw [ow_zero]; exact AV5.out⟩
  case round =>
    obtain ⟨j, hj, rfl, hV⟩ := hrel
    clear AV5
    have c7 : wr.cell? ⟨g11, 4, none⟩ = some (.slice a0a n a0c) := hV.v11.cell 4 (by omega)
    by_cases hjm : j < n
    · have hd : decide ((j : Int) < (n : Int)) = true := decide_eq_true (by omega)
      have hd' : decide (j < n) = true := decide_eq_true hjm
      have hlen : (lo).length = n := L0.out
      obtain ⟨g, fx, hxa, hH, hnc, hset⟩ := hV.put3 (j := j) (by rw [ow_len _ _ _ (by rw [hlen]; exact hj), hlen]; exact hjm)
      simp only at hxa hH hnc hset
      subst hxa
      obtain ⟨wn, hwn⟩ : ∃ y, wr.setRow g (tabv (splice fx (j * 36) (uK (-1)).v 36) (a0c * 36)) = y := ⟨_, rfl⟩
      have RN := hset (uK (-1))
      rw [hwn, ow_set _ _ _ (by rw [hlen]; exact hjm)] at RN
      have HH := hide hH
      have HWN := hide hwn
      have RNH := hide RN
      have jlt : (j : Int) < (n : Int) := by omega
      clear hset hwn hH hV RN hlen
      go_wp2_with (first | refine wpW_build (by rfl) 36 #[(0, .const (.int .i64 (-1)))] rfl [(0, .int .i64 (-1))] (by first | rfl | (simp [Act.eval, Act.put]; done)) _ (builtUK (-1)) ?_ | (refine wpList_store_part rfl 36 _ _ rfl rfl g (j * 36) (uK (-1)).v 36 rfl rfl 36 _ (a0c * 36) HH.out (by omega) infoU (fun i _ => oneV _ i) (splice fx (j * 36) (uK (-1)).v 36) (fun _ _ => rfl) ?_; rw [HWN.out]) | fail)
      go_roundw
      case rel => exact ⟨j + 1, by omega, by go_num, RNH.out⟩
      case measure => simp [intOf]; omega
    · obtain rfl : n = j := by omega
      have hd : decide ((n : Int) < (n : Int)) = false := decide_eq_false (by omega)
      have hd' : decide (n < n) = false := decide_eq_false (by omega)
      have eo : ow (uK (-1)) lo n = List.replicate n (uK (-1)) := by
        have := ow_all (uK (-1)) lo
        rw [L0.out] at this
        exact this
      rw [eo] at hV
      have AV6 := hide hV
      clear eo hjm hj hV
      go_upto_region 13 with fail
      clear c7
      go_wp2
      go_loopw [16] (fun i wr => ∃ j : Nat, j ≤ m ∧ i = .int .i64 (j : Int) ∧ AV w g9 g10 g11 g13 A A ⟨y0a, n, y0c⟩ ⟨y1a, m, y1c⟩ ⟨y2a, q, y2c⟩ ⟨a0a, n, a0c⟩ ⟨a1a, m, a1c⟩ ⟨a2a, q, a2c⟩ ⟨b0a, n, b0c⟩ ⟨b1a, m, b1c⟩ ⟨b2a, q, b2c⟩ lo lp ls (List.replicate n (uK (-1))) (ow (uK (-2)) lp j) ls lo lp ls wr) (fun i _ => m - (intOf i).toNat)
      case atStart => exact ⟨0, Nat.zero_le _, rfl, by rw [ow_zero]; exact AV6.out⟩
      case round =>
        obtain ⟨j, hj, rfl, hV⟩ := hrel
        clear AV6
        have c7 : wr.cell? ⟨g11, 5, none⟩ = some (.slice a1a m a1c) := hV.v11.cell 5 (by omega)
        by_cases hjm : j < m
        · have hd : decide ((j : Int) < (m : Int)) = true := decide_eq_true (by omega)
          have hd' : decide (j < m) = true := decide_eq_true hjm
          have hlen : (lp).length = m := L1.out
          obtain ⟨g, fx, hxa, hH, hnc, hset⟩ := hV.put4 (j := j) (by rw [ow_len _ _ _ (by rw [hlen]; exact hj), hlen]; exact hjm)
          simp only at hxa hH hnc hset
          subst hxa
          obtain ⟨wn, hwn⟩ : ∃ y, wr.setRow g (tabv (splice fx (j * 36) (uK (-2)).v 36) (a1c * 36)) = y := ⟨_, rfl⟩
          have RN := hset (uK (-2))
          rw [hwn, ow_set _ _ _ (by rw [hlen]; exact hjm)] at RN
          have HH := hide hH
          have HWN := hide hwn
          have RNH := hide RN
          have jlt : (j : Int) < (m : Int) := by omega
          clear hset hwn hH hV RN hlen
          go_wp2_with (first | refine wpW_build (by rfl) 36 #[(0, .const (.int .i64 (-2)))] rfl [(0, .int .i64 (-2))] (by first | rfl | (simp [Act.eval, Act.put]; done)) _ (builtUK (-2)) ?_ | (refine wpList_store_part rfl 36 _ _ rfl rfl g (j * 36) (uK (-2)).v 36 rfl rfl 36 _ (a1c * 36) HH.out (by omega) infoU (fun i _ => oneV _ i) (splice fx (j * 36) (uK (-2)).v 36) (fun _ _ => rfl) ?_; rw [HWN.out]) | fail)
          go_roundw
          case rel => exact ⟨j + 1, by omega, by go_num, RNH.out⟩
          case measure => simp [intOf]; omega
        · obtain rfl : m = j := by omega
          have hd : decide ((m : Int) < (m : Int)) = false := decide_eq_false (by omega)
          have hd' : decide (m < m) = false := decide_eq_false (by omega)
          have eo : ow (uK (-2)) lp m = List.replicate m (uK (-2)) := by
            have := ow_all (uK (-2)) lp
            rw [L1.out] at this
            exact this
          rw [eo] at hV
          have AV7 := hide hV
          clear eo hjm hj hV
          go_upto_region 17 with fail
          clear c7
          go_wp2
          go_loopw [17] (fun i wr => ∃ j : Nat, j ≤ q ∧ i = .int .i64 (j : Int) ∧ AV w g9 g10 g11 g13 A A ⟨y0a, n, y0c⟩ ⟨y1a, m, y1c⟩ ⟨y2a, q, y2c⟩ ⟨a0a, n, a0c⟩ ⟨a1a, m, a1c⟩ ⟨a2a, q, a2c⟩ ⟨b0a, n, b0c⟩ ⟨b1a, m, b1c⟩ ⟨b2a, q, b2c⟩ lo lp ls (List.replicate n (uK (-1))) (List.replicate m (uK (-2))) (ow (fK (-3)) ls j) lo lp ls wr) (fun i _ => q - (intOf i).toNat)
          case atStart => exact ⟨0, Nat.zero_le _, rfl, by rw [ow_zero]; exact AV7.out⟩
          case round =>
            obtain ⟨j, hj, rfl, hV⟩ := hrel
            clear AV7
            have c7 : wr.cell? ⟨g11, 112, none⟩ = some (.slice a2a q a2c) := hV.v11.cell 112 (by omega)
            by_cases hjm : j < q
            · have hd : decide ((j : Int) < (q : Int)) = true := decide_eq_true (by omega)
              have hd' : decide (j < q) = true := decide_eq_true hjm
              have hlen : (ls).length = q := L3.out
              obtain ⟨g, fx, hxa, hH, hnc, hset⟩ := hV.put5 (j := j) (by rw [ow_len _ _ _ (by rw [hlen]; exact hj), hlen]; exact hjm)
              simp only at hxa hH hnc hset
              subst hxa
              obtain ⟨wn, hwn⟩ : ∃ y, wr.setRow g (tabv (splice fx (j * 34) (fK (-3)).v 34) (a2c * 34)) = y := ⟨_, rfl⟩
              have RN := hset (fK (-3))
              rw [hwn, ow_set _ _ _ (by rw [hlen]; exact hjm)] at RN
              have HH := hide hH
              have HWN := hide hwn
              have RNH := hide RN
              have jlt : (j : Int) < (q : Int) := by omega
              clear hset hwn hH hV RN hlen
              go_wp2_with (first | refine wpW_build (by rfl) 49 #[(0, .const (.int .i64 (-3)))] rfl [(0, .int .i64 (-3))] (by first | rfl | (simp [Act.eval, Act.put]; done)) _ (builtFK (-3)) ?_ | (refine wpList_store_part rfl 49 _ _ rfl rfl g (j * 34) (fK (-3)).v 34 rfl rfl 49 _ (a2c * 34) HH.out (by omega) infoS (fun i _ => oneVH _ i) (splice fx (j * 34) (fK (-3)).v 34) (fun _ _ => rfl) ?_; rw [HWN.out]) | fail)
              go_roundw
              case rel => exact ⟨j + 1, by omega, by go_num, RNH.out⟩
              case measure => simp [intOf]; omega
            · obtain rfl : q = j := by omega
              have hd : decide ((q : Int) < (q : Int)) = false := decide_eq_false (by omega)
              have hd' : decide (q < q) = false := decide_eq_false (by omega)
              have eo : ow (fK (-3)) ls q = List.replicate q (fK (-3)) := by
                have := ow_all (fK (-3)) ls
                rw [L3.out] at this
                exact this
              rw [eo] at hV
              have AV8 := hide hV
              clear eo hjm hj hV
              go_upto_region 21 with fail
              clear c7
              obtain ⟨p3, wp3, wo3, RSp, RAp, d1, d2, d3, AVp⟩ := AV8.out.push3 (uK (-4)) (by rw [List.length_replicate]; omega)
              obtain ⟨wc3, hwc3⟩ : ∃ y, wo3.setCell ⟨g11, 4, none⟩ (.slice p3.ad p3.n p3.c) = y := ⟨_, rfl⟩
              rw [hwc3] at AVp
              have RSH := hide RSp
              have RAH := hide RAp
              have AV9 := hide AVp
              clear RSp RAp AVp AV8
              go_upto_region 22 with (first | rw [hwc3] | (go_big_may; first | refine wpW_build (by rfl) 36 #[(0, .const (.int .i64 (-4)))] rfl [(0, .int .i64 (-4))] (by first | rfl | (simp [Act.eval, Act.put]; done)) _ (builtUK (-4)) ?_ | refine wpList_slice1 rfl 27 _ rfl (.agg (tabv (uK (-4)).v 36)) rfl RSH.out ?_ | refine wpList_app rfl _ _ _ rfl RAH.out ?_) | fail)
              try rw [hwc3]
              clear RSH RAH d1 d2 d3 hwc3
              obtain ⟨p4, wp4, wo4, RSp, RAp, d1, d2, d3, AVp⟩ := AV9.out.push4 (uK (-5)) (by rw [List.length_replicate]; omega)
              obtain ⟨wc4, hwc4⟩ : ∃ y, wo4.setCell ⟨g11, 5, none⟩ (.slice p4.ad p4.n p4.c) = y := ⟨_, rfl⟩
              rw [hwc4] at AVp
              have RSH := hide RSp
              have RAH := hide RAp
              have AV10 := hide AVp
              clear RSp RAp AVp AV9
              go_upto_region 23 with (first | rw [hwc4] | (go_big_may; first | refine wpW_build (by rfl) 36 #[(0, .const (.int .i64 (-5)))] rfl [(0, .int .i64 (-5))] (by first | rfl | (simp [Act.eval, Act.put]; done)) _ (builtUK (-5)) ?_ | refine wpList_slice1 rfl 27 _ rfl (.agg (tabv (uK (-5)).v 36)) rfl RSH.out ?_ | refine wpList_app rfl _ _ _ rfl RAH.out ?_) | fail)
              try rw [hwc4]
              clear RSH RAH d1 d2 d3 hwc4
              obtain ⟨p5, wp5, wo5, RSp, RAp, d1, d2, d3, AVp⟩ := AV10.out.push5 (fK (-6)) (by rw [List.length_replicate]; omega)
              obtain ⟨wc5, hwc5⟩ : ∃ y, wo5.setCell ⟨g11, 112, none⟩ (.slice p5.ad p5.n p5.c) = y := ⟨_, rfl⟩
              rw [hwc5] at AVp
              have RSH := hide RSp
              have RAH := hide RAp
              have AV11 := hide AVp
              clear RSp RAp AVp AV10
              go_upto_region 24 with (first | rw [hwc5] | (go_big_may; first | refine wpW_build (by rfl) 49 #[(0, .const (.int .i64 (-6)))] rfl [(0, .int .i64 (-6))] (by first | rfl | (simp [Act.eval, Act.put]; done)) _ (builtFK (-6)) ?_ | refine wpList_slice1 rfl 29 _ rfl (.agg (tabv (fK (-6)).v 34)) rfl RSH.out ?_ | refine wpList_app rfl _ _ _ rfl RAH.out ?_) | fail)
              try rw [hwc5]
              clear RSH RAH d1 d2 d3 hwc5
              obtain ⟨p6, wp6, wo6, RSp, RAp, d1, d2, d3, AVp⟩ := AV11.out.push6 (uK (-7)) (by rw [L0.out]; omega)
              obtain ⟨wc6, hwc6⟩ : ∃ y, wo6.setCell ⟨g13, 4, none⟩ (.slice p6.ad p6.n p6.c) = y := ⟨_, rfl⟩
              rw [hwc6] at AVp
              have RSH := hide RSp
              have RAH := hide RAp
              have AV12 := hide AVp
              clear RSp RAp AVp AV11
              go_upto_region 25 with (first | rw [hwc6] | (go_big_may; first | refine wpW_build (by rfl) 36 #[(0, .const (.int .i64 (-7)))] rfl [(0, .int .i64 (-7))] (by first | rfl | (simp [Act.eval, Act.put]; done)) _ (builtUK (-7)) ?_ | refine wpList_slice1 rfl 27 _ rfl (.agg (tabv (uK (-7)).v 36)) rfl RSH.out ?_ | refine wpList_app rfl _ _ _ rfl RAH.out ?_) | fail)
              try rw [hwc6]
              clear RSH RAH d1 d2 d3 hwc6
              obtain ⟨p7, wp7, wo7, RSp, RAp, d1, d2, d3, AVp⟩ := AV12.out.push7 (uK (-8)) (by rw [L1.out]; omega)
              obtain ⟨wc7, hwc7⟩ : ∃ y, wo7.setCell ⟨g13, 5, none⟩ (.slice p7.ad p7.n p7.c) = y := ⟨_, rfl⟩
              rw [hwc7] at AVp
              have RSH := hide RSp
              have RAH := hide RAp
              have AV13 := hide AVp
              clear RSp RAp AVp AV12
              go_upto_region 26 with (first | rw [hwc7] | (go_big_may; first | refine wpW_build (by rfl) 36 #[(0, .const (.int .i64 (-8)))] rfl [(0, .int .i64 (-8))] (by first | rfl | (simp [Act.eval, Act.put]; done)) _ (builtUK (-8)) ?_ | refine wpList_slice1 rfl 27 _ rfl (.agg (tabv (uK (-8)).v 36)) rfl RSH.out ?_ | refine wpList_app rfl _ _ _ rfl RAH.out ?_) | fail)
              try rw [hwc7]
              clear RSH RAH d1 d2 d3 hwc7
              obtain ⟨p8, wp8, wo8, RSp, RAp, d1, d2, d3, AVp⟩ := AV13.out.push8 (fK (-9)) (by rw [L3.out]; omega)
              obtain ⟨wc8, hwc8⟩ : ∃ y, wo8.setCell ⟨g13, 112, none⟩ (.slice p8.ad p8.n p8.c) = y := ⟨_, rfl⟩
              rw [hwc8] at AVp
              have RSH := hide RSp
              have RAH := hide RAp
              have AV14 := hide AVp
              clear RSp RAp AVp AV13
              go_upto_region 27 with (first | rw [hwc8] | (go_big_may; first | refine wpW_build (by rfl) 49 #[(0, .const (.int .i64 (-9)))] rfl [(0, .int .i64 (-9))] (by first | rfl | (simp [Act.eval, Act.put]; done)) _ (builtFK (-9)) ?_ | refine wpList_slice1 rfl 29 _ rfl (.agg (tabv (fK (-9)).v 34)) rfl RSH.out ?_ | refine wpList_app rfl _ _ _ rfl RAH.out ?_) | fail)
              try rw [hwc8]
              clear RSH RAH d1 d2 d3 hwc8
              generalize hwk : wc8 = wk at AV14 ⊢
              clear hwk
              have t3 := AV14.out.rw.upds (i := 3) rfl
              rw [List.length_append, List.length_replicate, List.length_singleton] at t3
              obtain ⟨pb3, po3, hpa3, hpl3, hAt3⟩ := t3.2.1.get n (uK (-4)) (by rw [List.getElem?_append_right (by rw [List.length_replicate]; exact Nat.le_refl _), List.length_replicate, Nat.sub_self]; rfl)
              obtain ⟨pa3, pn3, pc3⟩ := p3
              simp only at t3 hpa3
              subst hpa3
              have v3 : wk.cell? ⟨g11, 4, none⟩ = some (.slice (some ⟨pb3, po3, none⟩) pn3 pc3) := AV14.out.v11.cell 4 (by omega)
              have k3 : wk.cell? ⟨pb3, po3 + n * 36, none⟩ = some (.int .i64 (-4)) := hAt3 0 (by omega)
              have i3 : (n : Int) < (pn3 : Int) := by omega
              have PN3 := hide t3.1
              have PC3 := hide t3.2.2
              clear hAt3 hpl3 t3
              have t4 := AV14.out.rw.upds (i := 4) rfl
              rw [List.length_append, List.length_replicate, List.length_singleton] at t4
              obtain ⟨pb4, po4, hpa4, hpl4, hAt4⟩ := t4.2.1.get m (uK (-5)) (by rw [List.getElem?_append_right (by rw [List.length_replicate]; exact Nat.le_refl _), List.length_replicate, Nat.sub_self]; rfl)
              obtain ⟨pa4, pn4, pc4⟩ := p4
              simp only at t4 hpa4
              subst hpa4
              have v4 : wk.cell? ⟨g11, 5, none⟩ = some (.slice (some ⟨pb4, po4, none⟩) pn4 pc4) := AV14.out.v11.cell 5 (by omega)
              have k4 : wk.cell? ⟨pb4, po4 + m * 36, none⟩ = some (.int .i64 (-5)) := hAt4 0 (by omega)
              have i4 : (m : Int) < (pn4 : Int) := by omega
              have PN4 := hide t4.1
              have PC4 := hide t4.2.2
              clear hAt4 hpl4 t4
              have t5 := AV14.out.rw.slots (i := 5) rfl
              rw [List.length_append, List.length_replicate, List.length_singleton] at t5
              obtain ⟨pb5, po5, hpa5, hpl5, hAt5⟩ := t5.2.1.get q (fK (-6)) (by rw [List.getElem?_append_right (by rw [List.length_replicate]; exact Nat.le_refl _), List.length_replicate, Nat.sub_self]; rfl)
              obtain ⟨pa5, pn5, pc5⟩ := p5
              simp only at t5 hpa5
              subst hpa5
              have v5 : wk.cell? ⟨g11, 112, none⟩ = some (.slice (some ⟨pb5, po5, none⟩) pn5 pc5) := AV14.out.v11.cell 112 (by omega)
              have k5 : wk.cell? ⟨pb5, po5 + q * 34, none⟩ = some (.int .i64 (-6)) := hAt5 0 (by omega)
              have i5 : (q : Int) < (pn5 : Int) := by omega
              have PN5 := hide t5.1
              have PC5 := hide t5.2.2
              clear hAt5 hpl5 t5
              have t6 := AV14.out.rw.upds (i := 6) rfl
              rw [List.length_append, L0.out, List.length_singleton] at t6
              obtain ⟨pb6, po6, hpa6, hpl6, hAt6⟩ := t6.2.1.get n (uK (-7)) (by rw [List.getElem?_append_right (by rw [L0.out]; exact Nat.le_refl _), L0.out, Nat.sub_self]; rfl)
              obtain ⟨pa6, pn6, pc6⟩ := p6
              simp only at t6 hpa6
              subst hpa6
              have v6 : wk.cell? ⟨g13, 4, none⟩ = some (.slice (some ⟨pb6, po6, none⟩) pn6 pc6) := AV14.out.v13.cell 4 (by omega)
              have k6 : wk.cell? ⟨pb6, po6 + n * 36, none⟩ = some (.int .i64 (-7)) := hAt6 0 (by omega)
              have i6 : (n : Int) < (pn6 : Int) := by omega
              have PN6 := hide t6.1
              have PC6 := hide t6.2.2
              clear hAt6 hpl6 t6
              have t7 := AV14.out.rw.upds (i := 7) rfl
              rw [List.length_append, L1.out, List.length_singleton] at t7
              obtain ⟨pb7, po7, hpa7, hpl7, hAt7⟩ := t7.2.1.get m (uK (-8)) (by rw [List.getElem?_append_right (by rw [L1.out]; exact Nat.le_refl _), L1.out, Nat.sub_self]; rfl)
              obtain ⟨pa7, pn7, pc7⟩ := p7
              simp only at t7 hpa7
              subst hpa7
              have v7 : wk.cell? ⟨g13, 5, none⟩ = some (.slice (some ⟨pb7, po7, none⟩) pn7 pc7) := AV14.out.v13.cell 5 (by omega)
              have k7 : wk.cell? ⟨pb7, po7 + m * 36, none⟩ = some (.int .i64 (-8)) := hAt7 0 (by omega)
              have i7 : (m : Int) < (pn7 : Int) := by omega
              have PN7 := hide t7.1
              have PC7 := hide t7.2.2
              clear hAt7 hpl7 t7
              have t8 := AV14.out.rw.slots (i := 8) rfl
              rw [List.length_append, L3.out, List.length_singleton] at t8
              obtain ⟨pb8, po8, hpa8, hpl8, hAt8⟩ := t8.2.1.get q (fK (-9)) (by rw [List.getElem?_append_right (by rw [L3.out]; exact Nat.le_refl _), L3.out, Nat.sub_self]; rfl)
              obtain ⟨pa8, pn8, pc8⟩ := p8
              simp only at t8 hpa8
              subst hpa8
              have v8 : wk.cell? ⟨g13, 112, none⟩ = some (.slice (some ⟨pb8, po8, none⟩) pn8 pc8) := AV14.out.v13.cell 112 (by omega)
              have k8 : wk.cell? ⟨pb8, po8 + q * 34, none⟩ = some (.int .i64 (-9)) := hAt8 0 (by omega)
              have i8 : (q : Int) < (pn8 : Int) := by omega
              have PN8 := hide t8.1
              have PC8 := hide t8.2.2
              clear hAt8 hpl8 t8
              go_upto_region 32 with fail
              clear v3 k3 i3 v4 k4 i4 v5 k5 i5 v6 k6 i6 v7 k7 i7 v8 k8 i8
              go_wp2
              go_loopw [21] (fun i wr => ∃ j : Nat, j ≤ q ∧ i = .int .i64 (j : Int) ∧ Below wk.heap.size wk wr) (fun i _ => q - (intOf i).toNat)
              case atStart => exact ⟨0, Nat.zero_le _, rfl, Below.refl _ _⟩
              case round =>
                obtain ⟨j, hj, rfl, hbr⟩ := hrel
                by_cases hjm : j < q
                · have hd : decide ((j : Int) < (q : Int)) = true := decide_eq_true (by omega)
                  have hd' : decide (j < q) = true := decide_eq_true hjm
                  have AVr := hide (AV14.out.low hbr)
                  obtain ⟨f, hf⟩ : ∃ f, ls[j]? = some f := ⟨_, List.getElem?_eq_getElem (by rw [L3.out]; exact hjm)⟩
                  obtain ⟨b8, o8, ha8, hm8, hA8⟩ := (AVr.out.rw.slots (i := 8) rfl).2.1.get j f (by rw [List.getElem?_append_left (by rw [L3.out]; exact hjm)]; exact hf)
                  obtain ⟨rfl, rfl⟩ : pb8 = b8 ∧ po8 = o8 := by cases ha8; exact ⟨rfl, rfl⟩
                  obtain ⟨b5, o5, ha5, hm5, hA5⟩ := (AVr.out.rw.slots (i := 5) rfl).2.1.get j (fK (-3)) (by rw [List.getElem?_append_left (by rw [List.length_replicate]; exact hjm), List.getElem?_replicate, if_pos hjm])
                  obtain ⟨rfl, rfl⟩ : pb5 = b5 ∧ po5 = o5 := by cases ha5; exact ⟨rfl, rfl⟩
                  obtain ⟨yb, yo, hya, hmy, hAy⟩ := (AVr.out.rw.slots (i := 2) rfl).2.1.get j f hf
                  obtain ⟨xb, xo, hxa, hmx, hAx⟩ := (UU2.out.belowW AVr.out.bel).get j f hf
                  simp only at hya
                  subst hya
                  subst hxa
                  have H8 := hide hA8
                  have H5 := hide hA5
                  have HY := hide hAy
                  have HX := hide hAx
                  have M8 := hide hm8
                  have M5 := hide hm5
                  have MY := hide hmy
                  have MX := hide hmx
                  have j8 : (j : Int) < (pn8 : Int) := by have := PN8.out; omega
                  have j5 : (j : Int) < (pn5 : Int) := by have := PN5.out; omega
                  have jq : (j : Int) < (q : Int) := by omega
                  clear ha8 ha5 hA8 hA5 hAy hAx hm8 hm5 hmy hmx hf AV14
                  go_upto_region 35 with fail
                  go_wp2
                  refine wp_region_noPanic ?_
                  refine wp_region_held_drew (S := fun wx => Below wr.heap.size wr wx) (by kernel_rfl) ((Below.refl _ _).drew) (fun hHeld => ?_)
                  generalize hwd : World.drew wr = wd at hHeld ⊢
                  clear hwd
                  refine Cu.takeH 0 (some 235) (.pointer (some ⟨g13, 112, none⟩)) rfl rfl (by kernel_rfl) (by kernel_rfl) (by kernel_rfl) (fun _ _ _ h => h) (by rfl) (fun w_ hw => by first | rfl | (go_simp; done) | (go_simp; rfl) | (go_simp; omega)) hHeld ?_
                  simp only [Act.put, List.setIfInBounds_toArray, List.set_cons_zero, List.set_cons_succ]
                  refine Cu.takeH 1 (some 236) (.slice (some ⟨pb8, po8, none⟩) pn8 pc8) rfl rfl (by kernel_rfl) (by kernel_rfl) (by kernel_rfl) (fun _ _ _ h => h) (by rfl) (fun w_ hw => by have c : World.cell? _ ⟨g13, 112, none⟩ = some (.slice (some ⟨pb8, po8, none⟩) pn8 pc8) := (AVr.out.v13.below hw AVr.out.v13.lt).cell 112 (by omega); first | rfl | (go_simp; done) | (go_simp; rfl) | (go_simp; omega)) hHeld ?_
                  simp only [Act.put, List.setIfInBounds_toArray, List.set_cons_zero, List.set_cons_succ]
                  refine Cu.takeH 2 (some 237) (.int .i64 (j : Int)) rfl rfl (by kernel_rfl) (by kernel_rfl) (by kernel_rfl) (fun _ _ _ h => h) (by rfl) (fun w_ hw => bmov w_ _ _ rfl (by rfl)) hHeld ?_
                  simp only [Act.put, List.setIfInBounds_toArray, List.set_cons_zero, List.set_cons_succ]
                  refine Cu.takeH 3 (some 238) (.pointer (some ⟨pb8, po8 + j * 34, none⟩)) rfl rfl (by kernel_rfl) (by kernel_rfl) (by kernel_rfl) (fun _ _ _ h => h) (by rfl) (fun w_ hw => by first | rfl | (go_simp; done) | (go_simp; rfl) | (go_simp; omega)) hHeld ?_
                  simp only [Act.put, List.setIfInBounds_toArray, List.set_cons_zero, List.set_cons_succ]
                  refine Cu.takeH 4 (some 239) (.agg (tabv f.v 34)) rfl rfl (by kernel_rfl) (by kernel_rfl) (by kernel_rfl) (fun _ _ _ h => h) (by rfl) (fun w_ hw => run_load_at w_ 49 _ rfl (pb8) (po8 + j * 34) (by rfl) _ 34 _ (H8.out.below hw M8.out) Tryz.underlying49 rfl infoS) hHeld ?_
                  simp only [Act.put, List.setIfInBounds_toArray, List.set_cons_zero, List.set_cons_succ]
                  refine Cu.takeH 5 (some 240) (.slice (some ⟨xb, xo, none⟩) q x2c) rfl rfl (by kernel_rfl) (by kernel_rfl) (by kernel_rfl) (fun _ _ _ h => h) (by rfl) (fun w_ hw => bmov w_ _ _ rfl (by rfl)) hHeld ?_
                  simp only [Act.put, List.setIfInBounds_toArray, List.set_cons_zero, List.set_cons_succ]
                  refine Cu.takeH 6 (some 241) (.int .i64 (j : Int)) rfl rfl (by kernel_rfl) (by kernel_rfl) (by kernel_rfl) (fun _ _ _ h => h) (by rfl) (fun w_ hw => bmov w_ _ _ rfl (by rfl)) hHeld ?_
                  simp only [Act.put, List.setIfInBounds_toArray, List.set_cons_zero, List.set_cons_succ]
                  refine Cu.takeH 7 (some 242) (.pointer (some ⟨xb, xo + j * 34, none⟩)) rfl rfl (by kernel_rfl) (by kernel_rfl) (by kernel_rfl) (fun _ _ _ h => h) (by rfl) (fun w_ hw => by first | rfl | (go_simp; done) | (go_simp; rfl) | (go_simp; omega)) hHeld ?_
                  simp only [Act.put, List.setIfInBounds_toArray, List.set_cons_zero, List.set_cons_succ]
                  refine Cu.takeH 8 (some 243) (.agg (tabv f.v 34)) rfl rfl (by kernel_rfl) (by kernel_rfl) (by kernel_rfl) (fun _ _ _ h => h) (by rfl) (fun w_ hw => run_load_at w_ 49 _ rfl (xb) (xo + j * 34) (by rfl) _ 34 _ (HX.out.below hw MX.out) Tryz.underlying49 rfl infoS) hHeld ?_
                  simp only [Act.put, List.setIfInBounds_toArray, List.set_cons_zero, List.set_cons_succ]
                  refine Cu.takeH 9 (some 244) (.bool false) rfl rfl (by kernel_rfl) (by kernel_rfl) (by kernel_rfl) (fun _ _ _ h => h) (by rfl) (fun w_ hw => run_neF w_ _ _ f rfl (by rfl) (by rfl)) hHeld ?_
                  simp only [Act.put, List.setIfInBounds_toArray, List.set_cons_zero, List.set_cons_succ]
                  refine Cu.takeH 10 (some 245) (.bool false) rfl rfl (by kernel_rfl) (by kernel_rfl) (by kernel_rfl) (fun _ _ _ h => h) (by rfl) (fun w_ hw => bmov w_ _ _ rfl (by rfl)) hHeld ?_
                  simp only [Act.put, List.setIfInBounds_toArray, List.set_cons_zero, List.set_cons_succ]
                  refine Cu.takeH 11 (some 246) (.pointer (some ⟨g9, 112, none⟩)) rfl rfl (by kernel_rfl) (by kernel_rfl) (by kernel_rfl) (fun _ _ _ h => h) (by rfl) (fun w_ hw => by first | rfl | (go_simp; done) | (go_simp; rfl) | (go_simp; omega)) hHeld ?_
                  simp only [Act.put, List.setIfInBounds_toArray, List.set_cons_zero, List.set_cons_succ]
                  refine Cu.takeH 12 (some 247) (.slice (some ⟨yb, yo, none⟩) q y2c) rfl rfl (by kernel_rfl) (by kernel_rfl) (by kernel_rfl) (fun _ _ _ h => h) (by rfl) (fun w_ hw => by have c : World.cell? _ ⟨g9, 112, none⟩ = some (.slice (some ⟨yb, yo, none⟩) q y2c) := (AVr.out.v9.below hw AVr.out.v9.lt).cell 112 (by omega); first | rfl | (go_simp; done) | (go_simp; rfl) | (go_simp; omega)) hHeld ?_
                  simp only [Act.put, List.setIfInBounds_toArray, List.set_cons_zero, List.set_cons_succ]
                  refine Cu.takeH 13 (some 248) (.int .i64 (j : Int)) rfl rfl (by kernel_rfl) (by kernel_rfl) (by kernel_rfl) (fun _ _ _ h => h) (by rfl) (fun w_ hw => bmov w_ _ _ rfl (by rfl)) hHeld ?_
                  simp only [Act.put, List.setIfInBounds_toArray, List.set_cons_zero, List.set_cons_succ]
                  refine Cu.takeH 14 (some 249) (.pointer (some ⟨yb, yo + j * 34, none⟩)) rfl rfl (by kernel_rfl) (by kernel_rfl) (by kernel_rfl) (fun _ _ _ h => h) (by rfl) (fun w_ hw => by first | rfl | (go_simp; done) | (go_simp; rfl) | (go_simp; omega)) hHeld ?_
                  simp only [Act.put, List.setIfInBounds_toArray, List.set_cons_zero, List.set_cons_succ]
                  refine Cu.takeH 15 (some 250) (.agg (tabv f.v 34)) rfl rfl (by kernel_rfl) (by kernel_rfl) (by kernel_rfl) (fun _ _ _ h => h) (by rfl) (fun w_ hw => run_load_at w_ 49 _ rfl (yb) (yo + j * 34) (by rfl) _ 34 _ (HY.out.below hw MY.out) Tryz.underlying49 rfl infoS) hHeld ?_
                  simp only [Act.put, List.setIfInBounds_toArray, List.set_cons_zero, List.set_cons_succ]
                  refine Cu.takeH 16 (some 251) (.slice (some ⟨xb, xo, none⟩) q x2c) rfl rfl (by kernel_rfl) (by kernel_rfl) (by kernel_rfl) (fun _ _ _ h => h) (by rfl) (fun w_ hw => bmov w_ _ _ rfl (by rfl)) hHeld ?_
                  simp only [Act.put, List.setIfInBounds_toArray, List.set_cons_zero, List.set_cons_succ]
                  refine Cu.takeH 17 (some 252) (.int .i64 (j : Int)) rfl rfl (by kernel_rfl) (by kernel_rfl) (by kernel_rfl) (fun _ _ _ h => h) (by rfl) (fun w_ hw => bmov w_ _ _ rfl (by rfl)) hHeld ?_
                  simp only [Act.put, List.setIfInBounds_toArray, List.set_cons_zero, List.set_cons_succ]
                  refine Cu.takeH 18 (some 253) (.pointer (some ⟨xb, xo + j * 34, none⟩)) rfl rfl (by kernel_rfl) (by kernel_rfl) (by kernel_rfl) (fun _ _ _ h => h) (by rfl) (fun w_ hw => by first | rfl | (go_simp; done) | (go_simp; rfl) | (go_simp; omega)) hHeld ?_
                  simp only [Act.put, List.setIfInBounds_toArray, List.set_cons_zero, List.set_cons_succ]
                  refine Cu.takeH 19 (some 254) (.agg (tabv f.v 34)) rfl rfl (by kernel_rfl) (by kernel_rfl) (by kernel_rfl) (fun _ _ _ h => h) (by rfl) (fun w_ hw => run_load_at w_ 49 _ rfl (xb) (xo + j * 34) (by rfl) _ 34 _ (HX.out.below hw MX.out) Tryz.underlying49 rfl infoS) hHeld ?_
                  simp only [Act.put, List.setIfInBounds_toArray, List.set_cons_zero, List.set_cons_succ]
                  refine Cu.takeH 20 (some 255) (.bool false) rfl rfl (by kernel_rfl) (by kernel_rfl) (by kernel_rfl) (fun _ _ _ h => h) (by rfl) (fun w_ hw => run_neF w_ _ _ f rfl (by rfl) (by rfl)) hHeld ?_
                  simp only [Act.put, List.setIfInBounds_toArray, List.set_cons_zero, List.set_cons_succ]
                  refine Cu.takeH 21 (some 256) (.bool false) rfl rfl (by kernel_rfl) (by kernel_rfl) (by kernel_rfl) (fun _ _ _ h => h) (by rfl) (fun w_ hw => by first | rfl | (go_simp; done) | (go_simp; rfl) | (go_simp; omega)) hHeld ?_
                  simp only [Act.put, List.setIfInBounds_toArray, List.set_cons_zero, List.set_cons_succ]
                  refine Cu.takeH 22 (some 257) (.bool false) rfl rfl (by kernel_rfl) (by kernel_rfl) (by kernel_rfl) (fun _ _ _ h => h) (by rfl) (fun w_ hw => bmov w_ _ _ rfl (by rfl)) hHeld ?_
                  simp only [Act.put, List.setIfInBounds_toArray, List.set_cons_zero, List.set_cons_succ]
                  refine Cu.takeH 23 (some 258) (.pointer (some ⟨g11, 112, none⟩)) rfl rfl (by kernel_rfl) (by kernel_rfl) (by kernel_rfl) (fun _ _ _ h => h) (by rfl) (fun w_ hw => by first | rfl | (go_simp; done) | (go_simp; rfl) | (go_simp; omega)) hHeld ?_
                  simp only [Act.put, List.setIfInBounds_toArray, List.set_cons_zero, List.set_cons_succ]
                  refine Cu.takeH 24 (some 259) (.slice (some ⟨pb5, po5, none⟩) pn5 pc5) rfl rfl (by kernel_rfl) (by kernel_rfl) (by kernel_rfl) (fun _ _ _ h => h) (by rfl) (fun w_ hw => by have c : World.cell? _ ⟨g11, 112, none⟩ = some (.slice (some ⟨pb5, po5, none⟩) pn5 pc5) := (AVr.out.v11.below hw AVr.out.v11.lt).cell 112 (by omega); first | rfl | (go_simp; done) | (go_simp; rfl) | (go_simp; omega)) hHeld ?_
                  simp only [Act.put, List.setIfInBounds_toArray, List.set_cons_zero, List.set_cons_succ]
                  refine Cu.takeH 25 (some 260) (.int .i64 (j : Int)) rfl rfl (by kernel_rfl) (by kernel_rfl) (by kernel_rfl) (fun _ _ _ h => h) (by rfl) (fun w_ hw => bmov w_ _ _ rfl (by rfl)) hHeld ?_
                  simp only [Act.put, List.setIfInBounds_toArray, List.set_cons_zero, List.set_cons_succ]
                  refine Cu.takeH 26 (some 261) (.pointer (some ⟨pb5, po5 + j * 34, none⟩)) rfl rfl (by kernel_rfl) (by kernel_rfl) (by kernel_rfl) (fun _ _ _ h => h) (by rfl) (fun w_ hw => by first | rfl | (go_simp; done) | (go_simp; rfl) | (go_simp; omega)) hHeld ?_
                  simp only [Act.put, List.setIfInBounds_toArray, List.set_cons_zero, List.set_cons_succ]
                  refine Cu.takeH 27 (some 262) (.pointer (some ⟨pb5, po5 + j * 34, none⟩)) rfl rfl (by kernel_rfl) (by kernel_rfl) (by kernel_rfl) (fun _ _ _ h => h) (by rfl) (fun w_ hw => by first | rfl | (go_simp; done) | (go_simp; rfl) | (go_simp; omega)) hHeld ?_
                  simp only [Act.put, List.setIfInBounds_toArray, List.set_cons_zero, List.set_cons_succ]
                  refine Cu.takeH 28 (some 263) (.int .i64 (-3)) rfl rfl (by kernel_rfl) (by kernel_rfl) (by kernel_rfl) (fun _ _ _ h => h) (by rfl) (fun w_ hw => by have c : World.cell? _ ⟨pb5, po5 + j * 34, none⟩ = some (.int .i64 (-3)) := (H5.out.below hw M5.out) 0 (by omega); first | rfl | (go_simp; done) | (go_simp; rfl) | (go_simp; omega)) hHeld ?_
                  simp only [Act.put, List.setIfInBounds_toArray, List.set_cons_zero, List.set_cons_succ]
                  refine Cu.takeH 29 (some 264) (.bool false) rfl rfl (by kernel_rfl) (by kernel_rfl) (by kernel_rfl) (fun _ _ _ h => h) (by rfl) (fun w_ hw => by first | rfl | (go_simp; done) | (go_simp; rfl) | (go_simp; omega)) hHeld ?_
                  simp only [Act.put, List.setIfInBounds_toArray, List.set_cons_zero, List.set_cons_succ]
                  refine Cu.takeH 30 (some 265) (.bool false) rfl rfl (by kernel_rfl) (by kernel_rfl) (by kernel_rfl) (fun _ _ _ h => h) (by rfl) (fun w_ hw => by first | rfl | (go_simp; done) | (go_simp; rfl) | (go_simp; omega)) hHeld ?_
                  simp only [Act.put, List.setIfInBounds_toArray, List.set_cons_zero, List.set_cons_succ]
                  refine wpAnyH_done (by kernel_rfl) ?_ _
                  refine NoPanic.normal ?_
                  have hbF := hbr.trans (hHeld.mono hbr.size)
                  clear hHeld H8 H5 HY HX AVr hbr
                  go_wp2
                  go_roundw
                  case rel => exact ⟨j + 1, by omega, by go_num, hbF⟩
                  case measure => simp [intOf]; omega
                · obtain rfl : q = j := by omega
                  have hd : decide ((q : Int) < (q : Int)) = false := decide_eq_false (by omega)
                  have hd' : decide (q < q) = false := decide_eq_false (by omega)
                  have AVr := hide (AV14.out.low hbr)
                  clear hjm hj AV14 hbr
                  have t6 := AVr.out.rw.upds (i := 6) rfl
                  have t7 := AVr.out.rw.upds (i := 7) rfl
                  have t0 := AVr.out.rw.upds (i := 0) rfl
                  have t1 := AVr.out.rw.upds (i := 1) rfl
                  have q6 : Upds wr (some ⟨pb6, po6, none⟩) lo := by
                    have := t6.2.1.front n
                    rw [List.take_left' L0.out] at this
                    exact this
                  have q7 : Upds wr (some ⟨pb7, po7, none⟩) lp := by
                    have := t7.2.1.front m
                    rw [List.take_left' L1.out] at this
                    exact this
                  have SA := hide (fun (wx : World) (hb : Below wr.heap.size wr wx) => sameL_any (some ⟨pb6, po6, none⟩) x0a n pc6 x0c lo L0.out (by omega) wx (q6.below hb) ((UU0.out.below AVr.out.bel).below hb))
                  have SB := hide (fun (wx : World) (hb : Below wr.heap.size wr wx) => sameL_any (some ⟨pb7, po7, none⟩) x1a m pc7 x1c lp L1.out (by omega) wx (q7.below hb) ((UU1.out.below AVr.out.bel).below hb))
                  have SC := hide (fun (wx : World) (hb : Below wr.heap.size wr wx) => sameL_any y0a x0a n y0c x0c lo L0.out (by omega) wx (t0.2.1.below hb) ((UU0.out.below AVr.out.bel).below hb))
                  have SD := hide (fun (wx : World) (hb : Below wr.heap.size wr wx) => sameL_any y1a x1a m y1c x1c lp L1.out (by omega) wx (t1.2.1.below hb) ((UU1.out.below AVr.out.bel).below hb))
                  have V9 := hide AVr.out.v9
                  have V11 := hide AVr.out.v11
                  have V13 := hide AVr.out.v13
                  have g1 : wr.cell? ⟨g13, 4, none⟩ = some (.slice (some ⟨pb6, po6, none⟩) pn6 pc6) := V13.out.cell 4 (by omega)
                  have nc6 : n ≤ pc6 := by have := PC6.out; omega
                  have nc7 : m ≤ pc7 := by have := PC7.out; omega
                  clear t6 t7 t0 t1 q6 q7
                  go_wp2_with (first | refine wpW_sliceK (by rfl) _ _ rfl (some ⟨pb6, po6, none⟩) pn6 pc6 n (by rfl) (by rfl) nc6 ?_ | fail)
                  refine (SA.out _ (Below.refl _ _)).mono ?_
                  rintro e v2 ⟨rfl, hb2⟩
                  have g2 : v2.cell? ⟨g13, 5, none⟩ = some (.slice (some ⟨pb7, po7, none⟩) pn7 pc7) := (V13.out.below hb2 V13.out.lt).cell 5 (by omega)
                  clear g1 SA
                  go_wp2_with (first | refine wpW_sliceK (by rfl) _ _ rfl (some ⟨pb7, po7, none⟩) pn7 pc7 m (by rfl) (by rfl) nc7 ?_ | fail)
                  refine (SB.out _ hb2).mono ?_
                  rintro e v3 ⟨rfl, hb3⟩
                  have hc3 : Below wr.heap.size wr v3 := hb2.trans (hb3.mono hb2.size)
                  have g3 : v3.cell? ⟨g9, 4, none⟩ = some (.slice y0a n y0c) := (V9.out.below hc3 V9.out.lt).cell 4 (by omega)
                  clear g2 SB hb2 hb3
                  go_wp2_with fail
                  refine (SC.out _ hc3).mono ?_
                  rintro e v4 ⟨rfl, hb4⟩
                  have hc4 : Below wr.heap.size wr v4 := hc3.trans (hb4.mono hc3.size)
                  have g4 : v4.cell? ⟨g9, 5, none⟩ = some (.slice y1a m y1c) := (V9.out.below hc4 V9.out.lt).cell 5 (by omega)
                  clear g3 SC hb4 hc3
                  go_wp2_with fail
                  refine (SD.out _ hc4).mono ?_
                  rintro e v5 ⟨rfl, hb5⟩
                  have hc5 : Below wr.heap.size wr v5 := hc4.trans (hb5.mono hc4.size)
                  have AV9 := AVr.out.low hc5
                  have g5 : v5.cell? ⟨g11, 4, none⟩ = some (.slice (some ⟨pb3, po3, none⟩) pn3 pc3) := AV9.v11.cell 4 (by omega)
                  have g6 : v5.cell? ⟨g11, 5, none⟩ = some (.slice (some ⟨pb4, po4, none⟩) pn4 pc4) := AV9.v11.cell 5 (by omega)
                  have e3 : Hid (0 < n → v5.cell? ⟨pb3, po3, none⟩ = some (.int .i64 (-1))) := fun hp => by
                    obtain ⟨b3, o3, ha3, _, hA3⟩ := (AV9.rw.upds (i := 3) rfl).2.1.get 0 (uK (-1)) (by rw [List.getElem?_append_left (by rw [List.length_replicate]; exact hp), List.getElem?_replicate, if_pos hp])
                    obtain ⟨rfl, rfl⟩ : pb3 = b3 ∧ po3 = o3 := by cases ha3; exact ⟨rfl, rfl⟩
                    have := hA3 0 (by omega)
                    rw [show po3 + 0 * 36 + 0 = po3 by omega] at this
                    exact this
                  have e4 : Hid (0 < m → v5.cell? ⟨pb4, po4, none⟩ = some (.int .i64 (-2))) := fun hp => by
                    obtain ⟨b4, o4, ha4, _, hA4⟩ := (AV9.rw.upds (i := 4) rfl).2.1.get 0 (uK (-2)) (by rw [List.getElem?_append_left (by rw [List.length_replicate]; exact hp), List.getElem?_replicate, if_pos hp])
                    obtain ⟨rfl, rfl⟩ : pb4 = b4 ∧ po4 = o4 := by cases ha4; exact ⟨rfl, rfl⟩
                    have := hA4 0 (by omega)
                    rw [show po4 + 0 * 36 + 0 = po4 by omega] at this
                    exact this
                  have B9 := AV9.bel
                  have RAP := hide (readApart_yes n (by omega) v5 (HGG.out.below B9 h2))
                  have p3 : (0 : Int) < (pn3 : Int) := by have := PN3.out; omega
                  have p4 : (0 : Int) < (pn4 : Int) := by have := PN4.out; omega
                  clear g4 SD hb5 hc4 hc5 AVr AV9 V9 V11 V13
                  rcases Nat.eq_zero_or_pos n with hn0 | hn0
                  · have bn : ((n : Int) == 0) = true := by rw [hn0]; rfl
                    clear hn0
                    rcases Nat.eq_zero_or_pos m with hm0 | hm0
                    · have bm : ((m : Int) == 0) = true := by rw [hm0]; rfl
                      clear hm0
                      go_wp2_with fail
                      refine RAP.out.mono ?_
                      rintro e v6 ⟨rfl, hb6⟩
                      go_wp2
                      go_ret
                      exact ⟨rfl, B9.trans (hb6.mono B9.size)⟩
                    · have bm : ((m : Int) == 0) = false := beq_false_of_ne (by omega)
                      have em := e4.out hm0
                      clear hm0
                      go_wp2_with fail
                      refine RAP.out.mono ?_
                      rintro e v6 ⟨rfl, hb6⟩
                      go_wp2
                      go_ret
                      exact ⟨rfl, B9.trans (hb6.mono B9.size)⟩
                  · have bn : ((n : Int) == 0) = false := beq_false_of_ne (by omega)
                    have en := e3.out hn0
                    clear hn0
                    rcases Nat.eq_zero_or_pos m with hm0 | hm0
                    · have bm : ((m : Int) == 0) = true := by rw [hm0]; rfl
                      clear hm0
                      go_wp2_with fail
                      refine RAP.out.mono ?_
                      rintro e v6 ⟨rfl, hb6⟩
                      go_wp2
                      go_ret
                      exact ⟨rfl, B9.trans (hb6.mono B9.size)⟩
                    · have bm : ((m : Int) == 0) = false := beq_false_of_ne (by omega)
                      have em := e4.out hm0
                      clear hm0
                      go_wp2_with fail
                      refine RAP.out.mono ?_
                      rintro e v6 ⟨rfl, hb6⟩
                      go_wp2
                      go_ret
                      exact ⟨rfl, B9.trans (hb6.mono B9.size)⟩
end Go.Proofs.YtlohfoggcdaeiaaGreat
