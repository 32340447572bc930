/-
  RecordKeeps: the walk (printed by gen_r23.py).
-/
import Derived.Test.YtlohfoggcdaeiaaGreatRKeepC
import Derived.Test.YtlohfoggcdaeiaaGreatROpenA
import Derived.Deep.DeepCutAuto
import Derived.Deep.Cut
import Derived.Deep.CutRange
namespace Go.Proofs.YtlohfoggcdaeiaaGreat
open Go.RowKit S
set_option linter.unusedVariables false
set_option linter.unusedSimpArgs false
open Cu (nb be hl ofL CW Mw CR Mr RS takeS takeA hOf nil8 doneS)
theorem kmov {o : Oper} {a : Act} (w : World) (x : Operand) (v : Value) (ho : o.op = .move x) (hx : a.eval x = v) : (execOp a.eval o).run Tryz.prog w = .ok (.value v) w := by
  unfold execOp
  simp only [ho, hx]
  rfl
theorem kasg {o : Oper} {a : Act} (w : World) (x : Operand) (v : Value) (ho : o.op = .assign x) (hx : a.eval x = v) : (execOp a.eval o).run Tryz.prog w = .ok (.value v) w := by
  unfold execOp
  simp only [ho, hx]
  rfl
theorem kext0 {o : Oper} {a : Act} (w : World) (x : Operand) (u v : Value) (ho : o.op = .extract x 0) (hx : a.eval x = .tuple #[u, v]) : (execOp a.eval o).run Tryz.prog w = .ok (.value u) w := by
  unfold execOp
  simp only [ho, hx]
  rfl
theorem kext1 {o : Oper} {a : Act} (w : World) (x : Operand) (u v : Value) (ho : o.op = .extract x 1) (hx : a.eval x = .tuple #[u, v]) : (execOp a.eval o).run Tryz.prog w = .ok (.value v) w := by
  unfold execOp
  simp only [ho, hx]
  rfl
/-- What a round holds. -/
structure KI (w0 : World) (g2 : Nat) (S : St) (lo lp : List Upd) (ls : List Slot) (w : World) : Prop where
  var : Has w g2 31 S.v 115
  st : StAt w S lo lp ls
  snd : soundB S = true
  bel : Below g2 w0 w
theorem KI.low {w0 : World} {g2 : Nat} {S : St} {lo lp : List Upd} {ls : List Slot} {w w' : World} (h : KI w0 g2 S lo lp ls w) (hb : Below w.heap.size w w') : KI w0 g2 S lo lp ls w' :=
  ⟨h.var.below hb h.var.lt, h.st.below hb, h.snd, h.bel.trans (hb.mono (Nat.le_of_lt h.var.lt))⟩
theorem KI.size {w0 : World} {g2 : Nat} {S : St} {lo lp : List Upd} {ls : List Slot} {w : World} (h : KI w0 g2 S lo lp ls w) : g2 < w.heap.size := h.var.lt
set_option maxRecDepth 100000 in
set_option maxHeartbeats 40000000 in
theorem keeps_walk [Inhabited S.Tbl] (s : St) (lo lp : List Upd) (ls : List Slot) (x : Sl) (rs : List (Rc × List Upd)) (hnx : rs.length = x.n) (hzx : x.n ≤ 140737488351232) (w : World) (hs : StAt w s lo lp ls) (hRs : Recs w x.ad rs) (hG : Glob num w) : Calls Tryz.prog 6 #[.agg (tabv s.v 115), .slice x.ad x.n x.c] w fun e w' => e = .returned (.bool true) ∧ Below w.heap.size w w' := by
  have h2 := hG.2.2
  obtain ⟨w1, hW1⟩ : ∃ w1, w.alloc (.cells (tabv s.v 115) 31) = w1 := ⟨_, rfl⟩
  have r1 : Has w1 w.heap.size 31 s.v 115 := by rw [← hW1]; exact Has.new w 31 s.v 115 _ rfl
  have b1 : Below w.heap.size w w1 := by rw [← hW1]; exact (Below.refl w.heap.size w).alloc (Nat.le_refl _) _
  have HD := hide (head_any w1 (hG.below b1 h2))
  go_enter Tryz.func6, Tryz.ntmps6
  go_wp2_with (first | rw [hW1] | fail)
  try rw [hW1]
  refine HD.out.mono ?_
  rintro e w2 ⟨rfl, hbq⟩
  have b2 : Below w.heap.size w w2 := b1.trans (hbq.mono b1.size)
  have r2 := hide (r1.below hbq r1.lt)
  clear hbq HD r1 b1 hW1
  have SD := hide (sound_any s w2)
  go_wp2_with (first | refine wpW_load_at 31 _ rfl (w.heap.size) (0) (by rfl) (by rfl) _ 115 _ (r2.out.at_ 0 (by omega) (fun i hi => by rw [Nat.zero_add])) Tryz.underlying31 rfl infoSt ?_ | fail)
  refine SD.out.mono ?_
  rintro e w3 ⟨rfl, hbq⟩
  have r3 := r2.out.below hbq r2.out.lt
  have b3 : Below w.heap.size w w3 := b2.trans (hbq.mono b2.size)
  clear hbq SD r2 b2
  cases hq : soundB s with
  | false =>
    go_wp2
    go_ret
    exact ⟨rfl, b3⟩
  | true =>
  have K3 : KI w w.heap.size s lo lp ls w3 := ⟨r3, hs.below b3, hq, b3⟩
  have R3 := hRs.below b3
  have G3 := hG.below b3 h2
  generalize hg2 : w.heap.size = g2 at K3 ⊢
  have hgl : 2 ≤ g2 := by omega
  clear r3 b3 hq
  have hcl : (x.n : Int) ≤ 9223372036854775807 := by omega
  go_upto_region 5 with fail
  go_wp2
  go_loopw [5] (fun i wr => ∃ (j : Nat) (S : St) (lo lp : List Upd) (ls : List Slot), j ≤ x.n ∧ i = .int .i64 (j : Int) ∧ KI w g2 S lo lp ls wr) (fun i _ => x.n - (intOf i).toNat)
  case atStart => exact ⟨0, s, lo, lp, ls, Nat.zero_le _, rfl, K3⟩
  case round =>
    obtain ⟨j, S, lo, lp, ls, hj, rfl, hK0⟩ := hrel
    clear K3 R3 G3 hs
    have hR : Recs wr x.ad rs := hRs.below (by rw [hg2]; exact hK0.bel)
    have hGl : Glob num wr := hG.below (by rw [hg2]; exact hK0.bel) h2
    by_cases hjn : j < x.n
    rotate_left
    · have hd : decide ((j : Int) < (x.n : Int)) = false := decide_eq_false (by omega)
      have hd' : decide (j < x.n) = false := decide_eq_false (by omega)
      go_wp2
      go_ret
      rw [hg2]
      exact ⟨rfl, hK0.bel⟩
    have hd : decide ((j : Int) < (x.n : Int)) = true := decide_eq_true (by omega)
    have hd' : decide (j < x.n) = true := decide_eq_true hjn
    obtain ⟨⟨r, lr⟩, hrj⟩ : ∃ q, rs[j]? = some q := ⟨_, List.getElem?_eq_getElem (by omega)⟩
    obtain ⟨bb, off, hxa, hbb, hAt, hnr, hUr, _, _⟩ := hR.get hrj
    have hGs := hGl
    obtain ⟨xad, xn, xc⟩ := x
    simp only at hxa hj hjn hd hd' hcl hR hnx ⊢
    subst hxa
    have AP := hide (fun (wx : World) (hb : Below wr.heap.size wr wx) => apply_any S lo lp ls hK0.st.no hK0.st.np hK0.st.ns (by rw [hK0.st.no]; have := hK0.st.zo; omega) (by rw [hK0.st.np]; have := hK0.st.zp; omega) (by rw [hK0.st.ns]; have := hK0.st.zs; omega) r lr hnr wx (hK0.st.o.below hb) (hK0.st.p.below hb) (hK0.st.f.belowW hb) (hUr.below hb) (hGl.below hb (Nat.le_trans hgl (Nat.le_of_lt hK0.size))))
    have KA := hide hK0
    have HA := hide hAt
    have HB := hide hbb
    have c0 : wr.cell? ⟨bb, off + j * 138, none⟩ = some (.int .i64 r.kind) := hAt 0 (by omega)
    have C0 := hide c0
    have HR := hide hR
    have HG := hide hGl
    have HNX := hide hnx
    have HRJ := hide hrj
    have HUR := hide hUr
    clear hK0 hAt hbb c0 hR hGl hnx hrj hUr hGs
    go_upto_region 8 with fail
    go_cut [6, 7] from 13 to 105 (fun s6 s7 wx => ∃ (g6 : Nat) (T : St) (E : Int), s6 = .pointer (some ⟨g6, 0, none⟩) ∧ s7 = .int .i64 E ∧ Has wx g6 31 T.v 115 ∧ Below wr.heap.size wr wx ∧ wr.heap.size ≤ g6 ∧ ApR wr.heap.size S lo lp ls r lr T E wx)
    case first =>
      as_aux_lemma =>
        go_wp2
        refine wp_region_noPanic ?_
        refine wp_region_held_drew (S := fun wx => Below wr.heap.size wr wx) (by kernel_rfl) ((Below.refl _ _).drew) (fun hHeld => ?_)
        generalize hwd : World.drew wr = wd at hHeld ⊢
        refine Cu.takeH 0 (some 20) (.agg (tabv S.v 115)) rfl rfl (by kernel_rfl) (by kernel_rfl) (by kernel_rfl) (fun _ _ _ h => h) (by rfl) (fun w_ hw => run_load_at w_ 31 _ rfl (g2) 0 (by rfl) _ 115 _ ((KA.out.var.below hw KA.out.var.lt).at_ 0 (by omega) (fun i hi => by rw [Nat.zero_add])) Tryz.underlying31 rfl infoSt) hHeld ?_
        simp only [Act.put, List.setIfInBounds_toArray, List.set_cons_zero, List.set_cons_succ]
        refine Cu.takeH 1 (some 21) (.slice (some ⟨bb, off, none⟩) xn xc) rfl rfl (by kernel_rfl) (by kernel_rfl) (by kernel_rfl) (fun _ _ _ h => h) (by rfl) (fun w_ hw => kmov w_ _ _ rfl (by rfl)) hHeld ?_
        simp only [Act.put, List.setIfInBounds_toArray, List.set_cons_zero, List.set_cons_succ]
        refine Cu.takeH 2 (some 22) (.int .i64 (j : Int)) rfl rfl (by kernel_rfl) (by kernel_rfl) (by kernel_rfl) (fun _ _ _ h => h) (by rfl) (fun w_ hw => kmov w_ _ _ rfl (by rfl)) hHeld ?_
        simp only [Act.put, List.setIfInBounds_toArray, List.set_cons_zero, List.set_cons_succ]
        refine Cu.takeH 3 (some 23) (.pointer (some ⟨bb, off + j * 138, none⟩)) rfl rfl (by kernel_rfl) (by kernel_rfl) (by kernel_rfl) (fun _ _ _ h => h) (by rfl) (fun w_ hw => by first | rfl | (go_simp; done) | (go_simp; rfl) | (go_simp; omega)) hHeld ?_
        simp only [Act.put, List.setIfInBounds_toArray, List.set_cons_zero, List.set_cons_succ]
        refine Cu.takeH 4 (some 24) (.agg (tabv r.v 138)) rfl rfl (by kernel_rfl) (by kernel_rfl) (by kernel_rfl) (fun _ _ _ h => h) (by rfl) (fun w_ hw => run_load_at w_ 38 _ rfl bb (off + j * 138) (by rfl) _ 138 _ (fun q hq => (hw.cell (p := ⟨bb, off + j * 138 + q, none⟩) HB.out).trans (HA.out q hq)) Tryz.underlying38 rfl infoRc) hHeld ?_
        simp only [Act.put, List.setIfInBounds_toArray, List.set_cons_zero, List.set_cons_succ]
        refine wpAnyH_ready (rs := [5, 9]) (by kernel_rfl) (by simp) (AllReadyH.cons rfl (fun K hK => ?_) (AllReadyH.cons rfl (fun K hK => ?_) AllReadyH.nil))
        · rw [if_pos (by rfl)]
          go_simp
          refine (AP.out wd hHeld).mono ?_
          rintro e wa ⟨hbq, hAP⟩
          obtain ⟨T, E, rfl, hAR⟩ := hAP.rep
          clear hAP
          try go_wp2_with fail
          have hAR := hAR.mono hHeld.size
          refine hK.out _ _ (hHeld.trans (hbq.mono hHeld.size)) (fun hH => ?_)
          clear hbq
          clear hK hHeld
          have hHeld := hH
          clear hH
          refine Cu.takeH 6 (some 19) (.tuple #[.agg (tabv T.v 115), .int .i64 E]) rfl rfl (by kernel_rfl) (by kernel_rfl) (by kernel_rfl) (fun _ _ _ h => h) (by rfl) (fun w_ hw => kmov w_ _ _ rfl (by rfl)) hHeld ?_
          simp only [Act.put, List.setIfInBounds_toArray, List.set_cons_zero, List.set_cons_succ]
          refine Cu.takeH 7 (some 26) (.agg (tabv T.v 115)) rfl rfl (by kernel_rfl) (by kernel_rfl) (by kernel_rfl) (fun _ _ _ h => h) (by rfl) (fun w_ hw => kext0 w_ _ _ _ rfl (by rfl)) hHeld ?_
          simp only [Act.put, List.setIfInBounds_toArray, List.set_cons_zero, List.set_cons_succ]
          refine Cu.takeH 8 (some 27) (.int .i64 E) rfl rfl (by kernel_rfl) (by kernel_rfl) (by kernel_rfl) (fun _ _ _ h => h) (by rfl) (fun w_ hw => kext1 w_ _ _ _ rfl (by rfl)) hHeld ?_
          simp only [Act.put, List.setIfInBounds_toArray, List.set_cons_zero, List.set_cons_succ]
          refine wpAnyH_ready (rs := [9]) (by kernel_rfl) (by simp) (AllReadyH.cons rfl (fun K hK => ?_) AllReadyH.nil)
          rw [if_pos (by rfl)]
          go_simp
          have qN : Has (World.alloc wa (.cells Tryz.zeroCells31 31)) (Array.size (World.heap wa)) 31 St.zero.v 115 := by rw [zeroSt]; exact Has.new wa 31 St.zero.v 115 _ rfl
          have bN : Below (Array.size (World.heap wa)) wa (World.alloc wa (.cells Tryz.zeroCells31 31)) := (Below.refl _ _).alloc (Nat.le_refl _) _
          have hgH : wr.heap.size ≤ Array.size (World.heap wa) := hHeld.size
          have sN := hHeld.trans (bN.mono hHeld.size)
          generalize hwe : World.alloc wa (.cells Tryz.zeroCells31 31) = wb at qN bN sN ⊢
          refine hK.out _ _ sN (fun hH => ?_)
          clear sN hwe
          clear hK hHeld
          have hHeld := hH
          clear hH
          generalize hgHe : Array.size (World.heap wa) = gH at qN hgH bN ⊢
          try simp only [Act.put, List.setIfInBounds_toArray, List.set_cons_zero, List.set_cons_succ]
          refine wpAnyH_ready (rs := [10]) (by kernel_rfl) (by simp) (AllReadyH.cons rfl (fun K hK => ?_) AllReadyH.nil)
          rw [if_pos (by rfl)]
          refine wp_store_part 31 _ _ rfl rfl gH 0 T.v 115 rfl rfl 31 _ 115 qN (by omega) infoSt (fun i _ => oneSt T i) T.v (fun i hi => by unfold splice; rw [if_pos (by omega), Nat.sub_zero]) ?_
          have bF : Below wr.heap.size wr (wb.setRow gH (tabv T.v 115)) := below_setRow hHeld hgH _
          have rF : Has (wb.setRow gH (tabv T.v 115)) gH 31 T.v 115 := qN.row _ _ rfl
          have aF : ApR wr.heap.size S lo lp ls r lr T E (wb.setRow gH (tabv T.v 115)) := hAR.below (by rw [hgHe]; exact below_setRow bN (Nat.le_refl _) _)
          refine hK.out _ _ bF (fun hH => ?_)
          clear hK hHeld
          have hHeld := hH
          clear hH
          generalize hwz : World.setRow wb gH (tabv T.v 115) = wz at bF rF aF hHeld ⊢
          clear hwz
          refine Cu.takeH 11 (some 7) (.int .i64 E) rfl rfl (by kernel_rfl) (by kernel_rfl) (by kernel_rfl) (fun _ _ _ h => h) (by rfl) (fun w_ hw => kasg w_ _ _ rfl (by rfl)) hHeld ?_
          simp only [Act.put, List.setIfInBounds_toArray, List.set_cons_zero, List.set_cons_succ]
          refine wpAnyH_done (by kernel_rfl) ?_ _
          refine NoPanic.normal ?_
          go_wp2
          go_meet
          exact ⟨_, _, _, rfl, rfl, rF, bF, hgH, aF⟩
        · rw [if_pos (by rfl)]
          go_simp
          have qN : Has (World.alloc wd (.cells Tryz.zeroCells31 31)) (Array.size (World.heap wd)) 31 St.zero.v 115 := by rw [zeroSt]; exact Has.new wd 31 St.zero.v 115 _ rfl
          have bN : Below (Array.size (World.heap wd)) wd (World.alloc wd (.cells Tryz.zeroCells31 31)) := (Below.refl _ _).alloc (Nat.le_refl _) _
          have hgH : wr.heap.size ≤ Array.size (World.heap wd) := hHeld.size
          have sN := hHeld.trans (bN.mono hHeld.size)
          generalize hwe : World.alloc wd (.cells Tryz.zeroCells31 31) = wa at qN bN sN ⊢
          refine hK.out _ _ sN (fun hH => ?_)
          clear sN hwe
          clear hK hHeld
          have hHeld := hH
          clear hH
          generalize hgHe : Array.size (World.heap wd) = gH at qN hgH bN ⊢
          try simp only [Act.put, List.setIfInBounds_toArray, List.set_cons_zero, List.set_cons_succ]
          refine wpAnyH_ready (rs := [5]) (by kernel_rfl) (by simp) (AllReadyH.cons rfl (fun K hK => ?_) AllReadyH.nil)
          have hga : gH < wa.heap.size := qN.lt
          rw [if_pos (by rfl)]
          go_simp
          refine (AP.out wa hHeld).mono ?_
          rintro e wb ⟨hbq, hAP⟩
          obtain ⟨T, E, rfl, hAR⟩ := hAP.rep
          clear hAP
          try go_wp2_with fail
          have qN := qN.below hbq qN.lt
          refine hK.out _ _ (hHeld.trans (hbq.mono hHeld.size)) (fun hH => ?_)
          have hsz := hHeld.size
          clear hbq
          clear hK hHeld
          have hHeld := hH
          clear hH
          refine Cu.takeH 6 (some 19) (.tuple #[.agg (tabv T.v 115), .int .i64 E]) rfl rfl (by kernel_rfl) (by kernel_rfl) (by kernel_rfl) (fun _ _ _ h => h) (by rfl) (fun w_ hw => kmov w_ _ _ rfl (by rfl)) hHeld ?_
          simp only [Act.put, List.setIfInBounds_toArray, List.set_cons_zero, List.set_cons_succ]
          refine Cu.takeH 7 (some 26) (.agg (tabv T.v 115)) rfl rfl (by kernel_rfl) (by kernel_rfl) (by kernel_rfl) (fun _ _ _ h => h) (by rfl) (fun w_ hw => kext0 w_ _ _ _ rfl (by rfl)) hHeld ?_
          simp only [Act.put, List.setIfInBounds_toArray, List.set_cons_zero, List.set_cons_succ]
          refine Cu.takeH 8 (some 27) (.int .i64 E) rfl rfl (by kernel_rfl) (by kernel_rfl) (by kernel_rfl) (fun _ _ _ h => h) (by rfl) (fun w_ hw => kext1 w_ _ _ _ rfl (by rfl)) hHeld ?_
          simp only [Act.put, List.setIfInBounds_toArray, List.set_cons_zero, List.set_cons_succ]
          refine wpAnyH_ready (rs := [10]) (by kernel_rfl) (by simp) (AllReadyH.cons rfl (fun K hK => ?_) AllReadyH.nil)
          rw [if_pos (by rfl)]
          refine wp_store_part 31 _ _ rfl rfl gH 0 T.v 115 rfl rfl 31 _ 115 qN (by omega) infoSt (fun i _ => oneSt T i) T.v (fun i hi => by unfold splice; rw [if_pos (by omega), Nat.sub_zero]) ?_
          have bF : Below wr.heap.size wr (wb.setRow gH (tabv T.v 115)) := below_setRow hHeld hgH _
          have rF : Has (wb.setRow gH (tabv T.v 115)) gH 31 T.v 115 := qN.row _ _ rfl
          have aF : ApR wr.heap.size S lo lp ls r lr T E (wb.setRow gH (tabv T.v 115)) := (hAR.over hga).mono hsz
          refine hK.out _ _ bF (fun hH => ?_)
          clear hK hHeld
          have hHeld := hH
          clear hH
          generalize hwz : World.setRow wb gH (tabv T.v 115) = wz at bF rF aF hHeld ⊢
          clear hwz
          refine Cu.takeH 11 (some 7) (.int .i64 E) rfl rfl (by kernel_rfl) (by kernel_rfl) (by kernel_rfl) (fun _ _ _ h => h) (by rfl) (fun w_ hw => kasg w_ _ _ rfl (by rfl)) hHeld ?_
          simp only [Act.put, List.setIfInBounds_toArray, List.set_cons_zero, List.set_cons_succ]
          refine wpAnyH_done (by kernel_rfl) ?_ _
          refine NoPanic.normal ?_
          go_wp2
          go_meet
          exact ⟨_, _, _, rfl, rfl, rF, bF, hgH, aF⟩
    case rest =>
    obtain ⟨g6, T, E, rfl, rfl, hV6, hb6, hg6, hAR⟩ := hcut
    have K6 := hide (KA.out.low hb6)
    have V6 := hide hV6
    clear AP
    have hsz6 := hb6.size
    rcases hAR with ⟨rfl, hok, x1, x2, x3, hTe, hOS⟩ | ⟨rfl, rfl⟩
    rotate_left
    · have d4 : World.cell? _ ⟨g6, 4, none⟩ = some (.slice none 0 0) := V6.out.cell 4 (by omega)
      have d5 : World.cell? _ ⟨g6, 5, none⟩ = some (.slice none 0 0) := V6.out.cell 5 (by omega)
      have d15 : World.cell? _ ⟨g6, 112, none⟩ = some (.slice none 0 0) := V6.out.cell 112 (by omega)
      have d1 : World.cell? _ ⟨g6, 1, none⟩ = some (.int .i64 0) := V6.out.cell 1 (by omega)
      have d17 : World.cell? _ ⟨g6, 114, none⟩ = some (.int .i64 0) := V6.out.cell 114 (by omega)
      have d6 : World.cell? _ ⟨g6, 6, none⟩ = some (.int .i64 0) := V6.out.cell 6 (by omega)
      go_wp2
      refine ⟨⟨j + 1, S, lo, lp, ls, by omega, by rfl, K6.out⟩, ?_⟩
      show _ < _
      simp only [intOf]
      omega
    have hT6 : StAt wc T (newO lo r) (newP S lp r lr) (newF ls r) := next_at K6.out.st hok hOS
    have KP : Kept S T lo (newO lo r) lp (newP S lp r lr) := by
      rw [hTe]
      exact kept_of K6.out.snd K6.out.st.no K6.out.st.np hok x1 x2 x3 (by have := hT6.no; rw [hTe] at this; exact this) (by have := hT6.np; rw [hTe] at this; exact this)
    have C1 := hide (fun (wx : World) (hb : Below wc.heap.size wc wx) => by have := sound_any T wx; rw [KP.sound] at this; exact this)
    have D0 := hide (fun (wx : World) => rises_yes S.loc T.loc KP.loc wx)
    have D1 := hide (fun (wx : World) => rises_yes S.rem T.rem KP.rem wx)
    have D2 := hide (fun (wx : World) => rises_yes S.ack T.ack KP.ack wx)
    have C2 := hide (fun (wx : World) (hb : Below wc.heap.size wc wx) => by have := grows_all (K6.out.st.below hb) K6.out.snd hok x1 x2 x3 (by rw [← hTe]; exact hT6.below hb); rw [← hTe] at this; exact this)
    have C3 := hide (fun (wx : World) (hb : Below wc.heap.size wc wx) => by have := fixed_all (K6.out.st.below hb) hok x1 x2 x3 (by rw [← hTe]; exact hT6.below hb); rw [← hTe] at this; exact this)
    have CB : Hid (bb < wc.heap.size) := Nat.lt_of_lt_of_le HB.out hsz6
    have C6 : Hid (wc.cell? ⟨bb, off + j * 138, none⟩ = some (.int .i64 r.kind)) := (hb6.cell (p := ⟨bb, off + j * 138, none⟩) HB.out).trans C0.out
    have SN := hide KP.sound
    have HO := hide hOS
    have HK := hide hok
    have HL : Hid (g2 < wr.heap.size) := KA.out.size
    clear hT6 hOS hTe hok KP HR HG
    go_upto_region 12 with fail
    go_wp2
    refine wp_region_noPanic ?_
    refine wp_region_held_drew (S := fun wx => Below wc.heap.size wc wx) (by kernel_rfl) ((Below.refl _ _).drew) (fun hHeld => ?_)
    generalize hwd : World.drew wc = wd at hHeld ⊢
    clear hwd
    refine Cu.takeH 0 (some 61) (.agg (tabv T.v 115)) rfl rfl (by kernel_rfl) (by kernel_rfl) (by kernel_rfl) (fun _ _ _ h => h) (by rfl) (fun w_ hw => run_load_at w_ 31 _ rfl (g6) 0 (by rfl) _ 115 _ ((V6.out.below hw V6.out.lt).at_ 0 (by omega) (fun i hi => by rw [Nat.zero_add])) Tryz.underlying31 rfl infoSt) hHeld ?_
    simp only [Act.put, List.setIfInBounds_toArray, List.set_cons_zero, List.set_cons_succ]
    refine wpAnyH_ready (rs := [1]) (by kernel_rfl) (by simp) (AllReadyH.cons rfl (fun K hK => ?_) AllReadyH.nil)
    rw [if_pos (by rfl)]
    go_simp
    refine (C1.out _ hHeld).mono ?_
    rintro e wf1 ⟨rfl, hbq⟩
    try go_wp2_with fail
    refine hK.out _ _ (hHeld.trans (hbq.mono hHeld.size)) (fun hH => ?_)
    clear hK K hHeld
    have hHeld := hH
    clear hH
    refine Cu.takeH 2 (some 63) (.bool false) rfl rfl (by kernel_rfl) (by kernel_rfl) (by kernel_rfl) (fun _ _ _ h => h) (by rfl) (fun w_ hw => by first | rfl | (go_simp; done) | (go_simp; rfl) | (go_simp; omega)) hHeld ?_
    simp only [Act.put, List.setIfInBounds_toArray, List.set_cons_zero, List.set_cons_succ]
    refine Cu.takeH 3 (some 64) (.bool false) rfl rfl (by kernel_rfl) (by kernel_rfl) (by kernel_rfl) (fun _ _ _ h => h) (by rfl) (fun w_ hw => by first | rfl | (go_simp; done) | (go_simp; rfl) | (go_simp; omega)) hHeld ?_
    simp only [Act.put, List.setIfInBounds_toArray, List.set_cons_zero, List.set_cons_succ]
    refine Cu.takeH 4 (some 65) (.pointer (some ⟨g2, 6, none⟩)) rfl rfl (by kernel_rfl) (by kernel_rfl) (by kernel_rfl) (fun _ _ _ h => h) (by rfl) (fun w_ hw => by first | rfl | (go_simp; done) | (go_simp; rfl) | (go_simp; omega)) hHeld ?_
    simp only [Act.put, List.setIfInBounds_toArray, List.set_cons_zero, List.set_cons_succ]
    refine Cu.takeH 5 (some 66) (.int .i64 S.loc) rfl rfl (by kernel_rfl) (by kernel_rfl) (by kernel_rfl) (fun _ _ _ h => h) (by rfl) (fun w_ hw => by have c : World.cell? _ ⟨g2, 6, none⟩ = some (.int .i64 S.loc) := (K6.out.var.below hw K6.out.var.lt).cell 6 (by omega); first | rfl | (go_simp; done) | (go_simp; rfl) | (go_simp; omega)) hHeld ?_
    simp only [Act.put, List.setIfInBounds_toArray, List.set_cons_zero, List.set_cons_succ]
    refine Cu.takeH 6 (some 67) (.pointer (some ⟨g6, 6, none⟩)) rfl rfl (by kernel_rfl) (by kernel_rfl) (by kernel_rfl) (fun _ _ _ h => h) (by rfl) (fun w_ hw => by first | rfl | (go_simp; done) | (go_simp; rfl) | (go_simp; omega)) hHeld ?_
    simp only [Act.put, List.setIfInBounds_toArray, List.set_cons_zero, List.set_cons_succ]
    refine Cu.takeH 7 (some 68) (.int .i64 T.loc) rfl rfl (by kernel_rfl) (by kernel_rfl) (by kernel_rfl) (fun _ _ _ h => h) (by rfl) (fun w_ hw => by have c : World.cell? _ ⟨g6, 6, none⟩ = some (.int .i64 T.loc) := (V6.out.below hw V6.out.lt).cell 6 (by omega); first | rfl | (go_simp; done) | (go_simp; rfl) | (go_simp; omega)) hHeld ?_
    simp only [Act.put, List.setIfInBounds_toArray, List.set_cons_zero, List.set_cons_succ]
    refine wpAnyH_ready (rs := [8]) (by kernel_rfl) (by simp) (AllReadyH.cons rfl (fun K hK => ?_) AllReadyH.nil)
    rw [if_pos (by rfl)]
    go_simp
    refine (D0.out _).mono ?_
    rintro e wg0 ⟨rfl, hbq⟩
    try go_wp2_with fail
    refine hK.out _ _ (by rw [← hbq]; exact hHeld) (fun hH => ?_)
    clear hK K hHeld
    have hHeld := hH
    clear hH
    refine Cu.takeH 9 (some 70) (.bool false) rfl rfl (by kernel_rfl) (by kernel_rfl) (by kernel_rfl) (fun _ _ _ h => h) (by rfl) (fun w_ hw => by first | rfl | (go_simp; done) | (go_simp; rfl) | (go_simp; omega)) hHeld ?_
    simp only [Act.put, List.setIfInBounds_toArray, List.set_cons_zero, List.set_cons_succ]
    refine Cu.takeH 10 (some 71) (.bool false) rfl rfl (by kernel_rfl) (by kernel_rfl) (by kernel_rfl) (fun _ _ _ h => h) (by rfl) (fun w_ hw => by first | rfl | (go_simp; done) | (go_simp; rfl) | (go_simp; omega)) hHeld ?_
    simp only [Act.put, List.setIfInBounds_toArray, List.set_cons_zero, List.set_cons_succ]
    refine Cu.takeH 11 (some 72) (.bool false) rfl rfl (by kernel_rfl) (by kernel_rfl) (by kernel_rfl) (fun _ _ _ h => h) (by rfl) (fun w_ hw => by first | rfl | (go_simp; done) | (go_simp; rfl) | (go_simp; omega)) hHeld ?_
    simp only [Act.put, List.setIfInBounds_toArray, List.set_cons_zero, List.set_cons_succ]
    refine Cu.takeH 12 (some 73) (.pointer (some ⟨g2, 7, none⟩)) rfl rfl (by kernel_rfl) (by kernel_rfl) (by kernel_rfl) (fun _ _ _ h => h) (by rfl) (fun w_ hw => by first | rfl | (go_simp; done) | (go_simp; rfl) | (go_simp; omega)) hHeld ?_
    simp only [Act.put, List.setIfInBounds_toArray, List.set_cons_zero, List.set_cons_succ]
    refine Cu.takeH 13 (some 74) (.int .i64 S.rem) rfl rfl (by kernel_rfl) (by kernel_rfl) (by kernel_rfl) (fun _ _ _ h => h) (by rfl) (fun w_ hw => by have c : World.cell? _ ⟨g2, 7, none⟩ = some (.int .i64 S.rem) := (K6.out.var.below hw K6.out.var.lt).cell 7 (by omega); first | rfl | (go_simp; done) | (go_simp; rfl) | (go_simp; omega)) hHeld ?_
    simp only [Act.put, List.setIfInBounds_toArray, List.set_cons_zero, List.set_cons_succ]
    refine Cu.takeH 14 (some 75) (.pointer (some ⟨g6, 7, none⟩)) rfl rfl (by kernel_rfl) (by kernel_rfl) (by kernel_rfl) (fun _ _ _ h => h) (by rfl) (fun w_ hw => by first | rfl | (go_simp; done) | (go_simp; rfl) | (go_simp; omega)) hHeld ?_
    simp only [Act.put, List.setIfInBounds_toArray, List.set_cons_zero, List.set_cons_succ]
    refine Cu.takeH 15 (some 76) (.int .i64 T.rem) rfl rfl (by kernel_rfl) (by kernel_rfl) (by kernel_rfl) (fun _ _ _ h => h) (by rfl) (fun w_ hw => by have c : World.cell? _ ⟨g6, 7, none⟩ = some (.int .i64 T.rem) := (V6.out.below hw V6.out.lt).cell 7 (by omega); first | rfl | (go_simp; done) | (go_simp; rfl) | (go_simp; omega)) hHeld ?_
    simp only [Act.put, List.setIfInBounds_toArray, List.set_cons_zero, List.set_cons_succ]
    refine wpAnyH_ready (rs := [16]) (by kernel_rfl) (by simp) (AllReadyH.cons rfl (fun K hK => ?_) AllReadyH.nil)
    rw [if_pos (by rfl)]
    go_simp
    refine (D1.out _).mono ?_
    rintro e wg1 ⟨rfl, hbq⟩
    try go_wp2_with fail
    refine hK.out _ _ (by rw [← hbq]; exact hHeld) (fun hH => ?_)
    clear hK K hHeld
    have hHeld := hH
    clear hH
    refine Cu.takeH 17 (some 78) (.bool false) rfl rfl (by kernel_rfl) (by kernel_rfl) (by kernel_rfl) (fun _ _ _ h => h) (by rfl) (fun w_ hw => by first | rfl | (go_simp; done) | (go_simp; rfl) | (go_simp; omega)) hHeld ?_
    simp only [Act.put, List.setIfInBounds_toArray, List.set_cons_zero, List.set_cons_succ]
    refine Cu.takeH 18 (some 79) (.bool false) rfl rfl (by kernel_rfl) (by kernel_rfl) (by kernel_rfl) (fun _ _ _ h => h) (by rfl) (fun w_ hw => by first | rfl | (go_simp; done) | (go_simp; rfl) | (go_simp; omega)) hHeld ?_
    simp only [Act.put, List.setIfInBounds_toArray, List.set_cons_zero, List.set_cons_succ]
    refine Cu.takeH 19 (some 80) (.bool false) rfl rfl (by kernel_rfl) (by kernel_rfl) (by kernel_rfl) (fun _ _ _ h => h) (by rfl) (fun w_ hw => by first | rfl | (go_simp; done) | (go_simp; rfl) | (go_simp; omega)) hHeld ?_
    simp only [Act.put, List.setIfInBounds_toArray, List.set_cons_zero, List.set_cons_succ]
    refine Cu.takeH 20 (some 81) (.pointer (some ⟨g2, 8, none⟩)) rfl rfl (by kernel_rfl) (by kernel_rfl) (by kernel_rfl) (fun _ _ _ h => h) (by rfl) (fun w_ hw => by first | rfl | (go_simp; done) | (go_simp; rfl) | (go_simp; omega)) hHeld ?_
    simp only [Act.put, List.setIfInBounds_toArray, List.set_cons_zero, List.set_cons_succ]
    refine Cu.takeH 21 (some 82) (.int .i64 S.ack) rfl rfl (by kernel_rfl) (by kernel_rfl) (by kernel_rfl) (fun _ _ _ h => h) (by rfl) (fun w_ hw => by have c : World.cell? _ ⟨g2, 8, none⟩ = some (.int .i64 S.ack) := (K6.out.var.below hw K6.out.var.lt).cell 8 (by omega); first | rfl | (go_simp; done) | (go_simp; rfl) | (go_simp; omega)) hHeld ?_
    simp only [Act.put, List.setIfInBounds_toArray, List.set_cons_zero, List.set_cons_succ]
    refine Cu.takeH 22 (some 83) (.pointer (some ⟨g6, 8, none⟩)) rfl rfl (by kernel_rfl) (by kernel_rfl) (by kernel_rfl) (fun _ _ _ h => h) (by rfl) (fun w_ hw => by first | rfl | (go_simp; done) | (go_simp; rfl) | (go_simp; omega)) hHeld ?_
    simp only [Act.put, List.setIfInBounds_toArray, List.set_cons_zero, List.set_cons_succ]
    refine Cu.takeH 23 (some 84) (.int .i64 T.ack) rfl rfl (by kernel_rfl) (by kernel_rfl) (by kernel_rfl) (fun _ _ _ h => h) (by rfl) (fun w_ hw => by have c : World.cell? _ ⟨g6, 8, none⟩ = some (.int .i64 T.ack) := (V6.out.below hw V6.out.lt).cell 8 (by omega); first | rfl | (go_simp; done) | (go_simp; rfl) | (go_simp; omega)) hHeld ?_
    simp only [Act.put, List.setIfInBounds_toArray, List.set_cons_zero, List.set_cons_succ]
    refine wpAnyH_ready (rs := [24]) (by kernel_rfl) (by simp) (AllReadyH.cons rfl (fun K hK => ?_) AllReadyH.nil)
    rw [if_pos (by rfl)]
    go_simp
    refine (D2.out _).mono ?_
    rintro e wg2 ⟨rfl, hbq⟩
    try go_wp2_with fail
    refine hK.out _ _ (by rw [← hbq]; exact hHeld) (fun hH => ?_)
    clear hK K hHeld
    have hHeld := hH
    clear hH
    refine Cu.takeH 25 (some 86) (.bool false) rfl rfl (by kernel_rfl) (by kernel_rfl) (by kernel_rfl) (fun _ _ _ h => h) (by rfl) (fun w_ hw => by first | rfl | (go_simp; done) | (go_simp; rfl) | (go_simp; omega)) hHeld ?_
    simp only [Act.put, List.setIfInBounds_toArray, List.set_cons_zero, List.set_cons_succ]
    refine Cu.takeH 26 (some 87) (.bool false) rfl rfl (by kernel_rfl) (by kernel_rfl) (by kernel_rfl) (fun _ _ _ h => h) (by rfl) (fun w_ hw => by first | rfl | (go_simp; done) | (go_simp; rfl) | (go_simp; omega)) hHeld ?_
    simp only [Act.put, List.setIfInBounds_toArray, List.set_cons_zero, List.set_cons_succ]
    refine Cu.takeH 27 (some 88) (.bool false) rfl rfl (by kernel_rfl) (by kernel_rfl) (by kernel_rfl) (fun _ _ _ h => h) (by rfl) (fun w_ hw => by first | rfl | (go_simp; done) | (go_simp; rfl) | (go_simp; omega)) hHeld ?_
    simp only [Act.put, List.setIfInBounds_toArray, List.set_cons_zero, List.set_cons_succ]
    refine Cu.takeH 28 (some 89) (.agg (tabv S.v 115)) rfl rfl (by kernel_rfl) (by kernel_rfl) (by kernel_rfl) (fun _ _ _ h => h) (by rfl) (fun w_ hw => run_load_at w_ 31 _ rfl (g2) 0 (by rfl) _ 115 _ ((K6.out.var.below hw K6.out.var.lt).at_ 0 (by omega) (fun i hi => by rw [Nat.zero_add])) Tryz.underlying31 rfl infoSt) hHeld ?_
    simp only [Act.put, List.setIfInBounds_toArray, List.set_cons_zero, List.set_cons_succ]
    refine Cu.takeH 29 (some 90) (.agg (tabv T.v 115)) rfl rfl (by kernel_rfl) (by kernel_rfl) (by kernel_rfl) (fun _ _ _ h => h) (by rfl) (fun w_ hw => run_load_at w_ 31 _ rfl (g6) 0 (by rfl) _ 115 _ ((V6.out.below hw V6.out.lt).at_ 0 (by omega) (fun i hi => by rw [Nat.zero_add])) Tryz.underlying31 rfl infoSt) hHeld ?_
    simp only [Act.put, List.setIfInBounds_toArray, List.set_cons_zero, List.set_cons_succ]
    refine wpAnyH_ready (rs := [30]) (by kernel_rfl) (by simp) (AllReadyH.cons rfl (fun K hK => ?_) AllReadyH.nil)
    rw [if_pos (by rfl)]
    go_simp
    refine (C2.out _ hHeld).mono ?_
    rintro e wf2 ⟨rfl, hbq⟩
    try go_wp2_with fail
    refine hK.out _ _ (hHeld.trans (hbq.mono hHeld.size)) (fun hH => ?_)
    clear hK K hHeld
    have hHeld := hH
    clear hH
    refine Cu.takeH 31 (some 92) (.bool false) rfl rfl (by kernel_rfl) (by kernel_rfl) (by kernel_rfl) (fun _ _ _ h => h) (by rfl) (fun w_ hw => by first | rfl | (go_simp; done) | (go_simp; rfl) | (go_simp; omega)) hHeld ?_
    simp only [Act.put, List.setIfInBounds_toArray, List.set_cons_zero, List.set_cons_succ]
    refine Cu.takeH 32 (some 93) (.bool false) rfl rfl (by kernel_rfl) (by kernel_rfl) (by kernel_rfl) (fun _ _ _ h => h) (by rfl) (fun w_ hw => by first | rfl | (go_simp; done) | (go_simp; rfl) | (go_simp; omega)) hHeld ?_
    simp only [Act.put, List.setIfInBounds_toArray, List.set_cons_zero, List.set_cons_succ]
    refine Cu.takeH 33 (some 94) (.bool false) rfl rfl (by kernel_rfl) (by kernel_rfl) (by kernel_rfl) (fun _ _ _ h => h) (by rfl) (fun w_ hw => by first | rfl | (go_simp; done) | (go_simp; rfl) | (go_simp; omega)) hHeld ?_
    simp only [Act.put, List.setIfInBounds_toArray, List.set_cons_zero, List.set_cons_succ]
    refine Cu.takeH 34 (some 95) (.agg (tabv S.v 115)) rfl rfl (by kernel_rfl) (by kernel_rfl) (by kernel_rfl) (fun _ _ _ h => h) (by rfl) (fun w_ hw => run_load_at w_ 31 _ rfl (g2) 0 (by rfl) _ 115 _ ((K6.out.var.below hw K6.out.var.lt).at_ 0 (by omega) (fun i hi => by rw [Nat.zero_add])) Tryz.underlying31 rfl infoSt) hHeld ?_
    simp only [Act.put, List.setIfInBounds_toArray, List.set_cons_zero, List.set_cons_succ]
    refine Cu.takeH 35 (some 96) (.agg (tabv T.v 115)) rfl rfl (by kernel_rfl) (by kernel_rfl) (by kernel_rfl) (fun _ _ _ h => h) (by rfl) (fun w_ hw => run_load_at w_ 31 _ rfl (g6) 0 (by rfl) _ 115 _ ((V6.out.below hw V6.out.lt).at_ 0 (by omega) (fun i hi => by rw [Nat.zero_add])) Tryz.underlying31 rfl infoSt) hHeld ?_
    simp only [Act.put, List.setIfInBounds_toArray, List.set_cons_zero, List.set_cons_succ]
    refine Cu.takeH 36 (some 97) (.slice (some ⟨bb, off, none⟩) xn xc) rfl rfl (by kernel_rfl) (by kernel_rfl) (by kernel_rfl) (fun _ _ _ h => h) (by rfl) (fun w_ hw => kmov w_ _ _ rfl (by rfl)) hHeld ?_
    simp only [Act.put, List.setIfInBounds_toArray, List.set_cons_zero, List.set_cons_succ]
    refine Cu.takeH 37 (some 98) (.int .i64 (j : Int)) rfl rfl (by kernel_rfl) (by kernel_rfl) (by kernel_rfl) (fun _ _ _ h => h) (by rfl) (fun w_ hw => kmov w_ _ _ rfl (by rfl)) hHeld ?_
    simp only [Act.put, List.setIfInBounds_toArray, List.set_cons_zero, List.set_cons_succ]
    refine Cu.takeH 38 (some 99) (.pointer (some ⟨bb, off + j * 138, none⟩)) rfl rfl (by kernel_rfl) (by kernel_rfl) (by kernel_rfl) (fun _ _ _ h => h) (by rfl) (fun w_ hw => by first | rfl | (go_simp; done) | (go_simp; rfl) | (go_simp; omega)) hHeld ?_
    simp only [Act.put, List.setIfInBounds_toArray, List.set_cons_zero, List.set_cons_succ]
    refine Cu.takeH 39 (some 100) (.pointer (some ⟨bb, off + j * 138, none⟩)) rfl rfl (by kernel_rfl) (by kernel_rfl) (by kernel_rfl) (fun _ _ _ h => h) (by rfl) (fun w_ hw => by first | rfl | (go_simp; done) | (go_simp; rfl) | (go_simp; omega)) hHeld ?_
    simp only [Act.put, List.setIfInBounds_toArray, List.set_cons_zero, List.set_cons_succ]
    refine Cu.takeH 40 (some 101) (.int .i64 r.kind) rfl rfl (by kernel_rfl) (by kernel_rfl) (by kernel_rfl) (fun _ _ _ h => h) (by rfl) (fun w_ hw => by have c : World.cell? _ ⟨bb, off + j * 138, none⟩ = some (.int .i64 r.kind) := (hw.cell (p := ⟨bb, off + j * 138, none⟩) CB.out).trans C6.out; first | rfl | (go_simp; done) | (go_simp; rfl) | (go_simp; omega)) hHeld ?_
    simp only [Act.put, List.setIfInBounds_toArray, List.set_cons_zero, List.set_cons_succ]
    refine wpAnyH_ready (rs := [41]) (by kernel_rfl) (by simp) (AllReadyH.cons rfl (fun K hK => ?_) AllReadyH.nil)
    rw [if_pos (by rfl)]
    go_simp
    refine (C3.out _ hHeld).mono ?_
    rintro e wf3 ⟨rfl, hbq⟩
    try go_wp2_with fail
    refine hK.out _ _ (hHeld.trans (hbq.mono hHeld.size)) (fun hH => ?_)
    clear hK K hHeld
    have hHeld := hH
    clear hH
    refine Cu.takeH 42 (some 103) (.bool false) rfl rfl (by kernel_rfl) (by kernel_rfl) (by kernel_rfl) (fun _ _ _ h => h) (by rfl) (fun w_ hw => by first | rfl | (go_simp; done) | (go_simp; rfl) | (go_simp; omega)) hHeld ?_
    simp only [Act.put, List.setIfInBounds_toArray, List.set_cons_zero, List.set_cons_succ]
    refine Cu.takeH 43 (some 104) (.bool false) rfl rfl (by kernel_rfl) (by kernel_rfl) (by kernel_rfl) (fun _ _ _ h => h) (by rfl) (fun w_ hw => by first | rfl | (go_simp; done) | (go_simp; rfl) | (go_simp; omega)) hHeld ?_
    simp only [Act.put, List.setIfInBounds_toArray, List.set_cons_zero, List.set_cons_succ]
    refine wpAnyH_done (by kernel_rfl) ?_ _
    refine NoPanic.normal ?_
    have K9 := K6.out.low hHeld
    have V9 := hide (V6.out.below hHeld V6.out.lt)
    have Q9 := hide K9.var
    obtain ⟨w9, hW9⟩ : ∃ w9, wf3.setRow g2 (tabv T.v 115) = w9 := ⟨_, rfl⟩
    have KN : KI w g2 T (newO lo r) (newP S lp r lr) (newF ls r) w9 := by
      rw [← hW9]
      exact ⟨K9.var.row _ _ rfl, next_at K6.out.st HK.out ((HO.out.below hHeld).over HL.out), SN.out, below_setRow K9.bel (Nat.le_refl _) _⟩
    clear K9 hHeld
    go_wp2_with (first | rw [hW9] | refine wpW_load_at 31 _ rfl (g6) (0) (by rfl) (by rfl) _ 115 _ (V9.out.at_ 0 (by omega) (fun i hi => by rw [Nat.zero_add])) Tryz.underlying31 rfl infoSt ?_ | refine wpList_storeSt rfl _ _ rfl rfl (g2) (T) rfl rfl _ Q9.out ?_ | fail)
    try rw [hW9]
    go_roundw
    case rel => exact ⟨j + 1, T, newO lo r, newP S lp r lr, newF ls r, by omega, by go_num, KN⟩
    case measure => simp [intOf]; omega
end Go.Proofs.YtlohfoggcdaeiaaGreat
