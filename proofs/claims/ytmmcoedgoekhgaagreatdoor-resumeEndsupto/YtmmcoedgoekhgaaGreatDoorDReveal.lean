import Derived.Test.YtmmcoedgoekhgaaGreatDoorDSgText
import Derived.Test.YtmmcoedgoekhgaaGreatDoorRsHello
import Derived.Test.YtmmcoedgoekhgaaGreatDoorDMsg
import Derived.Test.YtmmcoedgoekhgaaGreatDoorRsSmall
import Derived.Deep.CutRange
/-
  resume: Answer's out, and send.
-/
namespace Go.Proofs.YtmmcoedgoekhgaaGreatDoor
open Go.RowKit S
set_option linter.unusedVariables false
set_option linter.unusedSimpArgs false
/-- Blocks below B stay, but block g. -/
structure KpO (B g : Nat) (w w' : World) : Prop where
  os : w'.os = w.os
  tape : w'.tape = w.tape
  output : w'.output = w.output
  size : w.heap.size ≤ w'.heap.size
  block : ∀ k, k < B → k ≠ g → w'.heap[k]? = w.heap[k]?
theorem KpO.refl (B g : Nat) (w : World) : KpO B g w w := ⟨rfl, rfl, rfl, Nat.le_refl _, fun _ _ _ => rfl⟩
theorem KpO.trans {B g : Nat} {w w1 w2 : World} (h : KpO B g w w1) (k : KpO B g w1 w2) : KpO B g w w2 :=
  ⟨k.os.trans h.os, k.tape.trans h.tape, k.output.trans h.output, Nat.le_trans h.size k.size, fun i hi hg => (k.block i hi hg).trans (h.block i hi hg)⟩
theorem KpO.of {B g : Nat} {w w' : World} (h : Below w.heap.size w w') (hB : B ≤ w.heap.size) : KpO B g w w' :=
  ⟨h.os, h.tape, h.output, h.size, fun k hk _ => h.block k (Nat.lt_of_lt_of_le hk hB)⟩
theorem KpO.low {B g N : Nat} {w w' : World} (h : KpO B g w w') (hg : N ≤ g) (hB : N ≤ B) : Below N w w' :=
  ⟨h.os, h.tape, h.output, h.size, fun k hk => h.block k (Nat.lt_of_lt_of_le hk hB) (by omega)⟩
theorem KpO.has {B g b m : Nat} {w w' : World} {t : TypeId} {f : Nat → Value} (h : KpO B g w w') (k : Has w b t f m) (hb : b < B) (hg : b ≠ g) : Has w' b t f m := by
  unfold Has at k ⊢
  rw [h.block b hb hg]
  exact k
theorem KpO.upds {B g : Nat} {w0 w w' : World} {ad : Option Addr} {l : List Upd} (h : KpO B g w w') (hb : Below w0.heap.size w0 w) (hU : Upds w0 ad l) (hg : w0.heap.size ≤ g) (hB : w0.heap.size ≤ B) : Upds w' ad l :=
  hU.below (hb.trans (h.low hg hB))
/-- The list that is to be answered, in its variable. -/
def OutB (B g : Nat) (l : List Msg) (w : World) : Prop := ∃ x : Sl, Has w g 70 (fun _ => x.v) 1 ∧ OwnM B w x.v l ∧ g < B
theorem OutB.below {B g : Nat} {l : List Msg} {w w' : World} (h : OutB B g l w) (hb : Below w.heap.size w w') : OutB B g l w' := by
  obtain ⟨x, h1, h2, h3⟩ := h
  exact ⟨x, h1.below hb h1.lt, h2.below hb (Nat.le_refl _), h3⟩
theorem slOfM {B : Nat} {w : World} {v : Value} {l : List Msg} (h : OwnM B w v l) : ∃ x : Sl, v = x.v := by
  obtain ⟨ad, cap, e, _⟩ := h.msgs
  exact ⟨⟨ad, l.length, cap⟩, e⟩
set_option maxRecDepth 100000 in
set_option maxHeartbeats 40000000 in
theorem send_any (m : Msg) (g B : Nat) (l : List Msg) (hz : (l.length + 1) * 120 ≤ 140737488355328) (w : World) (h : OutB B g l w) (hB : B ≤ w.heap.size) : Calls Tryz.prog 80 #[.agg (tabv m.v 70), .pointer (some ⟨g, 0, none⟩)] w fun e w' => e = .returned (.tuple #[]) ∧ OutB B g (l ++ [m]) w' ∧ KpO B g w w' := by
  obtain ⟨x, hg, ho, hgB⟩ := h
  obtain ⟨w1, hW1⟩ : ∃ wX, w.alloc (.cells (tabv m.v 70) 36) = wX := ⟨_, rfl⟩
  have r1 : Has w1 w.heap.size 36 m.v 70 := by rw [← hW1]; exact Has.new w 36 m.v 70 _ rfl
  have b1 : Below w.heap.size w w1 := by rw [← hW1]; exact (Below.refl w.heap.size w).alloc (Nat.le_refl _) _
  have hg1 := hg.below b1 hg.lt
  have ho1 := ho.below b1 (Nat.le_refl _)
  have l1 : w1.heap.size = w.heap.size + 1 := by rw [← hW1, size_alloc]
  obtain ⟨v', w2, w3, e1, e2, o3, hk3, b3, hv, hw2⟩ := appM_at w1 B x.v l m ho1 hz (by omega)
  obtain ⟨y, rfl⟩ := slOfM o3
  have hnx : x.v.ownBlock ≠ some g := fun e => by have := (ho.lt g e).1; omega
  have hgl := hg.lt
  have hg3 : Has w3 g 70 (fun _ => x.v) 1 := by
    unfold Has at hg1 ⊢
    rw [hk3 g (by omega) hnx]
    exact hg1
  have c1 : w1.cell? ⟨g, 0, none⟩ = some (.slice x.ad x.n x.c) := hg1.cell 0 (by omega)
  have c3 : w3.cell? ⟨g, 0, none⟩ = some (.slice x.ad x.n x.c) := hg3.cell 0 (by omega)
  have f3 := hg3.frozen 0
  obtain ⟨w4, hW4⟩ : ∃ wX, w3.setCell ⟨g, 0, none⟩ y.v = wX := ⟨_, rfl⟩
  have hg4 : Has w4 g 70 (fun _ => y.v) 1 := by
    rw [← hW4]
    exact (hg3.set 0 y.v).congr _ (fun i hi => by unfold upd; match i, hi with
                                                  | 0, _ => rfl)
  have ho4 : OwnM B w4 y.v (l ++ [m]) := by
    rw [← hW4]
    exact o3.same fun k hk => by
      have h1 := (o3.lt k hk).1
      exact Below.heap_setCell _ _ _ k (by show k ≠ g; omega)
  have KF : Hid (KpO B g w w4) := by
    have k1 : KpO B g w w1 := KpO.of b1 hB
    have k2 : KpO B g w1 w3 := ⟨b3.os, b3.tape, b3.output, b3.size, fun k hk _ => b3.block k hk⟩
    have k3 : KpO B g w3 w4 := by
      rw [← hW4]
      exact ⟨rfl, rfl, rfl, by simp, fun k hk hne => Below.heap_setCell _ _ _ k hne⟩
    exact (k1.trans k2).trans k3
  have OF : Hid (OutB B g (l ++ [m]) w4) := ⟨y, hg4, ho4, hgB⟩
  have R1 := hide r1
  have E1 := hide e1
  have e2 : _ = Result.ok (Value.slice y.ad y.n y.c) w3 := e2
  have E2 := hide e2
  have hW4 : w3.setCell ⟨g, 0, none⟩ (.slice y.ad y.n y.c) = w4 := hW4
  clear hg ho r1 b1 hg1 ho1 e1 e2 o3 hk3 b3 hv hw2 hnx hgl hg3 hg4 ho4 hz hB hgB l1
  go_enter Tryz.func80, Tryz.ntmps80
  go_wp2_with (first | rw [hW4] | refine wpW_load_at 36 _ rfl (w.heap.size) (0) (by rfl) (by rfl) _ 70 _ (R1.out.at_ 0 (by omega) (fun i hi => by rw [Nat.zero_add])) Tryz.underlying36 rfl infoM ?_ | refine wpList_slice1 rfl 70 _ rfl (.agg (tabv m.v 70)) rfl E1.out ?_ | refine wpList_app rfl _ _ _ rfl E2.out ?_ | fail)
  go_end0
  exact ⟨rfl, OF.out, KF.out⟩
end Go.Proofs.YtmmcoedgoekhgaaGreatDoor
/-
  Of, of the code and the document (picked out of msg's texts by mkstate.sh).
-/
namespace Go.Proofs.YtmmcoedgoekhgaaGreatDoor
open Go.RowKit S
set_option linter.unusedVariables false
set_option linter.unusedSimpArgs false
set_option maxRecDepth 20000
def ofU (u : Upd) : Msg := ⟨u.kind, u.id, u.amt, 0, 0, u.hash, z32, u.note⟩
section
variable {ops : Array Oper} {rest : List Oper} {o : Oper} {a : Act} {w : World} {Q : Exit → Act → World → Prop}
set_option maxRecDepth 100000 in
theorem builtMof (u : Upd) : Tryz.prog.built 36 [(0, .int .i64 u.kind), (1, .int .i64 u.id), (2, .int .i64 u.amt), (5, .agg (tabv (bv u.hash) 32)), (7, .string u.note)] = some (tabv (ofU u).v 70) := by kernel_rfl
end
set_option maxRecDepth 100000 in
set_option maxHeartbeats 4000000 in
theorem of_any (u : Upd) (w : World) : Calls Tryz.prog 83 #[.agg (tabv u.v 36)] w fun e w' => e = .returned (.agg (tabv (ofU u).v 70)) ∧ Below w.heap.size w w' := by
  obtain ⟨w1, hW1⟩ : ∃ wX, w.alloc (.cells (tabv u.v 36) 34) = wX := ⟨_, rfl⟩
  have r1 : Has w1 w.heap.size 34 u.v 36 := by rw [← hW1]; exact Has.new w 34 u.v 36 _ rfl
  have b1 : Below w.heap.size w w1 := by rw [← hW1]; exact (Below.refl w.heap.size w).alloc (Nat.le_refl _) _
  obtain ⟨w2, w3, hW2, r2, hW3, r3, b3, b2⟩ := newM w1 (ofU u)
  have q1 := r1.below b2 r1.lt
  have c0 : w2.cell? ⟨w.heap.size, 0, none⟩ = some (.int .i64 u.kind) := q1.cell 0 (by omega)
  have c1 : w2.cell? ⟨w.heap.size, 1, none⟩ = some (.int .i64 u.id) := q1.cell 1 (by omega)
  have c2 : w2.cell? ⟨w.heap.size, 2, none⟩ = some (.int .i64 u.amt) := q1.cell 2 (by omega)
  have c3 : w2.cell? ⟨w.heap.size, 35, none⟩ = some (.string u.note) := q1.cell 35 (by omega)
  have AH : Hid (At w2 w.heap.size 3 (bv u.hash) 32) := q1.at_hash
  have R2 := hide r2
  have R3 := hide r3
  have gb : Below w.heap.size w w3 := b1.trans (b3.mono b1.size)
  clear r1 b1 r2 r3 b3 b2 q1
  go_enter Tryz.func83, Tryz.ntmps83
  go_wp2_with (first | refine wpW_load_at 23 _ rfl (w.heap.size) (3) (by rfl) (by rfl) _ 32 _ (AH.out) Tryz.underlying23 rfl info26 ?_ | refine wpW_build (by rfl) 36 #[(0, .tmp 4), (1, .tmp 6), (2, .tmp 8), (5, .tmp 10), (7, .tmp 12)] rfl [(0, .int .i64 u.kind), (1, .int .i64 u.id), (2, .int .i64 u.amt), (5, .agg (tabv (bv u.hash) 32)), (7, .string u.note)] (by first | rfl | (simp [Act.eval, Act.put]; done)) _ (builtMof u) ?_ | refine wpList_storeM rfl _ _ rfl rfl (w1.heap.size) (ofU u) rfl rfl _ R2.out ?_ | fail)
  try rw [hW3]
  (try simp only [Exit.inBlock, Exit.then])
  exact bodyPost_ret (results_cell_row rfl _ _ (w1.heap.size) 36 _ (0, 0) _ rfl (R3.out) Tryz.underlying36 rfl (by rw [tabv_size]; exact infoM)) rfl ⟨rfl, gb⟩
end Go.Proofs.YtmmcoedgoekhgaaGreatDoor
/-
  Reveal of the code (printed by gen_d13.py).
-/
namespace Go.Proofs.YtmmcoedgoekhgaaGreatDoor
open Go.RowKit S
set_option linter.unusedVariables false
set_option linter.unusedSimpArgs false
def revealA (c : Cf) (x : Int) : Msg := bif (decide (x < 0) || decide (x > 281474976710653)) then Msg.zero else revokeM x (secretA c.seed x).1 (sha (listOf (secretA c.seed (x + 2)).1))
structure SR (w : World) (bc br : Nat) (c : Cf) (wx : World) : Prop where
  c : Has wx bc 26 c.v 164
  r : ∃ f, Has wx br 36 f 70
  b : Below w.heap.size w wx
theorem SR.step {w : World} {bc br : Nat} {c : Cf} {wx wy : World} (h : SR w bc br c wx) (hb : Below wx.heap.size wx wy) : SR w bc br c wy :=
  ⟨h.c.below hb h.c.lt, h.r.imp fun _ k => k.below hb k.lt, h.b.trans (hb.mono h.b.size)⟩
theorem SR.store {w : World} {bc br : Nat} {c : Cf} {wx : World} (h : SR w bc br c wx) (M : Msg) (h1 : bc ≠ br) (h3 : w.heap.size ≤ br) : SR w bc br c (wx.setRow br (tabv M.v 70)) ∧ Has (wx.setRow br (tabv M.v 70)) br 36 M.v 70 := by
  obtain ⟨f, hf⟩ := h.r
  exact ⟨⟨h.c.row_other _ _ h1, ⟨_, hf.row _ M.v rfl⟩, below_setRow h.b h3 _⟩, hf.row _ M.v rfl⟩
set_option maxRecDepth 100000 in
set_option maxHeartbeats 40000000 in
theorem reveal_any (num : Num) (c : Cf) (x : Int) (w : World) (hG : Glob num w) : Calls Tryz.prog 21 #[.agg (tabv c.v 164), .int .i64 x] w fun e w' => e = .returned (.agg (tabv (revealA c x).v 70)) ∧ Below w.heap.size w w' := by
  obtain ⟨w1, hW1⟩ : ∃ wX, w.alloc (.cells (tabv c.v 164) 26) = wX := ⟨_, rfl⟩
  have rc : Has w1 w.heap.size 26 c.v 164 := by rw [← hW1]; exact Has.new w 26 c.v 164 _ rfl
  have bb : Below w.heap.size w w1 := by rw [← hW1]; exact (Below.refl w.heap.size w).alloc (Nat.le_refl _) _
  have gb : Below w.heap.size w w1 := bb
  clear bb
  obtain ⟨w2, hW2⟩ : ∃ wX, w1.alloc (.cells (tabv Msg.zero.v 70) 36) = wX := ⟨_, rfl⟩
  have rr : Has w2 w1.heap.size 36 Msg.zero.v 70 := by rw [← hW2]; exact Has.new w1 36 Msg.zero.v 70 _ rfl
  have bb : Below w1.heap.size w1 w2 := by rw [← hW2]; exact (Below.refl w1.heap.size w1).alloc (Nat.le_refl _) _
  have rc := rc.below bb rc.lt
  have gb : Below w.heap.size w w2 := gb.trans (bb.mono gb.size)
  clear bb
  have Rb_c := hide rc
  have Rb_r := hide rr
  have GB := hide gb
  clear gb rc rr
  have LB : w.heap.size < w1.heap.size := by rw [← hW1, size_alloc]; omega
  rw [← zero70] at hW2
  have HS := hide (fun wx (hb : Below w.heap.size w wx) => dsecret_any num c x wx (hG.up hb))
  have HT := hide (fun wx (hb : Below w.heap.size w wx) => dsecret_any num c (x + 2) wx (hG.up hb))
  have HPo := hide (fun wx (hb : Below w.heap.size w wx) => spoint_any num (secretA c.seed (x + 2)).1 wx (hG.up hb))
  unfold revealA
  generalize sha (listOf (secretA c.seed (x + 2)).1) = PT at HPo ⊢
  generalize (secretA c.seed (x + 2)).1 = S2 at HT HPo
  generalize (secretA c.seed x).1 = S1 at HS ⊢
  clear hG
  cases q1 : decide (x < 0) with
  | true =>
    go_enter Tryz.func21, Tryz.ntmps21
    go_upto_region 2 with fail
    go_wp2_with (first | refine wpW_build (by rfl) 36 #[] rfl [] (by first | rfl | (simp [Act.eval, Act.put]; done)) _ builtMZ ?_ | refine wpList_storeM rfl _ _ rfl rfl w1.heap.size Msg.zero rfl rfl _ Rb_r.out ?_ | fail)
    (try simp only [Exit.inBlock, Exit.then])
    exact bodyPost_ret (results_cell_row rfl _ _ w1.heap.size 36 _ (0, 0) _ rfl (Rb_r.out.row _ Msg.zero.v rfl) Tryz.underlying36 rfl (by rw [tabv_size]; exact infoM)) rfl ⟨by first | rfl | (simp only [*]; rfl) | (simp [*]; done), below_setRow GB.out (Nat.le_of_lt LB) _⟩
  | false =>
    cases q2 : decide (x > 281474976710653) with
    | true =>
      go_enter Tryz.func21, Tryz.ntmps21
      go_upto_region 2 with fail
      go_wp2_with (first | refine wpW_build (by rfl) 36 #[] rfl [] (by first | rfl | (simp [Act.eval, Act.put]; done)) _ builtMZ ?_ | refine wpList_storeM rfl _ _ rfl rfl w1.heap.size Msg.zero rfl rfl _ Rb_r.out ?_ | fail)
      (try simp only [Exit.inBlock, Exit.then])
      exact bodyPost_ret (results_cell_row rfl _ _ w1.heap.size 36 _ (0, 0) _ rfl (Rb_r.out.row _ Msg.zero.v rfl) Tryz.underlying36 rfl (by rw [tabv_size]; exact infoM)) rfl ⟨by first | rfl | (simp only [*]; rfl) | (simp [*]; done), below_setRow GB.out (Nat.le_of_lt LB) _⟩
    | false =>
      have hx0 : 0 ≤ x := by have := of_decide_eq_false q1; omega
      have hx1 : x ≤ 281474976710653 := by have := of_decide_eq_false q2; omega
      go_enter Tryz.func21, Tryz.ntmps21
      go_upto_region 3 with fail
      refine wp_region_noPanic ?_
      refine wp_region_held_drew (S := SR w w.heap.size w1.heap.size c) (by kernel_rfl) (⟨Rb_c.out, ⟨_, Rb_r.out⟩, belowD GB.out 1⟩) (fun hHeld => ?_)
      generalize hwd : World.drew w2 = wd at hHeld ⊢
      refine Cu.takeH 0 (some 12) (.int .i64 x) rfl rfl (by kernel_rfl) (by kernel_rfl) (by kernel_rfl) (fun _ _ _ h => h) (by rfl) (fun w_ hw => by first | rfl | (go_simp; done) | (go_simp; rfl) | (go_simp; omega)) hHeld ?_
      simp only [Act.put, List.setIfInBounds_toArray, List.set_cons_zero, List.set_cons_succ]
      refine Cu.takeH 1 (some 13) (.agg (tabv c.v 164)) rfl rfl (by kernel_rfl) (by kernel_rfl) (by kernel_rfl) (fun _ _ _ h => h) (by rfl) (fun w_ hw => run_load_at w_ 26 _ rfl (w.heap.size) 0 (by rfl) _ 164 _ (hw.c.at_ 0 (by omega) (fun i hi => by rw [Nat.zero_add])) Tryz.underlying26 rfl infoCf) hHeld ?_
      simp only [Act.put, List.setIfInBounds_toArray, List.set_cons_zero, List.set_cons_succ]
      refine Cu.takeH 2 (some 14) (.int .i64 x) rfl rfl (by kernel_rfl) (by kernel_rfl) (by kernel_rfl) (fun _ _ _ h => h) (by rfl) (fun w_ hw => by first | rfl | (go_simp; done) | (go_simp; rfl) | (go_simp; omega)) hHeld ?_
      simp only [Act.put, List.setIfInBounds_toArray, List.set_cons_zero, List.set_cons_succ]
      refine Cu.takeH 4 (some 16) (.agg (tabv c.v 164)) rfl rfl (by kernel_rfl) (by kernel_rfl) (by kernel_rfl) (fun _ _ _ h => h) (by rfl) (fun w_ hw => run_load_at w_ 26 _ rfl (w.heap.size) 0 (by rfl) _ 164 _ (hw.c.at_ 0 (by omega) (fun i hi => by rw [Nat.zero_add])) Tryz.underlying26 rfl infoCf) hHeld ?_
      simp only [Act.put, List.setIfInBounds_toArray, List.set_cons_zero, List.set_cons_succ]
      refine Cu.takeH 5 (some 17) (.int .i64 x) rfl rfl (by kernel_rfl) (by kernel_rfl) (by kernel_rfl) (fun _ _ _ h => h) (by rfl) (fun w_ hw => by first | rfl | (go_simp; done) | (go_simp; rfl) | (go_simp; omega)) hHeld ?_
      simp only [Act.put, List.setIfInBounds_toArray, List.set_cons_zero, List.set_cons_succ]
      refine Cu.takeH 6 (some 18) (.int .i64 (x + 2)) rfl rfl (by kernel_rfl) (by kernel_rfl) (by kernel_rfl) (fun _ _ _ h => h) (by rfl) (fun w_ hw => by have c : IntKind.i64.wrap (x + 2) = x + 2 := (by rw [IntKind.wrap_i64]; omega); first | (go_simp; done) | (go_simp; rfl) | (go_simp; rw [c])) hHeld ?_
      simp only [Act.put, List.setIfInBounds_toArray, List.set_cons_zero, List.set_cons_succ]
      refine wpAnyH_ready (rs := [3]) (by kernel_rfl) (by simp) (AllReadyH.cons rfl (fun K hK => ?_) AllReadyH.nil)
      rw [if_pos (by rfl)]
      go_simp
      refine (HS.out _ hHeld.b).mono ?_
      rintro e ya ⟨rfl, hbq⟩
      try go_wp2_with fail
      refine hK.out _ _ (hHeld.step hbq) (fun hH => ?_)
      clear hK K hHeld
      have hHeld := hH
      clear hH
      refine wpAnyH_ready (rs := [7]) (by kernel_rfl) (by simp) (AllReadyH.cons rfl (fun K hK => ?_) AllReadyH.nil)
      rw [if_pos (by rfl)]
      go_simp
      refine (HT.out _ hHeld.b).mono ?_
      rintro e yb ⟨rfl, hbq⟩
      try go_wp2_with fail
      refine hK.out _ _ (hHeld.step hbq) (fun hH => ?_)
      clear hK K hHeld
      have hHeld := hH
      clear hH
      refine wpAnyH_ready (rs := [8]) (by kernel_rfl) (by simp) (AllReadyH.cons rfl (fun K hK => ?_) AllReadyH.nil)
      rw [if_pos (by rfl)]
      go_simp
      refine (HPo.out _ hHeld.b).mono ?_
      rintro e yc ⟨rfl, hbq⟩
      try go_wp2_with fail
      refine hK.out _ _ (hHeld.step hbq) (fun hH => ?_)
      clear hK K hHeld
      have hHeld := hH
      clear hH
      refine Cu.takeH 9 (some 21) (.agg (tabv (revokeM x S1 PT).v 70)) rfl rfl (by kernel_rfl) (by kernel_rfl) (by kernel_rfl) (fun _ _ _ h => h) (by rfl) (fun w_ hw => run_buildG w_ 36 _ rfl [(0, .int .i64 5), (3, .int .i64 x), (6, .agg (tabv (bv S1) 32)), (5, .agg (tabv (bv PT) 32))] (by first | rfl | (simp [Act.eval, Act.put]; done)) _ (builtRM _ _ _)) hHeld ?_
      simp only [Act.put, List.setIfInBounds_toArray, List.set_cons_zero, List.set_cons_succ]
      refine wpAnyH_ready (rs := [10]) (by kernel_rfl) (by simp) (AllReadyH.cons rfl (fun K hK => ?_) AllReadyH.nil)
      rw [if_pos (by rfl)]
      obtain ⟨f9, hf9⟩ := hHeld.r
      refine wp_store_part 36 _ _ rfl rfl w1.heap.size 0 (revokeM x S1 PT).v 70 rfl rfl 36 _ 70 hf9 (by omega) infoM (fun i _ => oneM _ i) (revokeM x S1 PT).v (fun i hi => by unfold splice; rw [if_pos (by omega), Nat.sub_zero]) ?_
      obtain ⟨hS9, hM9⟩ := hHeld.store (revokeM x S1 PT) (Nat.ne_of_lt LB) (Nat.le_of_lt LB)
      refine hK.out _ _ hS9 (fun hH => ?_)
      clear hK hHeld hH hf9
      generalize hwz : World.setRow _ w1.heap.size (tabv (revokeM x S1 PT).v 70) = wz at hS9 hM9 ⊢
      have RF := hide hM9
      have BF := hide hS9.b
      clear hwz hM9 hS9 hwd
      refine ⟨by kernel_rfl, ?_⟩
      refine NoPanic.normal ?_
      go_wp2
      (try simp only [Exit.inBlock, Exit.then])
      exact bodyPost_ret (results_cell_row rfl _ _ w1.heap.size 36 _ (0, 0) _ rfl RF.out Tryz.underlying36 rfl (by rw [tabv_size]; exact infoM)) rfl ⟨by first | rfl | (simp only [*]; rfl) | (simp [*]; done), BF.out⟩
end Go.Proofs.YtmmcoedgoekhgaaGreatDoor
