import Derived.Test.YtlohfoggcdaeiaaGreatRKeep2
import Derived.Test.YtlohfoggcdaeiaaGreatRStepM
import Derived.Deep.DeepCutAuto
import Derived.Deep.Cut
/-
  RecordKeeps: fixed (printed by gen_r17.py).
-/
namespace Go.Proofs.YtlohfoggcdaeiaaGreat
open Go.RowKit S
set_option linter.unusedVariables false
set_option linter.unusedSimpArgs false
open Cu (nb be hl ofL CW Mw CR Mr RS takeS takeA hOf nil8 doneS)
set_option maxRecDepth 100000 in
set_option maxHeartbeats 40000000 in
theorem fixed_1 (x a b : Int) (h k : Nat → UInt8) (s : St) (y1 y2 y3 : Sl) (lp : List Upd) (n2 : y2.n = s.peers.n) (hnp : lp.length = s.peers.n) (zp : s.peers.n ≤ 140737488351232) (w : World) (hTP : Upds w y2.ad lp) (hSP : Upds w s.peers.ad lp) : Calls Tryz.prog 19 #[.agg (tabv s.v 115), .agg (tabv (St.v ⟨s.side, s.cap, s.bo, s.bp, y1, y2, s.loc, s.rem, s.ack, s.ao, s.ap, s.so, s.sp, s.ho, s.hp, s.beh, s.p0, s.p1, s.sig, y3, s.fail, s.closed⟩) 115), .int .i64 1] w fun e w' => e = .returned (.bool true) ∧ Below w.heap.size w w' := by
  obtain ⟨t, ht⟩ : ∃ t : St, ⟨s.side, s.cap, s.bo, s.bp, y1, y2, s.loc, s.rem, s.ack, s.ao, s.ap, s.so, s.sp, s.ho, s.hp, s.beh, s.p0, s.p1, s.sig, y3, s.fail, s.closed⟩ = t := ⟨_, rfl⟩
  rw [ht]
  obtain ⟨w2, hW⟩ : ∃ w2, (w.alloc (.cells (tabv s.v 115) 31)).alloc (.cells (tabv t.v 115) 31) = w2 := ⟨_, rfl⟩
  have R1 := hide (show Has w2 w.heap.size 31 s.v 115 by rw [← hW]; exact (Has.new w 31 s.v 115 _ rfl).old _)
  have R2 := hide (show Has w2 (w.heap.size + 1) 31 t.v 115 by
    rw [← hW]
    have := Has.new (w.alloc (.cells (tabv s.v 115) 31)) 31 t.v 115 _ rfl
    rw [size_alloc] at this
    exact this)
  have gb : Below w.heap.size w w2 := by rw [← hW]; exact ((Below.refl w.heap.size w).alloc (Nat.le_refl _) _).alloc (by simp) _
  have SL := hide (fun (wx : World) (hb : Below w.heap.size w wx) => sameL_any y2.ad s.peers.ad s.peers.n y2.c s.peers.c lp hnp zp wx (hTP.below hb) (hSP.below hb))
  have HT := hide ht
  have N2 := hide n2
  clear ht n2 hnp zp hTP hSP
  go_enter Tryz.func19, Tryz.ntmps19
  go_upto_region 1 with (first | rw [hW] | fail)
  try rw [hW]
  clear hW
  have cs0 : w2.cell? ⟨w.heap.size, 0, none⟩ = some (.int .i64 s.side) := R1.out.cell 0 (by omega)
  have ct0 : w2.cell? ⟨w.heap.size + 1, 0, none⟩ = some (.int .i64 s.side) := by rw [R2.out.cell 0 (by omega), ← HT.out]; rfl
  have ne0 : (s.side != s.side) = false := bne_self_eq_false _
  have eq0 : (s.side == s.side) = true := beq_self_eq_true _
  have cs1 : w2.cell? ⟨w.heap.size, 1, none⟩ = some (.int .i64 s.cap) := R1.out.cell 1 (by omega)
  have ct1 : w2.cell? ⟨w.heap.size + 1, 1, none⟩ = some (.int .i64 s.cap) := by rw [R2.out.cell 1 (by omega), ← HT.out]; rfl
  have ne1 : (s.cap != s.cap) = false := bne_self_eq_false _
  have eq1 : (s.cap == s.cap) = true := beq_self_eq_true _
  have cs2 : w2.cell? ⟨w.heap.size, 2, none⟩ = some (.int .i64 s.bo) := R1.out.cell 2 (by omega)
  have ct2 : w2.cell? ⟨w.heap.size + 1, 2, none⟩ = some (.int .i64 s.bo) := by rw [R2.out.cell 2 (by omega), ← HT.out]; rfl
  have ne2 : (s.bo != s.bo) = false := bne_self_eq_false _
  have eq2 : (s.bo == s.bo) = true := beq_self_eq_true _
  have cs3 : w2.cell? ⟨w.heap.size, 3, none⟩ = some (.int .i64 s.bp) := R1.out.cell 3 (by omega)
  have ct3 : w2.cell? ⟨w.heap.size + 1, 3, none⟩ = some (.int .i64 s.bp) := by rw [R2.out.cell 3 (by omega), ← HT.out]; rfl
  have ne3 : (s.bp != s.bp) = false := bne_self_eq_false _
  have eq3 : (s.bp == s.bp) = true := beq_self_eq_true _
  go_upto_region 3 with fail
  clear cs0 ct0 ne0 eq0 cs1 ct1 ne1 eq1 cs2 ct2 ne2 eq2 cs3 ct3 ne3 eq3
  have cs7 : w2.cell? ⟨w.heap.size, 7, none⟩ = some (.int .i64 s.rem) := R1.out.cell 7 (by omega)
  have ct7 : w2.cell? ⟨w.heap.size + 1, 7, none⟩ = some (.int .i64 s.rem) := by rw [R2.out.cell 7 (by omega), ← HT.out]; rfl
  have ne7 : (s.rem != s.rem) = false := bne_self_eq_false _
  have eq7 : (s.rem == s.rem) = true := beq_self_eq_true _
  have cs15 : w2.cell? ⟨w.heap.size, 15, none⟩ = some (.bool s.beh) := R1.out.cell 15 (by omega)
  have ct15 : w2.cell? ⟨w.heap.size + 1, 15, none⟩ = some (.bool s.beh) := by rw [R2.out.cell 15 (by omega), ← HT.out]; rfl
  have ne15 : (s.beh != s.beh) = false := bne_self_eq_false _
  have eq15 : (s.beh == s.beh) = true := beq_self_eq_true _
  have AS : Hid (At w2 (w.heap.size + 1) 11 (ctv s.so s.sp) 2) := R2.out.atSt 11 _ _ (by omega) (by rw [← HT.out]; rfl) (by rw [← HT.out]; rfl)
  have BS : Hid (At w2 w.heap.size 11 (ctv s.so s.sp) 2) := R1.out.atSt 11 _ _ (by omega) rfl rfl
  have ES : Hid (∀ w : World, (Op.equalIn 10000 23 (.agg (tabv (ctv s.so s.sp) 2)) (.agg (tabv (ctv s.so s.sp) 2))).run Tryz.prog w = .ok true w) := fun w => by rw [eqCD]; simp
  go_upto_region 5 with (first | refine wpW_load_at 23 _ rfl (w.heap.size + 1) (11) (by rfl) (by rfl) _ 2 _ (AS.out) Tryz.underlying23 rfl infoC ?_ | refine wpW_load_at 23 _ rfl (w.heap.size) (11) (by rfl) (by rfl) _ 2 _ (BS.out) Tryz.underlying23 rfl infoC ?_ | refine wpW_neC (by rfl) (.tmp 55) (.tmp 57) rfl _ _ _ (by rfl) (by rfl) ES.out ?_ | fail)
  clear cs7 ct7 ne7 eq7 cs15 ct15 ne15 eq15 AS BS ES
  have cs6 : w2.cell? ⟨w.heap.size, 6, none⟩ = some (.int .i64 s.loc) := R1.out.cell 6 (by omega)
  have ct6 : w2.cell? ⟨w.heap.size + 1, 6, none⟩ = some (.int .i64 s.loc) := by rw [R2.out.cell 6 (by omega), ← HT.out]; rfl
  have ne6 : (s.loc != s.loc) = false := bne_self_eq_false _
  have eq6 : (s.loc == s.loc) = true := beq_self_eq_true _
  have s5 : w2.cell? ⟨w.heap.size, 5, none⟩ = some (.slice s.peers.ad s.peers.n s.peers.c) := R1.out.cell 5 (by omega)
  have t5 : w2.cell? ⟨w.heap.size + 1, 5, none⟩ = some (.slice y2.ad s.peers.n y2.c) := by rw [R2.out.cell 5 (by omega), ← HT.out, ← N2.out]; rfl
  have AA : Hid (At w2 (w.heap.size + 1) 9 (ctv s.ao s.ap) 2) := R2.out.atSt 9 _ _ (by omega) (by rw [← HT.out]; rfl) (by rw [← HT.out]; rfl)
  have BA : Hid (At w2 w.heap.size 9 (ctv s.ao s.ap) 2) := R1.out.atSt 9 _ _ (by omega) rfl rfl
  have EA : Hid (∀ w : World, (Op.equalIn 10000 23 (.agg (tabv (ctv s.ao s.ap) 2)) (.agg (tabv (ctv s.ao s.ap) 2))).run Tryz.prog w = .ok true w) := fun w => by rw [eqCD]; simp
  have AG : Hid (At w2 (w.heap.size + 1) 80 (bv s.sig) 32) := by have := R2.out.atSSig; rwa [show t.sig = s.sig by rw [← HT.out]] at this
  have BG : Hid (At w2 w.heap.size 80 (bv s.sig) 32) := R1.out.atSSig
  have EG : Hid (∀ w : World, (Op.equalIn 10000 25 (.agg (tabv (bv s.sig) 32)) (.agg (tabv (bv s.sig) 32))).run Tryz.prog w = .ok true w) := fun w => by rw [eqHD 9998, eqH_refl]
  go_wp2_with (first | refine wpW_load_at 23 _ rfl (w.heap.size + 1) (9) (by rfl) (by rfl) _ 2 _ (AA.out) Tryz.underlying23 rfl infoC ?_ | refine wpW_load_at 23 _ rfl (w.heap.size) (9) (by rfl) (by rfl) _ 2 _ (BA.out) Tryz.underlying23 rfl infoC ?_ | refine wpW_neC (by rfl) (.tmp 87) (.tmp 89) rfl _ _ _ (by rfl) (by rfl) EA.out ?_ | refine wpW_load_at 25 _ rfl (w.heap.size + 1) (80) (by rfl) (by rfl) _ 32 _ (AG.out) Tryz.underlying25 rfl info26 ?_ | refine wpW_load_at 25 _ rfl (w.heap.size) (80) (by rfl) (by rfl) _ 32 _ (BG.out) Tryz.underlying25 rfl info26 ?_ | refine wpW_neH (by rfl) (.tmp 94) (.tmp 96) rfl _ _ _ (by rfl) (by rfl) EG.out ?_ | fail)
  refine (SL.out _ gb).mono ?_
  rintro e w3 ⟨rfl, hb3⟩
  replace R1 := hide (R1.out.below hb3 R1.out.lt)
  replace R2 := hide (R2.out.below hb3 R2.out.lt)
  have g3 : Below w.heap.size w w3 := gb.trans (hb3.mono gb.size)
  clear hb3 gb SL
  clear cs6 ct6 ne6 eq6 s5 t5 AA BA EA AG BG EG
  go_upto_region 7 with fail
  have cs8 : w3.cell? ⟨w.heap.size, 8, none⟩ = some (.int .i64 s.ack) := R1.out.cell 8 (by omega)
  have ct8 : w3.cell? ⟨w.heap.size + 1, 8, none⟩ = some (.int .i64 s.ack) := by rw [R2.out.cell 8 (by omega), ← HT.out]; rfl
  have ne8 : (s.ack != s.ack) = false := bne_self_eq_false _
  have eq8 : (s.ack == s.ack) = true := beq_self_eq_true _
  have AH : Hid (At w3 (w.heap.size + 1) 13 (ctv s.ho s.hp) 2) := R2.out.atSt 13 _ _ (by omega) (by rw [← HT.out]; rfl) (by rw [← HT.out]; rfl)
  have BH : Hid (At w3 w.heap.size 13 (ctv s.ho s.hp) 2) := R1.out.atSt 13 _ _ (by omega) rfl rfl
  have EH : Hid (∀ w : World, (Op.equalIn 10000 23 (.agg (tabv (ctv s.ho s.hp) 2)) (.agg (tabv (ctv s.ho s.hp) 2))).run Tryz.prog w = .ok true w) := fun w => by rw [eqCD]; simp
  have AP : Hid (At w3 (w.heap.size + 1) 16 (pv s.p0 s.p1) 64) := by have := R2.out.atPts; rwa [show t.p0 = s.p0 by rw [← HT.out], show t.p1 = s.p1 by rw [← HT.out]] at this
  have BP : Hid (At w3 w.heap.size 16 (pv s.p0 s.p1) 64) := R1.out.atPts
  have EP : Hid (∀ w : World, (Op.equalIn 10000 28 (.agg (tabv (pv s.p0 s.p1) 64)) (.agg (tabv (pv s.p0 s.p1) 64))).run Tryz.prog w = .ok true w) := fun w => by rw [eqPtD, eqH_refl, eqH_refl]; rfl
  go_upto_region 9 with (first | refine wpW_load_at 23 _ rfl (w.heap.size + 1) (13) (by rfl) (by rfl) _ 2 _ (AH.out) Tryz.underlying23 rfl infoC ?_ | refine wpW_load_at 23 _ rfl (w.heap.size) (13) (by rfl) (by rfl) _ 2 _ (BH.out) Tryz.underlying23 rfl infoC ?_ | refine wpW_neC (by rfl) (.tmp 118) (.tmp 120) rfl _ _ _ (by rfl) (by rfl) EH.out ?_ | refine wpW_load_at 28 _ rfl (w.heap.size + 1) (16) (by rfl) (by rfl) _ 64 _ (AP.out) Tryz.underlying28 rfl infoPt ?_ | refine wpW_load_at 28 _ rfl (w.heap.size) (16) (by rfl) (by rfl) _ 64 _ (BP.out) Tryz.underlying28 rfl infoPt ?_ | refine wpW_nePt (by rfl) (.tmp 125) (.tmp 127) rfl _ _ _ (by rfl) (by rfl) EP.out ?_ | fail)
  clear cs8 ct8 ne8 eq8 AH BH EH AP BP EP
  have cs113 : w3.cell? ⟨w.heap.size, 113, none⟩ = some (.int .i64 s.fail) := R1.out.cell 113 (by omega)
  have ct113 : w3.cell? ⟨w.heap.size + 1, 113, none⟩ = some (.int .i64 s.fail) := by rw [R2.out.cell 113 (by omega), ← HT.out]; rfl
  have ne113 : (s.fail != s.fail) = false := bne_self_eq_false _
  have eq113 : (s.fail == s.fail) = true := beq_self_eq_true _
  have cs114 : w3.cell? ⟨w.heap.size, 114, none⟩ = some (.int .i64 s.closed) := R1.out.cell 114 (by omega)
  have ct114 : w3.cell? ⟨w.heap.size + 1, 114, none⟩ = some (.int .i64 s.closed) := by rw [R2.out.cell 114 (by omega), ← HT.out]; rfl
  have ne114 : (s.closed != s.closed) = false := bne_self_eq_false _
  have eq114 : (s.closed == s.closed) = true := beq_self_eq_true _
  go_wp2
  go_ret
  exact ⟨by first | rfl | simp, g3⟩
end Go.Proofs.YtlohfoggcdaeiaaGreat
/-
  RecordKeeps: fixed (printed by gen_r17.py).
-/
namespace Go.Proofs.YtlohfoggcdaeiaaGreat
open Go.RowKit S
set_option linter.unusedVariables false
set_option linter.unusedSimpArgs false
open Cu (nb be hl ofL CW Mw CR Mr RS takeS takeA hOf nil8 doneS)
set_option maxRecDepth 100000 in
set_option maxHeartbeats 40000000 in
theorem fixed_2 (x a b : Int) (h k : Nat → UInt8) (s : St) (y1 y2 y3 : Sl) (lp : List Upd) (n1 : y1.n = s.ours.n) (n2 : y2.n = s.peers.n) (hnp : lp.length = s.peers.n) (zp : s.peers.n ≤ 140737488351232) (w : World) (hTP : Upds w y2.ad lp) (hSP : Upds w s.peers.ad lp) : Calls Tryz.prog 19 #[.agg (tabv s.v 115), .agg (tabv (St.v ⟨s.side, s.cap, s.bo, s.bp, y1, y2, s.loc, x, s.ack, s.ao, s.ap, a, b, s.ho, s.hp, true, s.p0, s.p1, s.sig, y3, s.fail, s.closed⟩) 115), .int .i64 2] w fun e w' => e = .returned (.bool true) ∧ Below w.heap.size w w' := by
  obtain ⟨t, ht⟩ : ∃ t : St, ⟨s.side, s.cap, s.bo, s.bp, y1, y2, s.loc, x, s.ack, s.ao, s.ap, a, b, s.ho, s.hp, true, s.p0, s.p1, s.sig, y3, s.fail, s.closed⟩ = t := ⟨_, rfl⟩
  rw [ht]
  obtain ⟨w2, hW⟩ : ∃ w2, (w.alloc (.cells (tabv s.v 115) 31)).alloc (.cells (tabv t.v 115) 31) = w2 := ⟨_, rfl⟩
  have R1 := hide (show Has w2 w.heap.size 31 s.v 115 by rw [← hW]; exact (Has.new w 31 s.v 115 _ rfl).old _)
  have R2 := hide (show Has w2 (w.heap.size + 1) 31 t.v 115 by
    rw [← hW]
    have := Has.new (w.alloc (.cells (tabv s.v 115) 31)) 31 t.v 115 _ rfl
    rw [size_alloc] at this
    exact this)
  have gb : Below w.heap.size w w2 := by rw [← hW]; exact ((Below.refl w.heap.size w).alloc (Nat.le_refl _) _).alloc (by simp) _
  have SL := hide (fun (wx : World) (hb : Below w.heap.size w wx) => sameL_any y2.ad s.peers.ad s.peers.n y2.c s.peers.c lp hnp zp wx (hTP.below hb) (hSP.below hb))
  have HT := hide ht
  have N1 := hide n1
  have N2 := hide n2
  clear ht n1 n2 hnp zp hTP hSP
  go_enter Tryz.func19, Tryz.ntmps19
  go_upto_region 1 with (first | rw [hW] | fail)
  try rw [hW]
  clear hW
  have cs0 : w2.cell? ⟨w.heap.size, 0, none⟩ = some (.int .i64 s.side) := R1.out.cell 0 (by omega)
  have ct0 : w2.cell? ⟨w.heap.size + 1, 0, none⟩ = some (.int .i64 s.side) := by rw [R2.out.cell 0 (by omega), ← HT.out]; rfl
  have ne0 : (s.side != s.side) = false := bne_self_eq_false _
  have eq0 : (s.side == s.side) = true := beq_self_eq_true _
  have cs1 : w2.cell? ⟨w.heap.size, 1, none⟩ = some (.int .i64 s.cap) := R1.out.cell 1 (by omega)
  have ct1 : w2.cell? ⟨w.heap.size + 1, 1, none⟩ = some (.int .i64 s.cap) := by rw [R2.out.cell 1 (by omega), ← HT.out]; rfl
  have ne1 : (s.cap != s.cap) = false := bne_self_eq_false _
  have eq1 : (s.cap == s.cap) = true := beq_self_eq_true _
  have cs2 : w2.cell? ⟨w.heap.size, 2, none⟩ = some (.int .i64 s.bo) := R1.out.cell 2 (by omega)
  have ct2 : w2.cell? ⟨w.heap.size + 1, 2, none⟩ = some (.int .i64 s.bo) := by rw [R2.out.cell 2 (by omega), ← HT.out]; rfl
  have ne2 : (s.bo != s.bo) = false := bne_self_eq_false _
  have eq2 : (s.bo == s.bo) = true := beq_self_eq_true _
  have cs3 : w2.cell? ⟨w.heap.size, 3, none⟩ = some (.int .i64 s.bp) := R1.out.cell 3 (by omega)
  have ct3 : w2.cell? ⟨w.heap.size + 1, 3, none⟩ = some (.int .i64 s.bp) := by rw [R2.out.cell 3 (by omega), ← HT.out]; rfl
  have ne3 : (s.bp != s.bp) = false := bne_self_eq_false _
  have eq3 : (s.bp == s.bp) = true := beq_self_eq_true _
  go_upto_region 3 with fail
  clear cs0 ct0 ne0 eq0 cs1 ct1 ne1 eq1 cs2 ct2 ne2 eq2 cs3 ct3 ne3 eq3
  have cs7 : w2.cell? ⟨w.heap.size, 7, none⟩ = some (.int .i64 s.rem) := R1.out.cell 7 (by omega)
  have ct7 : w2.cell? ⟨w.heap.size + 1, 7, none⟩ = some (.int .i64 x) := by rw [R2.out.cell 7 (by omega), ← HT.out]; rfl
  have cs15 : w2.cell? ⟨w.heap.size, 15, none⟩ = some (.bool s.beh) := R1.out.cell 15 (by omega)
  have ct15 : w2.cell? ⟨w.heap.size + 1, 15, none⟩ = some (.bool true) := by rw [R2.out.cell 15 (by omega), ← HT.out]; rfl
  have s4 : w2.cell? ⟨w.heap.size, 4, none⟩ = some (.slice s.ours.ad s.ours.n s.ours.c) := R1.out.cell 4 (by omega)
  have t4 : w2.cell? ⟨w.heap.size + 1, 4, none⟩ = some (.slice y1.ad s.ours.n y1.c) := by rw [R2.out.cell 4 (by omega), ← HT.out, ← N1.out]; rfl
  have z4 : ((s.ours.n : Int) != (s.ours.n : Int)) = false := bne_self_eq_false _
  go_upto_region 5 with (first | fail)
  clear cs7 ct7 cs15 ct15 s4 t4 z4
  have cs6 : w2.cell? ⟨w.heap.size, 6, none⟩ = some (.int .i64 s.loc) := R1.out.cell 6 (by omega)
  have ct6 : w2.cell? ⟨w.heap.size + 1, 6, none⟩ = some (.int .i64 s.loc) := by rw [R2.out.cell 6 (by omega), ← HT.out]; rfl
  have ne6 : (s.loc != s.loc) = false := bne_self_eq_false _
  have eq6 : (s.loc == s.loc) = true := beq_self_eq_true _
  have s5 : w2.cell? ⟨w.heap.size, 5, none⟩ = some (.slice s.peers.ad s.peers.n s.peers.c) := R1.out.cell 5 (by omega)
  have t5 : w2.cell? ⟨w.heap.size + 1, 5, none⟩ = some (.slice y2.ad s.peers.n y2.c) := by rw [R2.out.cell 5 (by omega), ← HT.out, ← N2.out]; rfl
  have AA : Hid (At w2 (w.heap.size + 1) 9 (ctv s.ao s.ap) 2) := R2.out.atSt 9 _ _ (by omega) (by rw [← HT.out]; rfl) (by rw [← HT.out]; rfl)
  have BA : Hid (At w2 w.heap.size 9 (ctv s.ao s.ap) 2) := R1.out.atSt 9 _ _ (by omega) rfl rfl
  have EA : Hid (∀ w : World, (Op.equalIn 10000 23 (.agg (tabv (ctv s.ao s.ap) 2)) (.agg (tabv (ctv s.ao s.ap) 2))).run Tryz.prog w = .ok true w) := fun w => by rw [eqCD]; simp
  have AG : Hid (At w2 (w.heap.size + 1) 80 (bv s.sig) 32) := by have := R2.out.atSSig; rwa [show t.sig = s.sig by rw [← HT.out]] at this
  have BG : Hid (At w2 w.heap.size 80 (bv s.sig) 32) := R1.out.atSSig
  have EG : Hid (∀ w : World, (Op.equalIn 10000 25 (.agg (tabv (bv s.sig) 32)) (.agg (tabv (bv s.sig) 32))).run Tryz.prog w = .ok true w) := fun w => by rw [eqHD 9998, eqH_refl]
  go_wp2_with (first | refine wpW_load_at 23 _ rfl (w.heap.size + 1) (9) (by rfl) (by rfl) _ 2 _ (AA.out) Tryz.underlying23 rfl infoC ?_ | refine wpW_load_at 23 _ rfl (w.heap.size) (9) (by rfl) (by rfl) _ 2 _ (BA.out) Tryz.underlying23 rfl infoC ?_ | refine wpW_neC (by rfl) (.tmp 87) (.tmp 89) rfl _ _ _ (by rfl) (by rfl) EA.out ?_ | refine wpW_load_at 25 _ rfl (w.heap.size + 1) (80) (by rfl) (by rfl) _ 32 _ (AG.out) Tryz.underlying25 rfl info26 ?_ | refine wpW_load_at 25 _ rfl (w.heap.size) (80) (by rfl) (by rfl) _ 32 _ (BG.out) Tryz.underlying25 rfl info26 ?_ | refine wpW_neH (by rfl) (.tmp 94) (.tmp 96) rfl _ _ _ (by rfl) (by rfl) EG.out ?_ | fail)
  refine (SL.out _ gb).mono ?_
  rintro e w3 ⟨rfl, hb3⟩
  replace R1 := hide (R1.out.below hb3 R1.out.lt)
  replace R2 := hide (R2.out.below hb3 R2.out.lt)
  have g3 : Below w.heap.size w w3 := gb.trans (hb3.mono gb.size)
  clear hb3 gb SL
  clear cs6 ct6 ne6 eq6 s5 t5 AA BA EA AG BG EG
  go_upto_region 7 with fail
  have cs8 : w3.cell? ⟨w.heap.size, 8, none⟩ = some (.int .i64 s.ack) := R1.out.cell 8 (by omega)
  have ct8 : w3.cell? ⟨w.heap.size + 1, 8, none⟩ = some (.int .i64 s.ack) := by rw [R2.out.cell 8 (by omega), ← HT.out]; rfl
  have ne8 : (s.ack != s.ack) = false := bne_self_eq_false _
  have eq8 : (s.ack == s.ack) = true := beq_self_eq_true _
  have AH : Hid (At w3 (w.heap.size + 1) 13 (ctv s.ho s.hp) 2) := R2.out.atSt 13 _ _ (by omega) (by rw [← HT.out]; rfl) (by rw [← HT.out]; rfl)
  have BH : Hid (At w3 w.heap.size 13 (ctv s.ho s.hp) 2) := R1.out.atSt 13 _ _ (by omega) rfl rfl
  have EH : Hid (∀ w : World, (Op.equalIn 10000 23 (.agg (tabv (ctv s.ho s.hp) 2)) (.agg (tabv (ctv s.ho s.hp) 2))).run Tryz.prog w = .ok true w) := fun w => by rw [eqCD]; simp
  have AP : Hid (At w3 (w.heap.size + 1) 16 (pv s.p0 s.p1) 64) := by have := R2.out.atPts; rwa [show t.p0 = s.p0 by rw [← HT.out], show t.p1 = s.p1 by rw [← HT.out]] at this
  have BP : Hid (At w3 w.heap.size 16 (pv s.p0 s.p1) 64) := R1.out.atPts
  have EP : Hid (∀ w : World, (Op.equalIn 10000 28 (.agg (tabv (pv s.p0 s.p1) 64)) (.agg (tabv (pv s.p0 s.p1) 64))).run Tryz.prog w = .ok true w) := fun w => by rw [eqPtD, eqH_refl, eqH_refl]; rfl
  go_upto_region 9 with (first | refine wpW_load_at 23 _ rfl (w.heap.size + 1) (13) (by rfl) (by rfl) _ 2 _ (AH.out) Tryz.underlying23 rfl infoC ?_ | refine wpW_load_at 23 _ rfl (w.heap.size) (13) (by rfl) (by rfl) _ 2 _ (BH.out) Tryz.underlying23 rfl infoC ?_ | refine wpW_neC (by rfl) (.tmp 118) (.tmp 120) rfl _ _ _ (by rfl) (by rfl) EH.out ?_ | refine wpW_load_at 28 _ rfl (w.heap.size + 1) (16) (by rfl) (by rfl) _ 64 _ (AP.out) Tryz.underlying28 rfl infoPt ?_ | refine wpW_load_at 28 _ rfl (w.heap.size) (16) (by rfl) (by rfl) _ 64 _ (BP.out) Tryz.underlying28 rfl infoPt ?_ | refine wpW_nePt (by rfl) (.tmp 125) (.tmp 127) rfl _ _ _ (by rfl) (by rfl) EP.out ?_ | fail)
  clear cs8 ct8 ne8 eq8 AH BH EH AP BP EP
  have cs113 : w3.cell? ⟨w.heap.size, 113, none⟩ = some (.int .i64 s.fail) := R1.out.cell 113 (by omega)
  have ct113 : w3.cell? ⟨w.heap.size + 1, 113, none⟩ = some (.int .i64 s.fail) := by rw [R2.out.cell 113 (by omega), ← HT.out]; rfl
  have ne113 : (s.fail != s.fail) = false := bne_self_eq_false _
  have eq113 : (s.fail == s.fail) = true := beq_self_eq_true _
  have cs114 : w3.cell? ⟨w.heap.size, 114, none⟩ = some (.int .i64 s.closed) := R1.out.cell 114 (by omega)
  have ct114 : w3.cell? ⟨w.heap.size + 1, 114, none⟩ = some (.int .i64 s.closed) := by rw [R2.out.cell 114 (by omega), ← HT.out]; rfl
  have ne114 : (s.closed != s.closed) = false := bne_self_eq_false _
  have eq114 : (s.closed == s.closed) = true := beq_self_eq_true _
  go_wp2
  go_ret
  exact ⟨by first | rfl | simp, g3⟩
end Go.Proofs.YtlohfoggcdaeiaaGreat
