import Derived.Test.YtlohfoggcdaeiaaGreatRKeep2
import Derived.Test.YtlohfoggcdaeiaaGreatRStepM
import Derived.Deep.DeepCutAuto
import Derived.Deep.Cut
import Derived.Test.YtlohfoggcdaeiaaGreatRKeepM
import Derived.Test.YtlohfoggcdaeiaaGreatRFix2
import Derived.Test.YtlohfoggcdaeiaaGreatRFix4
import Derived.Test.YtlohfoggcdaeiaaGreatRFix5
/-
  RecordKeeps: fixed (printed by gen_r17.py).
-/
namespace Go.Proofs.YtlohfoggcdaeiaaGreat
open Go.RowKit S
set_option linter.unusedVariables false
set_option linter.unusedSimpArgs false
open Cu (nb be hl ofL CW Mw CR Mr RS takeS takeA hOf nil8 doneS)
set_option maxRecDepth 100000 in
set_option maxHeartbeats 40000000 in
theorem fixed_6 (x a b : Int) (h k : Nat → UInt8) (s : St) (y1 y2 y3 : Sl) (lp : List Upd) (n1 : y1.n = s.ours.n) (n2 : y2.n = s.peers.n) (hnp : lp.length = s.peers.n) (zp : s.peers.n ≤ 140737488351232) (w : World) (hTP : Upds w y2.ad lp) (hSP : Upds w s.peers.ad lp) : Calls Tryz.prog 19 #[.agg (tabv s.v 115), .agg (tabv (St.v ⟨s.side, s.cap, s.bo, s.bp, y1, y2, s.loc, s.rem, s.ack, s.ao, s.ap, s.so, s.sp, s.ho, s.hp, s.beh, s.p0, s.p1, s.sig, y3, s.fail, x⟩) 115), .int .i64 6] w fun e w' => e = .returned (.bool true) ∧ Below w.heap.size w w' := by
  obtain ⟨t, ht⟩ : ∃ t : St, ⟨s.side, s.cap, s.bo, s.bp, y1, y2, s.loc, s.rem, s.ack, s.ao, s.ap, s.so, s.sp, s.ho, s.hp, s.beh, s.p0, s.p1, s.sig, y3, s.fail, x⟩ = t := ⟨_, rfl⟩
  rw [ht]
  obtain ⟨w2, hW⟩ : ∃ w2, (w.alloc (.cells (tabv s.v 115) 31)).alloc (.cells (tabv t.v 115) 31) = w2 := ⟨_, rfl⟩
  have R1 := hide (show Has w2 w.heap.size 31 s.v 115 by rw [← hW]; exact (Has.new w 31 s.v 115 _ rfl).old _)
  have R2 := hide (show Has w2 (w.heap.size + 1) 31 t.v 115 by
    rw [← hW]
    have := Has.new (w.alloc (.cells (tabv s.v 115) 31)) 31 t.v 115 _ rfl
    rw [size_alloc] at this
    exact this)
  have gb : Below w.heap.size w w2 := by rw [← hW]; exact ((Below.refl w.heap.size w).alloc (Nat.le_refl _) _).alloc (by simp) _
  have SL := hide (fun (wx : World) (hb : Below w.heap.size w wx) => sameL_any y2.ad s.peers.ad s.peers.n y2.c s.peers.c lp hnp zp wx (hTP.below hb) (hSP.below hb))
  have HT := hide ht
  have N1 := hide n1
  have N2 := hide n2
  clear ht n1 n2 hnp zp hTP hSP
  go_enter Tryz.func19, Tryz.ntmps19
  go_upto_region 1 with (first | rw [hW] | fail)
  try rw [hW]
  clear hW
  have cs0 : w2.cell? ⟨w.heap.size, 0, none⟩ = some (.int .i64 s.side) := R1.out.cell 0 (by omega)
  have ct0 : w2.cell? ⟨w.heap.size + 1, 0, none⟩ = some (.int .i64 s.side) := by rw [R2.out.cell 0 (by omega), ← HT.out]; rfl
  have ne0 : (s.side != s.side) = false := bne_self_eq_false _
  have eq0 : (s.side == s.side) = true := beq_self_eq_true _
  have cs1 : w2.cell? ⟨w.heap.size, 1, none⟩ = some (.int .i64 s.cap) := R1.out.cell 1 (by omega)
  have ct1 : w2.cell? ⟨w.heap.size + 1, 1, none⟩ = some (.int .i64 s.cap) := by rw [R2.out.cell 1 (by omega), ← HT.out]; rfl
  have ne1 : (s.cap != s.cap) = false := bne_self_eq_false _
  have eq1 : (s.cap == s.cap) = true := beq_self_eq_true _
  have cs2 : w2.cell? ⟨w.heap.size, 2, none⟩ = some (.int .i64 s.bo) := R1.out.cell 2 (by omega)
  have ct2 : w2.cell? ⟨w.heap.size + 1, 2, none⟩ = some (.int .i64 s.bo) := by rw [R2.out.cell 2 (by omega), ← HT.out]; rfl
  have ne2 : (s.bo != s.bo) = false := bne_self_eq_false _
  have eq2 : (s.bo == s.bo) = true := beq_self_eq_true _
  have cs3 : w2.cell? ⟨w.heap.size, 3, none⟩ = some (.int .i64 s.bp) := R1.out.cell 3 (by omega)
  have ct3 : w2.cell? ⟨w.heap.size + 1, 3, none⟩ = some (.int .i64 s.bp) := by rw [R2.out.cell 3 (by omega), ← HT.out]; rfl
  have ne3 : (s.bp != s.bp) = false := bne_self_eq_false _
  have eq3 : (s.bp == s.bp) = true := beq_self_eq_true _
  go_upto_region 3 with fail
  clear cs0 ct0 ne0 eq0 cs1 ct1 ne1 eq1 cs2 ct2 ne2 eq2 cs3 ct3 ne3 eq3
  have cs7 : w2.cell? ⟨w.heap.size, 7, none⟩ = some (.int .i64 s.rem) := R1.out.cell 7 (by omega)
  have ct7 : w2.cell? ⟨w.heap.size + 1, 7, none⟩ = some (.int .i64 s.rem) := by rw [R2.out.cell 7 (by omega), ← HT.out]; rfl
  have ne7 : (s.rem != s.rem) = false := bne_self_eq_false _
  have eq7 : (s.rem == s.rem) = true := beq_self_eq_true _
  have cs15 : w2.cell? ⟨w.heap.size, 15, none⟩ = some (.bool s.beh) := R1.out.cell 15 (by omega)
  have ct15 : w2.cell? ⟨w.heap.size + 1, 15, none⟩ = some (.bool s.beh) := by rw [R2.out.cell 15 (by omega), ← HT.out]; rfl
  have ne15 : (s.beh != s.beh) = false := bne_self_eq_false _
  have eq15 : (s.beh == s.beh) = true := beq_self_eq_true _
  have s4 : w2.cell? ⟨w.heap.size, 4, none⟩ = some (.slice s.ours.ad s.ours.n s.ours.c) := R1.out.cell 4 (by omega)
  have t4 : w2.cell? ⟨w.heap.size + 1, 4, none⟩ = some (.slice y1.ad s.ours.n y1.c) := by rw [R2.out.cell 4 (by omega), ← HT.out, ← N1.out]; rfl
  have z4 : ((s.ours.n : Int) != (s.ours.n : Int)) = false := bne_self_eq_false _
  have AS : Hid (At w2 (w.heap.size + 1) 11 (ctv s.so s.sp) 2) := R2.out.atSt 11 _ _ (by omega) (by rw [← HT.out]; rfl) (by rw [← HT.out]; rfl)
  have BS : Hid (At w2 w.heap.size 11 (ctv s.so s.sp) 2) := R1.out.atSt 11 _ _ (by omega) rfl rfl
  have ES : Hid (∀ w : World, (Op.equalIn 10000 23 (.agg (tabv (ctv s.so s.sp) 2)) (.agg (tabv (ctv s.so s.sp) 2))).run Tryz.prog w = .ok true w) := fun w => by rw [eqCD]; simp
  go_upto_region 5 with (first | refine wpW_load_at 23 _ rfl (w.heap.size + 1) (11) (by rfl) (by rfl) _ 2 _ (AS.out) Tryz.underlying23 rfl infoC ?_ | refine wpW_load_at 23 _ rfl (w.heap.size) (11) (by rfl) (by rfl) _ 2 _ (BS.out) Tryz.underlying23 rfl infoC ?_ | refine wpW_neC (by rfl) (.tmp 55) (.tmp 57) rfl _ _ _ (by rfl) (by rfl) ES.out ?_ | fail)
  clear cs7 ct7 ne7 eq7 cs15 ct15 ne15 eq15 s4 t4 z4 AS BS ES
  have cs6 : w2.cell? ⟨w.heap.size, 6, none⟩ = some (.int .i64 s.loc) := R1.out.cell 6 (by omega)
  have ct6 : w2.cell? ⟨w.heap.size + 1, 6, none⟩ = some (.int .i64 s.loc) := by rw [R2.out.cell 6 (by omega), ← HT.out]; rfl
  have ne6 : (s.loc != s.loc) = false := bne_self_eq_false _
  have eq6 : (s.loc == s.loc) = true := beq_self_eq_true _
  have s5 : w2.cell? ⟨w.heap.size, 5, none⟩ = some (.slice s.peers.ad s.peers.n s.peers.c) := R1.out.cell 5 (by omega)
  have t5 : w2.cell? ⟨w.heap.size + 1, 5, none⟩ = some (.slice y2.ad s.peers.n y2.c) := by rw [R2.out.cell 5 (by omega), ← HT.out, ← N2.out]; rfl
  have AA : Hid (At w2 (w.heap.size + 1) 9 (ctv s.ao s.ap) 2) := R2.out.atSt 9 _ _ (by omega) (by rw [← HT.out]; rfl) (by rw [← HT.out]; rfl)
  have BA : Hid (At w2 w.heap.size 9 (ctv s.ao s.ap) 2) := R1.out.atSt 9 _ _ (by omega) rfl rfl
  have EA : Hid (∀ w : World, (Op.equalIn 10000 23 (.agg (tabv (ctv s.ao s.ap) 2)) (.agg (tabv (ctv s.ao s.ap) 2))).run Tryz.prog w = .ok true w) := fun w => by rw [eqCD]; simp
  have AG : Hid (At w2 (w.heap.size + 1) 80 (bv s.sig) 32) := by have := R2.out.atSSig; rwa [show t.sig = s.sig by rw [← HT.out]] at this
  have BG : Hid (At w2 w.heap.size 80 (bv s.sig) 32) := R1.out.atSSig
  have EG : Hid (∀ w : World, (Op.equalIn 10000 25 (.agg (tabv (bv s.sig) 32)) (.agg (tabv (bv s.sig) 32))).run Tryz.prog w = .ok true w) := fun w => by rw [eqHD 9998, eqH_refl]
  go_wp2_with (first | refine wpW_load_at 23 _ rfl (w.heap.size + 1) (9) (by rfl) (by rfl) _ 2 _ (AA.out) Tryz.underlying23 rfl infoC ?_ | refine wpW_load_at 23 _ rfl (w.heap.size) (9) (by rfl) (by rfl) _ 2 _ (BA.out) Tryz.underlying23 rfl infoC ?_ | refine wpW_neC (by rfl) (.tmp 87) (.tmp 89) rfl _ _ _ (by rfl) (by rfl) EA.out ?_ | refine wpW_load_at 25 _ rfl (w.heap.size + 1) (80) (by rfl) (by rfl) _ 32 _ (AG.out) Tryz.underlying25 rfl info26 ?_ | refine wpW_load_at 25 _ rfl (w.heap.size) (80) (by rfl) (by rfl) _ 32 _ (BG.out) Tryz.underlying25 rfl info26 ?_ | refine wpW_neH (by rfl) (.tmp 94) (.tmp 96) rfl _ _ _ (by rfl) (by rfl) EG.out ?_ | fail)
  refine (SL.out _ gb).mono ?_
  rintro e w3 ⟨rfl, hb3⟩
  replace R1 := hide (R1.out.below hb3 R1.out.lt)
  replace R2 := hide (R2.out.below hb3 R2.out.lt)
  have g3 : Below w.heap.size w w3 := gb.trans (hb3.mono gb.size)
  clear hb3 gb SL
  clear cs6 ct6 ne6 eq6 s5 t5 AA BA EA AG BG EG
  go_upto_region 7 with fail
  have cs8 : w3.cell? ⟨w.heap.size, 8, none⟩ = some (.int .i64 s.ack) := R1.out.cell 8 (by omega)
  have ct8 : w3.cell? ⟨w.heap.size + 1, 8, none⟩ = some (.int .i64 s.ack) := by rw [R2.out.cell 8 (by omega), ← HT.out]; rfl
  have ne8 : (s.ack != s.ack) = false := bne_self_eq_false _
  have eq8 : (s.ack == s.ack) = true := beq_self_eq_true _
  have AH : Hid (At w3 (w.heap.size + 1) 13 (ctv s.ho s.hp) 2) := R2.out.atSt 13 _ _ (by omega) (by rw [← HT.out]; rfl) (by rw [← HT.out]; rfl)
  have BH : Hid (At w3 w.heap.size 13 (ctv s.ho s.hp) 2) := R1.out.atSt 13 _ _ (by omega) rfl rfl
  have EH : Hid (∀ w : World, (Op.equalIn 10000 23 (.agg (tabv (ctv s.ho s.hp) 2)) (.agg (tabv (ctv s.ho s.hp) 2))).run Tryz.prog w = .ok true w) := fun w => by rw [eqCD]; simp
  have AP : Hid (At w3 (w.heap.size + 1) 16 (pv s.p0 s.p1) 64) := by have := R2.out.atPts; rwa [show t.p0 = s.p0 by rw [← HT.out], show t.p1 = s.p1 by rw [← HT.out]] at this
  have BP : Hid (At w3 w.heap.size 16 (pv s.p0 s.p1) 64) := R1.out.atPts
  have EP : Hid (∀ w : World, (Op.equalIn 10000 28 (.agg (tabv (pv s.p0 s.p1) 64)) (.agg (tabv (pv s.p0 s.p1) 64))).run Tryz.prog w = .ok true w) := fun w => by rw [eqPtD, eqH_refl, eqH_refl]; rfl
  go_upto_region 9 with (first | refine wpW_load_at 23 _ rfl (w.heap.size + 1) (13) (by rfl) (by rfl) _ 2 _ (AH.out) Tryz.underlying23 rfl infoC ?_ | refine wpW_load_at 23 _ rfl (w.heap.size) (13) (by rfl) (by rfl) _ 2 _ (BH.out) Tryz.underlying23 rfl infoC ?_ | refine wpW_neC (by rfl) (.tmp 118) (.tmp 120) rfl _ _ _ (by rfl) (by rfl) EH.out ?_ | refine wpW_load_at 28 _ rfl (w.heap.size + 1) (16) (by rfl) (by rfl) _ 64 _ (AP.out) Tryz.underlying28 rfl infoPt ?_ | refine wpW_load_at 28 _ rfl (w.heap.size) (16) (by rfl) (by rfl) _ 64 _ (BP.out) Tryz.underlying28 rfl infoPt ?_ | refine wpW_nePt (by rfl) (.tmp 125) (.tmp 127) rfl _ _ _ (by rfl) (by rfl) EP.out ?_ | fail)
  clear cs8 ct8 ne8 eq8 AH BH EH AP BP EP
  have cs113 : w3.cell? ⟨w.heap.size, 113, none⟩ = some (.int .i64 s.fail) := R1.out.cell 113 (by omega)
  have ct113 : w3.cell? ⟨w.heap.size + 1, 113, none⟩ = some (.int .i64 s.fail) := by rw [R2.out.cell 113 (by omega), ← HT.out]; rfl
  have ne113 : (s.fail != s.fail) = false := bne_self_eq_false _
  have eq113 : (s.fail == s.fail) = true := beq_self_eq_true _
  have cs114 : w3.cell? ⟨w.heap.size, 114, none⟩ = some (.int .i64 s.closed) := R1.out.cell 114 (by omega)
  have ct114 : w3.cell? ⟨w.heap.size + 1, 114, none⟩ = some (.int .i64 x) := by rw [R2.out.cell 114 (by omega), ← HT.out]; rfl
  go_wp2
  go_ret
  exact ⟨by first | rfl | simp, g3⟩
end Go.Proofs.YtlohfoggcdaeiaaGreat
/-
  RecordKeeps: a record that is taken: what then lies in memory, and fixed's answer (by hand).
-/
namespace Go.Proofs.YtlohfoggcdaeiaaGreat
open Go.RowKit S
set_option linter.unusedVariables false
set_option linter.unusedSimpArgs false
/-- What Apply answers, in letters. -/
def ApR [Inhabited S.Tbl] (B : Nat) (s : St) (lo lp : List Upd) (ls : List Slot) (r : Rc) (lr : List Upd) (T : St) (E : Int) (w : World) : Prop :=
  (E = 0 ∧ apOk s lo lp ls r lr = true ∧ ∃ x1 x2 x3 : Sl, T = setSl (newS s lp r lr) x1 x2 x3 ∧ OS B w T (newO lo r) (newP s lp r lr) (newF ls r)) ∨ (E = 170 ∧ T = St.zero)
theorem ApP.rep [Inhabited S.Tbl] {B : Nat} {s : St} {lo lp : List Upd} {ls : List Slot} {r : Rc} {lr : List Upd} {e : Ending} {w : World} (h : ApP B s lo lp ls r lr e w) : ∃ (T : St) (E : Int), e = .returned (.tuple #[.agg (tabv T.v 115), .int .i64 E]) ∧ ApR B s lo lp ls r lr T E w := by
  rcases h with ⟨h1, x1, x2, x3, rfl, h2⟩ | ⟨h1, rfl⟩
  · exact ⟨_, _, rfl, .inl ⟨rfl, h1, x1, x2, x3, rfl, h2⟩⟩
  · exact ⟨_, _, rfl, .inr ⟨rfl, rfl⟩⟩
theorem ApR.below [Inhabited S.Tbl] {B : Nat} {s : St} {lo lp : List Upd} {ls : List Slot} {r : Rc} {lr : List Upd} {T : St} {E : Int} {w w' : World} (h : ApR B s lo lp ls r lr T E w) (hb : Below w.heap.size w w') : ApR B s lo lp ls r lr T E w' := by
  rcases h with ⟨h1, h2, x1, x2, x3, h3, h4⟩ | h
  · exact .inl ⟨h1, h2, x1, x2, x3, h3, h4.below hb⟩
  · exact .inr h
theorem ApR.mono [Inhabited S.Tbl] {B B' : Nat} {s : St} {lo lp : List Upd} {ls : List Slot} {r : Rc} {lr : List Upd} {T : St} {E : Int} {w : World} (h : ApR B s lo lp ls r lr T E w) (hb : B' ≤ B) : ApR B' s lo lp ls r lr T E w := by
  rcases h with ⟨h1, h2, x1, x2, x3, h3, h4⟩ | h
  · exact .inl ⟨h1, h2, x1, x2, x3, h3, h4.mono hb⟩
  · exact .inr h
theorem ApR.over [Inhabited S.Tbl] {B : Nat} {s : St} {lo lp : List Upd} {ls : List Slot} {r : Rc} {lr : List Upd} {T : St} {E : Int} {w : World} (h : ApR B s lo lp ls r lr T E w) {g : Nat} {cs : Array Value} (hg : g < B) : ApR B s lo lp ls r lr T E (w.setRow g cs) := by
  rcases h with ⟨h1, h2, x1, x2, x3, h3, h4⟩ | h
  · exact .inl ⟨h1, h2, x1, x2, x3, h3, h4.same (fun k hk => setRow_other _ _ _ _ (by have := (h4.o.lt k hk).1; omega)) (fun k hk => setRow_other _ _ _ _ (by have := (h4.p.lt k hk).1; omega)) (fun k hk => setRow_other _ _ _ _ (by have := (h4.f.lt k hk).1; omega))⟩
  · exact .inr h
theorem OS.over {B : Nat} {w : World} {s : St} {lo lp : List Upd} {ls : List Slot} (h : OS B w s lo lp ls) {g : Nat} {cs : Array Value} (hg : g < B) : OS B (w.setRow g cs) s lo lp ls :=
  h.same (fun k hk => setRow_other _ _ _ _ (by have := (h.o.lt k hk).1; omega)) (fun k hk => setRow_other _ _ _ _ (by have := (h.p.lt k hk).1; omega)) (fun k hk => setRow_other _ _ _ _ (by have := (h.f.lt k hk).1; omega))
theorem lenF_of [Inhabited S.Tbl] {ls : List Slot} {r : Rc} (zs : ls.length ≤ 2932031007400) : (newF ls r).length ≤ 2932031007400 := by
  unfold newF
  by_cases h4 : r.kind = 4
  · rw [if_pos h4]
    unfold putA
    split
    · simp
    · split
      · simp
      · split
        · rw [withA_length]; omega
        · simp
  · rw [if_neg h4]; exact zs
/-- What lies in memory when a record is taken. -/
theorem next_at [Inhabited S.Tbl] {B : Nat} {w w0 : World} {s : St} {lo lp : List Upd} {ls : List Slot} {r : Rc} {lr : List Upd} {T : St} (hs : StAt w0 s lo lp ls) (ok : apOk s lo lp ls r lr = true) (hT : OS B w T (newO lo r) (newP s lp r lr) (newF ls r)) : StAt w T (newO lo r) (newP s lp r lr) (newF ls r) := by
  obtain ⟨a1, a2, a3⟩ := OwnU.sl hT.o
  obtain ⟨b1, b2, b3⟩ := OwnU.sl hT.p
  obtain ⟨c1, c2, c3⟩ := OwnS.sl hT.f
  have hz := len_of ok (by rw [hs.no]; exact hs.zo) (by rw [hs.np]; exact hs.zp) (by rw [hs.ns]; have := hs.zs; omega)
  have hf := lenF_of (ls := ls) (r := r) (by rw [hs.ns]; exact hs.zs)
  exact ⟨a1, b1, c1, a2, b2, c2, by omega, by omega, by omega, by omega, by omega⟩
theorem fixed_all [Inhabited S.Tbl] {w : World} {s : St} {lo lp : List Upd} {ls : List Slot} {r : Rc} {lr : List Upd} (hs : StAt w s lo lp ls) (ok : apOk s lo lp ls r lr = true) (x1 x2 x3 : Sl) (hT : StAt w (setSl (newS s lp r lr) x1 x2 x3) (newO lo r) (newP s lp r lr) (newF ls r)) :
    Calls Tryz.prog 19 #[.agg (tabv s.v 115), .agg (tabv (setSl (newS s lp r lr) x1 x2 x3).v 115), .int .i64 r.kind] w fun e w' => e = .returned (.bool true) ∧ Below w.heap.size w w' := by
  have hk := (apOk_kind ok).2
  have zp : s.peers.n ≤ 140737488351232 := by have := hs.zp; omega
  have n1 : (newO lo r).length = x1.n := hT.no
  have n2 : (newP s lp r lr).length = x2.n := hT.np
  have u2 : Upds w x2.ad (newP s lp r lr) := hT.p
  have no := hs.no
  have np := hs.np
  by_cases k3 : r.kind = 3
  · have e1 : newO lo r = lo := by unfold newO; rw [if_neg (by omega)]
    rw [e1] at n1
    rw [k3, show newS s lp r lr = ⟨s.side, s.cap, s.bo, s.bp, s.ours, s.peers, r.idx, s.rem, s.ack, s.ho, ((lp.take s.ap.toNat ++ lr).length : Int), s.so, s.sp, s.ho, s.hp, false, s.p0, s.p1, r.sig, s.shelf, s.fail, s.closed⟩ by unfold newS; rw [k3]; rfl]
    exact fixed_3 r.idx s.ho _ r.sig z32 s x1 x2 x3 lp (by omega) w
  have e2 : newP s lp r lr = lp := by unfold newP; rw [if_neg k3]
  rw [e2] at n2 u2
  by_cases k1 : r.kind = 1
  · rw [k1, show newS s lp r lr = s by unfold newS; rw [k1]; rfl]
    exact fixed_1 0 0 0 z32 z32 s x1 x2 x3 lp (by omega) np zp w u2 hs.p
  have e1 : newO lo r = lo := by unfold newO; rw [if_neg k1]
  rw [e1] at n1
  rcases hk with hk | hk | hk | hk | hk | hk
  · exact absurd hk k1
  · rw [hk, show newS s lp r lr = ⟨s.side, s.cap, s.bo, s.bp, s.ours, s.peers, s.loc, r.idx, s.ack, s.ao, s.ap, r.co, r.cp, s.ho, s.hp, true, s.p0, s.p1, s.sig, s.shelf, s.fail, s.closed⟩ by unfold newS; rw [hk]; rfl]
    exact fixed_2 r.idx r.co r.cp z32 z32 s x1 x2 x3 lp (by omega) (by omega) np zp w u2 hs.p
  · exact absurd hk k3
  · rw [hk, show newS s lp r lr = ⟨s.side, s.cap, s.bo, s.bp, s.ours, s.peers, s.loc, s.rem, (wrap64 (s.ack + 1)), s.ao, s.ap, s.so, s.sp, s.so, s.sp, s.beh, s.p1, r.pt, s.sig, s.shelf, s.fail, s.closed⟩ by unfold newS; rw [hk]; rfl]
    exact fixed_4 (wrap64 (s.ack + 1)) s.so s.sp s.p1 r.pt s x1 x2 x3 lp (by omega) (by omega) np zp w u2 hs.p
  · rw [hk, show newS s lp r lr = ⟨s.side, s.cap, s.bo, s.bp, s.ours, s.peers, s.loc, s.rem, s.ack, s.ao, s.ap, s.so, s.sp, s.ho, s.hp, s.beh, s.p0, s.p1, s.sig, s.shelf, (if s.fail = 0 then r.code else s.fail), s.closed⟩ by unfold newS; rw [hk]; rfl]
    exact fixed_5 (if s.fail = 0 then r.code else s.fail) 0 0 z32 z32 s x1 x2 x3 lp (by omega) (by omega) np zp w u2 hs.p
  · rw [hk, show newS s lp r lr = ⟨s.side, s.cap, s.bo, s.bp, s.ours, s.peers, s.loc, s.rem, s.ack, s.ao, s.ap, s.so, s.sp, s.ho, s.hp, s.beh, s.p0, s.p1, s.sig, s.shelf, s.fail, r.idx⟩ by unfold newS; rw [hk]; rfl]
    exact fixed_6 r.idx 0 0 z32 z32 s x1 x2 x3 lp (by omega) (by omega) np zp w u2 hs.p
theorem grows_all [Inhabited S.Tbl] {w : World} {s : St} {lo lp : List Upd} {ls : List Slot} {r : Rc} {lr : List Upd} (hs : StAt w s lo lp ls) (hso : soundB s = true) (ok : apOk s lo lp ls r lr = true) (x1 x2 x3 : Sl) (hT : StAt w (setSl (newS s lp r lr) x1 x2 x3) (newO lo r) (newP s lp r lr) (newF ls r)) :
    Calls Tryz.prog 18 #[.agg (tabv s.v 115), .agg (tabv (setSl (newS s lp r lr) x1 x2 x3).v 115)] w fun e w' => e = .returned (.bool true) ∧ Below w.heap.size w w' := by
  have K := kept_of hso hs.no hs.np ok x1 x2 x3 hT.no hT.np
  have q := (soundB_iff s).1 hso
  have qt := (soundB_iff _).1 K.sound
  obtain ⟨k, hk⟩ := Int.eq_ofNat_of_zero_le q.2.1
  have hap := K.ap
  have e2 := K.peers
  rw [hk] at hap e2
  rw [Int.toNat_natCast] at e2
  have hle : lo.length ≤ (newO lo r).length := by
    have := congrArg List.length K.ours
    rw [List.length_take] at this
    omega
  have h1 := hs.no
  have h2 := hT.no
  have h3 := hs.np
  have h4 := hT.np
  have c1 := hT.co
  have c2 := hT.cp
  have c3 := hs.cp
  have z1 := hT.zo
  have z2 := hT.zp
  exact grows_yes s _ lo (newO lo r) lp (newP s lp r lr) k hk h1 h2 h3 h4 K.ours e2 (by omega) (by omega) hap K.fail (by omega) (by omega) (by omega) (by omega) (by omega) (by omega) w hs.o hs.p hT.o hT.p
end Go.Proofs.YtlohfoggcdaeiaaGreat
