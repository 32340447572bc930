import Derived.Test.YtmmcoedgoekhgaaGreatDoorDEq
import Derived.Test.YtmmcoedgoekhgaaGreatDoorDCame
import Derived.Test.YtmmcoedgoekhgaaGreatDoorGLast
import Derived.Deep.CutRange
/-
  Copy of a state, by the statements (picked out of record's copied by mkstate.sh).
-/
namespace Go.Proofs.YtmmcoedgoekhgaaGreatDoor
open Go.RowKit S
set_option linter.unusedVariables false
set_option linter.unusedSimpArgs false
open Cu (nb be hl ofL CW Mw Mr)
set_option maxRecDepth 100000 in
set_option maxHeartbeats 40000000 in
theorem copy_any (s : St) (lo lp : List Upd) (ls : List Slot) (hno : lo.length = s.ours.n) (hnp : lp.length = s.peers.n) (hns : ls.length = s.shelf.n) (zo : lo.length * 72 ≤ 140737488355328) (zp : lp.length * 72 ≤ 140737488355328) (zs : ls.length * 48 ≤ 140737488355328) (w : World) (hO : Upds w s.ours.ad lo) (hP : Upds w s.peers.ad lp) (hH : Slots w s.shelf.ad ls) : Calls Tryz.prog 11 #[.agg (tabv s.v 115)] w fun e w' => (∃ x1 x2 x3 : Sl, e = .returned (.agg (tabv (setSl s x1 x2 x3).v 115)) ∧ OS w.heap.size w' (setSl s x1 x2 x3) lo lp ls) ∧ Below w.heap.size w w' := by
  obtain ⟨w2, hW⟩ : ∃ w2, (w.alloc (.cells (tabv s.v 115) 32)).alloc (.cells (tabv St.zero.v 115) 32) = w2 := ⟨_, rfl⟩
  have r1 : Has w2 w.heap.size 32 s.v 115 := by rw [← hW]; exact (Has.new w 32 s.v 115 _ rfl).old _
  have r2 : Has w2 (w.heap.size + 1) 32 St.zero.v 115 := by
    rw [← hW]
    have := Has.new (w.alloc (.cells (tabv s.v 115) 32)) 32 St.zero.v 115 _ rfl
    rw [size_alloc] at this
    exact this
  have gb : Below w.heap.size w w2 := by rw [← hW]; exact ((Below.refl w.heap.size w).alloc (Nat.le_refl _) _).alloc (by simp) _
  rw [← zeroSt] at hW
  have hs2 : w.heap.size + 2 ≤ w2.heap.size := by have := r2.lt; omega
  -- ours
  obtain ⟨v1, w3, a1, o1, b3⟩ := run_app_all w2 s.ours.ad s.ours.c lo (hO.below gb) zo
  rw [hno] at a1
  obtain ⟨x1, rfl⟩ := slOf o1
  have q1 := r1.below b3 r1.lt
  have q2 := r2.below b3 r2.lt
  obtain ⟨w4, hW4⟩ : ∃ x, w3.setCell ⟨w.heap.size, 4, none⟩ x1.v = x := ⟨_, rfl⟩
  have m4 : Mr w.heap.size w3 w4 := by rw [← hW4]; exact Mr.set _
  have k1 : Has w4 w.heap.size 32 (St.v ⟨s.side, s.cap, s.bo, s.bp, x1, s.peers, s.loc, s.rem, s.ack, s.ao, s.ap, s.so, s.sp, s.ho, s.hp, s.beh, s.p0, s.p1, s.sig, s.shelf, s.fail, s.closed⟩) 115 := by rw [← hW4]; exact q1.sOurs x1
  have k2 : Has w4 (w.heap.size + 1) 32 St.zero.v 115 := by rw [← hW4]; exact q2.other _ _ (by show w.heap.size + 1 ≠ w.heap.size; omega)
  have O1 : OwnU w2.heap.size w4 x1.v lo := o1.same fun k hk => m4.block k (o1.lt k hk).2 (by have := (o1.lt k hk).1; omega)
  have gb4 : Below w.heap.size w w4 := (gb.trans (b3.mono gb.size)).trans (m4.below (Nat.le_refl _) (Nat.le_trans gb.size b3.size))
  -- peers
  obtain ⟨v2, w5, a2, o2, b5⟩ := run_app_all w4 s.peers.ad s.peers.c lp (hP.below gb4) zp
  rw [hnp] at a2
  obtain ⟨x2, rfl⟩ := slOf o2
  have q3 := k1.below b5 k1.lt
  have q4 := k2.below b5 k2.lt
  obtain ⟨w6, hW6⟩ : ∃ x, w5.setCell ⟨w.heap.size, 5, none⟩ x2.v = x := ⟨_, rfl⟩
  have m6 : Mr w.heap.size w5 w6 := by rw [← hW6]; exact Mr.set _
  have k3 : Has w6 w.heap.size 32 (St.v ⟨s.side, s.cap, s.bo, s.bp, x1, x2, s.loc, s.rem, s.ack, s.ao, s.ap, s.so, s.sp, s.ho, s.hp, s.beh, s.p0, s.p1, s.sig, s.shelf, s.fail, s.closed⟩) 115 := by rw [← hW6]; exact q3.sPeers x2
  have k4 : Has w6 (w.heap.size + 1) 32 St.zero.v 115 := by rw [← hW6]; exact q4.other _ _ (by show w.heap.size + 1 ≠ w.heap.size; omega)
  have hs4 : w2.heap.size ≤ w4.heap.size := Nat.le_trans b3.size m4.size
  have O2 : OwnU w4.heap.size w6 x2.v lp := o2.same fun k hk => m6.block k (o2.lt k hk).2 (by have := (o2.lt k hk).1; omega)
  have O1b : OwnU w2.heap.size w6 x1.v lo := (O1.below b5 (Nat.le_refl _)).same fun k hk => m6.block k (Nat.lt_of_lt_of_le (O1.lt k hk).2 b5.size) (by have := (O1.lt k hk).1; omega)
  have gb6 : Below w.heap.size w w6 := (gb4.trans (b5.mono gb4.size)).trans (m6.below (Nat.le_refl _) (Nat.le_trans gb4.size b5.size))
  -- shelf
  obtain ⟨v3, w7, a3, o3, b7⟩ := run_app_allH w6 s.shelf.ad s.shelf.c ls (hH.below gb6) zs
  rw [hns] at a3
  obtain ⟨x3, rfl⟩ := slOfS o3
  have q5 := k3.below b7 k3.lt
  have q6 := k4.below b7 k4.lt
  obtain ⟨w8, hW8⟩ : ∃ x, w7.setCell ⟨w.heap.size, 112, none⟩ x3.v = x := ⟨_, rfl⟩
  have m8 : Mr w.heap.size w7 w8 := by rw [← hW8]; exact Mr.set _
  have k5 : Has w8 w.heap.size 32 (St.v ⟨s.side, s.cap, s.bo, s.bp, x1, x2, s.loc, s.rem, s.ack, s.ao, s.ap, s.so, s.sp, s.ho, s.hp, s.beh, s.p0, s.p1, s.sig, x3, s.fail, s.closed⟩) 115 := by rw [← hW8]; exact q5.sShelf x3
  have k6 : Has w8 (w.heap.size + 1) 32 St.zero.v 115 := by rw [← hW8]; exact q6.other _ _ (by show w.heap.size + 1 ≠ w.heap.size; omega)
  have hs6 : w4.heap.size ≤ w6.heap.size := Nat.le_trans b5.size m6.size
  have O3 : OwnS w6.heap.size w8 x3.v ls := o3.same fun k hk => m8.block k (o3.lt k hk).2 (by have := (o3.lt k hk).1; omega)
  have O2b : OwnU w4.heap.size w8 x2.v lp := (O2.below b7 (Nat.le_refl _)).same fun k hk => m8.block k (Nat.lt_of_lt_of_le (O2.lt k hk).2 b7.size) (by have := (O2.lt k hk).1; omega)
  have O1c : OwnU w2.heap.size w8 x1.v lo := (O1b.below b7 (Nat.le_refl _)).same fun k hk => m8.block k (Nat.lt_of_lt_of_le (O1b.lt k hk).2 b7.size) (by have := (O1b.lt k hk).1; omega)
  have gb8 : Below w.heap.size w w8 := (gb6.trans (b7.mono gb6.size)).trans (m8.below (Nat.le_refl _) (Nat.le_trans gb6.size b7.size))
  have OF : Hid (OS (w.heap.size + 2) w8 (setSl s x1 x2 x3) lo lp ls) := ⟨O1c.mono hs2, O2b.mono (by omega), O3.mono (by omega), fun k hk e => by have h1 := (O1.lt k hk).2; have h2 := (O2.lt k e).1; omega, fun k hk e => by have h1 := (O1b.lt k hk).2; have h2 := (O3.lt k e).1; omega, fun k hk e => by have h1 := (O2.lt k hk).2; have h2 := (O3.lt k e).1; omega⟩
  have c4 : w2.cell? ⟨w.heap.size, 4, none⟩ = some (.slice s.ours.ad s.ours.n s.ours.c) := r1.cell 4 (by omega)
  have c5 : w4.cell? ⟨w.heap.size, 5, none⟩ = some (.slice s.peers.ad s.peers.n s.peers.c) := k1.cell 5 (by omega)
  have c6 : w6.cell? ⟨w.heap.size, 112, none⟩ = some (.slice s.shelf.ad s.shelf.n s.shelf.c) := k3.cell 112 (by omega)
  have d4 : w3.cell? ⟨w.heap.size, 4, none⟩ = some (.slice s.ours.ad s.ours.n s.ours.c) := q1.cell 4 (by omega)
  have d5 : w5.cell? ⟨w.heap.size, 5, none⟩ = some (.slice s.peers.ad s.peers.n s.peers.c) := q3.cell 5 (by omega)
  have d6 : w7.cell? ⟨w.heap.size, 112, none⟩ = some (.slice s.shelf.ad s.shelf.n s.shelf.c) := q5.cell 112 (by omega)
  have f4 := q1.frozen 4
  have f5 := q3.frozen 5
  have f6 := q5.frozen 112
  have a1 : _ = Result.ok (Value.slice x1.ad x1.n x1.c) w3 := a1
  have A1 := hide a1
  have a2 : _ = Result.ok (Value.slice x2.ad x2.n x2.c) w5 := a2
  have A2 := hide a2
  have a3 : _ = Result.ok (Value.slice x3.ad x3.n x3.c) w7 := a3
  have A3 := hide a3
  have K5 := hide k5
  have K6 := hide k6
  have GB := hide gb8
  have hW4 : w3.setCell ⟨w.heap.size, 4, none⟩ (.slice x1.ad x1.n x1.c) = w4 := hW4
  have hW6 : w5.setCell ⟨w.heap.size, 5, none⟩ (.slice x2.ad x2.n x2.c) = w6 := hW6
  have hW8 : w7.setCell ⟨w.heap.size, 112, none⟩ (.slice x3.ad x3.n x3.c) = w8 := hW8
  clear a1 a2 a3 o1 o2 o3 b3 b5 b7 m4 m6 m8 O1 O1b O1c O2 O2b O3 gb gb4 gb6 gb8 k1 k2 k3 k4 k5 k6 q1 q2 q3 q4 q5 q6 r1 r2 hs2 hs4 hs6 hno hnp hns zo zp zs hO hP hH
  go_enter Tryz.func11, Tryz.ntmps11
  go_wp2_with (first | rw [hW4] | rw [hW6] | rw [hW8] | refine wpList_app rfl (.const (.slice none 0 0)) (.tmp 4) _ rfl A1.out ?_ | refine wpList_app rfl (.const (.slice none 0 0)) (.tmp 8) _ rfl A2.out ?_ | refine wpList_app rfl (.const (.slice none 0 0)) (.tmp 12) _ rfl A3.out ?_ | refine wpW_load_at 32 _ rfl (w.heap.size) (0) (by rfl) (by rfl) _ 115 _ (K5.out.at_ 0 (by omega) (fun i hi => by rw [Nat.zero_add])) Tryz.underlying32 rfl infoSt ?_ | refine wpList_storeSt rfl _ _ rfl rfl (w.heap.size + 1) (setSl s x1 x2 x3) rfl rfl _ K6.out ?_ | fail)
  (try simp only [Exit.inBlock, Exit.then])
  exact bodyPost_ret (results_cell_row rfl _ _ (w.heap.size + 1) 32 _ (0, 0) _ rfl (K6.out.row _ (St.v (setSl s x1 x2 x3)) rfl) Tryz.underlying32 rfl (by rw [tabv_size]; exact infoSt)) rfl ⟨⟨x1, x2, x3, rfl, (OF.out.same (fun k hk => setRow_other _ _ _ _ (by have := (OF.out.o.lt k hk).1; omega)) (fun k hk => setRow_other _ _ _ _ (by have := (OF.out.p.lt k hk).1; omega)) (fun k hk => setRow_other _ _ _ _ (by have := (OF.out.f.lt k hk).1; omega))).mono (by omega)⟩, below_setRow GB.out (by omega) _⟩
end Go.Proofs.YtmmcoedgoekhgaaGreatDoor
/-
  slices.Clone of slots.
-/
namespace Go.Proofs.YtmmcoedgoekhgaaGreatDoor
open Go.RowKit S
set_option linter.unusedVariables false
set_option linter.unusedSimpArgs false
theorem eqNilSD (d : Nat) (ad : Option Addr) (n c : Nat) (w : World) : (Op.equalIn (d + 1) 30 (Value.slice ad n c) (Value.slice none 0 0)).run Tryz.prog w = .ok ad.isNone w := by
  cases ad <;> simp [Op.equalIn, run_underlying Tryz.underlying30]
theorem eqNilS (ad : Option Addr) (n c : Nat) (w : World) : (binOp BinOp.eql 30 (Value.slice ad n c) (Value.slice none 0 0)).run Tryz.prog w = .ok (.bool ad.isNone) w := by
  have e : (Op.equalIn Op.maxDepth 30 (Value.slice ad n c) (Value.slice none 0 0)).run Tryz.prog w = .ok ad.isNone w := eqNilSD 9999 ad n c w
  simp [binOp, Op.equal, e]
set_option maxRecDepth 100000 in
set_option maxHeartbeats 40000000 in
theorem sclone_any (ad : Option Addr) (n c : Nat) (l : List Slot) (hn : l.length = n) (hz : n * 48 ≤ 140737488355328) (h0 : ad = none → l = []) (w : World) (hS : Slots w ad l) : Calls Tryz.prog 56 #[.slice ad n c] w fun e w' => (∃ v, e = .returned v ∧ OwnS w.heap.size w' v l) ∧ Below w.heap.size w w' := by
  subst hn
  cases ad with
  | none =>
    obtain rfl := h0 rfl
    have hq : ∀ w, (binOp BinOp.eql 30 (Value.slice none 0 c) (Value.slice none 0 0)).run Tryz.prog w = .ok (.bool true) w := fun w => eqNilS none 0 c w
    go_enter Tryz.func56, Tryz.ntmps56
    go_wp2
    go_ret
    exact ⟨⟨_, rfl, OwnS.nil _ _⟩, Below.refl _ _⟩
  | some x =>
    obtain ⟨w1, r1, o1, b1⟩ := run_slice0S w
    obtain ⟨v, w2, r2, o2, b2⟩ := run_appSS w1 w.heap.size _ [] l (some x) c 30 o1 (hS.below b1) (fun h => by cases h) (by simpa using hz) b1.size
    have R1 := hide r1
    have R2 := hide r2
    have O2 := hide o2
    have hb : Below w.heap.size w w2 := ⟨b2.os.trans b1.os, b2.tape.trans b1.tape, b2.output.trans b1.output, Nat.le_trans b1.size b2.size, fun k hk => by rw [b2.block k (Nat.lt_of_lt_of_le hk b1.size) (fun e => by simp [Value.ownBlock] at e; omega)]; exact b1.block k hk⟩
    have HB := hide hb
    obtain ⟨xa, xc, rfl, _⟩ := o2.slots
    have hq : ∀ w, (binOp BinOp.eql 30 (Value.slice (some x) l.length c) (Value.slice none 0 0)).run Tryz.prog w = .ok (.bool false) w := fun w => eqNilS (some x) _ c w
    clear r1 r2 o1 o2 b1 b2 hb
    go_enter Tryz.func56, Tryz.ntmps56
    go_wp2_with (first | refine wpW_slice0 rfl 30 rfl R1.out ?_ | (at_builtin; refine wpList_app rfl _ _ _ rfl R2.out ?_) | fail)
    go_ret
    exact ⟨⟨_, rfl, O2.out⟩, HB.out⟩
end Go.Proofs.YtmmcoedgoekhgaaGreatDoor
/-
  Cut of the code (printed by gen_d19.py).
-/
namespace Go.Proofs.YtmmcoedgoekhgaaGreatDoor
open Go.RowKit S
set_option linter.unusedVariables false
set_option linter.unusedSimpArgs false
theorem Slots.none {w : World} {ad : Option Addr} {l : List Slot} (h : Slots w ad l) : ad = .none → l = [] := by
  rintro rfl
  rcases h with rfl | ⟨b, o, h1, _⟩
  · rfl
  · cases h1
set_option maxRecDepth 100000 in
set_option maxHeartbeats 40000000 in
theorem cut_any (s : St) (lo lp : List Upd) (ls : List Slot) (hno : lo.length = s.ours.n) (hnp : lp.length = s.peers.n) (hns : ls.length = s.shelf.n) (zo : lo.length * 72 ≤ 140737488355328) (zp : lp.length * 72 ≤ 140737488355328) (zs : ls.length * 48 ≤ 140737488355328) (k2 : s.peers.n ≤ s.peers.c) (w : World) (hO : Upds w s.ours.ad lo) (hP : Upds w s.peers.ad lp) (hH : Slots w s.shelf.ad ls) : Calls Tryz.prog 23 #[.agg (tabv s.v 115)] w fun e w' => (∃ x1 x2 x3 : Sl, e = .returned (.agg (tabv (setSl s x1 x2 x3).v 115)) ∧ OS w.heap.size w' (setSl s x1 x2 x3) lo (lp.take (withinN s.ap s.peers.n)) ls) ∧ Below w.heap.size w w' := by
  obtain ⟨w1, hW1⟩ : ∃ wX, w.alloc (.cells (tabv s.v 115) 32) = wX := ⟨_, rfl⟩
  have rs : Has w1 w.heap.size 32 s.v 115 := by rw [← hW1]; exact Has.new w 32 s.v 115 _ rfl
  have bb : Below w.heap.size w w1 := by rw [← hW1]; exact (Below.refl w.heap.size w).alloc (Nat.le_refl _) _
  have gb : Below w.heap.size w w1 := bb
  clear bb
  obtain ⟨w2, hW2⟩ : ∃ wX, w1.alloc (.cells (tabv St.zero.v 115) 32) = wX := ⟨_, rfl⟩
  have rr : Has w2 w1.heap.size 32 St.zero.v 115 := by rw [← hW2]; exact Has.new w1 32 St.zero.v 115 _ rfl
  have bb : Below w1.heap.size w1 w2 := by rw [← hW2]; exact (Below.refl w1.heap.size w1).alloc (Nat.le_refl _) _
  have rs := rs.below bb rs.lt
  have gb : Below w.heap.size w w2 := gb.trans (bb.mono gb.size)
  clear bb
  have Rb_s := hide rs
  have Rb_r := hide rr
  have GB := hide gb
  clear gb rs rr
  have L1 : w.heap.size < w1.heap.size := by rw [← hW1, size_alloc]; omega
  have L2 : w1.heap.size < w2.heap.size := by rw [← hW2, size_alloc]; omega
  rw [← zeroSt] at hW2
  have hk : withinN s.ap s.peers.n ≤ s.peers.n := by unfold withinN; omega
  have HW := hide (fun w : World => dwithin_any s.ap s.peers.ad s.peers.n s.peers.c w)
  have SK := hide (fun w => sliceK w s.peers.ad s.peers.n s.peers.c (withinN s.ap s.peers.n) (by omega))
  have H1 := hide (fun wx (hb : Below w.heap.size w wx) => uclone_any s.ours.ad s.ours.n s.ours.c lo hno (by omega) (hO.below hb).none wx (hO.below hb))
  have H2 := hide (fun wx (hb : Below w.heap.size w wx) => uclone_any s.peers.ad (withinN s.ap s.peers.n) s.peers.c (lp.take (withinN s.ap s.peers.n)) (by rw [List.length_take]; omega) (by omega) ((hP.below hb).take (withinN s.ap s.peers.n)).none wx ((hP.below hb).take (withinN s.ap s.peers.n)))
  have H3 := hide (fun wx (hb : Below w.heap.size w wx) => sclone_any s.shelf.ad s.shelf.n s.shelf.c ls hns (by omega) (hH.below hb).none wx (hH.below hb))
  clear hno hnp hns zo zp zs k2 hO hP hH hk
  generalize withinN s.ap s.peers.n = kP at HW SK H2 ⊢
  generalize lp.take kP = lt at H2 ⊢
  go_enter Tryz.func23, Tryz.ntmps23
  have z0_s4 : w2.cell? ⟨w.heap.size, 4, none⟩ = some (.slice s.ours.ad s.ours.n s.ours.c) := Rb_s.out.cell 4 (by omega)
  go_wp2_with (fail)
  refine (H1.out _ GB.out).mono ?_
  rintro e y1 ⟨⟨v1, rfl, o1⟩, hb⟩
  clear z0_s4
  obtain ⟨x1, rfl⟩ := slOf o1
  simp only [Sl.v]
  have hz1 : w2.heap.size ≤ y1.heap.size := hb.size
  have Ry1_s := hide (Rb_s.out.below hb Rb_s.out.lt)
  have Ry1_r := hide (Rb_r.out.below hb Rb_r.out.lt)
  have Gy1 := hide (GB.out.trans (hb.mono GB.out.size))
  clear hb
  obtain ⟨v4, hv4⟩ : ∃ x, y1.setCell ⟨w.heap.size, 4, none⟩ (Sl.v x1) = x := ⟨_, rfl⟩
  have m1 : Cu.Mr w.heap.size y1 v4 := by rw [← hv4]; exact Cu.Mr.set _
  have ca : y1.cell? ⟨w.heap.size, 4, none⟩ = some (.slice s.ours.ad s.ours.n s.ours.c) := Ry1_s.out.cell 4 (by omega)
  have fa := Ry1_s.out.frozen 4
  have S4 := hide (show Has v4 w.heap.size 32 (St.v (setSl s x1 s.peers s.shelf)) 115 by rw [← hv4]; exact Ry1_s.out.sOurs x1)
  have R4 := hide (show Has v4 w1.heap.size 32 St.zero.v 115 by rw [← hv4]; exact Ry1_r.out.other _ _ (by show w1.heap.size ≠ w.heap.size; omega))
  have O4 : OwnU w2.heap.size v4 x1.v lo := o1.same fun k hk => m1.block k (o1.lt k hk).2 (by have := (o1.lt k hk).1; omega)
  have B4 := hide (Gy1.out.trans (m1.below (Nat.le_refl _) (Gy1.out.size)))
  have Z4 : w2.heap.size ≤ v4.heap.size := Nat.le_trans (hz1) m1.size
  have hv4 : y1.setCell ⟨w.heap.size, 4, none⟩ (.slice x1.ad x1.n x1.c) = v4 := hv4
  replace O4 := hide O4
  clear o1 m1
  skip
  skip
  go_upto_region 2 with (first | rw [hv4] | fail)
  try rw [hv4]
  clear ca fa hv4
  refine wp_region_noPanic ?_
  refine wp_region_T (S := fun wx => Has wx w.heap.size 32 (St.v (setSl s x1 s.peers s.shelf)) 115 ∧ Below v4.heap.size v4 wx) 11 (by kernel_rfl) (⟨S4.out, (Below.refl _ _).drew⟩) (fun hHeld => ?_)
  generalize hwd : World.drew _ = wd at hHeld ⊢
  refine takeP [9, 8, 1] 0 (some 7) (.pointer (some ⟨w.heap.size, 5, none⟩)) rfl rfl (by kernel_rfl) (by kernel_rfl) (by kernel_rfl) (by kernel_rfl) (by kernel_rfl) (by decide) (fun _ _ _ h => h) (by rfl) (fun w_ hw => by first | rfl | (go_simp; done) | (go_simp; rfl) | (go_simp; omega)) hHeld ?_
  simp only [Act.put, List.setIfInBounds_toArray, List.set_cons_zero, List.set_cons_succ]
  refine takeP [9, 8] 1 (some 8) (.slice s.peers.ad s.peers.n s.peers.c) rfl rfl (by kernel_rfl) (by kernel_rfl) (by kernel_rfl) (by kernel_rfl) (by kernel_rfl) (by decide) (fun _ _ _ h => h) (by rfl) (fun w_ hw => by have c : World.cell? _ ⟨w.heap.size, 5, none⟩ = some (.slice s.peers.ad s.peers.n s.peers.c) := hw.1.cell 5 (by omega); first | rfl | (go_simp; done) | (go_simp; rfl)) hHeld ?_
  simp only [Act.put, List.setIfInBounds_toArray, List.set_cons_zero, List.set_cons_succ]
  refine takeP [9, 8, 7, 4, 3] 2 (some 9) (.pointer (some ⟨w.heap.size, 9, none⟩)) rfl rfl (by kernel_rfl) (by kernel_rfl) (by kernel_rfl) (by kernel_rfl) (by kernel_rfl) (by decide) (fun _ _ _ h => h) (by rfl) (fun w_ hw => by first | rfl | (go_simp; done) | (go_simp; rfl) | (go_simp; omega)) hHeld ?_
  simp only [Act.put, List.setIfInBounds_toArray, List.set_cons_zero, List.set_cons_succ]
  refine takeP [9, 8, 7, 4] 3 (some 10) (.pointer (some ⟨w.heap.size, 10, none⟩)) rfl rfl (by kernel_rfl) (by kernel_rfl) (by kernel_rfl) (by kernel_rfl) (by kernel_rfl) (by decide) (fun _ _ _ h => h) (by rfl) (fun w_ hw => by first | rfl | (go_simp; done) | (go_simp; rfl) | (go_simp; omega)) hHeld ?_
  simp only [Act.put, List.setIfInBounds_toArray, List.set_cons_zero, List.set_cons_succ]
  refine takeP [9, 8, 7] 4 (some 11) (.int .i64 s.ap) rfl rfl (by kernel_rfl) (by kernel_rfl) (by kernel_rfl) (by kernel_rfl) (by kernel_rfl) (by decide) (fun _ _ _ h => h) (by rfl) (fun w_ hw => by have c : World.cell? _ ⟨w.heap.size, 10, none⟩ = some (.int .i64 s.ap) := hw.1.cell 10 (by omega); first | rfl | (go_simp; done) | (go_simp; rfl)) hHeld ?_
  simp only [Act.put, List.setIfInBounds_toArray, List.set_cons_zero, List.set_cons_succ]
  refine takeP [9, 8, 7, 6] 5 (some 12) (.pointer (some ⟨w.heap.size, 5, none⟩)) rfl rfl (by kernel_rfl) (by kernel_rfl) (by kernel_rfl) (by kernel_rfl) (by kernel_rfl) (by decide) (fun _ _ _ h => h) (by rfl) (fun w_ hw => by first | rfl | (go_simp; done) | (go_simp; rfl) | (go_simp; omega)) hHeld ?_
  simp only [Act.put, List.setIfInBounds_toArray, List.set_cons_zero, List.set_cons_succ]
  refine takeP [9, 8, 7] 6 (some 13) (.slice s.peers.ad s.peers.n s.peers.c) rfl rfl (by kernel_rfl) (by kernel_rfl) (by kernel_rfl) (by kernel_rfl) (by kernel_rfl) (by decide) (fun _ _ _ h => h) (by rfl) (fun w_ hw => by have c : World.cell? _ ⟨w.heap.size, 5, none⟩ = some (.slice s.peers.ad s.peers.n s.peers.c) := hw.1.cell 5 (by omega); first | rfl | (go_simp; done) | (go_simp; rfl)) hHeld ?_
  simp only [Act.put, List.setIfInBounds_toArray, List.set_cons_zero, List.set_cons_succ]
  refine readyT 7 (by kernel_rfl) rfl (by rfl) (fun K hK => ?_)
  go_simp
  refine (HW.out _).mono ?_
  rintro e wx ⟨rfl, hx⟩
  obtain rfl := hx
  try go_wp2_with fail
  refine hK.out _ _ (fun _ => hHeld) (fun hH => ?_)
  clear hK hH
  refine takeP [9] 8 (some 15) (.slice s.peers.ad kP s.peers.c) rfl rfl (by kernel_rfl) (by kernel_rfl) (by kernel_rfl) (by kernel_rfl) (by kernel_rfl) (by decide) (fun _ _ _ h => h) (by rfl) (fun w_ hw => by have c := SK.out w_; first | rfl | (go_simp; done) | (go_simp; rfl) | (go_simp; omega)) hHeld ?_
  simp only [Act.put, List.setIfInBounds_toArray, List.set_cons_zero, List.set_cons_succ]
  refine readyT 9 (by kernel_rfl) rfl (by rfl) (fun K hK => ?_)
  go_simp
  refine (H2.out _ (B4.out.trans (hHeld.2.mono B4.out.size))).mono ?_
  rintro e y2 ⟨⟨v2, rfl, o2⟩, hbq⟩
  obtain ⟨x2, rfl⟩ := slOf o2
  simp only [Sl.v]
  try go_wp2_with fail
  refine hK.out _ _ (fun _ => ⟨hHeld.1.below hbq hHeld.1.lt, hHeld.2.trans (hbq.mono hHeld.2.size)⟩) (fun hH => ?_)
  have zwd := hHeld.2.size
  clear hHeld
  have hHeld := hH (by decide)
  clear hK hH
  refine takeT 10 (some 17) (.pointer (some ⟨w.heap.size, 5, none⟩)) rfl rfl (by kernel_rfl) (by kernel_rfl) (by kernel_rfl) (by kernel_rfl) (by decide) (fun _ _ _ h => h) (by rfl) (fun w_ hw => by first | rfl | (go_simp; done) | (go_simp; rfl) | (go_simp; omega)) hHeld ?_
  simp only [Act.put, List.setIfInBounds_toArray, List.set_cons_zero, List.set_cons_succ]
  obtain ⟨hs, hb⟩ := hHeld
  have cg : y2.cell? ⟨w.heap.size, 5, none⟩ = some (.slice s.peers.ad s.peers.n s.peers.c) := hs.cell 5 (by omega)
  have fg := hs.frozen 5
  obtain ⟨v6, hv6⟩ : ∃ x, y2.setCell ⟨w.heap.size, 5, none⟩ (Sl.v x2) = x := ⟨_, rfl⟩
  have m2 : Cu.Mr w.heap.size y2 v6 := by rw [← hv6]; exact Cu.Mr.set _
  have S6 := hide (show Has v6 w.heap.size 32 (St.v (setSl s x1 x2 s.shelf)) 115 by rw [← hv6]; exact hs.sPeers x2)
  have R6 := hide (show Has v6 w1.heap.size 32 St.zero.v 115 by rw [← hv6]; exact (R4.out.below hb R4.out.lt).other _ _ (by show w1.heap.size ≠ w.heap.size; omega))
  have o2m : OwnU v4.heap.size y2 x2.v lt := o2.mono zwd
  have O6 := hide (show OwnU v4.heap.size v6 x2.v lt from o2m.same fun k hk => m2.block k (o2m.lt k hk).2 (by have := (o2m.lt k hk).1; omega))
  have P6 := hide (show OwnU w2.heap.size v6 x1.v lo from (O4.out.below hb (Nat.le_refl _)).same fun k hk => m2.block k (Nat.lt_of_lt_of_le (O4.out.lt k hk).2 hb.size) (by have := (O4.out.lt k hk).1; omega))
  have Y4 := hide (fun k (hk : x1.v.ownBlock = some k) => (O4.out.lt k hk).2)
  have B6 := hide ((B4.out.trans (hb.mono B4.out.size)).trans (m2.below (Nat.le_refl _) (Nat.le_trans B4.out.size hb.size)))
  have Z6 : v4.heap.size ≤ v6.heap.size := Nat.le_trans hb.size m2.size
  have hv6 : y2.setCell ⟨w.heap.size, 5, none⟩ (.slice x2.ad x2.n x2.c) = v6 := hv6
  clear hs hb o2 o2m m2 hbq zwd
  refine readyT 11 (by kernel_rfl) rfl (by rfl) (fun K hK => ?_)
  go_simp
  refine hK.out _ _ (fun x => absurd rfl x) (fun _ => ?_)
  clear hK
  refine ⟨by kernel_rfl, ?_⟩
  refine NoPanic.normal ?_
  try rw [hv6]
  clear cg fg hv6 hwd
  have c12 : v6.cell? ⟨w.heap.size, 112, none⟩ = some (.slice s.shelf.ad s.shelf.n s.shelf.c) := S6.out.cell 112 (by omega)
  go_wp2_with fail
  refine (H3.out _ B6.out).mono ?_
  rintro e y3 ⟨⟨v3, rfl, o3⟩, hb⟩
  obtain ⟨x3, rfl⟩ := slOfS o3
  simp only [Sl.v]
  clear c12
  have hs := S6.out.below hb S6.out.lt
  have cg : y3.cell? ⟨w.heap.size, 112, none⟩ = some (.slice s.shelf.ad s.shelf.n s.shelf.c) := hs.cell 112 (by omega)
  have fg := hs.frozen 112
  obtain ⟨v8, hv8⟩ : ∃ x, y3.setCell ⟨w.heap.size, 112, none⟩ (Sl.v x3) = x := ⟨_, rfl⟩
  have m3 : Cu.Mr w.heap.size y3 v8 := by rw [← hv8]; exact Cu.Mr.set _
  have S8 := hide (show Has v8 w.heap.size 32 (St.v (setSl s x1 x2 x3)) 115 by rw [← hv8]; exact hs.sShelf x3)
  have R8 := hide (show Has v8 w1.heap.size 32 St.zero.v 115 by rw [← hv8]; exact (R6.out.below hb R6.out.lt).other _ _ (by show w1.heap.size ≠ w.heap.size; omega))
  have O8 := hide (show OwnS v6.heap.size v8 x3.v ls from o3.same fun k hk => m3.block k (o3.lt k hk).2 (by have := (o3.lt k hk).1; omega))
  have Q8 := hide (show OwnU v4.heap.size v8 x2.v lt from (O6.out.below hb (Nat.le_refl _)).same fun k hk => m3.block k (Nat.lt_of_lt_of_le (O6.out.lt k hk).2 hb.size) (by have := (O6.out.lt k hk).1; omega))
  have P8 := hide (show OwnU w2.heap.size v8 x1.v lo from (P6.out.below hb (Nat.le_refl _)).same fun k hk => m3.block k (Nat.lt_of_lt_of_le (P6.out.lt k hk).2 hb.size) (by have := (P6.out.lt k hk).1; omega))
  have OF : Hid (OS w2.heap.size v8 (setSl s x1 x2 x3) lo lt ls) := ⟨P8.out, Q8.out.mono (by omega), O8.out.mono (by omega), fun k hk e => by have h1 := Y4.out k hk; have h2 := (Q8.out.lt k e).1; omega, fun k hk e => by have h1 := (P6.out.lt k hk).2; have h2 := (O8.out.lt k e).1; omega, fun k hk e => by have h1 := (O6.out.lt k hk).2; have h2 := (O8.out.lt k e).1; omega⟩
  have B8 := hide ((B6.out.trans (hb.mono B6.out.size)).trans (m3.below (Nat.le_refl _) (Nat.le_trans B6.out.size hb.size)))
  have hv8 : y3.setCell ⟨w.heap.size, 112, none⟩ (.slice x3.ad x3.n x3.c) = v8 := hv8
  clear hs hb o3 m3 O8 Q8 P8
  go_wp2_with (first | rw [hv8] | refine wpW_load_at 32 _ rfl (w.heap.size) (0) (by rfl) (by rfl) _ 115 _ (S8.out.at_ 0 (by omega) (fun i hi => by rw [Nat.zero_add])) Tryz.underlying32 rfl infoSt ?_ | refine wpList_storeSt rfl _ _ rfl rfl (w1.heap.size) (setSl s x1 x2 x3) rfl rfl _ R8.out ?_ | fail)
  (try simp only [Exit.inBlock, Exit.then])
  exact bodyPost_ret (results_cell_row rfl _ _ w1.heap.size 32 _ (0, 0) _ rfl (R8.out.row _ (St.v (setSl s x1 x2 x3)) rfl) Tryz.underlying32 rfl (by rw [tabv_size]; exact infoSt)) rfl ⟨⟨x1, x2, x3, rfl, (OF.out.same (fun k hk => setRow_other _ _ _ _ (by have := (OF.out.o.lt k hk).1; omega)) (fun k hk => setRow_other _ _ _ _ (by have := (OF.out.p.lt k hk).1; omega)) (fun k hk => setRow_other _ _ _ _ (by have := (OF.out.f.lt k hk).1; omega))).mono (by omega)⟩, below_setRow B8.out (by omega) _⟩
end Go.Proofs.YtmmcoedgoekhgaaGreatDoor
