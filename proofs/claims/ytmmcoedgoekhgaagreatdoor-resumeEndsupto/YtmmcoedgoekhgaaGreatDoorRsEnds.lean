import Derived.Test.YtmmcoedgoekhgaaGreatDoorDMsg
import Derived.Test.YtmmcoedgoekhgaaGreatDoorRsFirst
import Derived.Deep.CutRange
/-
  Copy of a state, by the statements (picked out of record's copied by mkstate.sh).
-/
namespace Go.Proofs.YtmmcoedgoekhgaaGreatDoor
open Go.RowKit S
set_option linter.unusedVariables false
set_option linter.unusedSimpArgs false
open Cu (nb be hl ofL CW Mw Mr)
set_option maxRecDepth 100000 in
set_option maxHeartbeats 40000000 in
theorem copy_any (s : St) (lo lp : List Upd) (ls : List Slot) (hno : lo.length = s.ours.n) (hnp : lp.length = s.peers.n) (hns : ls.length = s.shelf.n) (zo : lo.length * 72 ≤ 140737488355328) (zp : lp.length * 72 ≤ 140737488355328) (zs : ls.length * 48 ≤ 140737488355328) (w : World) (hO : Upds w s.ours.ad lo) (hP : Upds w s.peers.ad lp) (hH : Slots w s.shelf.ad ls) : Calls Tryz.prog 11 #[.agg (tabv s.v 115)] w fun e w' => (∃ x1 x2 x3 : Sl, e = .returned (.agg (tabv (setSl s x1 x2 x3).v 115)) ∧ OS w.heap.size w' (setSl s x1 x2 x3) lo lp ls) ∧ Below w.heap.size w w' := by
  obtain ⟨w2, hW⟩ : ∃ w2, (w.alloc (.cells (tabv s.v 115) 32)).alloc (.cells (tabv St.zero.v 115) 32) = w2 := ⟨_, rfl⟩
  have r1 : Has w2 w.heap.size 32 s.v 115 := by rw [← hW]; exact (Has.new w 32 s.v 115 _ rfl).old _
  have r2 : Has w2 (w.heap.size + 1) 32 St.zero.v 115 := by
    rw [← hW]
    have := Has.new (w.alloc (.cells (tabv s.v 115) 32)) 32 St.zero.v 115 _ rfl
    rw [size_alloc] at this
    exact this
  have gb : Below w.heap.size w w2 := by rw [← hW]; exact ((Below.refl w.heap.size w).alloc (Nat.le_refl _) _).alloc (by simp) _
  rw [← zeroSt] at hW
  have hs2 : w.heap.size + 2 ≤ w2.heap.size := by have := r2.lt; omega
  -- ours
  obtain ⟨v1, w3, a1, o1, b3⟩ := run_app_all w2 s.ours.ad s.ours.c lo (hO.below gb) zo
  rw [hno] at a1
  obtain ⟨x1, rfl⟩ := slOf o1
  have q1 := r1.below b3 r1.lt
  have q2 := r2.below b3 r2.lt
  obtain ⟨w4, hW4⟩ : ∃ x, w3.setCell ⟨w.heap.size, 4, none⟩ x1.v = x := ⟨_, rfl⟩
  have m4 : Mr w.heap.size w3 w4 := by rw [← hW4]; exact Mr.set _
  have k1 : Has w4 w.heap.size 32 (St.v ⟨s.side, s.cap, s.bo, s.bp, x1, s.peers, s.loc, s.rem, s.ack, s.ao, s.ap, s.so, s.sp, s.ho, s.hp, s.beh, s.p0, s.p1, s.sig, s.shelf, s.fail, s.closed⟩) 115 := by rw [← hW4]; exact q1.sOurs x1
  have k2 : Has w4 (w.heap.size + 1) 32 St.zero.v 115 := by rw [← hW4]; exact q2.other _ _ (by show w.heap.size + 1 ≠ w.heap.size; omega)
  have O1 : OwnU w2.heap.size w4 x1.v lo := o1.same fun k hk => m4.block k (o1.lt k hk).2 (by have := (o1.lt k hk).1; omega)
  have gb4 : Below w.heap.size w w4 := (gb.trans (b3.mono gb.size)).trans (m4.below (Nat.le_refl _) (Nat.le_trans gb.size b3.size))
  -- peers
  obtain ⟨v2, w5, a2, o2, b5⟩ := run_app_all w4 s.peers.ad s.peers.c lp (hP.below gb4) zp
  rw [hnp] at a2
  obtain ⟨x2, rfl⟩ := slOf o2
  have q3 := k1.below b5 k1.lt
  have q4 := k2.below b5 k2.lt
  obtain ⟨w6, hW6⟩ : ∃ x, w5.setCell ⟨w.heap.size, 5, none⟩ x2.v = x := ⟨_, rfl⟩
  have m6 : Mr w.heap.size w5 w6 := by rw [← hW6]; exact Mr.set _
  have k3 : Has w6 w.heap.size 32 (St.v ⟨s.side, s.cap, s.bo, s.bp, x1, x2, s.loc, s.rem, s.ack, s.ao, s.ap, s.so, s.sp, s.ho, s.hp, s.beh, s.p0, s.p1, s.sig, s.shelf, s.fail, s.closed⟩) 115 := by rw [← hW6]; exact q3.sPeers x2
  have k4 : Has w6 (w.heap.size + 1) 32 St.zero.v 115 := by rw [← hW6]; exact q4.other _ _ (by show w.heap.size + 1 ≠ w.heap.size; omega)
  have hs4 : w2.heap.size ≤ w4.heap.size := Nat.le_trans b3.size m4.size
  have O2 : OwnU w4.heap.size w6 x2.v lp := o2.same fun k hk => m6.block k (o2.lt k hk).2 (by have := (o2.lt k hk).1; omega)
  have O1b : OwnU w2.heap.size w6 x1.v lo := (O1.below b5 (Nat.le_refl _)).same fun k hk => m6.block k (Nat.lt_of_lt_of_le (O1.lt k hk).2 b5.size) (by have := (O1.lt k hk).1; omega)
  have gb6 : Below w.heap.size w w6 := (gb4.trans (b5.mono gb4.size)).trans (m6.below (Nat.le_refl _) (Nat.le_trans gb4.size b5.size))
  -- shelf
  obtain ⟨v3, w7, a3, o3, b7⟩ := run_app_allH w6 s.shelf.ad s.shelf.c ls (hH.below gb6) zs
  rw [hns] at a3
  obtain ⟨x3, rfl⟩ := slOfS o3
  have q5 := k3.below b7 k3.lt
  have q6 := k4.below b7 k4.lt
  obtain ⟨w8, hW8⟩ : ∃ x, w7.setCell ⟨w.heap.size, 112, none⟩ x3.v = x := ⟨_, rfl⟩
  have m8 : Mr w.heap.size w7 w8 := by rw [← hW8]; exact Mr.set _
  have k5 : Has w8 w.heap.size 32 (St.v ⟨s.side, s.cap, s.bo, s.bp, x1, x2, s.loc, s.rem, s.ack, s.ao, s.ap, s.so, s.sp, s.ho, s.hp, s.beh, s.p0, s.p1, s.sig, x3, s.fail, s.closed⟩) 115 := by rw [← hW8]; exact q5.sShelf x3
  have k6 : Has w8 (w.heap.size + 1) 32 St.zero.v 115 := by rw [← hW8]; exact q6.other _ _ (by show w.heap.size + 1 ≠ w.heap.size; omega)
  have hs6 : w4.heap.size ≤ w6.heap.size := Nat.le_trans b5.size m6.size
  have O3 : OwnS w6.heap.size w8 x3.v ls := o3.same fun k hk => m8.block k (o3.lt k hk).2 (by have := (o3.lt k hk).1; omega)
  have O2b : OwnU w4.heap.size w8 x2.v lp := (O2.below b7 (Nat.le_refl _)).same fun k hk => m8.block k (Nat.lt_of_lt_of_le (O2.lt k hk).2 b7.size) (by have := (O2.lt k hk).1; omega)
  have O1c : OwnU w2.heap.size w8 x1.v lo := (O1b.below b7 (Nat.le_refl _)).same fun k hk => m8.block k (Nat.lt_of_lt_of_le (O1b.lt k hk).2 b7.size) (by have := (O1b.lt k hk).1; omega)
  have gb8 : Below w.heap.size w w8 := (gb6.trans (b7.mono gb6.size)).trans (m8.below (Nat.le_refl _) (Nat.le_trans gb6.size b7.size))
  have OF : Hid (OS (w.heap.size + 2) w8 (setSl s x1 x2 x3) lo lp ls) := ⟨O1c.mono hs2, O2b.mono (by omega), O3.mono (by omega), fun k hk e => by have h1 := (O1.lt k hk).2; have h2 := (O2.lt k e).1; omega, fun k hk e => by have h1 := (O1b.lt k hk).2; have h2 := (O3.lt k e).1; omega, fun k hk e => by have h1 := (O2.lt k hk).2; have h2 := (O3.lt k e).1; omega⟩
  have c4 : w2.cell? ⟨w.heap.size, 4, none⟩ = some (.slice s.ours.ad s.ours.n s.ours.c) := r1.cell 4 (by omega)
  have c5 : w4.cell? ⟨w.heap.size, 5, none⟩ = some (.slice s.peers.ad s.peers.n s.peers.c) := k1.cell 5 (by omega)
  have c6 : w6.cell? ⟨w.heap.size, 112, none⟩ = some (.slice s.shelf.ad s.shelf.n s.shelf.c) := k3.cell 112 (by omega)
  have d4 : w3.cell? ⟨w.heap.size, 4, none⟩ = some (.slice s.ours.ad s.ours.n s.ours.c) := q1.cell 4 (by omega)
  have d5 : w5.cell? ⟨w.heap.size, 5, none⟩ = some (.slice s.peers.ad s.peers.n s.peers.c) := q3.cell 5 (by omega)
  have d6 : w7.cell? ⟨w.heap.size, 112, none⟩ = some (.slice s.shelf.ad s.shelf.n s.shelf.c) := q5.cell 112 (by omega)
  have f4 := q1.frozen 4
  have f5 := q3.frozen 5
  have f6 := q5.frozen 112
  have a1 : _ = Result.ok (Value.slice x1.ad x1.n x1.c) w3 := a1
  have A1 := hide a1
  have a2 : _ = Result.ok (Value.slice x2.ad x2.n x2.c) w5 := a2
  have A2 := hide a2
  have a3 : _ = Result.ok (Value.slice x3.ad x3.n x3.c) w7 := a3
  have A3 := hide a3
  have K5 := hide k5
  have K6 := hide k6
  have GB := hide gb8
  have hW4 : w3.setCell ⟨w.heap.size, 4, none⟩ (.slice x1.ad x1.n x1.c) = w4 := hW4
  have hW6 : w5.setCell ⟨w.heap.size, 5, none⟩ (.slice x2.ad x2.n x2.c) = w6 := hW6
  have hW8 : w7.setCell ⟨w.heap.size, 112, none⟩ (.slice x3.ad x3.n x3.c) = w8 := hW8
  clear a1 a2 a3 o1 o2 o3 b3 b5 b7 m4 m6 m8 O1 O1b O1c O2 O2b O3 gb gb4 gb6 gb8 k1 k2 k3 k4 k5 k6 q1 q2 q3 q4 q5 q6 r1 r2 hs2 hs4 hs6 hno hnp hns zo zp zs hO hP hH
  go_enter Tryz.func11, Tryz.ntmps11
  go_wp2_with (first | rw [hW4] | rw [hW6] | rw [hW8] | refine wpList_app rfl (.const (.slice none 0 0)) (.tmp 4) _ rfl A1.out ?_ | refine wpList_app rfl (.const (.slice none 0 0)) (.tmp 8) _ rfl A2.out ?_ | refine wpList_app rfl (.const (.slice none 0 0)) (.tmp 12) _ rfl A3.out ?_ | refine wpW_load_at 32 _ rfl (w.heap.size) (0) (by rfl) (by rfl) _ 115 _ (K5.out.at_ 0 (by omega) (fun i hi => by rw [Nat.zero_add])) Tryz.underlying32 rfl infoSt ?_ | refine wpList_storeSt rfl _ _ rfl rfl (w.heap.size + 1) (setSl s x1 x2 x3) rfl rfl _ K6.out ?_ | fail)
  (try simp only [Exit.inBlock, Exit.then])
  exact bodyPost_ret (results_cell_row rfl _ _ (w.heap.size + 1) 32 _ (0, 0) _ rfl (K6.out.row _ (St.v (setSl s x1 x2 x3)) rfl) Tryz.underlying32 rfl (by rw [tabv_size]; exact infoSt)) rfl ⟨⟨x1, x2, x3, rfl, (OF.out.same (fun k hk => setRow_other _ _ _ _ (by have := (OF.out.o.lt k hk).1; omega)) (fun k hk => setRow_other _ _ _ _ (by have := (OF.out.p.lt k hk).1; omega)) (fun k hk => setRow_other _ _ _ _ (by have := (OF.out.f.lt k hk).1; omega))).mono (by omega)⟩, below_setRow GB.out (by omega) _⟩
end Go.Proofs.YtmmcoedgoekhgaaGreatDoor
/-
  ResumeEnds (printed by gen_e7.py).
-/
namespace Go.Proofs.YtmmcoedgoekhgaaGreatDoor
open Go.RowKit S
set_option linter.unusedVariables false
set_option linter.unusedSimpArgs false
set_option maxRecDepth 100000 in
set_option maxHeartbeats 40000000 in
theorem ends_walk (c : Cf) (s : St) (m : Msg) (lo lp : List Upd) (ls : List Slot) (hno : lo.length = s.ours.n) (hnp : lp.length = s.peers.n) (hns : ls.length = s.shelf.n) (zo : lo.length ≤ 1048576) (zp : lp.length * 72 ≤ 140737488351232) (zs : ls.length * 48 ≤ 140737488351232) (hx : -9223372036854775808 ≤ m.nxt ∧ m.nxt ≤ 9223372036854775807) (hk : s.ack ≤ 9223372036854775807) (w : World) (hG : Glob num w) (hO : Upds w s.ours.ad lo) (hP : Upds w s.peers.ad lp) (hH : Slots w s.shelf.ad ls) : Calls Tryz.prog 6 #[.agg (tabv c.v 164), .agg (tabv s.v 115), .agg (tabv m.v 70)] w fun e w' => e = .returned (.bool true) ∧ Below w.heap.size w w' := by
  obtain ⟨w1, hW1⟩ : ∃ wX, w.alloc (.cells (tabv c.v 164) 26) = wX := ⟨_, rfl⟩
  have rc : Has w1 w.heap.size 26 c.v 164 := by rw [← hW1]; exact Has.new w 26 c.v 164 _ rfl
  have bb : Below w.heap.size w w1 := by rw [← hW1]; exact (Below.refl w.heap.size w).alloc (Nat.le_refl _) _
  have gb : Below w.heap.size w w1 := bb
  clear bb
  obtain ⟨w2, hW2⟩ : ∃ wX, w1.alloc (.cells (tabv s.v 115) 32) = wX := ⟨_, rfl⟩
  have rs : Has w2 w1.heap.size 32 s.v 115 := by rw [← hW2]; exact Has.new w1 32 s.v 115 _ rfl
  have bb : Below w1.heap.size w1 w2 := by rw [← hW2]; exact (Below.refl w1.heap.size w1).alloc (Nat.le_refl _) _
  have rc := rc.below bb rc.lt
  have gb : Below w.heap.size w w2 := gb.trans (bb.mono gb.size)
  clear bb
  obtain ⟨w3, hW3⟩ : ∃ wX, w2.alloc (.cells (tabv m.v 70) 36) = wX := ⟨_, rfl⟩
  have rm : Has w3 w2.heap.size 36 m.v 70 := by rw [← hW3]; exact Has.new w2 36 m.v 70 _ rfl
  have bb : Below w2.heap.size w2 w3 := by rw [← hW3]; exact (Below.refl w2.heap.size w2).alloc (Nat.le_refl _) _
  have rc := rc.below bb rc.lt
  have rs := rs.below bb rs.lt
  have gb : Below w.heap.size w w3 := gb.trans (bb.mono gb.size)
  clear bb
  have Rb_c := hide rc
  have Rb_s := hide rs
  have Rb_m := hide rm
  have GB := hide gb
  clear gb rc rs rm
  have L1 : w.heap.size < w1.heap.size := by rw [← hW1, size_alloc]; omega
  have L2 : w1.heap.size < w2.heap.size := by rw [← hW2, size_alloc]; omega
  have HFx := hide (fun wx (hb : Below w.heap.size w wx) => rfirst_any wx (hG.up hb))
  have HCp := hide (fun wx (hb : Below w.heap.size w wx) => copy_any s lo lp ls hno hnp hns (by omega) (by omega) (by omega) wx (hO.below hb) (hP.below hb) (hH.below hb))
  have HHe : Hid (∀ (x1 x2 x3 : Sl) (B : Nat) (wx : World), Below w.heap.size w wx → OS B wx (setSl s x1 x2 x3) lo lp ls → Calls Tryz.prog 33 #[.agg (tabv c.v 164), .agg (tabv (setSl s x1 x2 x3).v 115)] wx fun e w' => (∃ v, e = .returned v) ∧ Below wx.heap.size wx w') := fun x1 x2 x3 B wx hb h => by
    obtain ⟨e1, U1, k1⟩ := OwnU.sl (x := x1) h.o
    obtain ⟨e2, U2, k2⟩ := OwnU.sl (x := x2) h.p
    obtain ⟨e3, U3, k3⟩ := OwnS.sl (x := x3) h.f
    have g := hG.up hb
    exact (hello_any c (setSl s x1 x2 x3) ls e3 hk wx g U3).mono fun e w' h => ⟨⟨_, h.1⟩, h.2⟩
  have HAn : Hid (∀ (x1 x2 x3 : Sl) (B : Nat) (wx : World), Below w.heap.size w wx → OS B wx (setSl s x1 x2 x3) lo lp ls → Calls Tryz.prog 34 #[.agg (tabv c.v 164), .agg (tabv (setSl s x1 x2 x3).v 115), .agg (tabv (Msg.v (⟨6, m.id, m.amt, m.idx, m.nxt, m.hash, m.sec, m.note⟩ : Msg)) 70)] wx fun e w' => (∃ v, e = .returned v) ∧ Below wx.heap.size wx w') := fun x1 x2 x3 B wx hb h => by
    obtain ⟨e1, U1, k1⟩ := OwnU.sl (x := x1) h.o
    obtain ⟨e2, U2, k2⟩ := OwnU.sl (x := x2) h.p
    obtain ⟨e3, U3, k3⟩ := OwnS.sl (x := x3) h.f
    have g := hG.up hb
    exact (answer_any c (setSl s x1 x2 x3) (⟨6, m.id, m.amt, m.idx, m.nxt, m.hash, m.sec, m.note⟩ : Msg) lo lp e1 e2 (show x1.n ≤ _ by omega) (show x2.n ≤ _ by omega) (show x1.n ≤ x1.c by omega) (show x2.n ≤ x2.c by omega) hx wx g U1 U2).mono fun e w' h => (by obtain ⟨v, E, h1, _, h2⟩ := h; exact ⟨⟨_, h1⟩, h2⟩)
  have HSm : Hid (∀ (x1 x2 x3 : Sl) (B : Nat) (wx : World), Below w.heap.size w wx → OS B wx (setSl s x1 x2 x3) lo lp ls → Calls Tryz.prog 27 #[.agg (tabv (setSl s x1 x2 x3).v 115), .agg (tabv s.v 115)] wx fun e w' => e = .returned (.bool true) ∧ Below wx.heap.size wx w') := fun x1 x2 x3 B wx hb h => by
    obtain ⟨e1, U1, k1⟩ := OwnU.sl (x := x1) h.o
    obtain ⟨e2, U2, k2⟩ := OwnU.sl (x := x2) h.p
    obtain ⟨e3, U3, k3⟩ := OwnS.sl (x := x3) h.f
    have g := hG.up hb
    exact sameSt_yes s x1 x2 x3 s.ours s.peers s.shelf lo lp ls e1 e2 e3 hno hnp hns (by omega) (by omega) (by omega) wx U1 U2 U3 (hO.below hb) (hP.below hb) (hH.below hb)
  clear hno hnp hns zo zp zs hx hk hG hO hP hH
  go_enter Tryz.func6, Tryz.ntmps6
  go_wp2_with (fail)
  refine (HFx.out _ GB.out).mono ?_
  rintro e y1 ⟨rfl, hb⟩
  have Ry1_c := hide (Rb_c.out.below hb Rb_c.out.lt)
  have Ry1_s := hide (Rb_s.out.below hb Rb_s.out.lt)
  have Ry1_m := hide (Rb_m.out.below hb Rb_m.out.lt)
  have Gy1 := hide (GB.out.trans (hb.mono GB.out.size))
  clear hb
  have LX0 : w2.heap.size < y1.heap.size := Ry1_m.out.lt
  go_wp2_with (first | refine wpW_load_at 32 _ rfl (w1.heap.size) (0) (by rfl) (by rfl) _ 115 _ (Ry1_s.out.at_ 0 (by omega) (fun i hi => by rw [Nat.zero_add])) Tryz.underlying32 rfl infoSt ?_ | fail)
  refine (HCp.out _ Gy1.out).mono ?_
  rintro e y2 ⟨⟨x1, x2, x3, rfl, hOS⟩, hb⟩
  have HOS := hide hOS
  clear hOS
  have Ry2_c := hide (Ry1_c.out.below hb Ry1_c.out.lt)
  have Ry2_s := hide (Ry1_s.out.below hb Ry1_s.out.lt)
  have Ry2_m := hide (Ry1_m.out.below hb Ry1_m.out.lt)
  have Gy2 := hide (Gy1.out.trans (hb.mono Gy1.out.size))
  clear hb
  obtain ⟨A1, B1, hA1, rA1, hB1, rB1, hb⟩ := newSt y2 (setSl s x1 x2 x3)
  have RA1 := hide rA1
  have RB1 := hide rB1
  have HOS2 := hide (HOS.out.below hb)
  clear rA1 rB1 HOS
  have LX : w2.heap.size < y2.heap.size := Ry2_m.out.lt
  have RB1_c := hide (Ry2_c.out.below hb Ry2_c.out.lt)
  have RB1_s := hide (Ry2_s.out.below hb Ry2_s.out.lt)
  have RB1_m := hide (Ry2_m.out.below hb Ry2_m.out.lt)
  have GB1 := hide (Gy2.out.trans (hb.mono Gy2.out.size))
  clear hb
  go_wp2_with (first | (rw [hA1]) | (refine wpList_storeSt rfl _ _ rfl rfl y2.heap.size (setSl s x1 x2 x3) rfl rfl _ RA1.out ?_; rw [hB1]) | refine wpW_load_at 26 _ rfl (w.heap.size) (0) (by rfl) (by rfl) _ 164 _ (RB1_c.out.at_ 0 (by omega) (fun i hi => by rw [Nat.zero_add])) Tryz.underlying26 rfl infoCf ?_ | refine wpW_load_at 32 _ rfl (y2.heap.size) (0) (by rfl) (by rfl) _ 115 _ (RB1.out.at_ 0 (by omega) (fun i hi => by rw [Nat.zero_add])) Tryz.underlying32 rfl infoSt ?_ | fail)
  refine (HHe.out x1 x2 x3 _ _ GB1.out HOS2.out).mono ?_
  rintro e y3 ⟨⟨v, rfl⟩, hb⟩
  have HOS3 := hide (HOS2.out.below hb)
  clear HOS2
  have Ry3_c := hide (RB1_c.out.below hb RB1_c.out.lt)
  have Ry3_s := hide (RB1_s.out.below hb RB1_s.out.lt)
  have Ry3_m := hide (RB1_m.out.below hb RB1_m.out.lt)
  have Ry3_x := hide (RB1.out.below hb RB1.out.lt)
  have Gy3 := hide (GB1.out.trans (hb.mono GB1.out.size))
  clear hb
  have cm : y3.cell? ⟨w2.heap.size, 0, none⟩ = some (.int .i64 m.kind) := Ry3_m.out.cell 0 (by omega)
  have fm := Ry3_m.out.frozen 0
  obtain ⟨v4, hv4⟩ : ∃ wX, y3.setCell ⟨w2.heap.size, 0, none⟩ (.int .i64 6) = wX := ⟨_, rfl⟩
  have M4 := hide (show Has v4 w2.heap.size 36 (Msg.v (⟨6, m.id, m.amt, m.idx, m.nxt, m.hash, m.sec, m.note⟩ : Msg)) 70 by rw [← hv4]; exact (Ry3_m.out.set 0 (.int .i64 6)).congr _ (fun i hi => by unfold upd Msg.v; by_cases h : i = 0 <;> simp [h]))
  have C4 := hide (show Has v4 (w.heap.size) 26 c.v 164 by rw [← hv4]; exact Ry3_c.out.other _ _ (by show w.heap.size ≠ w2.heap.size; omega))
  have S4 := hide (show Has v4 (w1.heap.size) 32 s.v 115 by rw [← hv4]; exact Ry3_s.out.other _ _ (by show w1.heap.size ≠ w2.heap.size; omega))
  have X4 := hide (show Has v4 (y2.heap.size) 32 (St.v (setSl s x1 x2 x3)) 115 by rw [← hv4]; exact Ry3_x.out.other _ _ (by show y2.heap.size ≠ w2.heap.size; omega))
  have mr : Cu.Mr w2.heap.size y3 v4 := by rw [← hv4]; exact Cu.Mr.set _
  have G4 := hide (Gy3.out.trans (mr.below (by omega) Gy3.out.size))
  skip
  have HOS4 := hide ((HOS3.out).same (fun k hk => mr.block k (HOS3.out.o.lt k hk).2 (by have := (HOS3.out.o.lt k hk).1; omega)) (fun k hk => mr.block k (HOS3.out.p.lt k hk).2 (by have := (HOS3.out.p.lt k hk).1; omega)) (fun k hk => mr.block k (HOS3.out.f.lt k hk).2 (by have := (HOS3.out.f.lt k hk).1; omega)))
  clear mr HOS3
  go_wp2_with (first | rw [hv4] | refine wpW_load_at 26 _ rfl (w.heap.size) (0) (by rfl) (by rfl) _ 164 _ (C4.out.at_ 0 (by omega) (fun i hi => by rw [Nat.zero_add])) Tryz.underlying26 rfl infoCf ?_ | refine wpW_load_at 32 _ rfl (y2.heap.size) (0) (by rfl) (by rfl) _ 115 _ (X4.out.at_ 0 (by omega) (fun i hi => by rw [Nat.zero_add])) Tryz.underlying32 rfl infoSt ?_ | refine wpW_load_at 36 _ rfl (w2.heap.size) (0) (by rfl) (by rfl) _ 70 _ (M4.out.at_ 0 (by omega) (fun i hi => by rw [Nat.zero_add])) Tryz.underlying36 rfl infoM ?_ | fail)
  refine (HAn.out x1 x2 x3 _ _ G4.out HOS4.out).mono ?_
  rintro e y4 ⟨⟨v, rfl⟩, hb⟩
  have HOS5 := hide (HOS4.out.below hb)
  clear HOS4 cm fm
  have Ry4_c := hide (C4.out.below hb C4.out.lt)
  have Ry4_s := hide (S4.out.below hb S4.out.lt)
  have Ry4_m := hide (M4.out.below hb M4.out.lt)
  have Ry4_x := hide (X4.out.below hb X4.out.lt)
  have Gy4 := hide (G4.out.trans (hb.mono G4.out.size))
  clear hb
  go_wp2_with (first | refine wpW_load_at 32 _ rfl (y2.heap.size) (0) (by rfl) (by rfl) _ 115 _ (Ry4_x.out.at_ 0 (by omega) (fun i hi => by rw [Nat.zero_add])) Tryz.underlying32 rfl infoSt ?_ | refine wpW_load_at 32 _ rfl (w1.heap.size) (0) (by rfl) (by rfl) _ 115 _ (Ry4_s.out.at_ 0 (by omega) (fun i hi => by rw [Nat.zero_add])) Tryz.underlying32 rfl infoSt ?_ | fail)
  refine (HSm.out x1 x2 x3 _ _ Gy4.out HOS5.out).mono ?_
  rintro e y5 ⟨rfl, hb⟩
  clear HOS5
  have Ry5_c := hide (Ry4_c.out.below hb Ry4_c.out.lt)
  have Ry5_s := hide (Ry4_s.out.below hb Ry4_s.out.lt)
  have Ry5_m := hide (Ry4_m.out.below hb Ry4_m.out.lt)
  have Ry5_x := hide (Ry4_x.out.below hb Ry4_x.out.lt)
  have Gy5 := hide (Gy4.out.trans (hb.mono Gy4.out.size))
  clear hb
  go_wp2_with fail
  go_ret
  exact ⟨rfl, Gy5.out⟩
end Go.Proofs.YtmmcoedgoekhgaaGreatDoor
