/-
  Apply (printed by gen_r9.py).
-/
import Derived.Test.YtlohfoggcdaeiaaGreatRApp3
namespace Go.Proofs.YtlohfoggcdaeiaaGreat
open Go.RowKit S
set_option linter.unusedVariables false
set_option linter.unusedSimpArgs false
open Cu (nb be hl ofL CW Mw CR Mr RS takeS takeA hOf nil8 num doneS)
def apOk [Inhabited S.Tbl] (s : St) (lo lp : List Upd) (ls : List Slot) (r : Rc) (lr : List Upd) : Bool :=
  validR r lr && (
    if r.kind = 1 then nextA lo lp r.upd == 0
    else if r.kind = 2 then sgOk s lo r.idx r.co r.cp
    else if r.kind = 3 then cmOk s lo lp r.idx lr
    else if r.kind = 4 then rvOk s ls r.idx r.sec
    else if r.kind = 5 then true
    else r.idx == s.loc)
def newS (s : St) (lp : List Upd) (r : Rc) (lr : List Upd) : St :=
  if r.kind = 1 then s
  else if r.kind = 2 then ⟨s.side, s.cap, s.bo, s.bp, s.ours, s.peers, s.loc, r.idx, s.ack, s.ao, s.ap, r.co, r.cp, s.ho, s.hp, true, s.p0, s.p1, s.sig, s.shelf, s.fail, s.closed⟩
  else if r.kind = 3 then ⟨s.side, s.cap, s.bo, s.bp, s.ours, s.peers, r.idx, s.rem, s.ack, s.ho, ((lp.take s.ap.toNat ++ lr).length : Int), s.so, s.sp, s.ho, s.hp, false, s.p0, s.p1, r.sig, s.shelf, s.fail, s.closed⟩
  else if r.kind = 4 then ⟨s.side, s.cap, s.bo, s.bp, s.ours, s.peers, s.loc, s.rem, (wrap64 (s.ack + 1)), s.ao, s.ap, s.so, s.sp, s.so, s.sp, s.beh, s.p1, r.pt, s.sig, s.shelf, s.fail, s.closed⟩
  else if r.kind = 5 then ⟨s.side, s.cap, s.bo, s.bp, s.ours, s.peers, s.loc, s.rem, s.ack, s.ao, s.ap, s.so, s.sp, s.ho, s.hp, s.beh, s.p0, s.p1, s.sig, s.shelf, (if s.fail = 0 then r.code else s.fail), s.closed⟩
  else ⟨s.side, s.cap, s.bo, s.bp, s.ours, s.peers, s.loc, s.rem, s.ack, s.ao, s.ap, s.so, s.sp, s.ho, s.hp, s.beh, s.p0, s.p1, s.sig, s.shelf, s.fail, r.idx⟩
def newO (lo : List Upd) (r : Rc) : List Upd := if r.kind = 1 then lo ++ [r.upd] else lo
def newP (s : St) (lp : List Upd) (r : Rc) (lr : List Upd) : List Upd := if r.kind = 3 then lp.take s.ap.toNat ++ lr else lp
def newF [Inhabited S.Tbl] (ls : List Slot) (r : Rc) : List Slot := if r.kind = 4 then (putA ls r.idx r.sec).1 else ls
/-- What Apply answers, and where its lists lie. -/
def ApP [Inhabited S.Tbl] (B : Nat) (s : St) (lo lp : List Upd) (ls : List Slot) (r : Rc) (lr : List Upd) (e : Ending) (w : World) : Prop :=
  (apOk s lo lp ls r lr = true ∧ ∃ x1 x2 x3 : Sl, e = .returned (.tuple #[.agg (tabv (setSl (newS s lp r lr) x1 x2 x3).v 115), .int .i64 0]) ∧ OS B w (setSl (newS s lp r lr) x1 x2 x3) (newO lo r) (newP s lp r lr) (newF ls r)) ∨
  (apOk s lo lp ls r lr = false ∧ e = .returned (.tuple #[.agg (tabv St.zero.v 115), .int .i64 170]))
set_option maxRecDepth 100000 in
theorem builtSZ : Tryz.prog.built 31 [] = some (tabv St.zero.v 115) := by kernel_rfl
theorem resSt (w : World) (g : Nat) (f : Nat → Value) (tmps : Array Value) (k : Value) (c t : Nat) (hg : Has w g 31 f 115) (hp : tmps.getD c undef = .pointer (some ⟨g, 0, none⟩)) (hq : tmps.getD t undef = k) (fn : Func) (h : fn.results = #[.cell c 31, .tmp t]) :
    (results fn tmps).run Tryz.prog w = .ok (.tuple #[.agg (tabv f 115), k]) w := by
  have := run_loadVar_row (P := Tryz.prog) w g 31 31 (tabv f 115) (0, 0) _ hg Tryz.underlying31 rfl (by rw [tabv_size]; exact infoSt)
  simp only [Array.getD_eq_getD_getElem?] at hp hq
  simp [results, h, hp, hq, asAddr, this]
set_option maxRecDepth 100000 in
set_option maxHeartbeats 40000000 in
theorem apply_bad [Inhabited S.Tbl] (s : St) (lo lp : List Upd) (ls : List Slot) (hno : lo.length = s.ours.n) (hnp : lp.length = s.peers.n) (hns : ls.length = s.shelf.n) (zo : lo.length * 72 ≤ 140737488355328) (zp : lp.length * 72 ≤ 140737488355328) (zs : ls.length * 48 ≤ 140737488355328) (r : Rc) (lr : List Upd) (hnr : lr.length = r.upds.n) (w : World) (hO : Upds w s.ours.ad lo) (hP : Upds w s.peers.ad lp) (hH : Slots w s.shelf.ad ls) (hR : Upds w r.upds.ad lr) (hG : Glob num w) (hv : validR r lr = false) : Calls Tryz.prog 10 #[.agg (tabv s.v 115), .agg (tabv r.v 138)] w fun e w' => Below w.heap.size w w' ∧ ApP w.heap.size s lo lp ls r lr e w' := by
  obtain ⟨w3, hW⟩ : ∃ w3, ((w.alloc (.cells (tabv s.v 115) 31)).alloc (.cells (tabv r.v 138) 38)).alloc (.cells Tryz.zeroCells31 31) = w3 := ⟨_, rfl⟩
  have r1 : Has w3 w.heap.size 31 s.v 115 := by rw [← hW]; exact ((Has.new w 31 s.v 115 _ rfl).old _).old _
  have r2 : Has w3 (w.heap.size + 1) 38 r.v 138 := by
    rw [← hW]
    have := (Has.new (w.alloc (.cells (tabv s.v 115) 31)) 38 r.v 138 _ rfl).old (.cells Tryz.zeroCells31 31)
    rw [size_alloc] at this
    exact this
  have r3 : Has w3 (w.heap.size + 2) 31 St.zero.v 115 := by
    rw [← hW, zeroSt]
    have := Has.new ((w.alloc (.cells (tabv s.v 115) 31)).alloc (.cells (tabv r.v 138) 38)) 31 St.zero.v 115 _ rfl
    rw [size_alloc, size_alloc] at this
    exact this
  have gb : Below w.heap.size w w3 := by rw [← hW]; exact (((Below.refl w.heap.size w).alloc (Nat.le_refl _) _).alloc (by simp) _).alloc (by simp only [size_alloc]; omega) _
  have OF := of_any r lr hnr w3 (hR.below gb)
  rw [hv] at OF
  have R2 := hide r2
  have OF := hide OF
  have HX : Hid (apOk s lo lp ls r lr = false) := by show _ = _; unfold apOk; rw [hv]; rfl
  clear hv r2
  go_enter Tryz.func10, Tryz.ntmps10
  go_wp2_with (first | refine wpW_load_at 38 _ rfl (w.heap.size + 1) (0) (by rfl) (by rfl) _ 138 _ (R2.out.at_ 0 (by omega) (fun i hi => by rw [Nat.zero_add])) Tryz.underlying38 rfl infoRc ?_ | fail)
  refine OF.out.mono ?_
  rintro e w4 ⟨rfl, hb4⟩
  have R3 := hide (r3.below hb4 r3.lt)
  have g4 : Below w.heap.size w w4 := gb.trans (hb4.mono gb.size)
  clear OF hW r1 r3 gb hb4 R2
  go_wp2_with (first | refine wpW_build (by rfl) 31 #[] rfl [] (by first | rfl | (simp [Act.eval, Act.put]; done)) _ builtSZ ?_ | refine wpList_storeSt rfl _ _ rfl rfl (w.heap.size + 2) (St.zero) rfl rfl _ R3.out ?_ | fail)
  (try simp only [Exit.inBlock, Exit.then])
  exact bodyPost_ret (resSt _ (w.heap.size + 2) _ _ (.int .i64 170) 4 5 (R3.out.row _ St.zero.v rfl) rfl rfl _ rfl) rfl ⟨below_setRow g4 (by omega) _, .inr ⟨HX.out, rfl⟩⟩
set_option maxRecDepth 100000 in
set_option maxHeartbeats 40000000 in
theorem apply_1n [Inhabited S.Tbl] (s : St) (lo lp : List Upd) (ls : List Slot) (hno : lo.length = s.ours.n) (hnp : lp.length = s.peers.n) (hns : ls.length = s.shelf.n) (zo : lo.length * 72 ≤ 140737488355328) (zp : lp.length * 72 ≤ 140737488355328) (zs : ls.length * 48 ≤ 140737488355328) (r : Rc) (lr : List Upd) (hnr : lr.length = r.upds.n) (w : World) (hO : Upds w s.ours.ad lo) (hP : Upds w s.peers.ad lp) (hH : Slots w s.shelf.ad ls) (hR : Upds w r.upds.ad lr) (hG : Glob num w) (hk : r.kind = 1) (hv : validR r lr = true) (hok : (nextA lo lp r.upd == 0) = false) : Calls Tryz.prog 10 #[.agg (tabv s.v 115), .agg (tabv r.v 138)] w fun e w' => Below w.heap.size w w' ∧ ApP w.heap.size s lo lp ls r lr e w' := by
  obtain ⟨w3, hW⟩ : ∃ w3, ((w.alloc (.cells (tabv s.v 115) 31)).alloc (.cells (tabv r.v 138) 38)).alloc (.cells Tryz.zeroCells31 31) = w3 := ⟨_, rfl⟩
  have r1 : Has w3 w.heap.size 31 s.v 115 := by rw [← hW]; exact ((Has.new w 31 s.v 115 _ rfl).old _).old _
  have r2 : Has w3 (w.heap.size + 1) 38 r.v 138 := by
    rw [← hW]
    have := (Has.new (w.alloc (.cells (tabv s.v 115) 31)) 38 r.v 138 _ rfl).old (.cells Tryz.zeroCells31 31)
    rw [size_alloc] at this
    exact this
  have r3 : Has w3 (w.heap.size + 2) 31 St.zero.v 115 := by
    rw [← hW, zeroSt]
    have := Has.new ((w.alloc (.cells (tabv s.v 115) 31)).alloc (.cells (tabv r.v 138) 38)) 31 St.zero.v 115 _ rfl
    rw [size_alloc, size_alloc] at this
    exact this
  have gb : Below w.heap.size w w3 := by rw [← hW]; exact (((Below.refl w.heap.size w).alloc (Nat.le_refl _) _).alloc (by simp) _).alloc (by simp only [size_alloc]; omega) _
  have OF := of_any r lr hnr w3 (hR.below gb)
  rw [hv] at OF
  have HC : Hid (chV r = .iface 99 (.agg (tabv r.upd.v 36))) := by show _ = _; unfold chV; rw [hk]; rfl
  rw [HC.out] at OF
  have OF := hide OF
  have HX : Hid (apOk s lo lp ls r lr = false) := by show _ = _; unfold apOk; rw [hv, hk]; exact hok
  have MA : Hid (∀ w : World, (method 304 99 (.agg (tabv r.upd.v 36)) "escrow/record.apply").run Tryz.prog w = .ok (128, .agg (tabv r.upd.v 36)) w) := fun w => by kernel_rfl
  have h2 : 2 ≤ w.heap.size := hG.2.2
  have CP := hide (fun (wx : World) (hb : Below w.heap.size w wx) => copied_any s lo lp ls hno hnp hns zo zp zs wx (hO.below hb) (hP.below hb) (hH.below hb))
  have AC := hide (fun (x1 x2 x3 : Sl) (wx : World) (g : Below w.heap.size w wx) (A : AB w.heap.size w.heap.size (w.heap.size + 2) (setSl s x1 x2 x3) lo lp ls wx) => aOurs_no r.upd w.heap.size w.heap.size (w.heap.size + 2) (setSl s x1 x2 x3) lo lp ls wx A (by show x1.n ≤ _; have := A.os.o.sl.1; have e : (setSl s x1 x2 x3).ours.n = x1.n := rfl; omega) (by show x2.n ≤ _; have := A.os.p.sl.1; have e : (setSl s x1 x2 x3).peers.n = x2.n := rfl; omega) (hG.below g h2) h2 (fun e => by rw [e] at hok; cases hok))
  have R2 := hide r2
  clear hv hk hok hno hnp hns zo zp zs hnr hO hP hH hR hG r2 HC
  go_enter Tryz.func10, Tryz.ntmps10
  go_wp2_with (first | refine wpW_load_at 38 _ rfl (w.heap.size + 1) (0) (by rfl) (by rfl) _ 138 _ (R2.out.at_ 0 (by omega) (fun i hi => by rw [Nat.zero_add])) Tryz.underlying38 rfl infoRc ?_ | fail)
  refine OF.out.mono ?_
  rintro e w4 ⟨rfl, hb4⟩
  have R3 := r3.below hb4 r3.lt
  have R1 := hide (r1.below hb4 r1.lt)
  have g4 : Below w.heap.size w w4 := gb.trans (hb4.mono gb.size)
  clear OF hW r1 r3 gb hb4 R2
  go_wp2_with (first | refine wpW_load_at 31 _ rfl (w.heap.size) (0) (by rfl) (by rfl) _ 115 _ (R1.out.at_ 0 (by omega) (fun i hi => by rw [Nat.zero_add])) Tryz.underlying31 rfl infoSt ?_ | fail)
  refine (CP.out _ g4).mono ?_
  rintro e w5 ⟨⟨x1, x2, x3, rfl, hOS⟩, hb5⟩
  have q1 := hide (R1.out.below hb5 R1.out.lt)
  have q3 := R3.below hb5 R3.lt
  have g5 : Below w.heap.size w w5 := g4.trans (hb5.mono g4.size)
  have hs4 := R3.lt
  obtain ⟨w6, hW6⟩ : ∃ w6, w5.setRow w.heap.size (tabv (setSl s x1 x2 x3).v 115) = w6 := ⟨_, rfl⟩
  have A6 : AB w.heap.size w.heap.size (w.heap.size + 2) (setSl s x1 x2 x3) lo lp ls w6 := by
    rw [← hW6]
    refine ⟨q1.out.row _ _ rfl, (hOS.same (fun k hk => setRow_other _ _ _ _ (by have := (hOS.o.lt k hk).1; omega)) (fun k hk => setRow_other _ _ _ _ (by have := (hOS.p.lt k hk).1; omega)) (fun k hk => setRow_other _ _ _ _ (by have := (hOS.f.lt k hk).1; omega))).mono g4.size, Nat.le_refl _, ⟨fun e => ?_, fun e => ?_, fun e => ?_⟩, q3.row_other _ _ (by omega), by omega, fun e => ?_, fun e => ?_, fun e => ?_⟩
    · have := (hOS.o.lt _ e).1; omega
    · have := (hOS.p.lt _ e).1; omega
    · have := (hOS.f.lt _ e).1; omega
    · have := (hOS.o.lt _ e).1; omega
    · have := (hOS.p.lt _ e).1; omega
    · have := (hOS.f.lt _ e).1; omega
  have g6 : Below w.heap.size w w6 := by rw [← hW6]; exact below_setRow g5 (Nat.le_refl _) _
  clear hOS hb5 q3 g5 hs4 CP R1 R3 g4
  have MA' := MA.out
  have CT := AC.out x1 x2 x3 w6 g6 A6
  have CT := hide CT
  clear AC A6
  go_wp2_with (first | rw [hW6] | refine wpList_storeSt rfl _ _ rfl rfl (w.heap.size) (setSl s x1 x2 x3) rfl rfl _ q1.out ?_ | fail)
  try rw [hW6]
  refine CT.out.mono ?_
  rintro e w7 ⟨rfl, hb7, K7⟩
  have g7 : Below w.heap.size w w7 := g6.trans hb7
  have K7 := hide K7
  clear CT MA' MA hb7 g6 q1 hW6
  go_wp2_with (first | refine wpW_build (by rfl) 31 #[] rfl [] (by first | rfl | (simp [Act.eval, Act.put]; done)) _ builtSZ ?_ | refine wpList_storeSt rfl _ _ rfl rfl (w.heap.size + 2) (St.zero) rfl rfl _ K7.out ?_ | fail)
  (try simp only [Exit.inBlock, Exit.then])
  exact bodyPost_ret (resSt _ (w.heap.size + 2) _ _ (.int .i64 170) 4 5 (K7.out.row _ St.zero.v rfl) rfl rfl _ rfl) rfl ⟨below_setRow g7 (by omega) _, .inr ⟨HX.out, rfl⟩⟩
set_option maxRecDepth 100000 in
set_option maxHeartbeats 40000000 in
theorem apply_1y [Inhabited S.Tbl] (s : St) (lo lp : List Upd) (ls : List Slot) (hno : lo.length = s.ours.n) (hnp : lp.length = s.peers.n) (hns : ls.length = s.shelf.n) (zo : lo.length * 72 ≤ 140737488355328) (zp : lp.length * 72 ≤ 140737488355328) (zs : ls.length * 48 ≤ 140737488355328) (r : Rc) (lr : List Upd) (hnr : lr.length = r.upds.n) (w : World) (hO : Upds w s.ours.ad lo) (hP : Upds w s.peers.ad lp) (hH : Slots w s.shelf.ad ls) (hR : Upds w r.upds.ad lr) (hG : Glob num w) (hk : r.kind = 1) (hv : validR r lr = true) (hok : (nextA lo lp r.upd == 0) = true) : Calls Tryz.prog 10 #[.agg (tabv s.v 115), .agg (tabv r.v 138)] w fun e w' => Below w.heap.size w w' ∧ ApP w.heap.size s lo lp ls r lr e w' := by
  obtain ⟨w3, hW⟩ : ∃ w3, ((w.alloc (.cells (tabv s.v 115) 31)).alloc (.cells (tabv r.v 138) 38)).alloc (.cells Tryz.zeroCells31 31) = w3 := ⟨_, rfl⟩
  have r1 : Has w3 w.heap.size 31 s.v 115 := by rw [← hW]; exact ((Has.new w 31 s.v 115 _ rfl).old _).old _
  have r2 : Has w3 (w.heap.size + 1) 38 r.v 138 := by
    rw [← hW]
    have := (Has.new (w.alloc (.cells (tabv s.v 115) 31)) 38 r.v 138 _ rfl).old (.cells Tryz.zeroCells31 31)
    rw [size_alloc] at this
    exact this
  have r3 : Has w3 (w.heap.size + 2) 31 St.zero.v 115 := by
    rw [← hW, zeroSt]
    have := Has.new ((w.alloc (.cells (tabv s.v 115) 31)).alloc (.cells (tabv r.v 138) 38)) 31 St.zero.v 115 _ rfl
    rw [size_alloc, size_alloc] at this
    exact this
  have gb : Below w.heap.size w w3 := by rw [← hW]; exact (((Below.refl w.heap.size w).alloc (Nat.le_refl _) _).alloc (by simp) _).alloc (by simp only [size_alloc]; omega) _
  have OF := of_any r lr hnr w3 (hR.below gb)
  rw [hv] at OF
  have HC : Hid (chV r = .iface 99 (.agg (tabv r.upd.v 36))) := by show _ = _; unfold chV; rw [hk]; rfl
  rw [HC.out] at OF
  have OF := hide OF
  have HX : Hid (apOk s lo lp ls r lr = true) := by show _ = _; unfold apOk; rw [hv, hk]; exact hok
  have MA : Hid (∀ w : World, (method 304 99 (.agg (tabv r.upd.v 36)) "escrow/record.apply").run Tryz.prog w = .ok (128, .agg (tabv r.upd.v 36)) w) := fun w => by kernel_rfl
  have HN : Hid (∀ y1 y2 y3 : Sl, setSl (newS s lp r lr) y1 y2 y3 = setSl s y1 y2 y3) := fun y1 y2 y3 => by unfold newS; rw [hk]; rfl
  have HL : Hid (newO lo r = lo ++ [r.upd] ∧ newP s lp r lr = lp ∧ newF ls r = ls) := ⟨by unfold newO; rw [hk]; rfl, by unfold newP; rw [hk]; rfl, by unfold newF; rw [hk]; rfl⟩
  have h2 : 2 ≤ w.heap.size := hG.2.2
  have CP := hide (fun (wx : World) (hb : Below w.heap.size w wx) => copied_any s lo lp ls hno hnp hns zo zp zs wx (hO.below hb) (hP.below hb) (hH.below hb))
  have AC := hide (fun (x1 x2 x3 : Sl) (wx : World) (g : Below w.heap.size w wx) (A : AB w.heap.size w.heap.size (w.heap.size + 2) (setSl s x1 x2 x3) lo lp ls wx) => aOurs_yes r.upd w.heap.size w.heap.size (w.heap.size + 2) (setSl s x1 x2 x3) lo lp ls wx A (by show x1.n ≤ _; have := A.os.o.sl.1; have e : (setSl s x1 x2 x3).ours.n = x1.n := rfl; omega) (by show x2.n ≤ _; have := A.os.p.sl.1; have e : (setSl s x1 x2 x3).peers.n = x2.n := rfl; omega) (hG.below g h2) h2 (eq_of_beq hok))
  have R2 := hide r2
  clear hv hk hok hno hnp hns zo zp zs hnr hO hP hH hR hG r2 HC
  go_enter Tryz.func10, Tryz.ntmps10
  go_wp2_with (first | refine wpW_load_at 38 _ rfl (w.heap.size + 1) (0) (by rfl) (by rfl) _ 138 _ (R2.out.at_ 0 (by omega) (fun i hi => by rw [Nat.zero_add])) Tryz.underlying38 rfl infoRc ?_ | fail)
  refine OF.out.mono ?_
  rintro e w4 ⟨rfl, hb4⟩
  have R3 := r3.below hb4 r3.lt
  have R1 := hide (r1.below hb4 r1.lt)
  have g4 : Below w.heap.size w w4 := gb.trans (hb4.mono gb.size)
  clear OF hW r1 r3 gb hb4 R2
  go_wp2_with (first | refine wpW_load_at 31 _ rfl (w.heap.size) (0) (by rfl) (by rfl) _ 115 _ (R1.out.at_ 0 (by omega) (fun i hi => by rw [Nat.zero_add])) Tryz.underlying31 rfl infoSt ?_ | fail)
  refine (CP.out _ g4).mono ?_
  rintro e w5 ⟨⟨x1, x2, x3, rfl, hOS⟩, hb5⟩
  have q1 := hide (R1.out.below hb5 R1.out.lt)
  have q3 := R3.below hb5 R3.lt
  have g5 : Below w.heap.size w w5 := g4.trans (hb5.mono g4.size)
  have hs4 := R3.lt
  obtain ⟨w6, hW6⟩ : ∃ w6, w5.setRow w.heap.size (tabv (setSl s x1 x2 x3).v 115) = w6 := ⟨_, rfl⟩
  have A6 : AB w.heap.size w.heap.size (w.heap.size + 2) (setSl s x1 x2 x3) lo lp ls w6 := by
    rw [← hW6]
    refine ⟨q1.out.row _ _ rfl, (hOS.same (fun k hk => setRow_other _ _ _ _ (by have := (hOS.o.lt k hk).1; omega)) (fun k hk => setRow_other _ _ _ _ (by have := (hOS.p.lt k hk).1; omega)) (fun k hk => setRow_other _ _ _ _ (by have := (hOS.f.lt k hk).1; omega))).mono g4.size, Nat.le_refl _, ⟨fun e => ?_, fun e => ?_, fun e => ?_⟩, q3.row_other _ _ (by omega), by omega, fun e => ?_, fun e => ?_, fun e => ?_⟩
    · have := (hOS.o.lt _ e).1; omega
    · have := (hOS.p.lt _ e).1; omega
    · have := (hOS.f.lt _ e).1; omega
    · have := (hOS.o.lt _ e).1; omega
    · have := (hOS.p.lt _ e).1; omega
    · have := (hOS.f.lt _ e).1; omega
  have g6 : Below w.heap.size w w6 := by rw [← hW6]; exact below_setRow g5 (Nat.le_refl _) _
  clear hOS hb5 q3 g5 hs4 CP R1 R3 g4
  have MA' := MA.out
  have CT := AC.out x1 x2 x3 w6 g6 A6
  have CT := hide CT
  clear AC A6
  go_wp2_with (first | rw [hW6] | refine wpList_storeSt rfl _ _ rfl rfl (w.heap.size) (setSl s x1 x2 x3) rfl rfl _ q1.out ?_ | fail)
  try rw [hW6]
  refine CT.out.mono ?_
  rintro e w7 ⟨rfl, hb7, x, A7⟩
  have g7 : Below w.heap.size w w7 := g6.trans hb7
  have A7 : AB w.heap.size w.heap.size (w.heap.size + 2) (setSl (newS s lp r lr) x x2 x3) (newO lo r) (newP s lp r lr) (newF ls r) w7 := by
    rw [HN.out, HL.out.1, HL.out.2.1, HL.out.2.2]; exact A7
  obtain ⟨sN, hsN⟩ : ∃ sN, setSl (newS s lp r lr) x x2 x3 = sN := ⟨_, rfl⟩
  have HSN := hide hsN
  rw [hsN] at A7
  have K7 := hide A7.kp
  have Q7 := hide A7.st
  clear CT MA' MA hb7 g6 q1 hW6 HN HL hsN
  go_wp2_with (first | refine wpW_load_at 31 _ rfl (w.heap.size) (0) (by rfl) (by rfl) _ 115 _ (Q7.out.at_ 0 (by omega) (fun i hi => by rw [Nat.zero_add])) Tryz.underlying31 rfl infoSt ?_ | refine wpList_storeSt rfl _ _ rfl rfl (w.heap.size + 2) (sN) rfl rfl _ K7.out ?_ | fail)
  (try simp only [Exit.inBlock, Exit.then])
  exact bodyPost_ret (resSt _ (w.heap.size + 2) _ _ (.int .i64 0) 4 5 (K7.out.row _ sN.v rfl) rfl rfl _ rfl) rfl ⟨below_setRow g7 (by omega) _, .inl ⟨HX.out, x, x2, x3, by rw [HSN.out], by rw [HSN.out]; exact A7.os.same (fun k hk => setRow_other _ _ _ _ (fun e => A7.nz.2.1 (e ▸ hk))) (fun k hk => setRow_other _ _ _ _ (fun e => A7.nz.2.2.1 (e ▸ hk))) (fun k hk => setRow_other _ _ _ _ (fun e => A7.nz.2.2.2 (e ▸ hk)))⟩⟩
set_option maxRecDepth 100000 in
set_option maxHeartbeats 40000000 in
theorem apply_2n [Inhabited S.Tbl] (s : St) (lo lp : List Upd) (ls : List Slot) (hno : lo.length = s.ours.n) (hnp : lp.length = s.peers.n) (hns : ls.length = s.shelf.n) (zo : lo.length * 72 ≤ 140737488355328) (zp : lp.length * 72 ≤ 140737488355328) (zs : ls.length * 48 ≤ 140737488355328) (r : Rc) (lr : List Upd) (hnr : lr.length = r.upds.n) (w : World) (hO : Upds w s.ours.ad lo) (hP : Upds w s.peers.ad lp) (hH : Slots w s.shelf.ad ls) (hR : Upds w r.upds.ad lr) (hG : Glob num w) (hk : r.kind = 2) (hv : validR r lr = true) (hok : sgOk s lo r.idx r.co r.cp = false) : Calls Tryz.prog 10 #[.agg (tabv s.v 115), .agg (tabv r.v 138)] w fun e w' => Below w.heap.size w w' ∧ ApP w.heap.size s lo lp ls r lr e w' := by
  have hokx := hide hok
  obtain ⟨w3, hW⟩ : ∃ w3, ((w.alloc (.cells (tabv s.v 115) 31)).alloc (.cells (tabv r.v 138) 38)).alloc (.cells Tryz.zeroCells31 31) = w3 := ⟨_, rfl⟩
  have r1 : Has w3 w.heap.size 31 s.v 115 := by rw [← hW]; exact ((Has.new w 31 s.v 115 _ rfl).old _).old _
  have r2 : Has w3 (w.heap.size + 1) 38 r.v 138 := by
    rw [← hW]
    have := (Has.new (w.alloc (.cells (tabv s.v 115) 31)) 38 r.v 138 _ rfl).old (.cells Tryz.zeroCells31 31)
    rw [size_alloc] at this
    exact this
  have r3 : Has w3 (w.heap.size + 2) 31 St.zero.v 115 := by
    rw [← hW, zeroSt]
    have := Has.new ((w.alloc (.cells (tabv s.v 115) 31)).alloc (.cells (tabv r.v 138) 38)) 31 St.zero.v 115 _ rfl
    rw [size_alloc, size_alloc] at this
    exact this
  have gb : Below w.heap.size w w3 := by rw [← hW]; exact (((Below.refl w.heap.size w).alloc (Nat.le_refl _) _).alloc (by simp) _).alloc (by simp only [size_alloc]; omega) _
  have OF := of_any r lr hnr w3 (hR.below gb)
  rw [hv] at OF
  have HC : Hid (chV r = .iface 101 (.agg (tabv (Sg.v ⟨r.idx, r.co, r.cp⟩) 3))) := by show _ = _; unfold chV; rw [hk]; rfl
  rw [HC.out] at OF
  have OF := hide OF
  have HX : Hid (apOk s lo lp ls r lr = false) := by show _ = _; unfold apOk; rw [hv, hk]; exact hok
  have MA : Hid (∀ w : World, (method 304 101 (.agg (tabv (Sg.v ⟨r.idx, r.co, r.cp⟩) 3)) "escrow/record.apply").run Tryz.prog w = .ok (155, .agg (tabv (Sg.v ⟨r.idx, r.co, r.cp⟩) 3)) w) := fun w => by kernel_rfl
  have h2 : 2 ≤ w.heap.size := hG.2.2
  have CP := hide (fun (wx : World) (hb : Below w.heap.size w wx) => copied_any s lo lp ls hno hnp hns zo zp zs wx (hO.below hb) (hP.below hb) (hH.below hb))
  have AC := hide (fun (x1 x2 x3 : Sl) (wx : World) (g : Below w.heap.size w wx) (A : AB w.heap.size w.heap.size (w.heap.size + 2) (setSl s x1 x2 x3) lo lp ls wx) => aSigned_no r.idx r.co r.cp w.heap.size w.heap.size (w.heap.size + 2) (setSl s x1 x2 x3) lo lp ls wx A hok)
  have R2 := hide r2
  clear hv hk hok hno hnp hns zo zp zs hnr hO hP hH hR hG r2 HC
  go_enter Tryz.func10, Tryz.ntmps10
  go_wp2_with (first | refine wpW_load_at 38 _ rfl (w.heap.size + 1) (0) (by rfl) (by rfl) _ 138 _ (R2.out.at_ 0 (by omega) (fun i hi => by rw [Nat.zero_add])) Tryz.underlying38 rfl infoRc ?_ | fail)
  refine OF.out.mono ?_
  rintro e w4 ⟨rfl, hb4⟩
  have R3 := r3.below hb4 r3.lt
  have R1 := hide (r1.below hb4 r1.lt)
  have g4 : Below w.heap.size w w4 := gb.trans (hb4.mono gb.size)
  clear OF hW r1 r3 gb hb4 R2
  go_wp2_with (first | refine wpW_load_at 31 _ rfl (w.heap.size) (0) (by rfl) (by rfl) _ 115 _ (R1.out.at_ 0 (by omega) (fun i hi => by rw [Nat.zero_add])) Tryz.underlying31 rfl infoSt ?_ | fail)
  refine (CP.out _ g4).mono ?_
  rintro e w5 ⟨⟨x1, x2, x3, rfl, hOS⟩, hb5⟩
  have q1 := hide (R1.out.below hb5 R1.out.lt)
  have q3 := R3.below hb5 R3.lt
  have g5 : Below w.heap.size w w5 := g4.trans (hb5.mono g4.size)
  have hs4 := R3.lt
  obtain ⟨w6, hW6⟩ : ∃ w6, w5.setRow w.heap.size (tabv (setSl s x1 x2 x3).v 115) = w6 := ⟨_, rfl⟩
  have A6 : AB w.heap.size w.heap.size (w.heap.size + 2) (setSl s x1 x2 x3) lo lp ls w6 := by
    rw [← hW6]
    refine ⟨q1.out.row _ _ rfl, (hOS.same (fun k hk => setRow_other _ _ _ _ (by have := (hOS.o.lt k hk).1; omega)) (fun k hk => setRow_other _ _ _ _ (by have := (hOS.p.lt k hk).1; omega)) (fun k hk => setRow_other _ _ _ _ (by have := (hOS.f.lt k hk).1; omega))).mono g4.size, Nat.le_refl _, ⟨fun e => ?_, fun e => ?_, fun e => ?_⟩, q3.row_other _ _ (by omega), by omega, fun e => ?_, fun e => ?_, fun e => ?_⟩
    · have := (hOS.o.lt _ e).1; omega
    · have := (hOS.p.lt _ e).1; omega
    · have := (hOS.f.lt _ e).1; omega
    · have := (hOS.o.lt _ e).1; omega
    · have := (hOS.p.lt _ e).1; omega
    · have := (hOS.f.lt _ e).1; omega
  have g6 : Below w.heap.size w w6 := by rw [← hW6]; exact below_setRow g5 (Nat.le_refl _) _
  clear hOS hb5 q3 g5 hs4 CP R1 R3 g4
  have MA' := MA.out
  have CT := AC.out x1 x2 x3 w6 g6 A6
  rw [show sgOk (setSl s x1 x2 x3) lo r.idx r.co r.cp = false from hokx.out] at CT
  have CT := hide CT
  clear AC A6
  go_wp2_with (first | rw [hW6] | refine wpList_storeSt rfl _ _ rfl rfl (w.heap.size) (setSl s x1 x2 x3) rfl rfl _ q1.out ?_ | fail)
  try rw [hW6]
  refine CT.out.mono ?_
  rintro e w7 ⟨rfl, hb7, K7⟩
  have g7 : Below w.heap.size w w7 := g6.trans hb7
  have K7 := hide K7
  clear CT MA' MA hb7 g6 q1 hW6
  go_wp2_with (first | refine wpW_build (by rfl) 31 #[] rfl [] (by first | rfl | (simp [Act.eval, Act.put]; done)) _ builtSZ ?_ | refine wpList_storeSt rfl _ _ rfl rfl (w.heap.size + 2) (St.zero) rfl rfl _ K7.out ?_ | fail)
  (try simp only [Exit.inBlock, Exit.then])
  exact bodyPost_ret (resSt _ (w.heap.size + 2) _ _ (.int .i64 170) 4 5 (K7.out.row _ St.zero.v rfl) rfl rfl _ rfl) rfl ⟨below_setRow g7 (by omega) _, .inr ⟨HX.out, rfl⟩⟩
set_option maxRecDepth 100000 in
set_option maxHeartbeats 40000000 in
theorem apply_2y [Inhabited S.Tbl] (s : St) (lo lp : List Upd) (ls : List Slot) (hno : lo.length = s.ours.n) (hnp : lp.length = s.peers.n) (hns : ls.length = s.shelf.n) (zo : lo.length * 72 ≤ 140737488355328) (zp : lp.length * 72 ≤ 140737488355328) (zs : ls.length * 48 ≤ 140737488355328) (r : Rc) (lr : List Upd) (hnr : lr.length = r.upds.n) (w : World) (hO : Upds w s.ours.ad lo) (hP : Upds w s.peers.ad lp) (hH : Slots w s.shelf.ad ls) (hR : Upds w r.upds.ad lr) (hG : Glob num w) (hk : r.kind = 2) (hv : validR r lr = true) (hok : sgOk s lo r.idx r.co r.cp = true) : Calls Tryz.prog 10 #[.agg (tabv s.v 115), .agg (tabv r.v 138)] w fun e w' => Below w.heap.size w w' ∧ ApP w.heap.size s lo lp ls r lr e w' := by
  have hokx := hide hok
  obtain ⟨w3, hW⟩ : ∃ w3, ((w.alloc (.cells (tabv s.v 115) 31)).alloc (.cells (tabv r.v 138) 38)).alloc (.cells Tryz.zeroCells31 31) = w3 := ⟨_, rfl⟩
  have r1 : Has w3 w.heap.size 31 s.v 115 := by rw [← hW]; exact ((Has.new w 31 s.v 115 _ rfl).old _).old _
  have r2 : Has w3 (w.heap.size + 1) 38 r.v 138 := by
    rw [← hW]
    have := (Has.new (w.alloc (.cells (tabv s.v 115) 31)) 38 r.v 138 _ rfl).old (.cells Tryz.zeroCells31 31)
    rw [size_alloc] at this
    exact this
  have r3 : Has w3 (w.heap.size + 2) 31 St.zero.v 115 := by
    rw [← hW, zeroSt]
    have := Has.new ((w.alloc (.cells (tabv s.v 115) 31)).alloc (.cells (tabv r.v 138) 38)) 31 St.zero.v 115 _ rfl
    rw [size_alloc, size_alloc] at this
    exact this
  have gb : Below w.heap.size w w3 := by rw [← hW]; exact (((Below.refl w.heap.size w).alloc (Nat.le_refl _) _).alloc (by simp) _).alloc (by simp only [size_alloc]; omega) _
  have OF := of_any r lr hnr w3 (hR.below gb)
  rw [hv] at OF
  have HC : Hid (chV r = .iface 101 (.agg (tabv (Sg.v ⟨r.idx, r.co, r.cp⟩) 3))) := by show _ = _; unfold chV; rw [hk]; rfl
  rw [HC.out] at OF
  have OF := hide OF
  have HX : Hid (apOk s lo lp ls r lr = true) := by show _ = _; unfold apOk; rw [hv, hk]; exact hok
  have MA : Hid (∀ w : World, (method 304 101 (.agg (tabv (Sg.v ⟨r.idx, r.co, r.cp⟩) 3)) "escrow/record.apply").run Tryz.prog w = .ok (155, .agg (tabv (Sg.v ⟨r.idx, r.co, r.cp⟩) 3)) w) := fun w => by kernel_rfl
  have HN : Hid (∀ y1 y2 y3 : Sl, setSl (newS s lp r lr) y1 y2 y3 = setSl (⟨s.side, s.cap, s.bo, s.bp, s.ours, s.peers, s.loc, r.idx, s.ack, s.ao, s.ap, r.co, r.cp, s.ho, s.hp, true, s.p0, s.p1, s.sig, s.shelf, s.fail, s.closed⟩ : St) y1 y2 y3) := fun y1 y2 y3 => by unfold newS; rw [hk]; rfl
  have HL : Hid (newO lo r = lo ∧ newP s lp r lr = lp ∧ newF ls r = ls) := ⟨by unfold newO; rw [hk]; rfl, by unfold newP; rw [hk]; rfl, by unfold newF; rw [hk]; rfl⟩
  have h2 : 2 ≤ w.heap.size := hG.2.2
  have CP := hide (fun (wx : World) (hb : Below w.heap.size w wx) => copied_any s lo lp ls hno hnp hns zo zp zs wx (hO.below hb) (hP.below hb) (hH.below hb))
  have AC := hide (fun (x1 x2 x3 : Sl) (wx : World) (g : Below w.heap.size w wx) (A : AB w.heap.size w.heap.size (w.heap.size + 2) (setSl s x1 x2 x3) lo lp ls wx) => aSigned_yes r.idx r.co r.cp w.heap.size w.heap.size (w.heap.size + 2) (setSl s x1 x2 x3) lo lp ls wx A hok)
  have R2 := hide r2
  clear hv hk hok hno hnp hns zo zp zs hnr hO hP hH hR hG r2 HC
  go_enter Tryz.func10, Tryz.ntmps10
  go_wp2_with (first | refine wpW_load_at 38 _ rfl (w.heap.size + 1) (0) (by rfl) (by rfl) _ 138 _ (R2.out.at_ 0 (by omega) (fun i hi => by rw [Nat.zero_add])) Tryz.underlying38 rfl infoRc ?_ | fail)
  refine OF.out.mono ?_
  rintro e w4 ⟨rfl, hb4⟩
  have R3 := r3.below hb4 r3.lt
  have R1 := hide (r1.below hb4 r1.lt)
  have g4 : Below w.heap.size w w4 := gb.trans (hb4.mono gb.size)
  clear OF hW r1 r3 gb hb4 R2
  go_wp2_with (first | refine wpW_load_at 31 _ rfl (w.heap.size) (0) (by rfl) (by rfl) _ 115 _ (R1.out.at_ 0 (by omega) (fun i hi => by rw [Nat.zero_add])) Tryz.underlying31 rfl infoSt ?_ | fail)
  refine (CP.out _ g4).mono ?_
  rintro e w5 ⟨⟨x1, x2, x3, rfl, hOS⟩, hb5⟩
  have q1 := hide (R1.out.below hb5 R1.out.lt)
  have q3 := R3.below hb5 R3.lt
  have g5 : Below w.heap.size w w5 := g4.trans (hb5.mono g4.size)
  have hs4 := R3.lt
  obtain ⟨w6, hW6⟩ : ∃ w6, w5.setRow w.heap.size (tabv (setSl s x1 x2 x3).v 115) = w6 := ⟨_, rfl⟩
  have A6 : AB w.heap.size w.heap.size (w.heap.size + 2) (setSl s x1 x2 x3) lo lp ls w6 := by
    rw [← hW6]
    refine ⟨q1.out.row _ _ rfl, (hOS.same (fun k hk => setRow_other _ _ _ _ (by have := (hOS.o.lt k hk).1; omega)) (fun k hk => setRow_other _ _ _ _ (by have := (hOS.p.lt k hk).1; omega)) (fun k hk => setRow_other _ _ _ _ (by have := (hOS.f.lt k hk).1; omega))).mono g4.size, Nat.le_refl _, ⟨fun e => ?_, fun e => ?_, fun e => ?_⟩, q3.row_other _ _ (by omega), by omega, fun e => ?_, fun e => ?_, fun e => ?_⟩
    · have := (hOS.o.lt _ e).1; omega
    · have := (hOS.p.lt _ e).1; omega
    · have := (hOS.f.lt _ e).1; omega
    · have := (hOS.o.lt _ e).1; omega
    · have := (hOS.p.lt _ e).1; omega
    · have := (hOS.f.lt _ e).1; omega
  have g6 : Below w.heap.size w w6 := by rw [← hW6]; exact below_setRow g5 (Nat.le_refl _) _
  clear hOS hb5 q3 g5 hs4 CP R1 R3 g4
  have MA' := MA.out
  have CT := AC.out x1 x2 x3 w6 g6 A6
  rw [show sgOk (setSl s x1 x2 x3) lo r.idx r.co r.cp = true from hokx.out] at CT
  have CT := hide CT
  clear AC A6
  go_wp2_with (first | rw [hW6] | refine wpList_storeSt rfl _ _ rfl rfl (w.heap.size) (setSl s x1 x2 x3) rfl rfl _ q1.out ?_ | fail)
  try rw [hW6]
  refine CT.out.mono ?_
  rintro e w7 ⟨rfl, hb7, A7⟩
  have g7 : Below w.heap.size w w7 := g6.trans hb7
  have A7 : AB w.heap.size w.heap.size (w.heap.size + 2) (setSl (newS s lp r lr) x1 x2 x3) (newO lo r) (newP s lp r lr) (newF ls r) w7 := by
    rw [HN.out, HL.out.1, HL.out.2.1, HL.out.2.2]; exact A7
  obtain ⟨sN, hsN⟩ : ∃ sN, setSl (newS s lp r lr) x1 x2 x3 = sN := ⟨_, rfl⟩
  have HSN := hide hsN
  rw [hsN] at A7
  have K7 := hide A7.kp
  have Q7 := hide A7.st
  clear CT MA' MA hb7 g6 q1 hW6 HN HL hsN
  go_wp2_with (first | refine wpW_load_at 31 _ rfl (w.heap.size) (0) (by rfl) (by rfl) _ 115 _ (Q7.out.at_ 0 (by omega) (fun i hi => by rw [Nat.zero_add])) Tryz.underlying31 rfl infoSt ?_ | refine wpList_storeSt rfl _ _ rfl rfl (w.heap.size + 2) (sN) rfl rfl _ K7.out ?_ | fail)
  (try simp only [Exit.inBlock, Exit.then])
  exact bodyPost_ret (resSt _ (w.heap.size + 2) _ _ (.int .i64 0) 4 5 (K7.out.row _ sN.v rfl) rfl rfl _ rfl) rfl ⟨below_setRow g7 (by omega) _, .inl ⟨HX.out, x1, x2, x3, by rw [HSN.out], by rw [HSN.out]; exact A7.os.same (fun k hk => setRow_other _ _ _ _ (fun e => A7.nz.2.1 (e ▸ hk))) (fun k hk => setRow_other _ _ _ _ (fun e => A7.nz.2.2.1 (e ▸ hk))) (fun k hk => setRow_other _ _ _ _ (fun e => A7.nz.2.2.2 (e ▸ hk)))⟩⟩
set_option maxRecDepth 100000 in
set_option maxHeartbeats 40000000 in
theorem apply_3n [Inhabited S.Tbl] (s : St) (lo lp : List Upd) (ls : List Slot) (hno : lo.length = s.ours.n) (hnp : lp.length = s.peers.n) (hns : ls.length = s.shelf.n) (zo : lo.length * 72 ≤ 140737488355328) (zp : lp.length * 72 ≤ 140737488355328) (zs : ls.length * 48 ≤ 140737488355328) (r : Rc) (lr : List Upd) (hnr : lr.length = r.upds.n) (w : World) (hO : Upds w s.ours.ad lo) (hP : Upds w s.peers.ad lp) (hH : Slots w s.shelf.ad ls) (hR : Upds w r.upds.ad lr) (hG : Glob num w) (hk : r.kind = 3) (hv : validR r lr = true) (hok : cmOk s lo lp r.idx lr = false) : Calls Tryz.prog 10 #[.agg (tabv s.v 115), .agg (tabv r.v 138)] w fun e w' => Below w.heap.size w w' ∧ ApP w.heap.size s lo lp ls r lr e w' := by
  have hokx := hide hok
  obtain ⟨w3, hW⟩ : ∃ w3, ((w.alloc (.cells (tabv s.v 115) 31)).alloc (.cells (tabv r.v 138) 38)).alloc (.cells Tryz.zeroCells31 31) = w3 := ⟨_, rfl⟩
  have r1 : Has w3 w.heap.size 31 s.v 115 := by rw [← hW]; exact ((Has.new w 31 s.v 115 _ rfl).old _).old _
  have r2 : Has w3 (w.heap.size + 1) 38 r.v 138 := by
    rw [← hW]
    have := (Has.new (w.alloc (.cells (tabv s.v 115) 31)) 38 r.v 138 _ rfl).old (.cells Tryz.zeroCells31 31)
    rw [size_alloc] at this
    exact this
  have r3 : Has w3 (w.heap.size + 2) 31 St.zero.v 115 := by
    rw [← hW, zeroSt]
    have := Has.new ((w.alloc (.cells (tabv s.v 115) 31)).alloc (.cells (tabv r.v 138) 38)) 31 St.zero.v 115 _ rfl
    rw [size_alloc, size_alloc] at this
    exact this
  have gb : Below w.heap.size w w3 := by rw [← hW]; exact (((Below.refl w.heap.size w).alloc (Nat.le_refl _) _).alloc (by simp) _).alloc (by simp only [size_alloc]; omega) _
  have OF := of_any r lr hnr w3 (hR.below gb)
  rw [hv] at OF
  have HC : Hid (chV r = .iface 103 (.agg (tabv (Cm.v ⟨r.idx, r.upds, r.sig⟩) 34))) := by show _ = _; unfold chV; rw [hk]; rfl
  rw [HC.out] at OF
  have OF := hide OF
  have HX : Hid (apOk s lo lp ls r lr = false) := by show _ = _; unfold apOk; rw [hv, hk]; exact hok
  have MA : Hid (∀ w : World, (method 304 103 (.agg (tabv (Cm.v ⟨r.idx, r.upds, r.sig⟩) 34)) "escrow/record.apply").run Tryz.prog w = .ok (160, .agg (tabv (Cm.v ⟨r.idx, r.upds, r.sig⟩) 34)) w) := fun w => by kernel_rfl
  have h5 : r.upds.n ≤ 512 := by have := (validR_own hv).2; unfold ownV at this; rw [hk] at this; simp only [Int.reduceEq, if_true, if_false, reduceIte, Bool.and_eq_true, decide_eq_true_eq] at this; exact this.2.1
  have h2 : 2 ≤ w.heap.size := hG.2.2
  have CP := hide (fun (wx : World) (hb : Below w.heap.size w wx) => copied_any s lo lp ls hno hnp hns zo zp zs wx (hO.below hb) (hP.below hb) (hH.below hb))
  have AC := hide (fun (x1 x2 x3 : Sl) (wx : World) (g : Below w.heap.size w wx) (A : AB w.heap.size w.heap.size (w.heap.size + 2) (setSl s x1 x2 x3) lo lp ls wx) => aCame_any r.idx r.upds.ad r.upds.n r.upds.c r.sig w.heap.size w.heap.size (w.heap.size + 2) (setSl s x1 x2 x3) lo lp ls wx A (by show x1.n ≤ _; have := A.os.o.sl.1; have e : (setSl s x1 x2 x3).ours.n = x1.n := rfl; omega) (by show x2.n ≤ _; have := A.os.p.sl.1; have e : (setSl s x1 x2 x3).peers.n = x2.n := rfl; omega) (hG.below g h2) h2 lr hnr h5 (fun w' hb => hR.below (g.trans hb)))
  have R2 := hide r2
  clear hv hk hok hno hnp hns zo zp zs hnr hO hP hH hR hG r2 HC h5
  go_enter Tryz.func10, Tryz.ntmps10
  go_wp2_with (first | refine wpW_load_at 38 _ rfl (w.heap.size + 1) (0) (by rfl) (by rfl) _ 138 _ (R2.out.at_ 0 (by omega) (fun i hi => by rw [Nat.zero_add])) Tryz.underlying38 rfl infoRc ?_ | fail)
  refine OF.out.mono ?_
  rintro e w4 ⟨rfl, hb4⟩
  have R3 := r3.below hb4 r3.lt
  have R1 := hide (r1.below hb4 r1.lt)
  have g4 : Below w.heap.size w w4 := gb.trans (hb4.mono gb.size)
  clear OF hW r1 r3 gb hb4 R2
  go_wp2_with (first | refine wpW_load_at 31 _ rfl (w.heap.size) (0) (by rfl) (by rfl) _ 115 _ (R1.out.at_ 0 (by omega) (fun i hi => by rw [Nat.zero_add])) Tryz.underlying31 rfl infoSt ?_ | fail)
  refine (CP.out _ g4).mono ?_
  rintro e w5 ⟨⟨x1, x2, x3, rfl, hOS⟩, hb5⟩
  have q1 := hide (R1.out.below hb5 R1.out.lt)
  have q3 := R3.below hb5 R3.lt
  have g5 : Below w.heap.size w w5 := g4.trans (hb5.mono g4.size)
  have hs4 := R3.lt
  obtain ⟨w6, hW6⟩ : ∃ w6, w5.setRow w.heap.size (tabv (setSl s x1 x2 x3).v 115) = w6 := ⟨_, rfl⟩
  have A6 : AB w.heap.size w.heap.size (w.heap.size + 2) (setSl s x1 x2 x3) lo lp ls w6 := by
    rw [← hW6]
    refine ⟨q1.out.row _ _ rfl, (hOS.same (fun k hk => setRow_other _ _ _ _ (by have := (hOS.o.lt k hk).1; omega)) (fun k hk => setRow_other _ _ _ _ (by have := (hOS.p.lt k hk).1; omega)) (fun k hk => setRow_other _ _ _ _ (by have := (hOS.f.lt k hk).1; omega))).mono g4.size, Nat.le_refl _, ⟨fun e => ?_, fun e => ?_, fun e => ?_⟩, q3.row_other _ _ (by omega), by omega, fun e => ?_, fun e => ?_, fun e => ?_⟩
    · have := (hOS.o.lt _ e).1; omega
    · have := (hOS.p.lt _ e).1; omega
    · have := (hOS.f.lt _ e).1; omega
    · have := (hOS.o.lt _ e).1; omega
    · have := (hOS.p.lt _ e).1; omega
    · have := (hOS.f.lt _ e).1; omega
  have g6 : Below w.heap.size w w6 := by rw [← hW6]; exact below_setRow g5 (Nat.le_refl _) _
  clear hOS hb5 q3 g5 hs4 CP R1 R3 g4
  have MA' := MA.out
  have CT := AC.out x1 x2 x3 w6 g6 A6
  rw [show cmOk (setSl s x1 x2 x3) lo lp r.idx lr = false from hokx.out] at CT
  have CT := hide CT
  clear AC A6
  go_wp2_with (first | rw [hW6] | refine wpList_storeSt rfl _ _ rfl rfl (w.heap.size) (setSl s x1 x2 x3) rfl rfl _ q1.out ?_ | fail)
  try rw [hW6]
  refine CT.out.mono ?_
  rintro e w7 ⟨rfl, hb7, K7, _⟩
  have g7 : Below w.heap.size w w7 := g6.trans hb7
  have K7 := hide K7
  clear CT MA' MA hb7 g6 q1 hW6
  go_wp2_with (first | refine wpW_build (by rfl) 31 #[] rfl [] (by first | rfl | (simp [Act.eval, Act.put]; done)) _ builtSZ ?_ | refine wpList_storeSt rfl _ _ rfl rfl (w.heap.size + 2) (St.zero) rfl rfl _ K7.out ?_ | fail)
  (try simp only [Exit.inBlock, Exit.then])
  exact bodyPost_ret (resSt _ (w.heap.size + 2) _ _ (.int .i64 170) 4 5 (K7.out.row _ St.zero.v rfl) rfl rfl _ rfl) rfl ⟨below_setRow g7 (by omega) _, .inr ⟨HX.out, rfl⟩⟩
set_option maxRecDepth 100000 in
set_option maxHeartbeats 40000000 in
theorem apply_3y [Inhabited S.Tbl] (s : St) (lo lp : List Upd) (ls : List Slot) (hno : lo.length = s.ours.n) (hnp : lp.length = s.peers.n) (hns : ls.length = s.shelf.n) (zo : lo.length * 72 ≤ 140737488355328) (zp : lp.length * 72 ≤ 140737488355328) (zs : ls.length * 48 ≤ 140737488355328) (r : Rc) (lr : List Upd) (hnr : lr.length = r.upds.n) (w : World) (hO : Upds w s.ours.ad lo) (hP : Upds w s.peers.ad lp) (hH : Slots w s.shelf.ad ls) (hR : Upds w r.upds.ad lr) (hG : Glob num w) (hk : r.kind = 3) (hv : validR r lr = true) (hok : cmOk s lo lp r.idx lr = true) : Calls Tryz.prog 10 #[.agg (tabv s.v 115), .agg (tabv r.v 138)] w fun e w' => Below w.heap.size w w' ∧ ApP w.heap.size s lo lp ls r lr e w' := by
  have hokx := hide hok
  obtain ⟨w3, hW⟩ : ∃ w3, ((w.alloc (.cells (tabv s.v 115) 31)).alloc (.cells (tabv r.v 138) 38)).alloc (.cells Tryz.zeroCells31 31) = w3 := ⟨_, rfl⟩
  have r1 : Has w3 w.heap.size 31 s.v 115 := by rw [← hW]; exact ((Has.new w 31 s.v 115 _ rfl).old _).old _
  have r2 : Has w3 (w.heap.size + 1) 38 r.v 138 := by
    rw [← hW]
    have := (Has.new (w.alloc (.cells (tabv s.v 115) 31)) 38 r.v 138 _ rfl).old (.cells Tryz.zeroCells31 31)
    rw [size_alloc] at this
    exact this
  have r3 : Has w3 (w.heap.size + 2) 31 St.zero.v 115 := by
    rw [← hW, zeroSt]
    have := Has.new ((w.alloc (.cells (tabv s.v 115) 31)).alloc (.cells (tabv r.v 138) 38)) 31 St.zero.v 115 _ rfl
    rw [size_alloc, size_alloc] at this
    exact this
  have gb : Below w.heap.size w w3 := by rw [← hW]; exact (((Below.refl w.heap.size w).alloc (Nat.le_refl _) _).alloc (by simp) _).alloc (by simp only [size_alloc]; omega) _
  have OF := of_any r lr hnr w3 (hR.below gb)
  rw [hv] at OF
  have HC : Hid (chV r = .iface 103 (.agg (tabv (Cm.v ⟨r.idx, r.upds, r.sig⟩) 34))) := by show _ = _; unfold chV; rw [hk]; rfl
  rw [HC.out] at OF
  have OF := hide OF
  have HX : Hid (apOk s lo lp ls r lr = true) := by show _ = _; unfold apOk; rw [hv, hk]; exact hok
  have MA : Hid (∀ w : World, (method 304 103 (.agg (tabv (Cm.v ⟨r.idx, r.upds, r.sig⟩) 34)) "escrow/record.apply").run Tryz.prog w = .ok (160, .agg (tabv (Cm.v ⟨r.idx, r.upds, r.sig⟩) 34)) w) := fun w => by kernel_rfl
  have HN : Hid (∀ y1 y2 y3 : Sl, setSl (newS s lp r lr) y1 y2 y3 = setSl (⟨s.side, s.cap, s.bo, s.bp, s.ours, s.peers, r.idx, s.rem, s.ack, s.ho, ((lp.take s.ap.toNat ++ lr).length : Int), s.so, s.sp, s.ho, s.hp, false, s.p0, s.p1, r.sig, s.shelf, s.fail, s.closed⟩ : St) y1 y2 y3) := fun y1 y2 y3 => by unfold newS; rw [hk]; rfl
  have HL : Hid (newO lo r = lo ∧ newP s lp r lr = lp.take s.ap.toNat ++ lr ∧ newF ls r = ls) := ⟨by unfold newO; rw [hk]; rfl, by unfold newP; rw [hk]; rfl, by unfold newF; rw [hk]; rfl⟩
  have h5 : r.upds.n ≤ 512 := by have := (validR_own hv).2; unfold ownV at this; rw [hk] at this; simp only [Int.reduceEq, if_true, if_false, reduceIte, Bool.and_eq_true, decide_eq_true_eq] at this; exact this.2.1
  have h2 : 2 ≤ w.heap.size := hG.2.2
  have CP := hide (fun (wx : World) (hb : Below w.heap.size w wx) => copied_any s lo lp ls hno hnp hns zo zp zs wx (hO.below hb) (hP.below hb) (hH.below hb))
  have AC := hide (fun (x1 x2 x3 : Sl) (wx : World) (g : Below w.heap.size w wx) (A : AB w.heap.size w.heap.size (w.heap.size + 2) (setSl s x1 x2 x3) lo lp ls wx) => aCame_any r.idx r.upds.ad r.upds.n r.upds.c r.sig w.heap.size w.heap.size (w.heap.size + 2) (setSl s x1 x2 x3) lo lp ls wx A (by show x1.n ≤ _; have := A.os.o.sl.1; have e : (setSl s x1 x2 x3).ours.n = x1.n := rfl; omega) (by show x2.n ≤ _; have := A.os.p.sl.1; have e : (setSl s x1 x2 x3).peers.n = x2.n := rfl; omega) (hG.below g h2) h2 lr hnr h5 (fun w' hb => hR.below (g.trans hb)))
  have R2 := hide r2
  clear hv hk hok hno hnp hns zo zp zs hnr hO hP hH hR hG r2 HC h5
  go_enter Tryz.func10, Tryz.ntmps10
  go_wp2_with (first | refine wpW_load_at 38 _ rfl (w.heap.size + 1) (0) (by rfl) (by rfl) _ 138 _ (R2.out.at_ 0 (by omega) (fun i hi => by rw [Nat.zero_add])) Tryz.underlying38 rfl infoRc ?_ | fail)
  refine OF.out.mono ?_
  rintro e w4 ⟨rfl, hb4⟩
  have R3 := r3.below hb4 r3.lt
  have R1 := hide (r1.below hb4 r1.lt)
  have g4 : Below w.heap.size w w4 := gb.trans (hb4.mono gb.size)
  clear OF hW r1 r3 gb hb4 R2
  go_wp2_with (first | refine wpW_load_at 31 _ rfl (w.heap.size) (0) (by rfl) (by rfl) _ 115 _ (R1.out.at_ 0 (by omega) (fun i hi => by rw [Nat.zero_add])) Tryz.underlying31 rfl infoSt ?_ | fail)
  refine (CP.out _ g4).mono ?_
  rintro e w5 ⟨⟨x1, x2, x3, rfl, hOS⟩, hb5⟩
  have q1 := hide (R1.out.below hb5 R1.out.lt)
  have q3 := R3.below hb5 R3.lt
  have g5 : Below w.heap.size w w5 := g4.trans (hb5.mono g4.size)
  have hs4 := R3.lt
  obtain ⟨w6, hW6⟩ : ∃ w6, w5.setRow w.heap.size (tabv (setSl s x1 x2 x3).v 115) = w6 := ⟨_, rfl⟩
  have A6 : AB w.heap.size w.heap.size (w.heap.size + 2) (setSl s x1 x2 x3) lo lp ls w6 := by
    rw [← hW6]
    refine ⟨q1.out.row _ _ rfl, (hOS.same (fun k hk => setRow_other _ _ _ _ (by have := (hOS.o.lt k hk).1; omega)) (fun k hk => setRow_other _ _ _ _ (by have := (hOS.p.lt k hk).1; omega)) (fun k hk => setRow_other _ _ _ _ (by have := (hOS.f.lt k hk).1; omega))).mono g4.size, Nat.le_refl _, ⟨fun e => ?_, fun e => ?_, fun e => ?_⟩, q3.row_other _ _ (by omega), by omega, fun e => ?_, fun e => ?_, fun e => ?_⟩
    · have := (hOS.o.lt _ e).1; omega
    · have := (hOS.p.lt _ e).1; omega
    · have := (hOS.f.lt _ e).1; omega
    · have := (hOS.o.lt _ e).1; omega
    · have := (hOS.p.lt _ e).1; omega
    · have := (hOS.f.lt _ e).1; omega
  have g6 : Below w.heap.size w w6 := by rw [← hW6]; exact below_setRow g5 (Nat.le_refl _) _
  clear hOS hb5 q3 g5 hs4 CP R1 R3 g4
  have MA' := MA.out
  have CT := AC.out x1 x2 x3 w6 g6 A6
  rw [show cmOk (setSl s x1 x2 x3) lo lp r.idx lr = true from hokx.out] at CT
  have CT := hide CT
  clear AC A6
  go_wp2_with (first | rw [hW6] | refine wpList_storeSt rfl _ _ rfl rfl (w.heap.size) (setSl s x1 x2 x3) rfl rfl _ q1.out ?_ | fail)
  try rw [hW6]
  refine CT.out.mono ?_
  rintro e w7 ⟨rfl, hb7, _, ab⟩
  obtain ⟨x, A7⟩ := ab rfl
  clear ab
  have g7 : Below w.heap.size w w7 := g6.trans hb7
  have A7 : AB w.heap.size w.heap.size (w.heap.size + 2) (setSl (newS s lp r lr) x1 x x3) (newO lo r) (newP s lp r lr) (newF ls r) w7 := by
    rw [HN.out, HL.out.1, HL.out.2.1, HL.out.2.2]; exact A7
  obtain ⟨sN, hsN⟩ : ∃ sN, setSl (newS s lp r lr) x1 x x3 = sN := ⟨_, rfl⟩
  have HSN := hide hsN
  rw [hsN] at A7
  have K7 := hide A7.kp
  have Q7 := hide A7.st
  clear CT MA' MA hb7 g6 q1 hW6 HN HL hsN
  go_wp2_with (first | refine wpW_load_at 31 _ rfl (w.heap.size) (0) (by rfl) (by rfl) _ 115 _ (Q7.out.at_ 0 (by omega) (fun i hi => by rw [Nat.zero_add])) Tryz.underlying31 rfl infoSt ?_ | refine wpList_storeSt rfl _ _ rfl rfl (w.heap.size + 2) (sN) rfl rfl _ K7.out ?_ | fail)
  (try simp only [Exit.inBlock, Exit.then])
  exact bodyPost_ret (resSt _ (w.heap.size + 2) _ _ (.int .i64 0) 4 5 (K7.out.row _ sN.v rfl) rfl rfl _ rfl) rfl ⟨below_setRow g7 (by omega) _, .inl ⟨HX.out, x1, x, x3, by rw [HSN.out], by rw [HSN.out]; exact A7.os.same (fun k hk => setRow_other _ _ _ _ (fun e => A7.nz.2.1 (e ▸ hk))) (fun k hk => setRow_other _ _ _ _ (fun e => A7.nz.2.2.1 (e ▸ hk))) (fun k hk => setRow_other _ _ _ _ (fun e => A7.nz.2.2.2 (e ▸ hk)))⟩⟩
set_option maxRecDepth 100000 in
set_option maxHeartbeats 40000000 in
theorem apply_4n [Inhabited S.Tbl] (s : St) (lo lp : List Upd) (ls : List Slot) (hno : lo.length = s.ours.n) (hnp : lp.length = s.peers.n) (hns : ls.length = s.shelf.n) (zo : lo.length * 72 ≤ 140737488355328) (zp : lp.length * 72 ≤ 140737488355328) (zs : ls.length * 48 ≤ 140737488355328) (r : Rc) (lr : List Upd) (hnr : lr.length = r.upds.n) (w : World) (hO : Upds w s.ours.ad lo) (hP : Upds w s.peers.ad lp) (hH : Slots w s.shelf.ad ls) (hR : Upds w r.upds.ad lr) (hG : Glob num w) (hk : r.kind = 4) (hv : validR r lr = true) (hok : rvOk s ls r.idx r.sec = false) : Calls Tryz.prog 10 #[.agg (tabv s.v 115), .agg (tabv r.v 138)] w fun e w' => Below w.heap.size w w' ∧ ApP w.heap.size s lo lp ls r lr e w' := by
  have hokx := hide hok
  obtain ⟨w3, hW⟩ : ∃ w3, ((w.alloc (.cells (tabv s.v 115) 31)).alloc (.cells (tabv r.v 138) 38)).alloc (.cells Tryz.zeroCells31 31) = w3 := ⟨_, rfl⟩
  have r1 : Has w3 w.heap.size 31 s.v 115 := by rw [← hW]; exact ((Has.new w 31 s.v 115 _ rfl).old _).old _
  have r2 : Has w3 (w.heap.size + 1) 38 r.v 138 := by
    rw [← hW]
    have := (Has.new (w.alloc (.cells (tabv s.v 115) 31)) 38 r.v 138 _ rfl).old (.cells Tryz.zeroCells31 31)
    rw [size_alloc] at this
    exact this
  have r3 : Has w3 (w.heap.size + 2) 31 St.zero.v 115 := by
    rw [← hW, zeroSt]
    have := Has.new ((w.alloc (.cells (tabv s.v 115) 31)).alloc (.cells (tabv r.v 138) 38)) 31 St.zero.v 115 _ rfl
    rw [size_alloc, size_alloc] at this
    exact this
  have gb : Below w.heap.size w w3 := by rw [← hW]; exact (((Below.refl w.heap.size w).alloc (Nat.le_refl _) _).alloc (by simp) _).alloc (by simp only [size_alloc]; omega) _
  have OF := of_any r lr hnr w3 (hR.below gb)
  rw [hv] at OF
  have HC : Hid (chV r = .iface 105 (.agg (tabv (Rv.v ⟨r.idx, r.sec, r.pt⟩) 65))) := by show _ = _; unfold chV; rw [hk]; rfl
  rw [HC.out] at OF
  have OF := hide OF
  have HX : Hid (apOk s lo lp ls r lr = false) := by show _ = _; unfold apOk; rw [hv, hk]; exact hok
  have MA : Hid (∀ w : World, (method 304 105 (.agg (tabv (Rv.v ⟨r.idx, r.sec, r.pt⟩) 65)) "escrow/record.apply").run Tryz.prog w = .ok (163, .agg (tabv (Rv.v ⟨r.idx, r.sec, r.pt⟩) 65)) w) := fun w => by kernel_rfl
  have h2 : 2 ≤ w.heap.size := hG.2.2
  have CP := hide (fun (wx : World) (hb : Below w.heap.size w wx) => copied_any s lo lp ls hno hnp hns zo zp zs wx (hO.below hb) (hP.below hb) (hH.below hb))
  have AC := hide (fun (x1 x2 x3 : Sl) (wx : World) (g : Below w.heap.size w wx) (A : AB w.heap.size w.heap.size (w.heap.size + 2) (setSl s x1 x2 x3) lo lp ls wx) => aRevoked_no r.idx r.sec r.pt w.heap.size w.heap.size (w.heap.size + 2) (setSl s x1 x2 x3) lo lp ls wx A (hG.below g h2) h2 hok)
  have R2 := hide r2
  clear hv hk hok hno hnp hns zo zp zs hnr hO hP hH hR hG r2 HC
  go_enter Tryz.func10, Tryz.ntmps10
  go_wp2_with (first | refine wpW_load_at 38 _ rfl (w.heap.size + 1) (0) (by rfl) (by rfl) _ 138 _ (R2.out.at_ 0 (by omega) (fun i hi => by rw [Nat.zero_add])) Tryz.underlying38 rfl infoRc ?_ | fail)
  refine OF.out.mono ?_
  rintro e w4 ⟨rfl, hb4⟩
  have R3 := r3.below hb4 r3.lt
  have R1 := hide (r1.below hb4 r1.lt)
  have g4 : Below w.heap.size w w4 := gb.trans (hb4.mono gb.size)
  clear OF hW r1 r3 gb hb4 R2
  go_wp2_with (first | refine wpW_load_at 31 _ rfl (w.heap.size) (0) (by rfl) (by rfl) _ 115 _ (R1.out.at_ 0 (by omega) (fun i hi => by rw [Nat.zero_add])) Tryz.underlying31 rfl infoSt ?_ | fail)
  refine (CP.out _ g4).mono ?_
  rintro e w5 ⟨⟨x1, x2, x3, rfl, hOS⟩, hb5⟩
  have q1 := hide (R1.out.below hb5 R1.out.lt)
  have q3 := R3.below hb5 R3.lt
  have g5 : Below w.heap.size w w5 := g4.trans (hb5.mono g4.size)
  have hs4 := R3.lt
  obtain ⟨w6, hW6⟩ : ∃ w6, w5.setRow w.heap.size (tabv (setSl s x1 x2 x3).v 115) = w6 := ⟨_, rfl⟩
  have A6 : AB w.heap.size w.heap.size (w.heap.size + 2) (setSl s x1 x2 x3) lo lp ls w6 := by
    rw [← hW6]
    refine ⟨q1.out.row _ _ rfl, (hOS.same (fun k hk => setRow_other _ _ _ _ (by have := (hOS.o.lt k hk).1; omega)) (fun k hk => setRow_other _ _ _ _ (by have := (hOS.p.lt k hk).1; omega)) (fun k hk => setRow_other _ _ _ _ (by have := (hOS.f.lt k hk).1; omega))).mono g4.size, Nat.le_refl _, ⟨fun e => ?_, fun e => ?_, fun e => ?_⟩, q3.row_other _ _ (by omega), by omega, fun e => ?_, fun e => ?_, fun e => ?_⟩
    · have := (hOS.o.lt _ e).1; omega
    · have := (hOS.p.lt _ e).1; omega
    · have := (hOS.f.lt _ e).1; omega
    · have := (hOS.o.lt _ e).1; omega
    · have := (hOS.p.lt _ e).1; omega
    · have := (hOS.f.lt _ e).1; omega
  have g6 : Below w.heap.size w w6 := by rw [← hW6]; exact below_setRow g5 (Nat.le_refl _) _
  clear hOS hb5 q3 g5 hs4 CP R1 R3 g4
  have MA' := MA.out
  have CT := AC.out x1 x2 x3 w6 g6 A6
  rw [show rvOk (setSl s x1 x2 x3) ls r.idx r.sec = false from hokx.out] at CT
  have CT := hide CT
  clear AC A6
  go_wp2_with (first | rw [hW6] | refine wpList_storeSt rfl _ _ rfl rfl (w.heap.size) (setSl s x1 x2 x3) rfl rfl _ q1.out ?_ | fail)
  try rw [hW6]
  refine CT.out.mono ?_
  rintro e w7 ⟨rfl, hb7, K7⟩
  have g7 : Below w.heap.size w w7 := g6.trans hb7
  have K7 := hide K7
  clear CT MA' MA hb7 g6 q1 hW6
  go_wp2_with (first | refine wpW_build (by rfl) 31 #[] rfl [] (by first | rfl | (simp [Act.eval, Act.put]; done)) _ builtSZ ?_ | refine wpList_storeSt rfl _ _ rfl rfl (w.heap.size + 2) (St.zero) rfl rfl _ K7.out ?_ | fail)
  (try simp only [Exit.inBlock, Exit.then])
  exact bodyPost_ret (resSt _ (w.heap.size + 2) _ _ (.int .i64 170) 4 5 (K7.out.row _ St.zero.v rfl) rfl rfl _ rfl) rfl ⟨below_setRow g7 (by omega) _, .inr ⟨HX.out, rfl⟩⟩
set_option maxRecDepth 100000 in
set_option maxHeartbeats 40000000 in
theorem apply_4y [Inhabited S.Tbl] (s : St) (lo lp : List Upd) (ls : List Slot) (hno : lo.length = s.ours.n) (hnp : lp.length = s.peers.n) (hns : ls.length = s.shelf.n) (zo : lo.length * 72 ≤ 140737488355328) (zp : lp.length * 72 ≤ 140737488355328) (zs : ls.length * 48 ≤ 140737488355328) (r : Rc) (lr : List Upd) (hnr : lr.length = r.upds.n) (w : World) (hO : Upds w s.ours.ad lo) (hP : Upds w s.peers.ad lp) (hH : Slots w s.shelf.ad ls) (hR : Upds w r.upds.ad lr) (hG : Glob num w) (hk : r.kind = 4) (hv : validR r lr = true) (hok : rvOk s ls r.idx r.sec = true) : Calls Tryz.prog 10 #[.agg (tabv s.v 115), .agg (tabv r.v 138)] w fun e w' => Below w.heap.size w w' ∧ ApP w.heap.size s lo lp ls r lr e w' := by
  have hokx := hide hok
  obtain ⟨w3, hW⟩ : ∃ w3, ((w.alloc (.cells (tabv s.v 115) 31)).alloc (.cells (tabv r.v 138) 38)).alloc (.cells Tryz.zeroCells31 31) = w3 := ⟨_, rfl⟩
  have r1 : Has w3 w.heap.size 31 s.v 115 := by rw [← hW]; exact ((Has.new w 31 s.v 115 _ rfl).old _).old _
  have r2 : Has w3 (w.heap.size + 1) 38 r.v 138 := by
    rw [← hW]
    have := (Has.new (w.alloc (.cells (tabv s.v 115) 31)) 38 r.v 138 _ rfl).old (.cells Tryz.zeroCells31 31)
    rw [size_alloc] at this
    exact this
  have r3 : Has w3 (w.heap.size + 2) 31 St.zero.v 115 := by
    rw [← hW, zeroSt]
    have := Has.new ((w.alloc (.cells (tabv s.v 115) 31)).alloc (.cells (tabv r.v 138) 38)) 31 St.zero.v 115 _ rfl
    rw [size_alloc, size_alloc] at this
    exact this
  have gb : Below w.heap.size w w3 := by rw [← hW]; exact (((Below.refl w.heap.size w).alloc (Nat.le_refl _) _).alloc (by simp) _).alloc (by simp only [size_alloc]; omega) _
  have OF := of_any r lr hnr w3 (hR.below gb)
  rw [hv] at OF
  have HC : Hid (chV r = .iface 105 (.agg (tabv (Rv.v ⟨r.idx, r.sec, r.pt⟩) 65))) := by show _ = _; unfold chV; rw [hk]; rfl
  rw [HC.out] at OF
  have OF := hide OF
  have HX : Hid (apOk s lo lp ls r lr = true) := by show _ = _; unfold apOk; rw [hv, hk]; exact hok
  have MA : Hid (∀ w : World, (method 304 105 (.agg (tabv (Rv.v ⟨r.idx, r.sec, r.pt⟩) 65)) "escrow/record.apply").run Tryz.prog w = .ok (163, .agg (tabv (Rv.v ⟨r.idx, r.sec, r.pt⟩) 65)) w) := fun w => by kernel_rfl
  have HN : Hid (∀ y1 y2 y3 : Sl, setSl (newS s lp r lr) y1 y2 y3 = setSl (⟨s.side, s.cap, s.bo, s.bp, s.ours, s.peers, s.loc, s.rem, (wrap64 (s.ack + 1)), s.ao, s.ap, s.so, s.sp, s.so, s.sp, s.beh, s.p1, r.pt, s.sig, s.shelf, s.fail, s.closed⟩ : St) y1 y2 y3) := fun y1 y2 y3 => by unfold newS; rw [hk]; rfl
  have HL : Hid (newO lo r = lo ∧ newP s lp r lr = lp ∧ newF ls r = (putA ls r.idx r.sec).1) := ⟨by unfold newO; rw [hk]; rfl, by unfold newP; rw [hk]; rfl, by unfold newF; rw [hk]; rfl⟩
  have h2 : 2 ≤ w.heap.size := hG.2.2
  have CP := hide (fun (wx : World) (hb : Below w.heap.size w wx) => copied_any s lo lp ls hno hnp hns zo zp zs wx (hO.below hb) (hP.below hb) (hH.below hb))
  have AC := hide (fun (x1 x2 x3 : Sl) (wx : World) (g : Below w.heap.size w wx) (A : AB w.heap.size w.heap.size (w.heap.size + 2) (setSl s x1 x2 x3) lo lp ls wx) => aRevoked_yes r.idx r.sec r.pt w.heap.size w.heap.size (w.heap.size + 2) (setSl s x1 x2 x3) lo lp ls wx A (hG.below g h2) h2 hok)
  have R2 := hide r2
  clear hv hk hok hno hnp hns zo zp zs hnr hO hP hH hR hG r2 HC
  go_enter Tryz.func10, Tryz.ntmps10
  go_wp2_with (first | refine wpW_load_at 38 _ rfl (w.heap.size + 1) (0) (by rfl) (by rfl) _ 138 _ (R2.out.at_ 0 (by omega) (fun i hi => by rw [Nat.zero_add])) Tryz.underlying38 rfl infoRc ?_ | fail)
  refine OF.out.mono ?_
  rintro e w4 ⟨rfl, hb4⟩
  have R3 := r3.below hb4 r3.lt
  have R1 := hide (r1.below hb4 r1.lt)
  have g4 : Below w.heap.size w w4 := gb.trans (hb4.mono gb.size)
  clear OF hW r1 r3 gb hb4 R2
  go_wp2_with (first | refine wpW_load_at 31 _ rfl (w.heap.size) (0) (by rfl) (by rfl) _ 115 _ (R1.out.at_ 0 (by omega) (fun i hi => by rw [Nat.zero_add])) Tryz.underlying31 rfl infoSt ?_ | fail)
  refine (CP.out _ g4).mono ?_
  rintro e w5 ⟨⟨x1, x2, x3, rfl, hOS⟩, hb5⟩
  have q1 := hide (R1.out.below hb5 R1.out.lt)
  have q3 := R3.below hb5 R3.lt
  have g5 : Below w.heap.size w w5 := g4.trans (hb5.mono g4.size)
  have hs4 := R3.lt
  obtain ⟨w6, hW6⟩ : ∃ w6, w5.setRow w.heap.size (tabv (setSl s x1 x2 x3).v 115) = w6 := ⟨_, rfl⟩
  have A6 : AB w.heap.size w.heap.size (w.heap.size + 2) (setSl s x1 x2 x3) lo lp ls w6 := by
    rw [← hW6]
    refine ⟨q1.out.row _ _ rfl, (hOS.same (fun k hk => setRow_other _ _ _ _ (by have := (hOS.o.lt k hk).1; omega)) (fun k hk => setRow_other _ _ _ _ (by have := (hOS.p.lt k hk).1; omega)) (fun k hk => setRow_other _ _ _ _ (by have := (hOS.f.lt k hk).1; omega))).mono g4.size, Nat.le_refl _, ⟨fun e => ?_, fun e => ?_, fun e => ?_⟩, q3.row_other _ _ (by omega), by omega, fun e => ?_, fun e => ?_, fun e => ?_⟩
    · have := (hOS.o.lt _ e).1; omega
    · have := (hOS.p.lt _ e).1; omega
    · have := (hOS.f.lt _ e).1; omega
    · have := (hOS.o.lt _ e).1; omega
    · have := (hOS.p.lt _ e).1; omega
    · have := (hOS.f.lt _ e).1; omega
  have g6 : Below w.heap.size w w6 := by rw [← hW6]; exact below_setRow g5 (Nat.le_refl _) _
  clear hOS hb5 q3 g5 hs4 CP R1 R3 g4
  have MA' := MA.out
  have CT := AC.out x1 x2 x3 w6 g6 A6
  rw [show rvOk (setSl s x1 x2 x3) ls r.idx r.sec = true from hokx.out] at CT
  have CT := hide CT
  clear AC A6
  go_wp2_with (first | rw [hW6] | refine wpList_storeSt rfl _ _ rfl rfl (w.heap.size) (setSl s x1 x2 x3) rfl rfl _ q1.out ?_ | fail)
  try rw [hW6]
  refine CT.out.mono ?_
  rintro e w7 ⟨rfl, hb7, x, A7⟩
  have g7 : Below w.heap.size w w7 := g6.trans hb7
  have A7 : AB w.heap.size w.heap.size (w.heap.size + 2) (setSl (newS s lp r lr) x1 x2 x) (newO lo r) (newP s lp r lr) (newF ls r) w7 := by
    rw [HN.out, HL.out.1, HL.out.2.1, HL.out.2.2]; exact A7
  obtain ⟨sN, hsN⟩ : ∃ sN, setSl (newS s lp r lr) x1 x2 x = sN := ⟨_, rfl⟩
  have HSN := hide hsN
  rw [hsN] at A7
  have K7 := hide A7.kp
  have Q7 := hide A7.st
  clear CT MA' MA hb7 g6 q1 hW6 HN HL hsN
  go_wp2_with (first | refine wpW_load_at 31 _ rfl (w.heap.size) (0) (by rfl) (by rfl) _ 115 _ (Q7.out.at_ 0 (by omega) (fun i hi => by rw [Nat.zero_add])) Tryz.underlying31 rfl infoSt ?_ | refine wpList_storeSt rfl _ _ rfl rfl (w.heap.size + 2) (sN) rfl rfl _ K7.out ?_ | fail)
  (try simp only [Exit.inBlock, Exit.then])
  exact bodyPost_ret (resSt _ (w.heap.size + 2) _ _ (.int .i64 0) 4 5 (K7.out.row _ sN.v rfl) rfl rfl _ rfl) rfl ⟨below_setRow g7 (by omega) _, .inl ⟨HX.out, x1, x2, x, by rw [HSN.out], by rw [HSN.out]; exact A7.os.same (fun k hk => setRow_other _ _ _ _ (fun e => A7.nz.2.1 (e ▸ hk))) (fun k hk => setRow_other _ _ _ _ (fun e => A7.nz.2.2.1 (e ▸ hk))) (fun k hk => setRow_other _ _ _ _ (fun e => A7.nz.2.2.2 (e ▸ hk)))⟩⟩
set_option maxRecDepth 100000 in
set_option maxHeartbeats 40000000 in
theorem apply_5y [Inhabited S.Tbl] (s : St) (lo lp : List Upd) (ls : List Slot) (hno : lo.length = s.ours.n) (hnp : lp.length = s.peers.n) (hns : ls.length = s.shelf.n) (zo : lo.length * 72 ≤ 140737488355328) (zp : lp.length * 72 ≤ 140737488355328) (zs : ls.length * 48 ≤ 140737488355328) (r : Rc) (lr : List Upd) (hnr : lr.length = r.upds.n) (w : World) (hO : Upds w s.ours.ad lo) (hP : Upds w s.peers.ad lp) (hH : Slots w s.shelf.ad ls) (hR : Upds w r.upds.ad lr) (hG : Glob num w) (hk : r.kind = 5) (hv : validR r lr = true) : Calls Tryz.prog 10 #[.agg (tabv s.v 115), .agg (tabv r.v 138)] w fun e w' => Below w.heap.size w w' ∧ ApP w.heap.size s lo lp ls r lr e w' := by
  obtain ⟨w3, hW⟩ : ∃ w3, ((w.alloc (.cells (tabv s.v 115) 31)).alloc (.cells (tabv r.v 138) 38)).alloc (.cells Tryz.zeroCells31 31) = w3 := ⟨_, rfl⟩
  have r1 : Has w3 w.heap.size 31 s.v 115 := by rw [← hW]; exact ((Has.new w 31 s.v 115 _ rfl).old _).old _
  have r2 : Has w3 (w.heap.size + 1) 38 r.v 138 := by
    rw [← hW]
    have := (Has.new (w.alloc (.cells (tabv s.v 115) 31)) 38 r.v 138 _ rfl).old (.cells Tryz.zeroCells31 31)
    rw [size_alloc] at this
    exact this
  have r3 : Has w3 (w.heap.size + 2) 31 St.zero.v 115 := by
    rw [← hW, zeroSt]
    have := Has.new ((w.alloc (.cells (tabv s.v 115) 31)).alloc (.cells (tabv r.v 138) 38)) 31 St.zero.v 115 _ rfl
    rw [size_alloc, size_alloc] at this
    exact this
  have gb : Below w.heap.size w w3 := by rw [← hW]; exact (((Below.refl w.heap.size w).alloc (Nat.le_refl _) _).alloc (by simp) _).alloc (by simp only [size_alloc]; omega) _
  have OF := of_any r lr hnr w3 (hR.below gb)
  rw [hv] at OF
  have HC : Hid (chV r = .iface 107 (.agg #[.int .i64 r.code])) := by show _ = _; unfold chV; rw [hk]; rfl
  rw [HC.out] at OF
  have OF := hide OF
  have HX : Hid (apOk s lo lp ls r lr = true) := by show _ = _; unfold apOk; rw [hv, hk]; rfl
  have MA : Hid (∀ w : World, (method 304 107 (.agg #[.int .i64 r.code]) "escrow/record.apply").run Tryz.prog w = .ok (178, .agg #[.int .i64 r.code]) w) := fun w => by kernel_rfl
  have HN : Hid (∀ y1 y2 y3 : Sl, setSl (newS s lp r lr) y1 y2 y3 = setSl (⟨s.side, s.cap, s.bo, s.bp, s.ours, s.peers, s.loc, s.rem, s.ack, s.ao, s.ap, s.so, s.sp, s.ho, s.hp, s.beh, s.p0, s.p1, s.sig, s.shelf, (if s.fail = 0 then r.code else s.fail), s.closed⟩ : St) y1 y2 y3) := fun y1 y2 y3 => by unfold newS; rw [hk]; rfl
  have HL : Hid (newO lo r = lo ∧ newP s lp r lr = lp ∧ newF ls r = ls) := ⟨by unfold newO; rw [hk]; rfl, by unfold newP; rw [hk]; rfl, by unfold newF; rw [hk]; rfl⟩
  have h2 : 2 ≤ w.heap.size := hG.2.2
  have CP := hide (fun (wx : World) (hb : Below w.heap.size w wx) => copied_any s lo lp ls hno hnp hns zo zp zs wx (hO.below hb) (hP.below hb) (hH.below hb))
  have AC := hide (fun (x1 x2 x3 : Sl) (wx : World) (g : Below w.heap.size w wx) (A : AB w.heap.size w.heap.size (w.heap.size + 2) (setSl s x1 x2 x3) lo lp ls wx) => aFailed_any r.code w.heap.size w.heap.size (w.heap.size + 2) (setSl s x1 x2 x3) lo lp ls wx A)
  have R2 := hide r2
  clear hv hk hno hnp hns zo zp zs hnr hO hP hH hR hG r2 HC
  go_enter Tryz.func10, Tryz.ntmps10
  go_wp2_with (first | refine wpW_load_at 38 _ rfl (w.heap.size + 1) (0) (by rfl) (by rfl) _ 138 _ (R2.out.at_ 0 (by omega) (fun i hi => by rw [Nat.zero_add])) Tryz.underlying38 rfl infoRc ?_ | fail)
  refine OF.out.mono ?_
  rintro e w4 ⟨rfl, hb4⟩
  have R3 := r3.below hb4 r3.lt
  have R1 := hide (r1.below hb4 r1.lt)
  have g4 : Below w.heap.size w w4 := gb.trans (hb4.mono gb.size)
  clear OF hW r1 r3 gb hb4 R2
  go_wp2_with (first | refine wpW_load_at 31 _ rfl (w.heap.size) (0) (by rfl) (by rfl) _ 115 _ (R1.out.at_ 0 (by omega) (fun i hi => by rw [Nat.zero_add])) Tryz.underlying31 rfl infoSt ?_ | fail)
  refine (CP.out _ g4).mono ?_
  rintro e w5 ⟨⟨x1, x2, x3, rfl, hOS⟩, hb5⟩
  have q1 := hide (R1.out.below hb5 R1.out.lt)
  have q3 := R3.below hb5 R3.lt
  have g5 : Below w.heap.size w w5 := g4.trans (hb5.mono g4.size)
  have hs4 := R3.lt
  obtain ⟨w6, hW6⟩ : ∃ w6, w5.setRow w.heap.size (tabv (setSl s x1 x2 x3).v 115) = w6 := ⟨_, rfl⟩
  have A6 : AB w.heap.size w.heap.size (w.heap.size + 2) (setSl s x1 x2 x3) lo lp ls w6 := by
    rw [← hW6]
    refine ⟨q1.out.row _ _ rfl, (hOS.same (fun k hk => setRow_other _ _ _ _ (by have := (hOS.o.lt k hk).1; omega)) (fun k hk => setRow_other _ _ _ _ (by have := (hOS.p.lt k hk).1; omega)) (fun k hk => setRow_other _ _ _ _ (by have := (hOS.f.lt k hk).1; omega))).mono g4.size, Nat.le_refl _, ⟨fun e => ?_, fun e => ?_, fun e => ?_⟩, q3.row_other _ _ (by omega), by omega, fun e => ?_, fun e => ?_, fun e => ?_⟩
    · have := (hOS.o.lt _ e).1; omega
    · have := (hOS.p.lt _ e).1; omega
    · have := (hOS.f.lt _ e).1; omega
    · have := (hOS.o.lt _ e).1; omega
    · have := (hOS.p.lt _ e).1; omega
    · have := (hOS.f.lt _ e).1; omega
  have g6 : Below w.heap.size w w6 := by rw [← hW6]; exact below_setRow g5 (Nat.le_refl _) _
  clear hOS hb5 q3 g5 hs4 CP R1 R3 g4
  have MA' := MA.out
  have CT := AC.out x1 x2 x3 w6 g6 A6
  have CT := hide CT
  clear AC A6
  go_wp2_with (first | rw [hW6] | refine wpList_storeSt rfl _ _ rfl rfl (w.heap.size) (setSl s x1 x2 x3) rfl rfl _ q1.out ?_ | fail)
  try rw [hW6]
  refine CT.out.mono ?_
  rintro e w7 ⟨rfl, hb7, A7⟩
  have g7 : Below w.heap.size w w7 := g6.trans hb7
  have A7 : AB w.heap.size w.heap.size (w.heap.size + 2) (setSl (newS s lp r lr) x1 x2 x3) (newO lo r) (newP s lp r lr) (newF ls r) w7 := by
    rw [HN.out, HL.out.1, HL.out.2.1, HL.out.2.2]; exact A7
  obtain ⟨sN, hsN⟩ : ∃ sN, setSl (newS s lp r lr) x1 x2 x3 = sN := ⟨_, rfl⟩
  have HSN := hide hsN
  rw [hsN] at A7
  have K7 := hide A7.kp
  have Q7 := hide A7.st
  clear CT MA' MA hb7 g6 q1 hW6 HN HL hsN
  go_wp2_with (first | refine wpW_load_at 31 _ rfl (w.heap.size) (0) (by rfl) (by rfl) _ 115 _ (Q7.out.at_ 0 (by omega) (fun i hi => by rw [Nat.zero_add])) Tryz.underlying31 rfl infoSt ?_ | refine wpList_storeSt rfl _ _ rfl rfl (w.heap.size + 2) (sN) rfl rfl _ K7.out ?_ | fail)
  (try simp only [Exit.inBlock, Exit.then])
  exact bodyPost_ret (resSt _ (w.heap.size + 2) _ _ (.int .i64 0) 4 5 (K7.out.row _ sN.v rfl) rfl rfl _ rfl) rfl ⟨below_setRow g7 (by omega) _, .inl ⟨HX.out, x1, x2, x3, by rw [HSN.out], by rw [HSN.out]; exact A7.os.same (fun k hk => setRow_other _ _ _ _ (fun e => A7.nz.2.1 (e ▸ hk))) (fun k hk => setRow_other _ _ _ _ (fun e => A7.nz.2.2.1 (e ▸ hk))) (fun k hk => setRow_other _ _ _ _ (fun e => A7.nz.2.2.2 (e ▸ hk)))⟩⟩
set_option maxRecDepth 100000 in
set_option maxHeartbeats 40000000 in
theorem apply_6n [Inhabited S.Tbl] (s : St) (lo lp : List Upd) (ls : List Slot) (hno : lo.length = s.ours.n) (hnp : lp.length = s.peers.n) (hns : ls.length = s.shelf.n) (zo : lo.length * 72 ≤ 140737488355328) (zp : lp.length * 72 ≤ 140737488355328) (zs : ls.length * 48 ≤ 140737488355328) (r : Rc) (lr : List Upd) (hnr : lr.length = r.upds.n) (w : World) (hO : Upds w s.ours.ad lo) (hP : Upds w s.peers.ad lp) (hH : Slots w s.shelf.ad ls) (hR : Upds w r.upds.ad lr) (hG : Glob num w) (hk : r.kind = 6) (hv : validR r lr = true) (hok : (r.idx == s.loc) = false) : Calls Tryz.prog 10 #[.agg (tabv s.v 115), .agg (tabv r.v 138)] w fun e w' => Below w.heap.size w w' ∧ ApP w.heap.size s lo lp ls r lr e w' := by
  obtain ⟨w3, hW⟩ : ∃ w3, ((w.alloc (.cells (tabv s.v 115) 31)).alloc (.cells (tabv r.v 138) 38)).alloc (.cells Tryz.zeroCells31 31) = w3 := ⟨_, rfl⟩
  have r1 : Has w3 w.heap.size 31 s.v 115 := by rw [← hW]; exact ((Has.new w 31 s.v 115 _ rfl).old _).old _
  have r2 : Has w3 (w.heap.size + 1) 38 r.v 138 := by
    rw [← hW]
    have := (Has.new (w.alloc (.cells (tabv s.v 115) 31)) 38 r.v 138 _ rfl).old (.cells Tryz.zeroCells31 31)
    rw [size_alloc] at this
    exact this
  have r3 : Has w3 (w.heap.size + 2) 31 St.zero.v 115 := by
    rw [← hW, zeroSt]
    have := Has.new ((w.alloc (.cells (tabv s.v 115) 31)).alloc (.cells (tabv r.v 138) 38)) 31 St.zero.v 115 _ rfl
    rw [size_alloc, size_alloc] at this
    exact this
  have gb : Below w.heap.size w w3 := by rw [← hW]; exact (((Below.refl w.heap.size w).alloc (Nat.le_refl _) _).alloc (by simp) _).alloc (by simp only [size_alloc]; omega) _
  have OF := of_any r lr hnr w3 (hR.below gb)
  rw [hv] at OF
  have HC : Hid (chV r = .iface 109 (.agg #[.int .i64 r.idx])) := by show _ = _; unfold chV; rw [hk]; rfl
  rw [HC.out] at OF
  have OF := hide OF
  have HX : Hid (apOk s lo lp ls r lr = false) := by show _ = _; unfold apOk; rw [hv, hk]; exact hok
  have MA : Hid (∀ w : World, (method 304 109 (.agg #[.int .i64 r.idx]) "escrow/record.apply").run Tryz.prog w = .ok (181, .agg #[.int .i64 r.idx]) w) := fun w => by kernel_rfl
  have h2 : 2 ≤ w.heap.size := hG.2.2
  have CP := hide (fun (wx : World) (hb : Below w.heap.size w wx) => copied_any s lo lp ls hno hnp hns zo zp zs wx (hO.below hb) (hP.below hb) (hH.below hb))
  have AC := hide (fun (x1 x2 x3 : Sl) (wx : World) (g : Below w.heap.size w wx) (A : AB w.heap.size w.heap.size (w.heap.size + 2) (setSl s x1 x2 x3) lo lp ls wx) => aClosed_no r.idx w.heap.size w.heap.size (w.heap.size + 2) (setSl s x1 x2 x3) lo lp ls wx A (ne_of_beq_false hok))
  have R2 := hide r2
  clear hv hk hok hno hnp hns zo zp zs hnr hO hP hH hR hG r2 HC
  go_enter Tryz.func10, Tryz.ntmps10
  go_wp2_with (first | refine wpW_load_at 38 _ rfl (w.heap.size + 1) (0) (by rfl) (by rfl) _ 138 _ (R2.out.at_ 0 (by omega) (fun i hi => by rw [Nat.zero_add])) Tryz.underlying38 rfl infoRc ?_ | fail)
  refine OF.out.mono ?_
  rintro e w4 ⟨rfl, hb4⟩
  have R3 := r3.below hb4 r3.lt
  have R1 := hide (r1.below hb4 r1.lt)
  have g4 : Below w.heap.size w w4 := gb.trans (hb4.mono gb.size)
  clear OF hW r1 r3 gb hb4 R2
  go_wp2_with (first | refine wpW_load_at 31 _ rfl (w.heap.size) (0) (by rfl) (by rfl) _ 115 _ (R1.out.at_ 0 (by omega) (fun i hi => by rw [Nat.zero_add])) Tryz.underlying31 rfl infoSt ?_ | fail)
  refine (CP.out _ g4).mono ?_
  rintro e w5 ⟨⟨x1, x2, x3, rfl, hOS⟩, hb5⟩
  have q1 := hide (R1.out.below hb5 R1.out.lt)
  have q3 := R3.below hb5 R3.lt
  have g5 : Below w.heap.size w w5 := g4.trans (hb5.mono g4.size)
  have hs4 := R3.lt
  obtain ⟨w6, hW6⟩ : ∃ w6, w5.setRow w.heap.size (tabv (setSl s x1 x2 x3).v 115) = w6 := ⟨_, rfl⟩
  have A6 : AB w.heap.size w.heap.size (w.heap.size + 2) (setSl s x1 x2 x3) lo lp ls w6 := by
    rw [← hW6]
    refine ⟨q1.out.row _ _ rfl, (hOS.same (fun k hk => setRow_other _ _ _ _ (by have := (hOS.o.lt k hk).1; omega)) (fun k hk => setRow_other _ _ _ _ (by have := (hOS.p.lt k hk).1; omega)) (fun k hk => setRow_other _ _ _ _ (by have := (hOS.f.lt k hk).1; omega))).mono g4.size, Nat.le_refl _, ⟨fun e => ?_, fun e => ?_, fun e => ?_⟩, q3.row_other _ _ (by omega), by omega, fun e => ?_, fun e => ?_, fun e => ?_⟩
    · have := (hOS.o.lt _ e).1; omega
    · have := (hOS.p.lt _ e).1; omega
    · have := (hOS.f.lt _ e).1; omega
    · have := (hOS.o.lt _ e).1; omega
    · have := (hOS.p.lt _ e).1; omega
    · have := (hOS.f.lt _ e).1; omega
  have g6 : Below w.heap.size w w6 := by rw [← hW6]; exact below_setRow g5 (Nat.le_refl _) _
  clear hOS hb5 q3 g5 hs4 CP R1 R3 g4
  have MA' := MA.out
  have CT := AC.out x1 x2 x3 w6 g6 A6
  have CT := hide CT
  clear AC A6
  go_wp2_with (first | rw [hW6] | refine wpList_storeSt rfl _ _ rfl rfl (w.heap.size) (setSl s x1 x2 x3) rfl rfl _ q1.out ?_ | fail)
  try rw [hW6]
  refine CT.out.mono ?_
  rintro e w7 ⟨rfl, hb7, K7⟩
  have g7 : Below w.heap.size w w7 := g6.trans hb7
  have K7 := hide K7
  clear CT MA' MA hb7 g6 q1 hW6
  go_wp2_with (first | refine wpW_build (by rfl) 31 #[] rfl [] (by first | rfl | (simp [Act.eval, Act.put]; done)) _ builtSZ ?_ | refine wpList_storeSt rfl _ _ rfl rfl (w.heap.size + 2) (St.zero) rfl rfl _ K7.out ?_ | fail)
  (try simp only [Exit.inBlock, Exit.then])
  exact bodyPost_ret (resSt _ (w.heap.size + 2) _ _ (.int .i64 170) 4 5 (K7.out.row _ St.zero.v rfl) rfl rfl _ rfl) rfl ⟨below_setRow g7 (by omega) _, .inr ⟨HX.out, rfl⟩⟩
set_option maxRecDepth 100000 in
set_option maxHeartbeats 40000000 in
theorem apply_6y [Inhabited S.Tbl] (s : St) (lo lp : List Upd) (ls : List Slot) (hno : lo.length = s.ours.n) (hnp : lp.length = s.peers.n) (hns : ls.length = s.shelf.n) (zo : lo.length * 72 ≤ 140737488355328) (zp : lp.length * 72 ≤ 140737488355328) (zs : ls.length * 48 ≤ 140737488355328) (r : Rc) (lr : List Upd) (hnr : lr.length = r.upds.n) (w : World) (hO : Upds w s.ours.ad lo) (hP : Upds w s.peers.ad lp) (hH : Slots w s.shelf.ad ls) (hR : Upds w r.upds.ad lr) (hG : Glob num w) (hk : r.kind = 6) (hv : validR r lr = true) (hok : (r.idx == s.loc) = true) : Calls Tryz.prog 10 #[.agg (tabv s.v 115), .agg (tabv r.v 138)] w fun e w' => Below w.heap.size w w' ∧ ApP w.heap.size s lo lp ls r lr e w' := by
  obtain ⟨w3, hW⟩ : ∃ w3, ((w.alloc (.cells (tabv s.v 115) 31)).alloc (.cells (tabv r.v 138) 38)).alloc (.cells Tryz.zeroCells31 31) = w3 := ⟨_, rfl⟩
  have r1 : Has w3 w.heap.size 31 s.v 115 := by rw [← hW]; exact ((Has.new w 31 s.v 115 _ rfl).old _).old _
  have r2 : Has w3 (w.heap.size + 1) 38 r.v 138 := by
    rw [← hW]
    have := (Has.new (w.alloc (.cells (tabv s.v 115) 31)) 38 r.v 138 _ rfl).old (.cells Tryz.zeroCells31 31)
    rw [size_alloc] at this
    exact this
  have r3 : Has w3 (w.heap.size + 2) 31 St.zero.v 115 := by
    rw [← hW, zeroSt]
    have := Has.new ((w.alloc (.cells (tabv s.v 115) 31)).alloc (.cells (tabv r.v 138) 38)) 31 St.zero.v 115 _ rfl
    rw [size_alloc, size_alloc] at this
    exact this
  have gb : Below w.heap.size w w3 := by rw [← hW]; exact (((Below.refl w.heap.size w).alloc (Nat.le_refl _) _).alloc (by simp) _).alloc (by simp only [size_alloc]; omega) _
  have OF := of_any r lr hnr w3 (hR.below gb)
  rw [hv] at OF
  have HC : Hid (chV r = .iface 109 (.agg #[.int .i64 r.idx])) := by show _ = _; unfold chV; rw [hk]; rfl
  rw [HC.out] at OF
  have OF := hide OF
  have HX : Hid (apOk s lo lp ls r lr = true) := by show _ = _; unfold apOk; rw [hv, hk]; exact hok
  have MA : Hid (∀ w : World, (method 304 109 (.agg #[.int .i64 r.idx]) "escrow/record.apply").run Tryz.prog w = .ok (181, .agg #[.int .i64 r.idx]) w) := fun w => by kernel_rfl
  have HN : Hid (∀ y1 y2 y3 : Sl, setSl (newS s lp r lr) y1 y2 y3 = setSl (⟨s.side, s.cap, s.bo, s.bp, s.ours, s.peers, s.loc, s.rem, s.ack, s.ao, s.ap, s.so, s.sp, s.ho, s.hp, s.beh, s.p0, s.p1, s.sig, s.shelf, s.fail, r.idx⟩ : St) y1 y2 y3) := fun y1 y2 y3 => by unfold newS; rw [hk]; rfl
  have HL : Hid (newO lo r = lo ∧ newP s lp r lr = lp ∧ newF ls r = ls) := ⟨by unfold newO; rw [hk]; rfl, by unfold newP; rw [hk]; rfl, by unfold newF; rw [hk]; rfl⟩
  have h2 : 2 ≤ w.heap.size := hG.2.2
  have CP := hide (fun (wx : World) (hb : Below w.heap.size w wx) => copied_any s lo lp ls hno hnp hns zo zp zs wx (hO.below hb) (hP.below hb) (hH.below hb))
  have AC := hide (fun (x1 x2 x3 : Sl) (wx : World) (g : Below w.heap.size w wx) (A : AB w.heap.size w.heap.size (w.heap.size + 2) (setSl s x1 x2 x3) lo lp ls wx) => aClosed_yes r.idx w.heap.size w.heap.size (w.heap.size + 2) (setSl s x1 x2 x3) lo lp ls wx A (eq_of_beq hok))
  have R2 := hide r2
  clear hv hk hok hno hnp hns zo zp zs hnr hO hP hH hR hG r2 HC
  go_enter Tryz.func10, Tryz.ntmps10
  go_wp2_with (first | refine wpW_load_at 38 _ rfl (w.heap.size + 1) (0) (by rfl) (by rfl) _ 138 _ (R2.out.at_ 0 (by omega) (fun i hi => by rw [Nat.zero_add])) Tryz.underlying38 rfl infoRc ?_ | fail)
  refine OF.out.mono ?_
  rintro e w4 ⟨rfl, hb4⟩
  have R3 := r3.below hb4 r3.lt
  have R1 := hide (r1.below hb4 r1.lt)
  have g4 : Below w.heap.size w w4 := gb.trans (hb4.mono gb.size)
  clear OF hW r1 r3 gb hb4 R2
  go_wp2_with (first | refine wpW_load_at 31 _ rfl (w.heap.size) (0) (by rfl) (by rfl) _ 115 _ (R1.out.at_ 0 (by omega) (fun i hi => by rw [Nat.zero_add])) Tryz.underlying31 rfl infoSt ?_ | fail)
  refine (CP.out _ g4).mono ?_
  rintro e w5 ⟨⟨x1, x2, x3, rfl, hOS⟩, hb5⟩
  have q1 := hide (R1.out.below hb5 R1.out.lt)
  have q3 := R3.below hb5 R3.lt
  have g5 : Below w.heap.size w w5 := g4.trans (hb5.mono g4.size)
  have hs4 := R3.lt
  obtain ⟨w6, hW6⟩ : ∃ w6, w5.setRow w.heap.size (tabv (setSl s x1 x2 x3).v 115) = w6 := ⟨_, rfl⟩
  have A6 : AB w.heap.size w.heap.size (w.heap.size + 2) (setSl s x1 x2 x3) lo lp ls w6 := by
    rw [← hW6]
    refine ⟨q1.out.row _ _ rfl, (hOS.same (fun k hk => setRow_other _ _ _ _ (by have := (hOS.o.lt k hk).1; omega)) (fun k hk => setRow_other _ _ _ _ (by have := (hOS.p.lt k hk).1; omega)) (fun k hk => setRow_other _ _ _ _ (by have := (hOS.f.lt k hk).1; omega))).mono g4.size, Nat.le_refl _, ⟨fun e => ?_, fun e => ?_, fun e => ?_⟩, q3.row_other _ _ (by omega), by omega, fun e => ?_, fun e => ?_, fun e => ?_⟩
    · have := (hOS.o.lt _ e).1; omega
    · have := (hOS.p.lt _ e).1; omega
    · have := (hOS.f.lt _ e).1; omega
    · have := (hOS.o.lt _ e).1; omega
    · have := (hOS.p.lt _ e).1; omega
    · have := (hOS.f.lt _ e).1; omega
  have g6 : Below w.heap.size w w6 := by rw [← hW6]; exact below_setRow g5 (Nat.le_refl _) _
  clear hOS hb5 q3 g5 hs4 CP R1 R3 g4
  have MA' := MA.out
  have CT := AC.out x1 x2 x3 w6 g6 A6
  have CT := hide CT
  clear AC A6
  go_wp2_with (first | rw [hW6] | refine wpList_storeSt rfl _ _ rfl rfl (w.heap.size) (setSl s x1 x2 x3) rfl rfl _ q1.out ?_ | fail)
  try rw [hW6]
  refine CT.out.mono ?_
  rintro e w7 ⟨rfl, hb7, A7⟩
  have g7 : Below w.heap.size w w7 := g6.trans hb7
  have A7 : AB w.heap.size w.heap.size (w.heap.size + 2) (setSl (newS s lp r lr) x1 x2 x3) (newO lo r) (newP s lp r lr) (newF ls r) w7 := by
    rw [HN.out, HL.out.1, HL.out.2.1, HL.out.2.2]; exact A7
  obtain ⟨sN, hsN⟩ : ∃ sN, setSl (newS s lp r lr) x1 x2 x3 = sN := ⟨_, rfl⟩
  have HSN := hide hsN
  rw [hsN] at A7
  have K7 := hide A7.kp
  have Q7 := hide A7.st
  clear CT MA' MA hb7 g6 q1 hW6 HN HL hsN
  go_wp2_with (first | refine wpW_load_at 31 _ rfl (w.heap.size) (0) (by rfl) (by rfl) _ 115 _ (Q7.out.at_ 0 (by omega) (fun i hi => by rw [Nat.zero_add])) Tryz.underlying31 rfl infoSt ?_ | refine wpList_storeSt rfl _ _ rfl rfl (w.heap.size + 2) (sN) rfl rfl _ K7.out ?_ | fail)
  (try simp only [Exit.inBlock, Exit.then])
  exact bodyPost_ret (resSt _ (w.heap.size + 2) _ _ (.int .i64 0) 4 5 (K7.out.row _ sN.v rfl) rfl rfl _ rfl) rfl ⟨below_setRow g7 (by omega) _, .inl ⟨HX.out, x1, x2, x3, by rw [HSN.out], by rw [HSN.out]; exact A7.os.same (fun k hk => setRow_other _ _ _ _ (fun e => A7.nz.2.1 (e ▸ hk))) (fun k hk => setRow_other _ _ _ _ (fun e => A7.nz.2.2.1 (e ▸ hk))) (fun k hk => setRow_other _ _ _ _ (fun e => A7.nz.2.2.2 (e ▸ hk)))⟩⟩
theorem apply_any [Inhabited S.Tbl] (s : St) (lo lp : List Upd) (ls : List Slot) (hno : lo.length = s.ours.n) (hnp : lp.length = s.peers.n) (hns : ls.length = s.shelf.n) (zo : lo.length * 72 ≤ 140737488355328) (zp : lp.length * 72 ≤ 140737488355328) (zs : ls.length * 48 ≤ 140737488355328) (r : Rc) (lr : List Upd) (hnr : lr.length = r.upds.n) (w : World) (hO : Upds w s.ours.ad lo) (hP : Upds w s.peers.ad lp) (hH : Slots w s.shelf.ad ls) (hR : Upds w r.upds.ad lr) (hG : Glob num w) : Calls Tryz.prog 10 #[.agg (tabv s.v 115), .agg (tabv r.v 138)] w fun e w' => Below w.heap.size w w' ∧ ApP w.heap.size s lo lp ls r lr e w' := by
  cases hv : validR r lr with
  | false => exact apply_bad s lo lp ls hno hnp hns zo zp zs r lr hnr w hO hP hH hR hG hv
  | true =>
    have hk : isRec r.kind = true := by unfold validR at hv; simp only [Bool.and_eq_true] at hv; exact hv.1
    unfold isRec at hk
    simp only [Bool.and_eq_true, decide_eq_true_eq] at hk
    rcases (show r.kind = 1 ∨ r.kind = 2 ∨ r.kind = 3 ∨ r.kind = 4 ∨ r.kind = 5 ∨ r.kind = 6 by omega) with h | h | h | h | h | h
    · cases hok : (nextA lo lp r.upd == 0) with
      | false => exact apply_1n s lo lp ls hno hnp hns zo zp zs r lr hnr w hO hP hH hR hG h hv hok
      | true => exact apply_1y s lo lp ls hno hnp hns zo zp zs r lr hnr w hO hP hH hR hG h hv hok
    · cases hok : sgOk s lo r.idx r.co r.cp with
      | false => exact apply_2n s lo lp ls hno hnp hns zo zp zs r lr hnr w hO hP hH hR hG h hv hok
      | true => exact apply_2y s lo lp ls hno hnp hns zo zp zs r lr hnr w hO hP hH hR hG h hv hok
    · cases hok : cmOk s lo lp r.idx lr with
      | false => exact apply_3n s lo lp ls hno hnp hns zo zp zs r lr hnr w hO hP hH hR hG h hv hok
      | true => exact apply_3y s lo lp ls hno hnp hns zo zp zs r lr hnr w hO hP hH hR hG h hv hok
    · cases hok : rvOk s ls r.idx r.sec with
      | false => exact apply_4n s lo lp ls hno hnp hns zo zp zs r lr hnr w hO hP hH hR hG h hv hok
      | true => exact apply_4y s lo lp ls hno hnp hns zo zp zs r lr hnr w hO hP hH hR hG h hv hok
    · exact apply_5y s lo lp ls hno hnp hns zo zp zs r lr hnr w hO hP hH hR hG h hv
    · cases hok : (r.idx == s.loc) with
      | false => exact apply_6n s lo lp ls hno hnp hns zo zp zs r lr hnr w hO hP hH hR hG h hv hok
      | true => exact apply_6y s lo lp ls hno hnp hns zo zp zs r lr hnr w hO hP hH hR hG h hv hok
end Go.Proofs.YtlohfoggcdaeiaaGreat
