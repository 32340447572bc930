/-
  of: a record as its kind's own value (printed by gen_r4.py).
-/
import Derived.Test.YtlohfoggcdaeiaaGreatRBare
namespace Go.Proofs.YtlohfoggcdaeiaaGreat
open Go.RowKit S
set_option linter.unusedVariables false
set_option linter.unusedSimpArgs false
open Cu (nb be hl ofL CW Mw CR Mr RS takeS takeA hOf nil8 num doneS)
section
variable {w : World} {g : Nat} {r : Rc}
theorem Has.rIdx (h : Has w g 38 r.v 138) (x : Int) : Has (w.setCell ⟨g, 38, none⟩ (.int .i64 x)) g 38 (Rc.v ⟨r.kind, r.upd, r.upds, x, r.co, r.cp, r.sig, r.sec, r.pt, r.code⟩) 138 :=
  (h.set 38 _).congr _ (fun i hi => by by_cases e : i = 38 <;> simp [upd, Rc.v, e] <;> (repeat' split) <;> first | rfl | omega)
theorem Has.rUpds (h : Has w g 38 r.v 138) (x : Sl) : Has (w.setCell ⟨g, 37, none⟩ (.slice x.ad x.n x.c)) g 38 (Rc.v ⟨r.kind, r.upd, x, r.idx, r.co, r.cp, r.sig, r.sec, r.pt, r.code⟩) 138 :=
  (h.set 37 _).congr _ (fun i hi => by by_cases e : i = 37 <;> simp [upd, Rc.v, e, Sl.v] <;> (repeat' split) <;> first | rfl | omega)
theorem Has.rCode (h : Has w g 38 r.v 138) (x : Int) : Has (w.setCell ⟨g, 137, none⟩ (.int .i64 x)) g 38 (Rc.v ⟨r.kind, r.upd, r.upds, r.idx, r.co, r.cp, r.sig, r.sec, r.pt, x⟩) 138 :=
  (h.set 137 _).congr _ (fun i hi => by by_cases e : i = 137 <;> simp [upd, Rc.v, e] <;> (repeat' split) <;> first | rfl | omega)
theorem Has.rCo (h : Has w g 38 r.v 138) (x : Int) : Has (w.setCell ⟨g, 39, none⟩ (.int .i64 x)) g 38 (Rc.v ⟨r.kind, r.upd, r.upds, r.idx, x, r.cp, r.sig, r.sec, r.pt, r.code⟩) 138 :=
  (h.set 39 _).congr _ (fun i hi => by by_cases e : i = 39 <;> simp [upd, Rc.v, e] <;> (repeat' split) <;> first | rfl | omega)
theorem Has.rCp (h : Has w g 38 r.v 138) (x : Int) : Has (w.setCell ⟨g, 40, none⟩ (.int .i64 x)) g 38 (Rc.v ⟨r.kind, r.upd, r.upds, r.idx, r.co, x, r.sig, r.sec, r.pt, r.code⟩) 138 :=
  (h.set 40 _).congr _ (fun i hi => by by_cases e : i = 40 <;> simp [upd, Rc.v, e] <;> (repeat' split) <;> first | rfl | omega)
end
theorem splice_upd (r : Rc) (u : Upd) (i : Nat) (hi : i < 138) : splice r.v 1 u.v 36 i = Rc.v ⟨r.kind, u, r.upds, r.idx, r.co, r.cp, r.sig, r.sec, r.pt, r.code⟩ i := by
  unfold splice
  by_cases e : 1 ≤ i ∧ i < 1 + 36
  · rw [if_pos e]
    have := Rc.v_upd ⟨r.kind, u, r.upds, r.idx, r.co, r.cp, r.sig, r.sec, r.pt, r.code⟩ (i - 1) (by omega)
    rw [show 1 + (i - 1) = i by omega] at this
    exact this.symm
  · rw [if_neg e]
    unfold Rc.v
    by_cases e2 : i < 1
    · simp only [e2, if_true]
    · simp only [show (i < 1) = False from eq_false (by omega), show (i < 37) = False from eq_false (by omega), if_false]
theorem splice_sig (r : Rc) (h : Nat → UInt8) (i : Nat) (hi : i < 138) : splice r.v 41 (bv h) 32 i = Rc.v ⟨r.kind, r.upd, r.upds, r.idx, r.co, r.cp, h, r.sec, r.pt, r.code⟩ i := by
  unfold splice
  by_cases e : 41 ≤ i ∧ i < 41 + 32
  · rw [if_pos e]
    have := Rc.v_sig ⟨r.kind, r.upd, r.upds, r.idx, r.co, r.cp, h, r.sec, r.pt, r.code⟩ (i - 41) (by omega)
    rw [show 41 + (i - 41) = i by omega] at this
    exact this.symm
  · rw [if_neg e]
    unfold Rc.v
    by_cases e2 : i < 41
    · simp only [show (i < 41) = True from eq_true (by omega), if_true]
    · simp only [show (i < 1) = False from eq_false (by omega), show (i < 37) = False from eq_false (by omega), show (i < 38) = False from eq_false (by omega), show (i < 39) = False from eq_false (by omega), show (i < 40) = False from eq_false (by omega), show (i < 41) = False from eq_false (by omega), show (i < 73) = False from eq_false (by omega), if_false]
theorem splice_sec (r : Rc) (h : Nat → UInt8) (i : Nat) (hi : i < 138) : splice r.v 73 (bv h) 32 i = Rc.v ⟨r.kind, r.upd, r.upds, r.idx, r.co, r.cp, r.sig, h, r.pt, r.code⟩ i := by
  unfold splice
  by_cases e : 73 ≤ i ∧ i < 73 + 32
  · rw [if_pos e]
    have := Rc.v_sec ⟨r.kind, r.upd, r.upds, r.idx, r.co, r.cp, r.sig, h, r.pt, r.code⟩ (i - 73) (by omega)
    rw [show 73 + (i - 73) = i by omega] at this
    exact this.symm
  · rw [if_neg e]
    unfold Rc.v
    by_cases e2 : i < 73
    · simp only [show (i < 73) = True from eq_true (by omega), if_true]
    · simp only [show (i < 1) = False from eq_false (by omega), show (i < 37) = False from eq_false (by omega), show (i < 38) = False from eq_false (by omega), show (i < 39) = False from eq_false (by omega), show (i < 40) = False from eq_false (by omega), show (i < 41) = False from eq_false (by omega), show (i < 73) = False from eq_false (by omega), show (i < 105) = False from eq_false (by omega), if_false]
theorem splice_pt (r : Rc) (h : Nat → UInt8) (i : Nat) (hi : i < 138) : splice r.v 105 (bv h) 32 i = Rc.v ⟨r.kind, r.upd, r.upds, r.idx, r.co, r.cp, r.sig, r.sec, h, r.code⟩ i := by
  unfold splice
  by_cases e : 105 ≤ i ∧ i < 105 + 32
  · rw [if_pos e]
    have := Rc.v_pt ⟨r.kind, r.upd, r.upds, r.idx, r.co, r.cp, r.sig, r.sec, h, r.code⟩ (i - 105) (by omega)
    rw [show 105 + (i - 105) = i by omega] at this
    exact this.symm
  · rw [if_neg e]
    unfold Rc.v
    by_cases e2 : i < 105
    · simp only [show (i < 105) = True from eq_true (by omega), if_true]
    · simp only [show (i < 1) = False from eq_false (by omega), show (i < 37) = False from eq_false (by omega), show (i < 38) = False from eq_false (by omega), show (i < 39) = False from eq_false (by omega), show (i < 40) = False from eq_false (by omega), show (i < 41) = False from eq_false (by omega), show (i < 73) = False from eq_false (by omega), show (i < 105) = False from eq_false (by omega), show (i < 137) = False from eq_false (by omega), if_false]
theorem splice_cts (r : Rc) (a b : Int) (i : Nat) (hi : i < 138) : splice r.v 39 (ctv a b) 2 i = Rc.v ⟨r.kind, r.upd, r.upds, r.idx, a, b, r.sig, r.sec, r.pt, r.code⟩ i := by
  unfold splice
  by_cases e : 39 ≤ i ∧ i < 39 + 2
  · rw [if_pos e]
    rcases (show i = 39 ∨ i = 40 by omega) with rfl | rfl <;> rfl
  · rw [if_neg e]
    unfold Rc.v
    by_cases e2 : i < 39
    · simp only [e2, if_true]
    · simp only [show (i < 1) = False from eq_false (by omega), show (i < 37) = False from eq_false (by omega), show (i < 38) = False from eq_false (by omega), show (i < 39) = False from eq_false (by omega), show (i < 40) = False from eq_false (by omega), show (i < 41) = False from eq_false (by omega), if_false]
theorem oneC2 (a b : Int) (i : Nat) : (ctv a b i).oneCell' = true := by unfold ctv; split <;> rfl
theorem builtO (u : Upd) : Tryz.prog.built 99 [(0, .agg (tabv u.v 36))] = some (tabv u.v 36) := by kernel_rfl
theorem builtSg (x a b : Int) : Tryz.prog.built 101 [(0, .int .i64 x), (1, .agg (tabv (ctv a b) 2))] = some (tabv (Sg.v ⟨x, a, b⟩) 3) := by kernel_rfl
theorem builtCm (x : Int) (s : Sl) (h : Nat → UInt8) : Tryz.prog.built 103 [(0, .int .i64 x), (1, .slice s.ad s.n s.c), (2, .agg (tabv (bv h) 32))] = some (tabv (Cm.v ⟨x, s, h⟩) 34) := by kernel_rfl
theorem builtRv (x : Int) (h k : Nat → UInt8) : Tryz.prog.built 105 [(0, .int .i64 x), (1, .agg (tabv (bv h) 32)), (2, .agg (tabv (bv k) 32))] = some (tabv (Rv.v ⟨x, h, k⟩) 65) := by kernel_rfl
set_option maxRecDepth 100000 in
set_option maxHeartbeats 40000000 in
theorem of_1 (r : Rc) (l : List Upd) (hk : r.kind = 1) (w : World) : Calls Tryz.prog 28 #[.agg (tabv r.v 138)] w fun e w' => e = .returned (.tuple #[chV r, .bool (validR r l)]) ∧ Below w.heap.size w w' := by
  have HC : Hid (chV r = .iface 99 (.agg (tabv r.upd.v 36))) := by show _ = _; unfold chV; rw [hk]; rfl
  have HV : Hid (validR r l = (bareB ⟨r.kind, Upd.zero, r.upds, r.idx, r.co, r.cp, r.sig, r.sec, r.pt, r.code⟩ && validB r.upd)) := by show _ = _; unfold validR strip ownV; rw [hk]; rfl
  have k1 : (r.kind == 1) = true := beq_iff_eq.2 hk
  obtain ⟨w1, hW1⟩ : ∃ wX, w.alloc (.cells (tabv r.v 138) 38) = wX := ⟨_, rfl⟩
  have r1 : Has w1 w.heap.size 38 r.v 138 := by rw [← hW1]; exact Has.new w 38 r.v 138 _ rfl
  have b1 : Below w.heap.size w w1 := by rw [← hW1]; exact (Below.refl w.heap.size w).alloc (Nat.le_refl _) _
  have R1 := hide r1
  obtain ⟨w2, hW2⟩ : ∃ w2, w1.setRow w.heap.size (tabv (Rc.v ⟨r.kind, Upd.zero, r.upds, r.idx, r.co, r.cp, r.sig, r.sec, r.pt, r.code⟩) 138) = w2 := ⟨_, rfl⟩
  have R2 := hide (show Has w2 w.heap.size 38 (Rc.v ⟨r.kind, Upd.zero, r.upds, r.idx, r.co, r.cp, r.sig, r.sec, r.pt, r.code⟩) 138 from by rw [← hW2]; exact R1.out.row _ _ rfl)
  have b2 : Below w.heap.size w w2 := by rw [← hW2]; exact below_setRow b1 (Nat.le_refl _) _
  have c0 : w1.cell? ⟨w.heap.size, 0, none⟩ = some (.int .i64 r.kind) := r1.cell 0 (by omega)
  have c37 : w1.cell? ⟨w.heap.size, 37, none⟩ = some (.slice r.upds.ad r.upds.n r.upds.c) := r1.cell 37 (by omega)
  have c38 : w1.cell? ⟨w.heap.size, 38, none⟩ = some (.int .i64 r.idx) := r1.cell 38 (by omega)
  have c137 : w1.cell? ⟨w.heap.size, 137, none⟩ = some (.int .i64 r.code) := r1.cell 137 (by omega)
  have MV : Hid (∀ w : World, (method 304 99 (.agg (tabv r.upd.v 36)) "escrow/record.valid").run Tryz.prog w = .ok (130, .agg (tabv r.upd.v 36)) w) := fun w => by kernel_rfl
  clear r1 hk
  rw [HC.out, HV.out]
  clear HC HV
  have BA := hide (fun w : World => bare_any ⟨r.kind, Upd.zero, r.upds, r.idx, r.co, r.cp, r.sig, r.sec, r.pt, r.code⟩ w)
  have VA := hide (fun (wx : World) (hb : Below w.heap.size w wx) => vOurs_any r.upd wx)
  generalize bareB ⟨r.kind, Upd.zero, r.upds, r.idx, r.co, r.cp, r.sig, r.sec, r.pt, r.code⟩ = B at BA ⊢
  generalize validB r.upd = V at VA ⊢
  go_enter Tryz.func28, Tryz.ntmps28
  go_wp2_with (first | rw [hW2] | refine wpW_load_at 36 _ rfl (w.heap.size) (1) (by rfl) (by rfl) _ 36 _ (R1.out.atUpd) Tryz.underlying36 rfl infoU ?_ | refine wpW_build (by rfl) 99 #[(0, .tmp 10)] rfl [(0, .agg (tabv r.upd.v 36))] (by first | rfl | (simp [Act.eval, Act.put]; done)) _ (builtO r.upd) ?_ | refine wpW_build (by rfl) 36 #[] rfl [] (by first | rfl | (simp [Act.eval, Act.put]; done)) _ builtZ ?_ | refine wpList_store_part rfl 36 _ _ rfl rfl w.heap.size 1 Upd.zero.v 36 rfl rfl 38 _ 138 (R1.out) (by omega) infoU (fun i _ => oneV _ i) _ (splice_upd r Upd.zero) ?_ | refine wpW_load_at 38 _ rfl (w.heap.size) (0) (by rfl) (by rfl) _ 138 _ (R2.out.at_ 0 (by omega) (fun i hi => by rw [Nat.zero_add])) Tryz.underlying38 rfl infoRc ?_ | fail)
  try rw [hW2]
  refine (BA.out _).mono ?_
  rintro e w3 ⟨rfl, hb3⟩
  have b3 : Below w.heap.size w w3 := b2.trans (hb3.mono b2.size)
  clear hb3 b1 b2
  cases B with
  | false =>
    go_wp2
    go_ret2
    exact ⟨rfl, b3⟩
  | true =>
    have MV' := MV.out
    go_wp2_with fail
    refine (VA.out _ b3).mono ?_
    rintro e w4 ⟨rfl, hb4⟩
    go_wp2
    go_ret2
    exact ⟨rfl, b3.trans (hb4.mono b3.size)⟩
set_option maxRecDepth 100000 in
set_option maxHeartbeats 40000000 in
theorem of_2 (r : Rc) (l : List Upd) (hk : r.kind = 2) (w : World) : Calls Tryz.prog 28 #[.agg (tabv r.v 138)] w fun e w' => e = .returned (.tuple #[chV r, .bool (validR r l)]) ∧ Below w.heap.size w w' := by
  have HC : Hid (chV r = .iface 101 (.agg (tabv (Sg.v ⟨r.idx, r.co, r.cp⟩) 3))) := by show _ = _; unfold chV; rw [hk]; rfl
  have HV : Hid (validR r l = (bareB ⟨r.kind, r.upd, r.upds, 0, 0, 0, r.sig, r.sec, r.pt, r.code⟩ && (idxB r.idx && (cntB r.co && cntB r.cp)))) := by show _ = _; unfold validR strip ownV; rw [hk]; rfl
  have k1 : (r.kind == 1) = false := beq_false_of_ne (by omega)
  have k2 : (r.kind == 2) = true := beq_iff_eq.2 hk
  obtain ⟨w1, hW1⟩ : ∃ wX, w.alloc (.cells (tabv r.v 138) 38) = wX := ⟨_, rfl⟩
  have r1 : Has w1 w.heap.size 38 r.v 138 := by rw [← hW1]; exact Has.new w 38 r.v 138 _ rfl
  have b1 : Below w.heap.size w w1 := by rw [← hW1]; exact (Below.refl w.heap.size w).alloc (Nat.le_refl _) _
  have R1 := hide r1
  obtain ⟨w2, hW2⟩ : ∃ w2, (w1.setCell ⟨w.heap.size, 38, none⟩ (.int .i64 0)).setRow w.heap.size (tabv (Rc.v ⟨r.kind, r.upd, r.upds, 0, 0, 0, r.sig, r.sec, r.pt, r.code⟩) 138) = w2 := ⟨_, rfl⟩
  have R2 := hide (show Has w2 w.heap.size 38 (Rc.v ⟨r.kind, r.upd, r.upds, 0, 0, 0, r.sig, r.sec, r.pt, r.code⟩) 138 from by rw [← hW2]; exact (R1.out.rIdx 0).row _ _ rfl)
  have b2 : Below w.heap.size w w2 := by rw [← hW2]; exact below_setRow (b1.setCell (Nat.le_refl _) _) (Nat.le_refl _) _
  have c0 : w1.cell? ⟨w.heap.size, 0, none⟩ = some (.int .i64 r.kind) := r1.cell 0 (by omega)
  have c37 : w1.cell? ⟨w.heap.size, 37, none⟩ = some (.slice r.upds.ad r.upds.n r.upds.c) := r1.cell 37 (by omega)
  have c38 : w1.cell? ⟨w.heap.size, 38, none⟩ = some (.int .i64 r.idx) := r1.cell 38 (by omega)
  have c137 : w1.cell? ⟨w.heap.size, 137, none⟩ = some (.int .i64 r.code) := r1.cell 137 (by omega)
  have f38 := r1.frozen 38
  have MV : Hid (∀ w : World, (method 304 101 (.agg (tabv (Sg.v ⟨r.idx, r.co, r.cp⟩) 3)) "escrow/record.valid").run Tryz.prog w = .ok (157, .agg (tabv (Sg.v ⟨r.idx, r.co, r.cp⟩) 3)) w) := fun w => by kernel_rfl
  clear r1 hk
  rw [HC.out, HV.out]
  clear HC HV
  have BA := hide (fun w : World => bare_any ⟨r.kind, r.upd, r.upds, 0, 0, 0, r.sig, r.sec, r.pt, r.code⟩ w)
  have VA := hide (fun (wx : World) (hb : Below w.heap.size w wx) => vSigned_any r.idx r.co r.cp wx)
  generalize bareB ⟨r.kind, r.upd, r.upds, 0, 0, 0, r.sig, r.sec, r.pt, r.code⟩ = B at BA ⊢
  generalize (idxB r.idx && (cntB r.co && cntB r.cp)) = V at VA ⊢
  go_enter Tryz.func28, Tryz.ntmps28
  go_wp2_with (first | rw [hW2] | refine wpW_load_at 23 _ rfl (w.heap.size) (39) (by rfl) (by rfl) _ 2 _ (R1.out.atCts) Tryz.underlying23 rfl infoC ?_ | refine wpW_build (by rfl) 101 #[(0, .tmp 18), (1, .tmp 20)] rfl [(0, .int .i64 r.idx), (1, .agg (tabv (ctv r.co r.cp) 2))] (by first | rfl | (simp [Act.eval, Act.put]; done)) _ (builtSg r.idx r.co r.cp) ?_ | refine wpW_build (by rfl) 23 #[] rfl [] (by first | rfl | (simp [Act.eval, Act.put]; done)) _ builtCZ ?_ | refine wpList_store_part rfl 23 _ _ rfl rfl w.heap.size 39 (ctv 0 0) 2 rfl rfl 38 _ 138 (R1.out.rIdx 0) (by omega) infoC (fun i _ => oneC2 0 0 i) _ (splice_cts _ 0 0) ?_ | refine wpW_load_at 38 _ rfl (w.heap.size) (0) (by rfl) (by rfl) _ 138 _ (R2.out.at_ 0 (by omega) (fun i hi => by rw [Nat.zero_add])) Tryz.underlying38 rfl infoRc ?_ | fail)
  try rw [hW2]
  refine (BA.out _).mono ?_
  rintro e w3 ⟨rfl, hb3⟩
  have b3 : Below w.heap.size w w3 := b2.trans (hb3.mono b2.size)
  clear hb3 b1 b2
  cases B with
  | false =>
    go_wp2
    go_ret2
    exact ⟨rfl, b3⟩
  | true =>
    have MV' := MV.out
    go_wp2_with fail
    refine (VA.out _ b3).mono ?_
    rintro e w4 ⟨rfl, hb4⟩
    go_wp2
    go_ret2
    exact ⟨rfl, b3.trans (hb4.mono b3.size)⟩
set_option maxRecDepth 100000 in
set_option maxHeartbeats 40000000 in
theorem of_3 (r : Rc) (l : List Upd) (hk : r.kind = 3) (hn : l.length = r.upds.n) (w : World) (hS : Upds w r.upds.ad l) : Calls Tryz.prog 28 #[.agg (tabv r.v 138)] w fun e w' => e = .returned (.tuple #[chV r, .bool (validR r l)]) ∧ Below w.heap.size w w' := by
  have HC : Hid (chV r = .iface 103 (.agg (tabv (Cm.v ⟨r.idx, r.upds, r.sig⟩) 34))) := by show _ = _; unfold chV; rw [hk]; rfl
  have HV : Hid (validR r l = (bareB ⟨r.kind, r.upd, nilS, 0, r.co, r.cp, z32, r.sec, r.pt, r.code⟩ && (idxB r.idx && (decide (r.upds.n ≤ 512) && l.all validB)))) := by show _ = _; unfold validR strip ownV; rw [hk]; rfl
  have k1 : (r.kind == 1) = false := beq_false_of_ne (by omega)
  have k2 : (r.kind == 2) = false := beq_false_of_ne (by omega)
  have k3 : (r.kind == 3) = true := beq_iff_eq.2 hk
  obtain ⟨w1, hW1⟩ : ∃ wX, w.alloc (.cells (tabv r.v 138) 38) = wX := ⟨_, rfl⟩
  have r1 : Has w1 w.heap.size 38 r.v 138 := by rw [← hW1]; exact Has.new w 38 r.v 138 _ rfl
  have b1 : Below w.heap.size w w1 := by rw [← hW1]; exact (Below.refl w.heap.size w).alloc (Nat.le_refl _) _
  have R1 := hide r1
  obtain ⟨w2, hW2⟩ : ∃ w2, ((w1.setCell ⟨w.heap.size, 38, none⟩ (.int .i64 0)).setCell ⟨w.heap.size, 37, none⟩ (.slice none 0 0)).setRow w.heap.size (tabv (Rc.v ⟨r.kind, r.upd, nilS, 0, r.co, r.cp, z32, r.sec, r.pt, r.code⟩) 138) = w2 := ⟨_, rfl⟩
  have R2 := hide (show Has w2 w.heap.size 38 (Rc.v ⟨r.kind, r.upd, nilS, 0, r.co, r.cp, z32, r.sec, r.pt, r.code⟩) 138 from by rw [← hW2]; exact ((R1.out.rIdx 0).rUpds nilS).row _ _ rfl)
  have b2 : Below w.heap.size w w2 := by rw [← hW2]; exact below_setRow ((b1.setCell (Nat.le_refl _) _).setCell (Nat.le_refl _) _) (Nat.le_refl _) _
  have c0 : w1.cell? ⟨w.heap.size, 0, none⟩ = some (.int .i64 r.kind) := r1.cell 0 (by omega)
  have c37 : w1.cell? ⟨w.heap.size, 37, none⟩ = some (.slice r.upds.ad r.upds.n r.upds.c) := r1.cell 37 (by omega)
  have c38 : w1.cell? ⟨w.heap.size, 38, none⟩ = some (.int .i64 r.idx) := r1.cell 38 (by omega)
  have c137 : w1.cell? ⟨w.heap.size, 137, none⟩ = some (.int .i64 r.code) := r1.cell 137 (by omega)
  have f38 := r1.frozen 38
  have f37 := (R1.out.rIdx 0).frozen 37
  have d37 : (w1.setCell ⟨w.heap.size, 38, none⟩ (.int .i64 0)).cell? ⟨w.heap.size, 37, none⟩ = some (.slice r.upds.ad r.upds.n r.upds.c) := (R1.out.rIdx 0).cell 37 (by omega)
  have MV : Hid (∀ w : World, (method 304 103 (.agg (tabv (Cm.v ⟨r.idx, r.upds, r.sig⟩) 34)) "escrow/record.valid").run Tryz.prog w = .ok (162, .agg (tabv (Cm.v ⟨r.idx, r.upds, r.sig⟩) 34)) w) := fun w => by kernel_rfl
  clear r1 hk
  rw [HC.out, HV.out]
  clear HC HV
  have BA := hide (fun w : World => bare_any ⟨r.kind, r.upd, nilS, 0, r.co, r.cp, z32, r.sec, r.pt, r.code⟩ w)
  have VA := hide (fun (wx : World) (hb : Below w.heap.size w wx) => vCame_any r.idx r.upds.ad r.upds.n r.upds.c r.sig l hn wx (hS.below hb))
  generalize bareB ⟨r.kind, r.upd, nilS, 0, r.co, r.cp, z32, r.sec, r.pt, r.code⟩ = B at BA ⊢
  generalize (idxB r.idx && (decide (r.upds.n ≤ 512) && l.all validB)) = V at VA ⊢
  go_enter Tryz.func28, Tryz.ntmps28
  go_wp2_with (first | rw [hW2] | refine wpW_load_at 25 _ rfl (w.heap.size) (41) (by rfl) (by rfl) _ 32 _ (R1.out.atSig) Tryz.underlying25 rfl info26 ?_ | refine wpW_build (by rfl) 103 #[(0, .tmp 29), (1, .tmp 31), (2, .tmp 33)] rfl [(0, .int .i64 r.idx), (1, .slice r.upds.ad r.upds.n r.upds.c), (2, .agg (tabv (bv r.sig) 32))] (by first | rfl | (simp [Act.eval, Act.put]; done)) _ (builtCm r.idx r.upds r.sig) ?_ | refine wpW_build (by rfl) 25 #[] rfl [] (by first | rfl | (simp [Act.eval, Act.put]; done)) _ builtHZ ?_ | refine wpList_store_part rfl 25 _ _ rfl rfl w.heap.size 41 (bv z32) 32 rfl rfl 38 _ 138 ((R1.out.rIdx 0).rUpds nilS) (by omega) info26 (fun i _ => rfl) _ (splice_sig _ z32) ?_ | refine wpW_load_at 38 _ rfl (w.heap.size) (0) (by rfl) (by rfl) _ 138 _ (R2.out.at_ 0 (by omega) (fun i hi => by rw [Nat.zero_add])) Tryz.underlying38 rfl infoRc ?_ | fail)
  try rw [hW2]
  refine (BA.out _).mono ?_
  rintro e w3 ⟨rfl, hb3⟩
  have b3 : Below w.heap.size w w3 := b2.trans (hb3.mono b2.size)
  clear hb3 b1 b2
  cases B with
  | false =>
    go_wp2
    go_ret2
    exact ⟨rfl, b3⟩
  | true =>
    have MV' := MV.out
    go_wp2_with fail
    refine (VA.out _ b3).mono ?_
    rintro e w4 ⟨rfl, hb4⟩
    go_wp2
    go_ret2
    exact ⟨rfl, b3.trans (hb4.mono b3.size)⟩
set_option maxRecDepth 100000 in
set_option maxHeartbeats 40000000 in
theorem of_4 (r : Rc) (l : List Upd) (hk : r.kind = 4) (w : World) : Calls Tryz.prog 28 #[.agg (tabv r.v 138)] w fun e w' => e = .returned (.tuple #[chV r, .bool (validR r l)]) ∧ Below w.heap.size w w' := by
  have HC : Hid (chV r = .iface 105 (.agg (tabv (Rv.v ⟨r.idx, r.sec, r.pt⟩) 65))) := by show _ = _; unfold chV; rw [hk]; rfl
  have HV : Hid (validR r l = (bareB ⟨r.kind, r.upd, r.upds, 0, r.co, r.cp, r.sig, z32, z32, r.code⟩ && idxB r.idx)) := by show _ = _; unfold validR strip ownV; rw [hk]; rfl
  have k1 : (r.kind == 1) = false := beq_false_of_ne (by omega)
  have k2 : (r.kind == 2) = false := beq_false_of_ne (by omega)
  have k3 : (r.kind == 3) = false := beq_false_of_ne (by omega)
  have k4 : (r.kind == 4) = true := beq_iff_eq.2 hk
  obtain ⟨w1, hW1⟩ : ∃ wX, w.alloc (.cells (tabv r.v 138) 38) = wX := ⟨_, rfl⟩
  have r1 : Has w1 w.heap.size 38 r.v 138 := by rw [← hW1]; exact Has.new w 38 r.v 138 _ rfl
  have b1 : Below w.heap.size w w1 := by rw [← hW1]; exact (Below.refl w.heap.size w).alloc (Nat.le_refl _) _
  have R1 := hide r1
  obtain ⟨w2, hW2⟩ : ∃ w2, ((w1.setCell ⟨w.heap.size, 38, none⟩ (.int .i64 0)).setRow w.heap.size (tabv (Rc.v ⟨r.kind, r.upd, r.upds, 0, r.co, r.cp, r.sig, z32, r.pt, r.code⟩) 138)).setRow w.heap.size (tabv (Rc.v ⟨r.kind, r.upd, r.upds, 0, r.co, r.cp, r.sig, z32, z32, r.code⟩) 138) = w2 := ⟨_, rfl⟩
  have R2 := hide (show Has w2 w.heap.size 38 (Rc.v ⟨r.kind, r.upd, r.upds, 0, r.co, r.cp, r.sig, z32, z32, r.code⟩) 138 from by rw [← hW2]; exact ((R1.out.rIdx 0).row _ (Rc.v ⟨r.kind, r.upd, r.upds, 0, r.co, r.cp, r.sig, z32, r.pt, r.code⟩) rfl).row _ _ rfl)
  have b2 : Below w.heap.size w w2 := by rw [← hW2]; exact below_setRow (below_setRow (b1.setCell (Nat.le_refl _) _) (Nat.le_refl _) _) (Nat.le_refl _) _
  have c0 : w1.cell? ⟨w.heap.size, 0, none⟩ = some (.int .i64 r.kind) := r1.cell 0 (by omega)
  have c37 : w1.cell? ⟨w.heap.size, 37, none⟩ = some (.slice r.upds.ad r.upds.n r.upds.c) := r1.cell 37 (by omega)
  have c38 : w1.cell? ⟨w.heap.size, 38, none⟩ = some (.int .i64 r.idx) := r1.cell 38 (by omega)
  have c137 : w1.cell? ⟨w.heap.size, 137, none⟩ = some (.int .i64 r.code) := r1.cell 137 (by omega)
  have f38 := r1.frozen 38
  have MV : Hid (∀ w : World, (method 304 105 (.agg (tabv (Rv.v ⟨r.idx, r.sec, r.pt⟩) 65)) "escrow/record.valid").run Tryz.prog w = .ok (165, .agg (tabv (Rv.v ⟨r.idx, r.sec, r.pt⟩) 65)) w) := fun w => by kernel_rfl
  clear r1 hk
  rw [HC.out, HV.out]
  clear HC HV
  have BA := hide (fun w : World => bare_any ⟨r.kind, r.upd, r.upds, 0, r.co, r.cp, r.sig, z32, z32, r.code⟩ w)
  have VA := hide (fun (wx : World) (hb : Below w.heap.size w wx) => vRevoked_any r.idx r.sec r.pt wx)
  generalize bareB ⟨r.kind, r.upd, r.upds, 0, r.co, r.cp, r.sig, z32, z32, r.code⟩ = B at BA ⊢
  generalize idxB r.idx = V at VA ⊢
  go_enter Tryz.func28, Tryz.ntmps28
  go_wp2_with (first | rw [hW2] | refine wpW_load_at 25 _ rfl (w.heap.size) (73) (by rfl) (by rfl) _ 32 _ (R1.out.atSec) Tryz.underlying25 rfl info26 ?_ | refine wpW_load_at 25 _ rfl (w.heap.size) (105) (by rfl) (by rfl) _ 32 _ (R1.out.atPt) Tryz.underlying25 rfl info26 ?_ | refine wpW_build (by rfl) 105 #[(0, .tmp 43), (1, .tmp 45), (2, .tmp 47)] rfl [(0, .int .i64 r.idx), (1, .agg (tabv (bv r.sec) 32)), (2, .agg (tabv (bv r.pt) 32))] (by first | rfl | (simp [Act.eval, Act.put]; done)) _ (builtRv r.idx r.sec r.pt) ?_ | refine wpW_build (by rfl) 25 #[] rfl [] (by first | rfl | (simp [Act.eval, Act.put]; done)) _ builtHZ ?_ | refine wpList_store_part rfl 25 _ _ rfl rfl w.heap.size 73 (bv z32) 32 rfl rfl 38 _ 138 (R1.out.rIdx 0) (by omega) info26 (fun i _ => rfl) _ (splice_sec _ z32) ?_ | refine wpList_store_part rfl 25 _ _ rfl rfl w.heap.size 105 (bv z32) 32 rfl rfl 38 _ 138 ((R1.out.rIdx 0).row _ (Rc.v ⟨r.kind, r.upd, r.upds, 0, r.co, r.cp, r.sig, z32, r.pt, r.code⟩) rfl) (by omega) info26 (fun i _ => rfl) _ (splice_pt _ z32) ?_ | refine wpW_load_at 38 _ rfl (w.heap.size) (0) (by rfl) (by rfl) _ 138 _ (R2.out.at_ 0 (by omega) (fun i hi => by rw [Nat.zero_add])) Tryz.underlying38 rfl infoRc ?_ | fail)
  try rw [hW2]
  refine (BA.out _).mono ?_
  rintro e w3 ⟨rfl, hb3⟩
  have b3 : Below w.heap.size w w3 := b2.trans (hb3.mono b2.size)
  clear hb3 b1 b2
  cases B with
  | false =>
    go_wp2
    go_ret2
    exact ⟨rfl, b3⟩
  | true =>
    have MV' := MV.out
    go_wp2_with fail
    refine (VA.out _ b3).mono ?_
    rintro e w4 ⟨rfl, hb4⟩
    go_wp2
    go_ret2
    exact ⟨rfl, b3.trans (hb4.mono b3.size)⟩
set_option maxRecDepth 100000 in
set_option maxHeartbeats 40000000 in
theorem of_5 (r : Rc) (l : List Upd) (hk : r.kind = 5) (w : World) : Calls Tryz.prog 28 #[.agg (tabv r.v 138)] w fun e w' => e = .returned (.tuple #[chV r, .bool (validR r l)]) ∧ Below w.heap.size w w' := by
  have HC : Hid (chV r = .iface 107 (.agg #[.int .i64 r.code])) := by show _ = _; unfold chV; rw [hk]; rfl
  have HV : Hid (validR r l = (bareB ⟨r.kind, r.upd, r.upds, r.idx, r.co, r.cp, r.sig, r.sec, r.pt, 0⟩ && codB r.code)) := by show _ = _; unfold validR strip ownV; rw [hk]; rfl
  have k1 : (r.kind == 1) = false := beq_false_of_ne (by omega)
  have k2 : (r.kind == 2) = false := beq_false_of_ne (by omega)
  have k3 : (r.kind == 3) = false := beq_false_of_ne (by omega)
  have k4 : (r.kind == 4) = false := beq_false_of_ne (by omega)
  have k5 : (r.kind == 5) = true := beq_iff_eq.2 hk
  obtain ⟨w1, hW1⟩ : ∃ wX, w.alloc (.cells (tabv r.v 138) 38) = wX := ⟨_, rfl⟩
  have r1 : Has w1 w.heap.size 38 r.v 138 := by rw [← hW1]; exact Has.new w 38 r.v 138 _ rfl
  have b1 : Below w.heap.size w w1 := by rw [← hW1]; exact (Below.refl w.heap.size w).alloc (Nat.le_refl _) _
  have R1 := hide r1
  obtain ⟨w2, hW2⟩ : ∃ w2, w1.setCell ⟨w.heap.size, 137, none⟩ (.int .i64 0) = w2 := ⟨_, rfl⟩
  have R2 := hide (show Has w2 w.heap.size 38 (Rc.v ⟨r.kind, r.upd, r.upds, r.idx, r.co, r.cp, r.sig, r.sec, r.pt, 0⟩) 138 from by rw [← hW2]; exact R1.out.rCode 0)
  have b2 : Below w.heap.size w w2 := by rw [← hW2]; exact b1.setCell (Nat.le_refl _) _
  have c0 : w1.cell? ⟨w.heap.size, 0, none⟩ = some (.int .i64 r.kind) := r1.cell 0 (by omega)
  have c37 : w1.cell? ⟨w.heap.size, 37, none⟩ = some (.slice r.upds.ad r.upds.n r.upds.c) := r1.cell 37 (by omega)
  have c38 : w1.cell? ⟨w.heap.size, 38, none⟩ = some (.int .i64 r.idx) := r1.cell 38 (by omega)
  have c137 : w1.cell? ⟨w.heap.size, 137, none⟩ = some (.int .i64 r.code) := r1.cell 137 (by omega)
  have f137 := r1.frozen 137
  have MV : Hid (∀ w : World, (method 304 107 (.agg #[.int .i64 r.code]) "escrow/record.valid").run Tryz.prog w = .ok (180, .agg #[.int .i64 r.code]) w) := fun w => by kernel_rfl
  clear r1 hk
  rw [HC.out, HV.out]
  clear HC HV
  have BA := hide (fun w : World => bare_any ⟨r.kind, r.upd, r.upds, r.idx, r.co, r.cp, r.sig, r.sec, r.pt, 0⟩ w)
  have VA := hide (fun (wx : World) (hb : Below w.heap.size w wx) => vFailed_any r.code wx)
  generalize bareB ⟨r.kind, r.upd, r.upds, r.idx, r.co, r.cp, r.sig, r.sec, r.pt, 0⟩ = B at BA ⊢
  generalize codB r.code = V at VA ⊢
  go_enter Tryz.func28, Tryz.ntmps28
  go_wp2_with (first | rw [hW2] | refine wpW_load_at 38 _ rfl (w.heap.size) (0) (by rfl) (by rfl) _ 138 _ (R2.out.at_ 0 (by omega) (fun i hi => by rw [Nat.zero_add])) Tryz.underlying38 rfl infoRc ?_ | fail)
  try rw [hW2]
  refine (BA.out _).mono ?_
  rintro e w3 ⟨rfl, hb3⟩
  have b3 : Below w.heap.size w w3 := b2.trans (hb3.mono b2.size)
  clear hb3 b1 b2
  cases B with
  | false =>
    go_wp2
    go_ret2
    exact ⟨rfl, b3⟩
  | true =>
    have MV' := MV.out
    go_wp2_with fail
    refine (VA.out _ b3).mono ?_
    rintro e w4 ⟨rfl, hb4⟩
    go_wp2
    go_ret2
    exact ⟨rfl, b3.trans (hb4.mono b3.size)⟩
set_option maxRecDepth 100000 in
set_option maxHeartbeats 40000000 in
theorem of_6 (r : Rc) (l : List Upd) (hk : r.kind = 6) (w : World) : Calls Tryz.prog 28 #[.agg (tabv r.v 138)] w fun e w' => e = .returned (.tuple #[chV r, .bool (validR r l)]) ∧ Below w.heap.size w w' := by
  have HC : Hid (chV r = .iface 109 (.agg #[.int .i64 r.idx])) := by show _ = _; unfold chV; rw [hk]; rfl
  have HV : Hid (validR r l = (bareB ⟨r.kind, r.upd, r.upds, 0, r.co, r.cp, r.sig, r.sec, r.pt, r.code⟩ && idxB r.idx)) := by show _ = _; unfold validR strip ownV; rw [hk]; rfl
  have k1 : (r.kind == 1) = false := beq_false_of_ne (by omega)
  have k2 : (r.kind == 2) = false := beq_false_of_ne (by omega)
  have k3 : (r.kind == 3) = false := beq_false_of_ne (by omega)
  have k4 : (r.kind == 4) = false := beq_false_of_ne (by omega)
  have k5 : (r.kind == 5) = false := beq_false_of_ne (by omega)
  have k6 : (r.kind == 6) = true := beq_iff_eq.2 hk
  obtain ⟨w1, hW1⟩ : ∃ wX, w.alloc (.cells (tabv r.v 138) 38) = wX := ⟨_, rfl⟩
  have r1 : Has w1 w.heap.size 38 r.v 138 := by rw [← hW1]; exact Has.new w 38 r.v 138 _ rfl
  have b1 : Below w.heap.size w w1 := by rw [← hW1]; exact (Below.refl w.heap.size w).alloc (Nat.le_refl _) _
  have R1 := hide r1
  obtain ⟨w2, hW2⟩ : ∃ w2, w1.setCell ⟨w.heap.size, 38, none⟩ (.int .i64 0) = w2 := ⟨_, rfl⟩
  have R2 := hide (show Has w2 w.heap.size 38 (Rc.v ⟨r.kind, r.upd, r.upds, 0, r.co, r.cp, r.sig, r.sec, r.pt, r.code⟩) 138 from by rw [← hW2]; exact R1.out.rIdx 0)
  have b2 : Below w.heap.size w w2 := by rw [← hW2]; exact b1.setCell (Nat.le_refl _) _
  have c0 : w1.cell? ⟨w.heap.size, 0, none⟩ = some (.int .i64 r.kind) := r1.cell 0 (by omega)
  have c37 : w1.cell? ⟨w.heap.size, 37, none⟩ = some (.slice r.upds.ad r.upds.n r.upds.c) := r1.cell 37 (by omega)
  have c38 : w1.cell? ⟨w.heap.size, 38, none⟩ = some (.int .i64 r.idx) := r1.cell 38 (by omega)
  have c137 : w1.cell? ⟨w.heap.size, 137, none⟩ = some (.int .i64 r.code) := r1.cell 137 (by omega)
  have f38 := r1.frozen 38
  have MV : Hid (∀ w : World, (method 304 109 (.agg #[.int .i64 r.idx]) "escrow/record.valid").run Tryz.prog w = .ok (183, .agg #[.int .i64 r.idx]) w) := fun w => by kernel_rfl
  clear r1 hk
  rw [HC.out, HV.out]
  clear HC HV
  have BA := hide (fun w : World => bare_any ⟨r.kind, r.upd, r.upds, 0, r.co, r.cp, r.sig, r.sec, r.pt, r.code⟩ w)
  have VA := hide (fun (wx : World) (hb : Below w.heap.size w wx) => vClosed_any r.idx wx)
  generalize bareB ⟨r.kind, r.upd, r.upds, 0, r.co, r.cp, r.sig, r.sec, r.pt, r.code⟩ = B at BA ⊢
  generalize idxB r.idx = V at VA ⊢
  go_enter Tryz.func28, Tryz.ntmps28
  go_wp2_with (first | rw [hW2] | refine wpW_load_at 38 _ rfl (w.heap.size) (0) (by rfl) (by rfl) _ 138 _ (R2.out.at_ 0 (by omega) (fun i hi => by rw [Nat.zero_add])) Tryz.underlying38 rfl infoRc ?_ | fail)
  try rw [hW2]
  refine (BA.out _).mono ?_
  rintro e w3 ⟨rfl, hb3⟩
  have b3 : Below w.heap.size w w3 := b2.trans (hb3.mono b2.size)
  clear hb3 b1 b2
  cases B with
  | false =>
    go_wp2
    go_ret2
    exact ⟨rfl, b3⟩
  | true =>
    have MV' := MV.out
    go_wp2_with fail
    refine (VA.out _ b3).mono ?_
    rintro e w4 ⟨rfl, hb4⟩
    go_wp2
    go_ret2
    exact ⟨rfl, b3.trans (hb4.mono b3.size)⟩
set_option maxRecDepth 100000 in
set_option maxHeartbeats 40000000 in
theorem of_0 (r : Rc) (l : List Upd) (hk : ¬(1 ≤ r.kind ∧ r.kind ≤ 6)) (w : World) : Calls Tryz.prog 28 #[.agg (tabv r.v 138)] w fun e w' => e = .returned (.tuple #[chV r, .bool (validR r l)]) ∧ Below w.heap.size w w' := by
  have HC : Hid (chV r = .nilIface) := by show _ = _; unfold chV; rw [if_neg (by omega), if_neg (by omega), if_neg (by omega), if_neg (by omega), if_neg (by omega), if_neg (by omega)]
  have HV : Hid (validR r l = false) := by show _ = _; unfold validR isRec; rw [Bool.and_eq_false_iff]; left; rw [Bool.and_eq_false_iff]; simp only [decide_eq_false_iff_not]; omega
  have k1 : (r.kind == 1) = false := beq_false_of_ne (by omega)
  have k2 : (r.kind == 2) = false := beq_false_of_ne (by omega)
  have k3 : (r.kind == 3) = false := beq_false_of_ne (by omega)
  have k4 : (r.kind == 4) = false := beq_false_of_ne (by omega)
  have k5 : (r.kind == 5) = false := beq_false_of_ne (by omega)
  have k6 : (r.kind == 6) = false := beq_false_of_ne (by omega)
  obtain ⟨w1, hW1⟩ : ∃ wX, w.alloc (.cells (tabv r.v 138) 38) = wX := ⟨_, rfl⟩
  have r1 : Has w1 w.heap.size 38 r.v 138 := by rw [← hW1]; exact Has.new w 38 r.v 138 _ rfl
  have b1 : Below w.heap.size w w1 := by rw [← hW1]; exact (Below.refl w.heap.size w).alloc (Nat.le_refl _) _
  have c0 : w1.cell? ⟨w.heap.size, 0, none⟩ = some (.int .i64 r.kind) := r1.cell 0 (by omega)
  clear r1 hk
  rw [HC.out, HV.out]
  clear HC HV
  go_enter Tryz.func28, Tryz.ntmps28
  go_wp2
  go_ret2
  exact ⟨rfl, b1⟩
theorem of_any (r : Rc) (l : List Upd) (hn : l.length = r.upds.n) (w : World) (hS : Upds w r.upds.ad l) : Calls Tryz.prog 28 #[.agg (tabv r.v 138)] w fun e w' => e = .returned (.tuple #[chV r, .bool (validR r l)]) ∧ Below w.heap.size w w' := by
  by_cases hk : 1 ≤ r.kind ∧ r.kind ≤ 6
  · rcases (show r.kind = 1 ∨ r.kind = 2 ∨ r.kind = 3 ∨ r.kind = 4 ∨ r.kind = 5 ∨ r.kind = 6 by omega) with h | h | h | h | h | h
    · exact of_1 r l h w
    · exact of_2 r l h w
    · exact of_3 r l h hn w hS
    · exact of_4 r l h w
    · exact of_5 r l h w
    · exact of_6 r l h w
  · exact of_0 r l hk w
end Go.Proofs.YtlohfoggcdaeiaaGreat
