import Derived.Test.YtlohfoggcdaeiaaGreatRDS0
/-
  The document's Same of two records: where the answer is known at the 2. comparison (printed by gen_r30.py).
-/
namespace Go.Proofs.YtlohfoggcdaeiaaGreat
open Go.RowKit S
set_option linter.unusedVariables false
set_option linter.unusedSimpArgs false
open Cu (nb be hl ofL CW Mw CR Mr RS takeS takeA hOf nil8 doneS)
set_option maxRecDepth 100000 in
set_option maxHeartbeats 40000000 in
theorem dsame_1 (a b : Rc) (K0 : ((a.kind == b.kind)) = true) (K1 : (eqU a.upd b.upd) = false) (hz : a.upds.n ≤ 140737488351232) (w : World) (hU : a.upds.n = b.upds.n → ∃ l : List Upd, l.length = a.upds.n ∧ Upds w a.upds.ad l ∧ Upds w b.upds.ad l) : Calls Tryz.prog 24 #[.agg (tabv a.v 138), .agg (tabv b.v 138)] w fun e w' => e = .returned (.bool false) ∧ Below w.heap.size w w' := by
  obtain ⟨w2, hW⟩ : ∃ w2, (w.alloc (.cells (tabv a.v 138) 38)).alloc (.cells (tabv b.v 138) 38) = w2 := ⟨_, rfl⟩
  have r1 : Has w2 w.heap.size 38 a.v 138 := by rw [← hW]; exact (Has.new w 38 a.v 138 _ rfl).old _
  have r2 : Has w2 (w.heap.size + 1) 38 b.v 138 := by
    rw [← hW]
    have := Has.new (w.alloc (.cells (tabv a.v 138) 38)) 38 b.v 138 _ rfl
    rw [size_alloc] at this
    exact this
  have gb : Below w.heap.size w w2 := by rw [← hW]; exact ((Below.refl w.heap.size w).alloc (Nat.le_refl _) _).alloc (by simp) _
  have SL : Hid (Calls Tryz.prog 47 #[.slice a.upds.ad a.upds.n a.upds.c, .slice b.upds.ad b.upds.n b.upds.c] w2 fun e w' => e = .returned (.bool (decide (a.upds.n = b.upds.n))) ∧ Below w2.heap.size w2 w') := by
    show Calls _ _ _ _ _
    by_cases hn : a.upds.n = b.upds.n
    · obtain ⟨l, hl, u1, u2⟩ := hU hn
      rw [decide_eq_true hn, ← hn]
      exact same_any a.upds.ad b.upds.ad a.upds.n a.upds.c b.upds.c l hl hz w2 (u1.below gb) (u2.below gb)
    · rw [decide_eq_false hn]
      exact same12_no a.upds.ad b.upds.ad a.upds.n b.upds.n a.upds.c b.upds.c hn w2
  obtain ⟨g1, hg1⟩ : ∃ g, w.heap.size + 1 = g := ⟨_, rfl⟩
  obtain ⟨g0, hg0⟩ : ∃ g, w.heap.size = g := ⟨_, rfl⟩
  rw [hg1] at r2
  rw [hg0] at r1
  have gb2 : Below g0 w w2 := by rw [← hg0]; exact gb
  have H1 := hide hg1
  have H0 := hide hg0
  clear hg0 hg1
  have k0 : w2.cell? ⟨g0, 0, none⟩ = some (.int .i64 a.kind) := r1.cell 0 (by omega)
  have k1 : w2.cell? ⟨g1, 0, none⟩ = some (.int .i64 b.kind) := r2.cell 0 (by omega)
  have k2 : w2.cell? ⟨g0, 38, none⟩ = some (.int .i64 a.idx) := r1.cell 38 (by omega)
  have k3 : w2.cell? ⟨g1, 38, none⟩ = some (.int .i64 b.idx) := r2.cell 38 (by omega)
  have k4 : w2.cell? ⟨g0, 137, none⟩ = some (.int .i64 a.code) := r1.cell 137 (by omega)
  have k5 : w2.cell? ⟨g1, 137, none⟩ = some (.int .i64 b.code) := r2.cell 137 (by omega)
  have k6 : w2.cell? ⟨g0, 37, none⟩ = some (.slice a.upds.ad a.upds.n a.upds.c) := r1.cell 37 (by omega)
  have k7 : w2.cell? ⟨g1, 37, none⟩ = some (.slice b.upds.ad b.upds.n b.upds.c) := r2.cell 37 (by omega)
  have a1 := hide (show At w2 g0 1 a.upd.v 36 from fun j hj => by rw [r1.cell (1 + j) (by omega)]; exact congrArg some (Rc.v_upd _ j hj))
  have a2 := hide (show At w2 g1 1 b.upd.v 36 from fun j hj => by rw [r2.cell (1 + j) (by omega)]; exact congrArg some (Rc.v_upd _ j hj))
  have a3 := hide (show At w2 g0 39 (ctv a.co a.cp) 2 from fun j hj => by rw [r1.cell (39 + j) (by omega)]; match j, hj with | 0, _ => rfl | 1, _ => rfl)
  have a4 := hide (show At w2 g1 39 (ctv b.co b.cp) 2 from fun j hj => by rw [r2.cell (39 + j) (by omega)]; match j, hj with | 0, _ => rfl | 1, _ => rfl)
  have s0 := hide (show At w2 g0 41 (bv a.sig) 32 from fun j hj => by rw [r1.cell (41 + j) (by omega)]; exact congrArg some (Rc.v_sig _ j hj))
  have s1 := hide (show At w2 g1 41 (bv b.sig) 32 from fun j hj => by rw [r2.cell (41 + j) (by omega)]; exact congrArg some (Rc.v_sig _ j hj))
  have s2 := hide (show At w2 g0 73 (bv a.sec) 32 from fun j hj => by rw [r1.cell (73 + j) (by omega)]; exact congrArg some (Rc.v_sec _ j hj))
  have s3 := hide (show At w2 g1 73 (bv b.sec) 32 from fun j hj => by rw [r2.cell (73 + j) (by omega)]; exact congrArg some (Rc.v_sec _ j hj))
  have s4 := hide (show At w2 g0 105 (bv a.pt) 32 from fun j hj => by rw [r1.cell (105 + j) (by omega)]; exact congrArg some (Rc.v_pt _ j hj))
  have s5 := hide (show At w2 g1 105 (bv b.pt) 32 from fun j hj => by rw [r2.cell (105 + j) (by omega)]; exact congrArg some (Rc.v_pt _ j hj))
  clear r1 r2 hU
  have QU : Hid (∀ w : World, (Op.equalIn 10000 36 (.agg (tabv a.upd.v 36)) (.agg (tabv b.upd.v 36))).run Tryz.prog w = .ok false w) := fun w => by rw [eqUD, K1]
  clear K1
  go_enter Tryz.func24, Tryz.ntmps24
  go_upto_region 1 with (first | rw [hW] | fail)
  try rw [hW]
  rw [H1.out]
  rw [H0.out]
  clear hW
  go_wp2_with (first | refine wpW_load_at 36 _ rfl (g0) (1) (by rfl) (by rfl) _ 36 _ ((a1.out)) Tryz.underlying36 rfl infoU ?_ | refine wpW_load_at 36 _ rfl (g1) (1) (by rfl) (by rfl) _ 36 _ ((a2.out)) Tryz.underlying36 rfl infoU ?_ | refine wpW_eqU (by rfl) _ _ rfl (tabv a.upd.v 36) (tabv b.upd.v 36) false (by rfl) (by rfl) QU.out ?_ | fail)
  go_ret
  first | exact ⟨rfl, gb⟩ | exact ⟨rfl, gb2⟩
end Go.Proofs.YtlohfoggcdaeiaaGreat
/-
  The document's Same of two records: where the answer is known at the 3. comparison (printed by gen_r30.py).
-/
namespace Go.Proofs.YtlohfoggcdaeiaaGreat
open Go.RowKit S
set_option linter.unusedVariables false
set_option linter.unusedSimpArgs false
open Cu (nb be hl ofL CW Mw CR Mr RS takeS takeA hOf nil8 doneS)
set_option maxRecDepth 100000 in
set_option maxHeartbeats 40000000 in
theorem dsame_2 (a b : Rc) (K0 : ((a.kind == b.kind)) = true) (K1 : (eqU a.upd b.upd) = true) (K2 : ((a.idx == b.idx)) = false) (hz : a.upds.n ≤ 140737488351232) (w : World) (hU : a.upds.n = b.upds.n → ∃ l : List Upd, l.length = a.upds.n ∧ Upds w a.upds.ad l ∧ Upds w b.upds.ad l) : Calls Tryz.prog 24 #[.agg (tabv a.v 138), .agg (tabv b.v 138)] w fun e w' => e = .returned (.bool false) ∧ Below w.heap.size w w' := by
  obtain ⟨w2, hW⟩ : ∃ w2, (w.alloc (.cells (tabv a.v 138) 38)).alloc (.cells (tabv b.v 138) 38) = w2 := ⟨_, rfl⟩
  have r1 : Has w2 w.heap.size 38 a.v 138 := by rw [← hW]; exact (Has.new w 38 a.v 138 _ rfl).old _
  have r2 : Has w2 (w.heap.size + 1) 38 b.v 138 := by
    rw [← hW]
    have := Has.new (w.alloc (.cells (tabv a.v 138) 38)) 38 b.v 138 _ rfl
    rw [size_alloc] at this
    exact this
  have gb : Below w.heap.size w w2 := by rw [← hW]; exact ((Below.refl w.heap.size w).alloc (Nat.le_refl _) _).alloc (by simp) _
  have SL : Hid (Calls Tryz.prog 47 #[.slice a.upds.ad a.upds.n a.upds.c, .slice b.upds.ad b.upds.n b.upds.c] w2 fun e w' => e = .returned (.bool (decide (a.upds.n = b.upds.n))) ∧ Below w2.heap.size w2 w') := by
    show Calls _ _ _ _ _
    by_cases hn : a.upds.n = b.upds.n
    · obtain ⟨l, hl, u1, u2⟩ := hU hn
      rw [decide_eq_true hn, ← hn]
      exact same_any a.upds.ad b.upds.ad a.upds.n a.upds.c b.upds.c l hl hz w2 (u1.below gb) (u2.below gb)
    · rw [decide_eq_false hn]
      exact same12_no a.upds.ad b.upds.ad a.upds.n b.upds.n a.upds.c b.upds.c hn w2
  obtain ⟨g1, hg1⟩ : ∃ g, w.heap.size + 1 = g := ⟨_, rfl⟩
  obtain ⟨g0, hg0⟩ : ∃ g, w.heap.size = g := ⟨_, rfl⟩
  rw [hg1] at r2
  rw [hg0] at r1
  have gb2 : Below g0 w w2 := by rw [← hg0]; exact gb
  have H1 := hide hg1
  have H0 := hide hg0
  clear hg0 hg1
  have k0 : w2.cell? ⟨g0, 0, none⟩ = some (.int .i64 a.kind) := r1.cell 0 (by omega)
  have k1 : w2.cell? ⟨g1, 0, none⟩ = some (.int .i64 b.kind) := r2.cell 0 (by omega)
  have k2 : w2.cell? ⟨g0, 38, none⟩ = some (.int .i64 a.idx) := r1.cell 38 (by omega)
  have k3 : w2.cell? ⟨g1, 38, none⟩ = some (.int .i64 b.idx) := r2.cell 38 (by omega)
  have k4 : w2.cell? ⟨g0, 137, none⟩ = some (.int .i64 a.code) := r1.cell 137 (by omega)
  have k5 : w2.cell? ⟨g1, 137, none⟩ = some (.int .i64 b.code) := r2.cell 137 (by omega)
  have k6 : w2.cell? ⟨g0, 37, none⟩ = some (.slice a.upds.ad a.upds.n a.upds.c) := r1.cell 37 (by omega)
  have k7 : w2.cell? ⟨g1, 37, none⟩ = some (.slice b.upds.ad b.upds.n b.upds.c) := r2.cell 37 (by omega)
  have a1 := hide (show At w2 g0 1 a.upd.v 36 from fun j hj => by rw [r1.cell (1 + j) (by omega)]; exact congrArg some (Rc.v_upd _ j hj))
  have a2 := hide (show At w2 g1 1 b.upd.v 36 from fun j hj => by rw [r2.cell (1 + j) (by omega)]; exact congrArg some (Rc.v_upd _ j hj))
  have a3 := hide (show At w2 g0 39 (ctv a.co a.cp) 2 from fun j hj => by rw [r1.cell (39 + j) (by omega)]; match j, hj with | 0, _ => rfl | 1, _ => rfl)
  have a4 := hide (show At w2 g1 39 (ctv b.co b.cp) 2 from fun j hj => by rw [r2.cell (39 + j) (by omega)]; match j, hj with | 0, _ => rfl | 1, _ => rfl)
  have s0 := hide (show At w2 g0 41 (bv a.sig) 32 from fun j hj => by rw [r1.cell (41 + j) (by omega)]; exact congrArg some (Rc.v_sig _ j hj))
  have s1 := hide (show At w2 g1 41 (bv b.sig) 32 from fun j hj => by rw [r2.cell (41 + j) (by omega)]; exact congrArg some (Rc.v_sig _ j hj))
  have s2 := hide (show At w2 g0 73 (bv a.sec) 32 from fun j hj => by rw [r1.cell (73 + j) (by omega)]; exact congrArg some (Rc.v_sec _ j hj))
  have s3 := hide (show At w2 g1 73 (bv b.sec) 32 from fun j hj => by rw [r2.cell (73 + j) (by omega)]; exact congrArg some (Rc.v_sec _ j hj))
  have s4 := hide (show At w2 g0 105 (bv a.pt) 32 from fun j hj => by rw [r1.cell (105 + j) (by omega)]; exact congrArg some (Rc.v_pt _ j hj))
  have s5 := hide (show At w2 g1 105 (bv b.pt) 32 from fun j hj => by rw [r2.cell (105 + j) (by omega)]; exact congrArg some (Rc.v_pt _ j hj))
  clear r1 r2 hU
  have QU : Hid (∀ w : World, (Op.equalIn 10000 36 (.agg (tabv a.upd.v 36)) (.agg (tabv b.upd.v 36))).run Tryz.prog w = .ok true w) := fun w => by rw [eqUD, K1]
  clear K1
  go_enter Tryz.func24, Tryz.ntmps24
  go_upto_region 1 with (first | rw [hW] | fail)
  try rw [hW]
  rw [H1.out]
  rw [H0.out]
  clear hW
  go_wp2_with (first | refine wpW_load_at 36 _ rfl (g0) (1) (by rfl) (by rfl) _ 36 _ ((a1.out)) Tryz.underlying36 rfl infoU ?_ | refine wpW_load_at 36 _ rfl (g1) (1) (by rfl) (by rfl) _ 36 _ ((a2.out)) Tryz.underlying36 rfl infoU ?_ | refine wpW_eqU (by rfl) _ _ rfl (tabv a.upd.v 36) (tabv b.upd.v 36) true (by rfl) (by rfl) QU.out ?_ | fail)
  go_ret
  first | exact ⟨rfl, gb⟩ | exact ⟨rfl, gb2⟩
end Go.Proofs.YtlohfoggcdaeiaaGreat
/-
  The document's Same of two records: where the answer is known at the 4. comparison (printed by gen_r30.py).
-/
namespace Go.Proofs.YtlohfoggcdaeiaaGreat
open Go.RowKit S
set_option linter.unusedVariables false
set_option linter.unusedSimpArgs false
open Cu (nb be hl ofL CW Mw CR Mr RS takeS takeA hOf nil8 doneS)
set_option maxRecDepth 100000 in
set_option maxHeartbeats 40000000 in
theorem dsame_3 (a b : Rc) (K0 : ((a.kind == b.kind)) = true) (K1 : (eqU a.upd b.upd) = true) (K2 : ((a.idx == b.idx)) = true) (K3 : (((a.co == b.co) && (a.cp == b.cp))) = false) (hz : a.upds.n ≤ 140737488351232) (w : World) (hU : a.upds.n = b.upds.n → ∃ l : List Upd, l.length = a.upds.n ∧ Upds w a.upds.ad l ∧ Upds w b.upds.ad l) : Calls Tryz.prog 24 #[.agg (tabv a.v 138), .agg (tabv b.v 138)] w fun e w' => e = .returned (.bool false) ∧ Below w.heap.size w w' := by
  obtain ⟨w2, hW⟩ : ∃ w2, (w.alloc (.cells (tabv a.v 138) 38)).alloc (.cells (tabv b.v 138) 38) = w2 := ⟨_, rfl⟩
  have r1 : Has w2 w.heap.size 38 a.v 138 := by rw [← hW]; exact (Has.new w 38 a.v 138 _ rfl).old _
  have r2 : Has w2 (w.heap.size + 1) 38 b.v 138 := by
    rw [← hW]
    have := Has.new (w.alloc (.cells (tabv a.v 138) 38)) 38 b.v 138 _ rfl
    rw [size_alloc] at this
    exact this
  have gb : Below w.heap.size w w2 := by rw [← hW]; exact ((Below.refl w.heap.size w).alloc (Nat.le_refl _) _).alloc (by simp) _
  have SL : Hid (Calls Tryz.prog 47 #[.slice a.upds.ad a.upds.n a.upds.c, .slice b.upds.ad b.upds.n b.upds.c] w2 fun e w' => e = .returned (.bool (decide (a.upds.n = b.upds.n))) ∧ Below w2.heap.size w2 w') := by
    show Calls _ _ _ _ _
    by_cases hn : a.upds.n = b.upds.n
    · obtain ⟨l, hl, u1, u2⟩ := hU hn
      rw [decide_eq_true hn, ← hn]
      exact same_any a.upds.ad b.upds.ad a.upds.n a.upds.c b.upds.c l hl hz w2 (u1.below gb) (u2.below gb)
    · rw [decide_eq_false hn]
      exact same12_no a.upds.ad b.upds.ad a.upds.n b.upds.n a.upds.c b.upds.c hn w2
  obtain ⟨g1, hg1⟩ : ∃ g, w.heap.size + 1 = g := ⟨_, rfl⟩
  obtain ⟨g0, hg0⟩ : ∃ g, w.heap.size = g := ⟨_, rfl⟩
  rw [hg1] at r2
  rw [hg0] at r1
  have gb2 : Below g0 w w2 := by rw [← hg0]; exact gb
  have H1 := hide hg1
  have H0 := hide hg0
  clear hg0 hg1
  have k0 : w2.cell? ⟨g0, 0, none⟩ = some (.int .i64 a.kind) := r1.cell 0 (by omega)
  have k1 : w2.cell? ⟨g1, 0, none⟩ = some (.int .i64 b.kind) := r2.cell 0 (by omega)
  have k2 : w2.cell? ⟨g0, 38, none⟩ = some (.int .i64 a.idx) := r1.cell 38 (by omega)
  have k3 : w2.cell? ⟨g1, 38, none⟩ = some (.int .i64 b.idx) := r2.cell 38 (by omega)
  have k4 : w2.cell? ⟨g0, 137, none⟩ = some (.int .i64 a.code) := r1.cell 137 (by omega)
  have k5 : w2.cell? ⟨g1, 137, none⟩ = some (.int .i64 b.code) := r2.cell 137 (by omega)
  have k6 : w2.cell? ⟨g0, 37, none⟩ = some (.slice a.upds.ad a.upds.n a.upds.c) := r1.cell 37 (by omega)
  have k7 : w2.cell? ⟨g1, 37, none⟩ = some (.slice b.upds.ad b.upds.n b.upds.c) := r2.cell 37 (by omega)
  have a1 := hide (show At w2 g0 1 a.upd.v 36 from fun j hj => by rw [r1.cell (1 + j) (by omega)]; exact congrArg some (Rc.v_upd _ j hj))
  have a2 := hide (show At w2 g1 1 b.upd.v 36 from fun j hj => by rw [r2.cell (1 + j) (by omega)]; exact congrArg some (Rc.v_upd _ j hj))
  have a3 := hide (show At w2 g0 39 (ctv a.co a.cp) 2 from fun j hj => by rw [r1.cell (39 + j) (by omega)]; match j, hj with | 0, _ => rfl | 1, _ => rfl)
  have a4 := hide (show At w2 g1 39 (ctv b.co b.cp) 2 from fun j hj => by rw [r2.cell (39 + j) (by omega)]; match j, hj with | 0, _ => rfl | 1, _ => rfl)
  have s0 := hide (show At w2 g0 41 (bv a.sig) 32 from fun j hj => by rw [r1.cell (41 + j) (by omega)]; exact congrArg some (Rc.v_sig _ j hj))
  have s1 := hide (show At w2 g1 41 (bv b.sig) 32 from fun j hj => by rw [r2.cell (41 + j) (by omega)]; exact congrArg some (Rc.v_sig _ j hj))
  have s2 := hide (show At w2 g0 73 (bv a.sec) 32 from fun j hj => by rw [r1.cell (73 + j) (by omega)]; exact congrArg some (Rc.v_sec _ j hj))
  have s3 := hide (show At w2 g1 73 (bv b.sec) 32 from fun j hj => by rw [r2.cell (73 + j) (by omega)]; exact congrArg some (Rc.v_sec _ j hj))
  have s4 := hide (show At w2 g0 105 (bv a.pt) 32 from fun j hj => by rw [r1.cell (105 + j) (by omega)]; exact congrArg some (Rc.v_pt _ j hj))
  have s5 := hide (show At w2 g1 105 (bv b.pt) 32 from fun j hj => by rw [r2.cell (105 + j) (by omega)]; exact congrArg some (Rc.v_pt _ j hj))
  clear r1 r2 hU
  have QU : Hid (∀ w : World, (Op.equalIn 10000 36 (.agg (tabv a.upd.v 36)) (.agg (tabv b.upd.v 36))).run Tryz.prog w = .ok true w) := fun w => by rw [eqUD, K1]
  clear K1
  have QC : Hid (∀ w : World, (Op.equalIn 10000 23 (.agg (tabv (ctv a.co a.cp) 2)) (.agg (tabv (ctv b.co b.cp) 2))).run Tryz.prog w = .ok false w) := fun w => by rw [eqCD, K3]
  clear K3
  go_enter Tryz.func24, Tryz.ntmps24
  go_upto_region 1 with (first | rw [hW] | fail)
  try rw [hW]
  rw [H1.out]
  rw [H0.out]
  clear hW
  go_wp2_with (first | refine wpW_load_at 36 _ rfl (g0) (1) (by rfl) (by rfl) _ 36 _ ((a1.out)) Tryz.underlying36 rfl infoU ?_ | refine wpW_load_at 36 _ rfl (g1) (1) (by rfl) (by rfl) _ 36 _ ((a2.out)) Tryz.underlying36 rfl infoU ?_ | refine wpW_load_at 23 _ rfl (g0) (39) (by rfl) (by rfl) _ 2 _ ((a3.out)) Tryz.underlying23 rfl infoC ?_ | refine wpW_load_at 23 _ rfl (g1) (39) (by rfl) (by rfl) _ 2 _ ((a4.out)) Tryz.underlying23 rfl infoC ?_ | refine wpW_eqU (by rfl) _ _ rfl (tabv a.upd.v 36) (tabv b.upd.v 36) true (by rfl) (by rfl) QU.out ?_ | refine wpW_eqC (by rfl) _ _ rfl (tabv (ctv a.co a.cp) 2) (tabv (ctv b.co b.cp) 2) false (by rfl) (by rfl) QC.out ?_ | fail)
  go_ret
  first | exact ⟨rfl, gb⟩ | exact ⟨rfl, gb2⟩
end Go.Proofs.YtlohfoggcdaeiaaGreat
/-
  The document's Same of two records: where the answer is known at the 5. comparison (printed by gen_r30.py).
-/
namespace Go.Proofs.YtlohfoggcdaeiaaGreat
open Go.RowKit S
set_option linter.unusedVariables false
set_option linter.unusedSimpArgs false
open Cu (nb be hl ofL CW Mw CR Mr RS takeS takeA hOf nil8 doneS)
set_option maxRecDepth 100000 in
set_option maxHeartbeats 40000000 in
theorem dsame_4 (a b : Rc) (K0 : ((a.kind == b.kind)) = true) (K1 : (eqU a.upd b.upd) = true) (K2 : ((a.idx == b.idx)) = true) (K3 : (((a.co == b.co) && (a.cp == b.cp))) = true) (K4 : (eqH a.sig b.sig) = false) (hz : a.upds.n ≤ 140737488351232) (w : World) (hU : a.upds.n = b.upds.n → ∃ l : List Upd, l.length = a.upds.n ∧ Upds w a.upds.ad l ∧ Upds w b.upds.ad l) : Calls Tryz.prog 24 #[.agg (tabv a.v 138), .agg (tabv b.v 138)] w fun e w' => e = .returned (.bool false) ∧ Below w.heap.size w w' := by
  obtain ⟨w2, hW⟩ : ∃ w2, (w.alloc (.cells (tabv a.v 138) 38)).alloc (.cells (tabv b.v 138) 38) = w2 := ⟨_, rfl⟩
  have r1 : Has w2 w.heap.size 38 a.v 138 := by rw [← hW]; exact (Has.new w 38 a.v 138 _ rfl).old _
  have r2 : Has w2 (w.heap.size + 1) 38 b.v 138 := by
    rw [← hW]
    have := Has.new (w.alloc (.cells (tabv a.v 138) 38)) 38 b.v 138 _ rfl
    rw [size_alloc] at this
    exact this
  have gb : Below w.heap.size w w2 := by rw [← hW]; exact ((Below.refl w.heap.size w).alloc (Nat.le_refl _) _).alloc (by simp) _
  have SL : Hid (Calls Tryz.prog 47 #[.slice a.upds.ad a.upds.n a.upds.c, .slice b.upds.ad b.upds.n b.upds.c] w2 fun e w' => e = .returned (.bool (decide (a.upds.n = b.upds.n))) ∧ Below w2.heap.size w2 w') := by
    show Calls _ _ _ _ _
    by_cases hn : a.upds.n = b.upds.n
    · obtain ⟨l, hl, u1, u2⟩ := hU hn
      rw [decide_eq_true hn, ← hn]
      exact same_any a.upds.ad b.upds.ad a.upds.n a.upds.c b.upds.c l hl hz w2 (u1.below gb) (u2.below gb)
    · rw [decide_eq_false hn]
      exact same12_no a.upds.ad b.upds.ad a.upds.n b.upds.n a.upds.c b.upds.c hn w2
  obtain ⟨g1, hg1⟩ : ∃ g, w.heap.size + 1 = g := ⟨_, rfl⟩
  obtain ⟨g0, hg0⟩ : ∃ g, w.heap.size = g := ⟨_, rfl⟩
  rw [hg1] at r2
  rw [hg0] at r1
  have gb2 : Below g0 w w2 := by rw [← hg0]; exact gb
  have H1 := hide hg1
  have H0 := hide hg0
  clear hg0 hg1
  have k0 : w2.cell? ⟨g0, 0, none⟩ = some (.int .i64 a.kind) := r1.cell 0 (by omega)
  have k1 : w2.cell? ⟨g1, 0, none⟩ = some (.int .i64 b.kind) := r2.cell 0 (by omega)
  have k2 : w2.cell? ⟨g0, 38, none⟩ = some (.int .i64 a.idx) := r1.cell 38 (by omega)
  have k3 : w2.cell? ⟨g1, 38, none⟩ = some (.int .i64 b.idx) := r2.cell 38 (by omega)
  have k4 : w2.cell? ⟨g0, 137, none⟩ = some (.int .i64 a.code) := r1.cell 137 (by omega)
  have k5 : w2.cell? ⟨g1, 137, none⟩ = some (.int .i64 b.code) := r2.cell 137 (by omega)
  have k6 : w2.cell? ⟨g0, 37, none⟩ = some (.slice a.upds.ad a.upds.n a.upds.c) := r1.cell 37 (by omega)
  have k7 : w2.cell? ⟨g1, 37, none⟩ = some (.slice b.upds.ad b.upds.n b.upds.c) := r2.cell 37 (by omega)
  have a1 := hide (show At w2 g0 1 a.upd.v 36 from fun j hj => by rw [r1.cell (1 + j) (by omega)]; exact congrArg some (Rc.v_upd _ j hj))
  have a2 := hide (show At w2 g1 1 b.upd.v 36 from fun j hj => by rw [r2.cell (1 + j) (by omega)]; exact congrArg some (Rc.v_upd _ j hj))
  have a3 := hide (show At w2 g0 39 (ctv a.co a.cp) 2 from fun j hj => by rw [r1.cell (39 + j) (by omega)]; match j, hj with | 0, _ => rfl | 1, _ => rfl)
  have a4 := hide (show At w2 g1 39 (ctv b.co b.cp) 2 from fun j hj => by rw [r2.cell (39 + j) (by omega)]; match j, hj with | 0, _ => rfl | 1, _ => rfl)
  have s0 := hide (show At w2 g0 41 (bv a.sig) 32 from fun j hj => by rw [r1.cell (41 + j) (by omega)]; exact congrArg some (Rc.v_sig _ j hj))
  have s1 := hide (show At w2 g1 41 (bv b.sig) 32 from fun j hj => by rw [r2.cell (41 + j) (by omega)]; exact congrArg some (Rc.v_sig _ j hj))
  have s2 := hide (show At w2 g0 73 (bv a.sec) 32 from fun j hj => by rw [r1.cell (73 + j) (by omega)]; exact congrArg some (Rc.v_sec _ j hj))
  have s3 := hide (show At w2 g1 73 (bv b.sec) 32 from fun j hj => by rw [r2.cell (73 + j) (by omega)]; exact congrArg some (Rc.v_sec _ j hj))
  have s4 := hide (show At w2 g0 105 (bv a.pt) 32 from fun j hj => by rw [r1.cell (105 + j) (by omega)]; exact congrArg some (Rc.v_pt _ j hj))
  have s5 := hide (show At w2 g1 105 (bv b.pt) 32 from fun j hj => by rw [r2.cell (105 + j) (by omega)]; exact congrArg some (Rc.v_pt _ j hj))
  clear r1 r2 hU
  have QU : Hid (∀ w : World, (Op.equalIn 10000 36 (.agg (tabv a.upd.v 36)) (.agg (tabv b.upd.v 36))).run Tryz.prog w = .ok true w) := fun w => by rw [eqUD, K1]
  clear K1
  have QC : Hid (∀ w : World, (Op.equalIn 10000 23 (.agg (tabv (ctv a.co a.cp) 2)) (.agg (tabv (ctv b.co b.cp) 2))).run Tryz.prog w = .ok true w) := fun w => by rw [eqCD, K3]
  clear K3
  have Q4 : Hid (∀ w : World, (Op.equalIn 10000 25 (.agg (tabv (bv a.sig) 32)) (.agg (tabv (bv b.sig) 32))).run Tryz.prog w = .ok false w) := fun w => by have := eqHD 9998 w a.sig b.sig; rw [K4] at this; exact this
  clear K4
  go_enter Tryz.func24, Tryz.ntmps24
  go_upto_region 1 with (first | rw [hW] | fail)
  try rw [hW]
  rw [H1.out]
  rw [H0.out]
  clear hW
  go_wp2_with (first | refine wpW_load_at 36 _ rfl (g0) (1) (by rfl) (by rfl) _ 36 _ ((a1.out)) Tryz.underlying36 rfl infoU ?_ | refine wpW_load_at 36 _ rfl (g1) (1) (by rfl) (by rfl) _ 36 _ ((a2.out)) Tryz.underlying36 rfl infoU ?_ | refine wpW_load_at 23 _ rfl (g0) (39) (by rfl) (by rfl) _ 2 _ ((a3.out)) Tryz.underlying23 rfl infoC ?_ | refine wpW_load_at 23 _ rfl (g1) (39) (by rfl) (by rfl) _ 2 _ ((a4.out)) Tryz.underlying23 rfl infoC ?_ | refine wpW_load_at 25 _ rfl (g0) (41) (by rfl) (by rfl) _ 32 _ ((s0.out)) Tryz.underlying25 rfl info26 ?_ | refine wpW_load_at 25 _ rfl (g1) (41) (by rfl) (by rfl) _ 32 _ ((s1.out)) Tryz.underlying25 rfl info26 ?_ | refine wpW_eqU (by rfl) _ _ rfl (tabv a.upd.v 36) (tabv b.upd.v 36) true (by rfl) (by rfl) QU.out ?_ | refine wpW_eqC (by rfl) _ _ rfl (tabv (ctv a.co a.cp) 2) (tabv (ctv b.co b.cp) 2) true (by rfl) (by rfl) QC.out ?_ | refine wpW_eqH (by rfl) _ _ rfl (tabv (bv a.sig) 32) (tabv (bv b.sig) 32) false (by rfl) (by rfl) Q4.out ?_ | fail)
  go_ret
  first | exact ⟨rfl, gb⟩ | exact ⟨rfl, gb2⟩
end Go.Proofs.YtlohfoggcdaeiaaGreat
