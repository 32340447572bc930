/-
  What GateAsks needs (printed by gen_g2.py).
-/
import Derived.Test.YtnmoheipfadmeaaGtRef
import Derived.Test.YtnmoheipfadmeaaGtApM
import Derived.Deep.RegionHeld3
namespace Go.Proofs.Ytnmoheipfadmeaa
open Go.RowKit S
set_option linter.unusedVariables false
set_option linter.unusedSimpArgs false
theorem OwnU.storeAt {B m cap : Nat} {w : World} {ad : Option Addr} {la : List Upd} (h : OwnU B w (.slice ad m cap) la) (hl : la.length = m) {j : Nat} (hj : j < m) : ∃ g f, ad = some ⟨g, 0, none⟩ ∧ Has w g 40 f (cap * 36) ∧ m ≤ cap ∧ ∀ s : Upd, OwnU B (w.setRow g (tabv (splice f (j * 36) s.v 36) (cap * 36))) (.slice ad m cap) (la.set j s) := by
  obtain ⟨h1, ⟨_, h2⟩ | ⟨g, c, cur, e, hb, hg, hnc, hcm, hcs, htake⟩⟩ := h
  · omega
  · rw [hl] at e hnc htake h1
    cases e
    have ht : cur = tabv (fun i => cur.getD i undef) (cap * 36) := tabv_ext _ _ _ hcs fun i hi => by
      rw [Array.getD_eq_getD_getElem?, Array.getElem?_eq_getElem (by omega)]; rfl
    have hH : Has w g 40 (fun i => cur.getD i undef) (cap * 36) := by unfold Has; rw [← ht]; exact hg
    refine ⟨g, _, rfl, hH, hnc, fun s => ?_⟩
    have hn := hH.row (tabv (splice (fun i => cur.getD i undef) (j * 36) s.v 36) (cap * 36)) (splice (fun i => cur.getD i undef) (j * 36) s.v 36) rfl
    unfold OwnU
    rw [List.length_set, hl]
    refine ⟨by rw [cellsU_length, List.length_set, hl], .inr ⟨g, cap, _, rfl, hb, hn, hnc, hcm, tabv_size _ _, ?_⟩⟩
    apply List.ext_getElem?
    intro i
    rw [List.getElem?_take]
    by_cases hi : i < m * 36
    · rw [if_pos hi, Array.getElem?_toList, tabv_get _ _ _ (by omega)]
      unfold splice
      by_cases hk : j * 36 ≤ i ∧ i < j * 36 + 36
      · rw [if_pos hk]
        have := cellsU_get (la.set j s) j s (by rw [List.getElem?_set, if_pos rfl, if_pos (by omega)]) (i - j * 36) (by omega)
        rw [show j * 36 + (i - j * 36) = i by omega] at this
        exact this.symm
      · rw [if_neg hk]
        have hki : i / 36 < la.length := by omega
        obtain ⟨u, hu⟩ : ∃ u, la[i / 36]? = some u := ⟨_, List.getElem?_eq_getElem hki⟩
        have e1 := cellsU_get (la.set j s) (i / 36) u (by rw [List.getElem?_set, if_neg (by omega)]; exact hu) (i % 36) (by omega)
        have e2 := cellsU_get la (i / 36) u hu (i % 36) (by omega)
        rw [show i / 36 * 36 + i % 36 = i by omega] at e1 e2
        rw [e1, ← e2, ← htake, List.getElem?_take, if_pos hi, Array.getElem?_toList, Array.getElem?_eq_getElem (by omega)]
        show some (cur.getD i undef) = some cur[i]
        rw [Array.getD_eq_getD_getElem?, Array.getElem?_eq_getElem (by omega)]
        rfl
    · rw [if_neg hi, List.getElem?_eq_none (by rw [cellsU_length, List.length_set, hl]; omega)]
theorem takeH {P : Program} {ops : Array Oper} {Q : Exit → Act → World → Prop} {md : Region.Mode} {S : World → Prop} (i : Nat) (d : Option Tmp) (v : Value) {oi : Oper} {fuel : Nat} {listed : Array Bool} {a : Act} {w : World} (hi : ops[i]? = some oi) (hd : oi.dst = d)
    (hs : Region.noSelect ops = true) (hf : Region.free md ops listed i = true) (hr : (Region.ready md ops listed).contains i = true)
    (hQ : ∀ c a w, Q (.panic c) (a.put oi.dst v) w → Q (.panic c) a w) (hw : Region.wanted oi (yielded ops a.tmps) = true) (hy : ∀ w, S w → (execOp a.eval oi).run P w = .ok (.value v) w) (hS : S w)
    (h : wpAnyH P md ops Q S fuel (listed.setIfInBounds i true) (a.put d v) w) : wpAnyH P md ops Q S (fuel + 1) listed a w :=
  wpAnyH_take hi hs hf hr hQ (.inl ⟨hw, hy⟩) hS (by rw [hd]; exact h)
def uM1 : Upd := ⟨-1, 0, 0, fun _ => 0, nilB⟩
set_option maxRecDepth 100000 in
theorem builtM1 : Try.prog.built 40 [(0, .int .i64 (-1))] = some (tabv uM1.v 36) := by kernel_rfl
theorem oneU (s : Upd) (i : Nat) (hi : i < 36) : (s.v i).oneCell' = true := oneCell_tabv s _ (by rw [Array.mem_toList_iff]; exact Array.mem_of_getElem? (tabv_get s.v 36 i hi))
def St.setO (s : St) (x : Sl) : St := {s with ours := x}
theorem St.ours_set (s : St) (x : Sl) (i : Nat) (hi : i < 115) : upd s.v 4 x.v i = (s.setO x).v i := by
  unfold upd
  by_cases h : i = 4
  · subst h; rfl
  · rw [if_neg h]; unfold St.v St.setO
    by_cases k : i < 4
    · have : i = 0 ∨ i = 1 ∨ i = 2 ∨ i = 3 := by omega
      rcases this with rfl | rfl | rfl | rfl
      all_goals rfl
    · simp only [show ¬ i < 1 by omega, show ¬ i < 2 by omega, show ¬ i < 3 by omega, show ¬ i < 4 by omega, show ¬ i < 5 by omega, if_false]
set_option maxRecDepth 100000 in
theorem builtRf (m : Int) (s : St) (n : Nat) : Try.prog.built 42 [(0, .int .i64 m), (1, .agg (tabv s.v 115)), (2, .int .i64 (n : Int))] = some (tabv (rfv m s n) 117) := by kernel_rfl
theorem infoRfz : (Try.prog.info? 42).map (fun i => (i.zero, i.size)) = some (some (.agg (tabv (rfv 0 zS 0) 117)), 117) := by kernel_rfl
theorem wpList_storeRf {ops : Array Oper} {rest : List Oper} {o : Oper} {a : Act} {w : World} {Q : Exit → Act → World → Prop} (hgd : o.guard = none) (x y : Operand) (ho : o.op = .store 42 x y) (hd : o.dst = none) (g : Nat) (m : Int) (s : St) (n : Nat) (hx : a.eval x = .pointer (some ⟨g, 0, none⟩)) (hy : a.eval y = .agg (tabv (rfv m s n) 117)) (f : Nat → Value) (hg : Has w g 42 f 117)
    (hk : wpList Try.prog ops Q rest a (w.setRow g (tabv (rfv m s n) 117))) : wpList Try.prog ops Q (o :: rest) a w :=
  wpList_store_part hgd 42 x y ho hd g 0 (rfv m s n) 117 hx hy 42 f 117 hg (by omega) infoRf (fun i _ => oneRf m s n i) (rfv m s n) (fun i hi => by unfold splice; rw [if_pos (by omega), Nat.sub_zero]) hk
theorem newRf (w : World) (m : Int) (s : St) (n : Nat) : ∃ V1 V2, w.alloc (.cells (tabv (rfv 0 zS 0) 117) 42) = V1 ∧ Has V1 w.heap.size 42 (rfv 0 zS 0) 117 ∧ V1.setRow w.heap.size (tabv (rfv m s n) 117) = V2 ∧ Has V2 w.heap.size 42 (rfv m s n) 117 ∧ Below w.heap.size w V2 := by
  have q1 : Has (w.alloc (.cells (tabv (rfv 0 zS 0) 117) 42)) w.heap.size 42 (rfv 0 zS 0) 117 := Has.new w _ _ 117 _ rfl
  have b1 : Below w.heap.size w (w.alloc (.cells (tabv (rfv 0 zS 0) 117) 42)) := (Below.refl w.heap.size w).alloc (Nat.le_refl _) _
  exact ⟨_, _, rfl, q1, rfl, q1.row _ _ rfl, below_setRow b1 (Nat.le_refl _) _⟩
theorem wpList_storeRfF {ops : Array Oper} {rest : List Oper} {o : Oper} {a : Act} {w : World} {Q : Exit → Act → World → Prop} (hgd : o.guard = none) (x y : Operand) (ho : o.op = .store 42 x y) (hd : o.dst = none) (g : Nat) (F : Nat → Value) (h1 : ∀ i, (F i).oneCell' = true) (hx : a.eval x = .pointer (some ⟨g, 0, none⟩)) (hy : a.eval y = .agg (tabv F 117)) (f : Nat → Value) (hg : Has w g 42 f 117)
    (hk : wpList Try.prog ops Q rest a (w.setRow g (tabv F 117))) : wpList Try.prog ops Q (o :: rest) a w :=
  wpList_store_part hgd 42 x y ho hd g 0 F 117 hx hy 42 f 117 hg (by omega) infoRf (fun i _ => h1 i) F (fun i hi => by unfold splice; rw [if_pos (by omega), Nat.sub_zero]) hk
theorem newRfF (w : World) (F : Nat → Value) : ∃ V1 V2, w.alloc (.cells (tabv (rfv 0 zS 0) 117) 42) = V1 ∧ Has V1 w.heap.size 42 (rfv 0 zS 0) 117 ∧ V1.setRow w.heap.size (tabv F 117) = V2 ∧ Has V2 w.heap.size 42 F 117 ∧ Below w.heap.size w V2 := by
  have q1 : Has (w.alloc (.cells (tabv (rfv 0 zS 0) 117) 42)) w.heap.size 42 (rfv 0 zS 0) 117 := Has.new w _ _ 117 _ rfl
  have b1 : Below w.heap.size w (w.alloc (.cells (tabv (rfv 0 zS 0) 117) 42)) := (Below.refl w.heap.size w).alloc (Nat.le_refl _) _
  exact ⟨_, _, rfl, q1, rfl, q1.row _ _ rfl, below_setRow b1 (Nat.le_refl _) _⟩
theorem run_gt {o : Oper} {a : Act} (w : World) (x : Operand) (ho : o.op = .load 32 x) (b : Nat) (hx : a.eval x = .pointer (some ⟨b, 0, none⟩)) (g : Gt) (hg : Has w b 32 g.v 10) : (execOp a.eval o).run Try.prog w = .ok (.value (.agg #[.int .i64 g.mark, .int .i64 g.loc, .int .i64 g.rem, .int .i64 g.ack, .int .i64 g.so, .int .i64 g.sp, .int .i64 (g.ours : Int), .int .i64 g.peers, .int .i64 g.fail, .int .i64 g.closed])) w := by
  rw [gtTab]
  exact run_load_at w 32 x ho b 0 hx g.v 10 _ (hg.at_ 0 (by omega) fun j _ => by rw [Nat.zero_add]) Try.underlying32 rfl infoGt
theorem run_rf {o : Oper} {a : Act} (w : World) (x : Operand) (ho : o.op = .load 42 x) (b : Nat) (hx : a.eval x = .pointer (some ⟨b, 0, none⟩)) (f : Nat → Value) (hg : Has w b 42 f 117) : (execOp a.eval o).run Try.prog w = .ok (.value (.agg (tabv f 117))) w :=
  run_load_at w 42 x ho b 0 hx f 117 _ (hg.at_ 0 (by omega) fun j _ => by rw [Nat.zero_add]) Try.underlying42 rfl infoRf
set_option maxRecDepth 100000 in
set_option maxHeartbeats 40000000 in
theorem rof_any (m : Int) (s : St) (w : World) : Calls Try.prog 11 #[.int .i64 m, .agg (tabv s.v 115)] w fun e w' => e = .returned (.agg (tabv (rfv m s s.ours.n) 117)) ∧ Below w.heap.size w w' := by
  obtain ⟨w1, hW1⟩ : ∃ wX, w.alloc (.cells (tabv s.v 115) 30) = wX := ⟨_, rfl⟩
  have r1 : Has w1 w.heap.size 30 s.v 115 := by rw [← hW1]; exact Has.new w 30 s.v 115 _ rfl
  have b1 : Below w.heap.size w w1 := by rw [← hW1]; exact (Below.refl w.heap.size w).alloc (Nat.le_refl _) _
  obtain ⟨V1, V2, hV1, rV1, hV2, rV2, bV2⟩ := newRf w1 m s s.ours.n
  have c4 : V1.cell? ⟨w.heap.size, 4, none⟩ = some (.slice s.ours.ad s.ours.n s.ours.c) := by rw [← hV1]; exact (r1.old _).cell 4 (by omega)
  have R1 := hide (show Has V1 w.heap.size 30 s.v 115 by rw [← hV1]; exact r1.old _)
  have RV1 := hide rV1
  have RV2 := hide rV2
  have B2 := hide (below2 b1 bV2)
  have HB := hide (builtRf m s s.ours.n)
  clear r1 rV1 rV2 b1 bV2
  go_enter Try.func11, Try.ntmps11
  go_wp2_with (first | (refine wpList_alloc_z rfl 42 (rfv 0 zS 0) 117 infoRfz rfl ?_; rw [hV1]) | (refine wpW_st _ rfl w.heap.size rfl rfl s R1.out ?_) | (refine wpW_build (by rfl) 42 #[(0, .tmp 5), (1, .tmp 6), (2, .tmp 9)] rfl [(0, .int .i64 m), (1, .agg (tabv s.v 115)), (2, .int .i64 (s.ours.n : Int))] (by first | rfl | (simp [Act.eval, Act.put]; done)) _ HB.out ?_) | (refine wpList_storeRf rfl _ _ rfl rfl w1.heap.size m s s.ours.n rfl rfl _ RV1.out ?_; rw [hV2]) | fail)
  (try simp only [Exit.inBlock, Exit.then])
  exact bodyPost_ret (results_cell_row rfl _ _ w1.heap.size 42 _ (0, 0) _ rfl RV2.out Try.underlying42 rfl (by rw [tabv_size]; exact infoRf)) rfl ⟨rfl, B2.out⟩
end Go.Proofs.Ytnmoheipfadmeaa
