import Derived.Test.YtlohfoggcdaeiaaGreatRDR0
import Derived.Test.YtlohfoggcdaeiaaGreatRDR2
import Derived.Test.YtlohfoggcdaeiaaGreatRDR4
import Derived.Test.YtlohfoggcdaeiaaGreatRDR6
import Derived.Test.YtlohfoggcdaeiaaGreatPLaw
import Derived.BigQuiet
import Derived.Test.YtlohfoggcdaeiaaGreatRApp3
import Derived.Test.YtlohfoggcdaeiaaGreatRDV2
import Derived.Test.YtlohfoggcdaeiaaGreatROpenA
import Derived.Test.YtlohfoggcdaeiaaGreatRRdB
import Derived.Test.YtlohfoggcdaeiaaGreatRows
import Derived.HandedShaped
/-
  The document's Read of a record (printed by gen_r33.py).
-/
namespace Go.Proofs.YtlohfoggcdaeiaaGreat
open Go.RowKit S
set_option linter.unusedVariables false
set_option linter.unusedSimpArgs false
open Cu (nb be hl ofL CW Mw CR Mr RS takeS takeA hOf nil8 doneS)
theorem dread_any (b : ByteArray) (w : World) (hb : b.size ≤ 140737490000000) : Calls Tryz.prog 22 #[.string b] w fun e w' => RdP w.heap.size (rdOf (fldR b)) e w' ∧ Below w.heap.size w w' := by
  by_cases h1 : Cu.num 1 (b, 0) = 1
  · exact dread_1 b w hb h1
  by_cases h2 : Cu.num 1 (b, 0) = 2
  · exact dread_2 b w hb h2
  by_cases h3 : Cu.num 1 (b, 0) = 3
  · exact dread_3 b w hb h3
  by_cases h4 : Cu.num 1 (b, 0) = 4
  · exact dread_4 b w hb h4
  by_cases h5 : Cu.num 1 (b, 0) = 5
  · exact dread_5 b w hb h5
  by_cases h6 : Cu.num 1 (b, 0) = 6
  · exact dread_6 b w hb h6
  exact dread_0 b w hb ⟨h1, h2, h3, h4, h5, h6⟩
end Go.Proofs.YtlohfoggcdaeiaaGreat
/-
  The statement's stays and lent of a record (by hand).
-/
namespace Go.Proofs.YtlohfoggcdaeiaaGreat
open Go.RowKit S
set_option linter.unusedVariables false
set_option linter.unusedSimpArgs false
set_option maxRecDepth 100000 in
set_option maxHeartbeats 4000000 in
theorem stays_any (ad : Option Addr) (g n c1 c2 : Nat) (l : List Upd) (hn : l.length = n) (hz : n ≤ 140737488351232) (w : World) (h1 : Upds w (some ⟨g, 0, none⟩) (l ++ [mark1, mark2])) (h2 : Upds w ad l) : Calls Tryz.prog 23 #[.slice (some ⟨g, 0, none⟩) (n + 2) c1, .slice ad n c2] w fun e w' => e = .returned (.bool true) ∧ Below w.heap.size w w' := by
  have hni : (n : Int) ≤ 140737488351232 := by omega
  have hgs := guardU
  have HN := hide hn
  have HH1 := hide h1
  have HH2 := hide h2
  obtain ⟨b1, o1, e1, hb1, hA1⟩ := h1.get n mark1 (by rw [← hn]; simp)
  cases e1
  rw [Nat.zero_add] at hA1
  obtain ⟨b2, o2, e2, hb2, hA2⟩ := h1.get (n + 1) mark2 (by rw [← hn]; simp)
  cases e2
  rw [Nat.zero_add] at hA2
  have HA1 := hide hA1
  have HA2 := hide hA2
  have hw1 : IntKind.i64.wrap ((n : Int) + 1) = (n : Int) + 1 := by rw [IntKind.wrap_i64]; omega
  have hw2 : IntKind.i64.wrap ((n : Int) + 2) = (n : Int) + 2 := by rw [IntKind.wrap_i64]; omega
  have hc2 : ((n + 2 : Nat) : Int) = (n : Int) + 2 := by omega
  have hd0 : (((n : Int) + 2) != ((n : Int) + 2)) = false := by simp
  have hx0 : (0 : Int) ≤ (n : Int) := by omega
  have hx1 : (n : Int) < (n : Int) + 2 := by omega
  have hx2 : (n : Int) + 1 < (n : Int) + 2 := by omega
  have hx3 : (0 : Int) ≤ (n : Int) + 1 := by omega
  have hx4 : ((n : Int) + 1).toNat = n + 1 := by omega
  have hq1 : ∀ w : World, (Op.equalIn 10000 36 (.agg (tabv mark1.v 36)) (.agg (tabv mark1.v 36))).run Tryz.prog w = .ok true w := fun w => by rw [eqUD, eqU_refl]
  have hq2 : ∀ w : World, (Op.equalIn 10000 36 (.agg (tabv mark2.v 36)) (.agg (tabv mark2.v 36))).run Tryz.prog w = .ok true w := fun w => by rw [eqUD, eqU_refl]
  clear hn h1 h2 hA1 hA2 hb1 hb2
  go_enter Tryz.func23, Tryz.ntmps23
  go_wp2_with (first | refine wpW_load_at 36 _ rfl g (n * 36) (by rfl) (by rfl) _ 36 _ HA1.out Tryz.underlying36 rfl infoU ?_ | refine wpW_load_at 36 _ rfl g ((n + 1) * 36) (by rfl) (by rfl) _ 36 _ HA2.out Tryz.underlying36 rfl infoU ?_ | refine wpW_build (by rfl) 36 #[(0, .const (.int .i64 77))] rfl [(0, .int .i64 77)] (by simp [Act.eval]) _ built_m1 ?_ | refine wpW_build (by rfl) 36 #[(4, .const (.string ⟨#[109, 97, 114, 107]⟩))] rfl [(4, .string ⟨#[109, 97, 114, 107]⟩)] (by simp [Act.eval]) _ built_m2 ?_ | fail)
  clear hw1 hw2 hc2 hd0 hx1 hx2 hx3 hx4 hq1 hq2 HA1 HA2
  go_loopw [5] (fun i wr => ∃ j : Nat, j ≤ n ∧ i = .int .i64 (j : Int) ∧ Below w.heap.size w wr) (fun i _ => n - (intOf i).toNat)
  case atStart => exact ⟨0, Nat.zero_le _, rfl, Below.refl _ _⟩
  case round =>
    obtain ⟨j, hj, rfl, hwk⟩ := hrel
    have h1' := HH1.out.below hwk
    have h2' := HH2.out.below hwk
    by_cases hlt : j < n
    · have hd : decide ((j : Int) < (n : Int)) = true := decide_eq_true (by omega)
      have hd2 : decide (j < n) = true := decide_eq_true hlt
      have hk0 : (0 : Int) ≤ (j : Int) := by omega
      have hk1 : (j : Int) < (n : Int) := by omega
      have hk2 : (j : Int) < ((n + 2 : Nat) : Int) := by omega
      have hk3 : (j : Int) < (n : Int) + 2 := by omega
      obtain ⟨s, hs⟩ : ∃ s, l[j]? = some s := ⟨_, List.getElem?_eq_getElem (by rw [HN.out]; exact hlt)⟩
      obtain ⟨b1, o1, e1, hb1, hA1⟩ := h1'.get j s (by rw [List.getElem?_append_left (by rw [HN.out]; exact hlt)]; exact hs)
      cases e1
      rw [Nat.zero_add] at hA1
      obtain ⟨b2, o2, rfl, hb2, hA2⟩ := h2'.get j s hs
      have hqs : ∀ w : World, (Op.equalIn 10000 36 (.agg (tabv s.v 36)) (.agg (tabv s.v 36))).run Tryz.prog w = .ok true w := fun w => by rw [eqUD, eqU_refl]
      have HA1 := hide hA1
      have HA2 := hide hA2
      clear hA1 hA2 hb1 hb2 hs h1' h2'
      go_wp2
      refine wp_region_quiet_lit (by kernel_rfl) (by kernel_rfl) ?_
      iterate 3 (go_big_quiet_step (fail))
      go_big_quiet_want
      refine quiet_value (fun w' hw' => run_load_at w' 36 _ rfl g (j * 36) (by rfl) (s.v) 36 _ (by obtain ⟨m, rfl⟩ := hw'; exact HA1.out) Tryz.underlying36 rfl infoU) ?_
      simp only [Act.put, List.setIfInBounds_toArray, List.set_cons_succ, List.set_cons_zero]
      go_big_quiet_on
      iterate 3 (go_big_quiet_step (fail))
      go_big_quiet_want
      refine quiet_value (fun w' hw' => run_load_at w' 36 _ rfl b2 (o2 + j * 36) (by rfl) (s.v) 36 _ (by obtain ⟨m, rfl⟩ := hw'; exact HA2.out) Tryz.underlying36 rfl infoU) ?_
      simp only [Act.put, List.setIfInBounds_toArray, List.set_cons_succ, List.set_cons_zero]
      go_big_quiet_on
      iterate 1 (go_big_quiet_step (fail))
      refine wpQuiet_nil ?_
      intro _ hw'
      obtain ⟨nq, rfl⟩ := hw'
      go_wp2
      go_roundw
      case rel => exact ⟨j + 1, by omega, by go_num, belowD hwk nq⟩
      case measure => simp [intOf]; omega
    · have hjn : n = j := by omega
      subst hjn
      have hd : decide ((n : Int) < (n : Int)) = false := decide_eq_false (by omega)
      have hd2 : decide (n < n) = false := decide_eq_false (by omega)
      clear h1' h2'
      go_wp2
      go_ret
      exact ⟨by simp, hwk⟩
end Go.Proofs.YtlohfoggcdaeiaaGreat
/-
  The statement's lent of a record (by hand).
-/
namespace Go.Proofs.YtlohfoggcdaeiaaGreat
open Go.RowKit S
set_option linter.unusedVariables false
set_option linter.unusedSimpArgs false
set_option maxRecDepth 100000 in
set_option maxHeartbeats 4000000 in
theorem rlent_any (r : Rc) (l : List Upd) (hn : l.length = r.upds.n) (hz : r.upds.n * 72 ≤ 140737488351232) (w : World) (hS : Upds w r.upds.ad l) : Calls Tryz.prog 21 #[.agg (tabv r.v 138)] w fun e w' => (∃ g cap, e = .returned (.tuple #[.agg (tabv (setU r ⟨some ⟨g, 0, none⟩, r.upds.n, cap⟩).v 138), .slice (some ⟨g, 0, none⟩) (r.upds.n + 2) cap]) ∧ Lent w.heap.size w' (.slice (some ⟨g, 0, none⟩) (r.upds.n + 2) cap) l) ∧ Below w.heap.size w w' := by
  obtain ⟨m, hm⟩ : ∃ m, r.upds.n = m := ⟨_, rfl⟩
  obtain ⟨wa, hWa⟩ : ∃ wX, w.alloc (.cells (tabv r.v 138) 38) = wX := ⟨_, rfl⟩
  have ra : Has wa w.heap.size 38 r.v 138 := by rw [← hWa]; exact Has.new w 38 r.v 138 _ rfl
  have ba : Below w.heap.size w wa := by rw [← hWa]; exact (Below.refl w.heap.size w).alloc (Nat.le_refl _) _
  obtain ⟨wb, hWb⟩ : ∃ w1, wa.alloc (.cells Tryz.zeroCells38 38) = w1 := ⟨_, rfl⟩
  have rb : Has wb wa.heap.size 38 Rc.zero.v 138 := by rw [← hWb, zeroRc]; exact Has.new wa 38 Rc.zero.v 138 _ rfl
  have bb : Below wa.heap.size wa wb := by rw [← hWb]; exact (Below.refl wa.heap.size wa).alloc (Nat.le_refl _) _
  have ra2 := ra.below bb ra.lt
  have bw : Below w.heap.size w wb := ba.trans (bb.mono ba.size)
  have hlm : l.length = m := by rw [hn, hm]
  obtain ⟨v1, w1, r1, o1, b1⟩ := run_app_all wb r.upds.ad r.upds.c l (hS.below bw) (by omega)
  have r2 := run_sliceU2 w1 mark1 mark2
  obtain ⟨w2, hW2⟩ : ∃ x, w1.alloc (.cells (tabv (twoV mark1 mark2) 72) 36) = x := ⟨_, rfl⟩
  rw [hW2] at r2
  have b2 : Below w1.heap.size w1 w2 := by rw [← hW2]; exact (Below.refl _ _).alloc (Nat.le_refl _) _
  have u2 : Upds w2 (some ⟨w1.heap.size, 0, none⟩) [mark1, mark2] := by rw [← hW2]; exact upds_two w1 mark1 mark2
  have o2 : OwnU wb.heap.size w2 v1 l := o1.below b2 (Nat.le_refl _)
  obtain ⟨v3, w3, r3, o3, gr3⟩ := run_appUs w2 wb.heap.size v1 l [mark1, mark2] ⟨w1.heap.size, 0, none⟩ 2 27 o2 u2 (by show (l.length + 2) * 72 ≤ _; omega) (Nat.le_trans b1.size b2.size)
  have hlen : (l ++ [mark1, mark2]).length = m + 2 := by simp; omega
  obtain ⟨g, cap2, hv3, hcap⟩ : ∃ g cap2, v3 = .slice (some ⟨g, 0, none⟩) (m + 2) cap2 ∧ m + 2 ≤ cap2 := by
    have h := o3.2
    rw [hlen] at h
    rcases h with ⟨_, h⟩ | ⟨g, c, cur, h, _, _, hc, _⟩
    · omega
    · exact ⟨g, c, h, hc⟩
  subst hv3
  have hb3 : Below wb.heap.size wb w3 := (b1.trans (b2.mono b1.size)).trans ⟨gr3.os, gr3.tape, gr3.output, gr3.size, fun k hk => gr3.block k (Nat.lt_of_lt_of_le hk (Nat.le_trans b1.size b2.size)) (fun e => by have := (o2.lt k e.symm).1; omega)⟩
  have bw3 : Below w.heap.size w w3 := bw.trans (hb3.mono bw.size)
  have ra3 := ra2.below hb3 ra2.lt
  have rb3 := rb.below hb3 rb.lt
  have c37b : wb.cell? ⟨w.heap.size, 37, none⟩ = some (.slice r.upds.ad m r.upds.c) := by rw [← hm]; exact ra2.cell 37 (by omega)
  have c37 : w3.cell? ⟨w.heap.size, 37, none⟩ = some (.slice r.upds.ad m r.upds.c) := by rw [← hm]; exact ra3.cell 37 (by omega)
  have f37 := ra3.frozen 37
  obtain ⟨w4, hW4⟩ : ∃ y, w3.setCell ⟨w.heap.size, 37, none⟩ (.slice (some ⟨g, 0, none⟩) m cap2) = y := ⟨_, rfl⟩
  have hgg := o3.lt g rfl
  have hab : w.heap.size < wa.heap.size := ra.lt
  have habb : wa.heap.size < wb.heap.size := rb.lt
  have ra4 : Has w4 w.heap.size 38 (setU r ⟨some ⟨g, 0, none⟩, m, cap2⟩).v 138 := by rw [← hW4]; exact ra3.rUpds ⟨some ⟨g, 0, none⟩, m, cap2⟩
  have rb4 : Has w4 wa.heap.size 38 Rc.zero.v 138 := by rw [← hW4]; exact rb3.other _ _ (by show wa.heap.size ≠ w.heap.size; omega)
  have o4 : OwnU wb.heap.size w4 (.slice (some ⟨g, 0, none⟩) (m + 2) cap2) (l ++ [mark1, mark2]) := by
    rw [← hW4]
    exact o3.same fun k hk => Below.heap_setCell w3 ⟨w.heap.size, 37, none⟩ _ k (by have := (o3.lt k hk).1; show k ≠ w.heap.size; omega)
  have b4 : Below w.heap.size w w4 := by rw [← hW4]; exact bw3.setCell (Nat.le_refl _) _
  have r1' : (Builtin.append_ #[27, 27] 27 #[.slice none 0 0, .slice r.upds.ad m r.upds.c]).run Tryz.prog wb = .ok v1 w1 := by rw [← hlm]; exact r1
  have R1 := hide r1'
  have R2 := hide r2
  have R3 : Hid ((Builtin.append_ #[27, 27] 27 #[v1, .slice (some ⟨w1.heap.size, 0, none⟩) 2 2]).run Tryz.prog w2 = .ok (.slice (some ⟨g, 0, none⟩) (m + 2) cap2) w3) := r3
  have SK : Hid (∀ w, (Instr.sliceAt 27 (.slice (some ⟨g, 0, none⟩) (m + 2) cap2) none (some (.int .i64 (m : Int))) none).run Tryz.prog w = .ok (.slice (some ⟨g, 0, none⟩) m cap2) w) := fun w => sliceK w _ _ _ _ (by omega)
  have RA4 := hide ra4
  have RB4 := hide rb4
  have O4 := hide o4
  have HM := hide hm
  have HLM := hide hlm
  have B4 := hide b4
  rw [hm]
  clear r1 r1' r2 r3 o1 o2 o3 o4 b1 b2 u2 gr3 hW2 ra4 rb4 ra3 rb3 ra2 ra rb ba bb bw bw3 hb3 hS hn hm hlm b4 hgg
  go_enter Tryz.func21, Tryz.ntmps21
  go_wp2_with (first | rw [hWa] | rw [hWb] | rw [hW4] | refine wpList_app rfl _ _ _ rfl R1.out ?_ | refine wpW_build (by rfl) 36 #[(0, .const (.int .i64 77))] rfl [(0, .int .i64 77)] (by simp [Act.eval]) _ built_m1 ?_ | refine wpW_build (by rfl) 36 #[(4, .const (.string ⟨#[109, 97, 114, 107]⟩))] rfl [(4, .string ⟨#[109, 97, 114, 107]⟩)] (by simp [Act.eval]) _ built_m2 ?_ | refine wpList_slice2 rfl 27 _ _ rfl (.agg (tabv mark1.v 36)) (.agg (tabv mark2.v 36)) rfl rfl R2.out ?_ | refine wpList_app rfl _ _ _ rfl R3.out ?_ | refine wpW_load_at 38 _ rfl (w.heap.size) (0) (by rfl) (by rfl) _ 138 _ (RA4.out.at_ 0 (by omega) (fun i hi => by rw [Nat.zero_add])) Tryz.underlying38 rfl infoRc ?_ | refine wpList_storeRc rfl _ _ rfl rfl (wa.heap.size) (setU r ⟨some ⟨g, 0, none⟩, m, cap2⟩) rfl rfl _ RB4.out ?_ | fail)
  (try simp only [Exit.inBlock, Exit.then])
  exact bodyPost_ret (resRcB _ wa.heap.size _ _ (.slice (some ⟨g, 0, none⟩) (m + 2) cap2) 2 3 (RB4.out.row _ (Rc.v (setU r ⟨some ⟨g, 0, none⟩, m, cap2⟩)) rfl) rfl rfl _ rfl) rfl ⟨⟨g, cap2, rfl, g, cap2, by rw [HLM.out], ((O4.out.same fun k hk => setRow_other _ _ _ _ (by have := (O4.out.lt k hk).1; omega)).mono (by omega))⟩, below_setRow B4.out (by omega) _⟩
end Go.Proofs.YtlohfoggcdaeiaaGreat
/-
  RecordBytes: the walk (printed by gen_r34.py).
-/
namespace Go.Proofs.YtlohfoggcdaeiaaGreat
open Go.RowKit S
set_option linter.unusedVariables false
set_option linter.unusedSimpArgs false
open Cu (nb be hl ofL CW Mw CR Mr RS takeS takeA hOf nil8 doneS)
theorem bch {A B C : World} (h : Below A.heap.size A B) (k : Below B.heap.size B C) : Below A.heap.size A C := h.trans (k.mono h.size)
theorem valid_len {r : Rc} {l : List Upd} (hv : validR r l = true) : r.upds.n ≤ 512 := by
  have hk : 1 ≤ r.kind ∧ r.kind ≤ 6 := Classical.byContradiction fun h => by rw [valid_none r l h] at hv; cases hv
  rw [valid_doc r l hk] at hv
  simp only [Bool.and_eq_true] at hv
  by_cases h3 : r.kind = 3
  · have h := hv.1
    unfold askD at h
    rw [h3] at h
    have h' : (decide (r.upds.n ≤ 512) && l.all validB) = true := h
    simp only [Bool.and_eq_true, decide_eq_true_eq] at h'
    exact h'.1
  · have h := hv.2.1
    unfold sameD at h
    simp only [Bool.and_eq_true, decide_eq_true_eq] at h
    have h2 := h.2
    have h0 : (nam r).upds = nilS := by unfold nam; rw [if_neg h3]; split <;> first | rfl | (split <;> first | rfl | (split <;> first | rfl | (split <;> rfl)))
    rw [h0] at h2
    have : nilS.n = 0 := rfl
    omega
theorem rdP_rep (b : ByteArray) : ∃ (rr : Rc) (us : List Upd) (N E : Int), us.length ≤ 512 ∧ ∀ (B : Nat) (e : Ending) (w : World), RdP B (rdOf (fldR b)) e w → ∃ x : Sl, e = .returned (.tuple #[.agg (tabv (setU rr x).v 138), .int .i64 N, .int .i64 E]) ∧ OwnU B w x.v us := by
  cases hR : fldR b with
  | none => exact ⟨Rc.zero, [], 0, 170, by simp, fun B e w h => ⟨nilS, h, OwnU.nil _ _⟩⟩
  | some q =>
    obtain ⟨r, l⟩ := q
    by_cases hv : validR (setU r (lenS l)) l = true
    · refine ⟨r, l, ((bytesR (setU r (lenS l)) l).length : Int), 0, valid_len hv, fun B e w h => ?_⟩
      unfold rdOf at h
      dsimp only at h
      rw [if_pos hv] at h
      exact h
    · refine ⟨Rc.zero, [], 0, 170, by simp, fun B e w h => ?_⟩
      unfold rdOf at h
      dsimp only at h
      rw [if_neg hv] at h
      exact ⟨nilS, h, OwnU.nil _ _⟩
theorem sameD_sl (r : Rc) (x y : Sl) (h : x.n = y.n) : sameD (setU r x) (setU r y) = true := by
  unfold sameD preB setU
  simp [eqU_refl, eqH_refl, h]
set_option maxRecDepth 100000 in
set_option maxHeartbeats 40000000 in
theorem bytes_walk [Inhabited S.Tbl] (r : Rc) (l : List Upd) (b : ByteArray) (w : World) (hn : l.length = r.upds.n) (hU : Upds w r.upds.ad l) (hc : r.upds.n ≤ r.upds.c) (hz : r.upds.c * 72 ≤ 140737488351232) (zb : b.size ≤ 140737488351232) (hG : Glob num w) : Calls Tryz.prog 7 #[.agg (tabv r.v 138), .string b] w fun e w' => e = .returned (.bool true) ∧ Below w.heap.size w w' := by
  have hz9 : r.upds.n * 72 ≤ 140737488351232 := by omega
  have hz8 : r.upds.n ≤ 140737488351232 := by omega
  have hzi : (r.upds.n : Int) ≤ 140737488351232 := by omega
  obtain ⟨w1, hW1⟩ : ∃ wX, w.alloc (.cells (tabv r.v 138) 38) = wX := ⟨_, rfl⟩
  have r1 : Has w1 w.heap.size 38 r.v 138 := by rw [← hW1]; exact Has.new w 38 r.v 138 _ rfl
  have b1 : Below w.heap.size w w1 := by rw [← hW1]; exact (Below.refl w.heap.size w).alloc (Nat.le_refl _) _
  have u1 := hU.below b1
  have HD := hide (head_any w1 (hG.below b1 hG.2.2))
  have R1 := hide r1
  have B1 := hide b1
  have U1 := hide u1
  obtain ⟨rr, us, N, E, hus, hrep⟩ := rdP_rep b
  have HREP := hide hrep
  clear hrep r1 b1 u1 hU hG
  go_enter Tryz.func7, Tryz.ntmps7
  go_wp2_with (first | rw [hW1] | fail)
  refine HD.out.mono ?_
  rintro e w2 ⟨rfl, b2⟩
  have R2 := hide (R1.out.below b2 R1.out.lt)
  have T2 := hide b2
  have DW := hide (dwrite_any r l hn hz8 w2 (U1.out.below b2))
  clear HD b2 hW1
  go_wp2_with (first | refine wpW_load_at 38 _ rfl (w.heap.size) (0) (by rfl) (by rfl) _ 138 _ (R2.out.at_ 0 (by omega) (fun i hi => by rw [Nat.zero_add])) Tryz.underlying38 rfl infoRc ?_ | fail)
  refine DW.out.mono ?_
  rintro e w3 ⟨rfl, b3⟩
  have R3 := hide (R2.out.below b3 R2.out.lt)
  have T3 := hide (bch T2.out b3)
  have LN := hide (rlent_any r l hn hz9 w3 (U1.out.below T3.out))
  obtain ⟨tS, htS⟩ : ∃ z, wrS r l = z := ⟨_, rfl⟩
  obtain ⟨tE, htE⟩ : ∃ z, wrE r l = z := ⟨_, rfl⟩
  rw [htS, htE]
  have HTS := hide htS
  have HTE := hide htE
  clear DW b3 R2 T2 htS htE
  go_wp2_with (first | refine wpW_load_at 38 _ rfl (w.heap.size) (0) (by rfl) (by rfl) _ 138 _ (R3.out.at_ 0 (by omega) (fun i hi => by rw [Nat.zero_add])) Tryz.underlying38 rfl infoRc ?_ | fail)
  refine LN.out.mono ?_
  rintro e w4 ⟨⟨g, cap, rfl, hLent⟩, b4⟩
  obtain ⟨x, hx⟩ : ∃ z : Sl, (⟨some ⟨g, 0, none⟩, r.upds.n, cap⟩ : Sl) = z := ⟨_, rfl⟩
  rw [hx]
  have HX := hide hx
  have hxn : x.n = r.upds.n := by rw [← hx]
  obtain ⟨w5, w6, hW5, q5, hW6, q6, b6⟩ := newRc w4 (setU r x)
  have Q5 := hide q5
  have T4 := hide (bch T3.out b4)
  have LE := hide hLent
  have R6 := hide ((R3.out.below b4 R3.out.lt).below b6 (R3.out.below b4 R3.out.lt).lt)
  have T6 := hide (bch T4.out b6)
  have Q6 := hide q6
  have LE6 := hide (LE.out.below b6 (Nat.le_refl _))
  have U6 : Hid (Upds w6 x.ad l) := by
    show Upds _ _ _
    obtain ⟨g', cap', he, _, h3, _⟩ := LE6.out.form
    rw [← hx]
    rw [hn] at he
    cases he
    exact h3
  have CW := rcwrite_any (setU r x) l (by show l.length = x.n; rw [hxn, hn]) w6 U6.out
  rw [show wrS (setU r x) l = tS by rw [← HTS.out]; unfold wrS; rw [show validR (setU r x) l = validR r l from validR_sl r x r.upds l hxn, show bytesR (setU r x) l = bytesR r l from bytesR_sl r x r.upds l hxn], show wrE (setU r x) l = tE by rw [← HTE.out]; unfold wrE; rw [show validR (setU r x) l = validR r l from validR_sl r x r.upds l hxn]] at CW
  have CW := hide CW
  clear LN b4 b6 q5 q6 hLent hx R3 T3 T4 LE HTS HTE U6
  go_upto_region 5 with (first | rw [hW6] | refine wpList_storeRc rfl _ _ rfl rfl (w4.heap.size) (setU r x) rfl rfl _ Q5.out ?_ | fail)
  try rw [hW6]
  generalize hg6 : w4.heap.size = g6 at Q6 ⊢
  clear hW5 hW6 Q5 hg6
  go_wp2_with (first | refine wpW_load_at 38 _ rfl (g6) (0) (by rfl) (by rfl) _ 138 _ (Q6.out.at_ 0 (by omega) (fun i hi => by rw [Nat.zero_add])) Tryz.underlying38 rfl infoRc ?_ | fail)
  refine CW.out.mono ?_
  rintro e w7 ⟨rfl, b7⟩
  have R7 := hide (R6.out.below b7 R6.out.lt)
  have T7 := hide (bch T6.out b7)
  have LE7 := hide (LE6.out.below b7 (Nat.le_refl _))
  have RD := hide (rcread_any b w7 (by omega))
  clear CW b7 R6 T6 LE6 Q6
  go_wp2_with fail
  refine RD.out.mono ?_
  rintro e w8 ⟨hP, b8⟩
  obtain ⟨x1, rfl, hO1⟩ := HREP.out _ _ _ hP
  obtain ⟨w9, w10, hW9, q9, hW10, q10, b10⟩ := newRc w8 (setU rr x1)
  have Q9 := hide q9
  have Q10 := hide q10
  have O10 := hide (hO1.below b10 (Nat.le_refl _))
  have T10 := hide (bch (bch T7.out b8) b10)
  have b810 := bch b8 b10
  have R10 := hide (R7.out.below b810 R7.out.lt)
  have LE10 := hide (LE7.out.below b810 (Nat.le_refl _))
  have DR := hide (dread_any b w10 (by omega))
  clear RD hP b8 hO1 q9 q10 b10 b810 R7 T7 LE7
  go_upto_region 7 with (first | rw [hW10] | refine wpList_storeRc rfl _ _ rfl rfl (w8.heap.size) (setU rr x1) rfl rfl _ Q9.out ?_ | fail)
  try rw [hW10]
  generalize hg10 : w8.heap.size = g10 at Q10 ⊢
  clear hW9 hW10 Q9 hg10
  go_wp2_with fail
  refine DR.out.mono ?_
  rintro e w11 ⟨hP, b11⟩
  obtain ⟨x2, rfl, hO2⟩ := HREP.out _ _ _ hP
  obtain ⟨w12, w13, hW12, q12, hW13, q13, b13⟩ := newRc w11 (setU rr x2)
  have Q12 := hide q12
  have Q13 := hide q13
  have O13 := hide (hO2.below b13 (Nat.le_refl _))
  have b1113 := bch b11 b13
  have P13 := hide (O10.out.below b1113 (Nat.le_refl _))
  have V13 := hide (Q10.out.below b1113 Q10.out.lt)
  have T13 := hide (bch T10.out b1113)
  have R13 := hide (R10.out.below b1113 R10.out.lt)
  have LE13 := hide (LE10.out.below b1113 (Nat.le_refl _))
  clear DR hP b11 hO2 q12 q13 b13 b1113 R10 T10 LE10 O10 Q10 HREP
  go_upto_region 8 with (first | rw [hW13] | refine wpList_storeRc rfl _ _ rfl rfl (w11.heap.size) (setU rr x2) rfl rfl _ Q12.out ?_ | fail)
  try rw [hW13]
  generalize hg13 : w11.heap.size = g13 at Q13 ⊢
  clear hW12 hW13 Q12 hg13
  have hn1 : x1.n = us.length := (OwnU.sl P13.out).1.symm
  have hn2 : x2.n = us.length := (OwnU.sl O13.out).1.symm
  have c37 : w13.cell? ⟨w.heap.size, 37, none⟩ = some (.slice r.upds.ad r.upds.n r.upds.c) := R13.out.cell 37 (by omega)
  have SY := stays_any r.upds.ad g r.upds.n cap r.upds.c l hn hz8 w13 (by obtain ⟨g', cap', he, h2, _⟩ := LE13.out.form; rw [hn] at he; cases he; exact h2) (U1.out.below T13.out)
  have SY := hide SY
  have e2 : (tE == tE) = true := by simp
  have e3 : (N == N) = true := by simp
  have e4 : (E == E) = true := by simp
  go_wp2_with fail
  refine SY.out.mono ?_
  rintro e w14 ⟨rfl, b14⟩
  have V14 := hide (V13.out.below b14 V13.out.lt)
  have Q14 := hide (Q13.out.below b14 Q13.out.lt)
  have DS := dsame_any (setU rr x1) (setU rr x2) (by show x1.n ≤ _; omega) w14 (fun _ => ⟨us, hn1.symm, (OwnU.sl (P13.out.below b14 (Nat.le_refl _))).2.1, (OwnU.sl (O13.out.below b14 (Nat.le_refl _))).2.1⟩)
  rw [sameD_sl rr x1 x2 (by rw [hn1, hn2])] at DS
  have DS := hide DS
  have T14 := hide (bch T13.out b14)
  clear SY b14 c37 V13 Q13 P13 O13 T13 R13 LE13
  go_wp2_with (first | refine wpW_load_at 38 _ rfl (g10) (0) (by rfl) (by rfl) _ 138 _ (V14.out.at_ 0 (by omega) (fun i hi => by rw [Nat.zero_add])) Tryz.underlying38 rfl infoRc ?_ | refine wpW_load_at 38 _ rfl (g13) (0) (by rfl) (by rfl) _ 138 _ (Q14.out.at_ 0 (by omega) (fun i hi => by rw [Nat.zero_add])) Tryz.underlying38 rfl infoRc ?_ | fail)
  refine DS.out.mono ?_
  rintro e w15 ⟨rfl, b15⟩
  have T15 := B1.out.trans ((bch T14.out b15).mono B1.out.size)
  go_wp2
  go_ret
  exact ⟨by first | rfl | simp, T15⟩
end Go.Proofs.YtlohfoggcdaeiaaGreat
/-
  The two tables of hash, whatever they hold: out of the world's shape.
-/
namespace Go.Proofs.YtlohfoggcdaeiaaGreat
open Go.RowKit S
set_option linter.unusedVariables false
set_option linter.unusedSimpArgs false
theorem u32_has {n : Int} (h : IntKind.u32.has n) : 0 ≤ n ∧ n < 4294967296 := by
  simp [IntKind.has, IntKind.min, IntKind.max, IntKind.signed, IntKind.bits] at h
  omega
set_option maxRecDepth 100000 in
theorem table_of {W : World} {g m : Nat} {t : TypeId} (ct : Tryz.prog.cellTypes Tryz.prog.depth t = some (List.replicate m 158)) (hb : Tryz.prog.buildable t = true) {cs : Array Value} (hg : W.heap[g]? = some (.cells cs t)) (hs : cs.size = m) (h : Tryz.prog.buildable t = true → Row.ok Tryz.prog W .any 0 t cs) :
    ∃ f : Nat → BitVec 32, ∀ i, i < m → W.cell? ⟨g, i, none⟩ = some (wv num f i) := by
  refine ⟨fun i => match cs[i]? with | some (.int _ n) => BitVec.ofInt 32 n | _ => 0#32, fun i hi => ?_⟩
  obtain ⟨ts, h1, _, h3⟩ := h hb
  rw [ct] at h1
  cases h1
  have hci : cs[i]? = some cs[i] := Array.getElem?_eq_getElem (by omega)
  obtain ⟨u, hu, hok⟩ := h3 i cs[i] hci
  have hu2 : u = 158 := by
    rw [List.length_replicate, Nat.mod_eq_of_lt hi, List.getElem?_replicate, if_pos hi] at hu
    exact (Option.some.inj hu).symm
  subst hu2
  unfold Cell.ok at hok
  rw [Tryz.underlying158] at hok
  rw [cell_of_row W g _ cs _ (0, 0) hg, hci]
  generalize cs[i] = v at hok hci
  unfold wv
  cases v with
  | int k n =>
    obtain ⟨rfl, hn⟩ := hok
    have hr := u32_has hn
    refine congrArg some ?_
    simp only [hci]
    show Value.int .u32 n = .int .u32 (((BitVec.ofInt 32 n).toNat : Nat) : Int)
    refine congrArg (Value.int .u32) ?_
    rw [BitVec.toNat_ofInt]
    omega
  | _ => exact hok.elim
set_option maxRecDepth 100000 in
theorem glob_shaped [Inhabited S.Tbl] {W : World} (hsh : W.ShapedOpen Tryz.prog) : ∃ T : Tbl, @Glob ⟨T⟩ num W := by
  have z0 : ((begin Tryz.prog (fun _ _ => 0) default).world.heap[0]?).bind Obj.row? = some (tabv (fun _ => .int .u32 0) 8, 159) := by kernel_rfl
  have z1 : ((begin Tryz.prog (fun _ _ => 0) default).world.heap[1]?).bind Obj.row? = some (tabv (fun _ => .int .u32 0) 64, 163) := by kernel_rfl
  have hg : Tryz.prog.globals.size = 2 := by kernel_rfl
  obtain ⟨c0, e0, s0, k0⟩ := hsh.1 0 _ _ (by rw [hg]; omega) z0
  obtain ⟨c1, e1, s1, k1⟩ := hsh.1 1 _ _ (by rw [hg]; omega) z1
  rw [tabv_size] at s0 s1
  obtain ⟨f, hf⟩ := table_of (m := 8) (by kernel_rfl) (by kernel_rfl) e0 s0 k0
  obtain ⟨k, hk⟩ := table_of (m := 64) (by kernel_rfl) (by kernel_rfl) e1 s1 k1
  have h2 : 2 ≤ W.heap.size := by
    rcases Nat.lt_or_ge 1 W.heap.size with h | h
    · exact h
    · rw [Array.getElem?_eq_none h] at e1; cases e1
  exact ⟨⟨k, f⟩, hk, hf, h2⟩
end Go.Proofs.YtlohfoggcdaeiaaGreat
