/-
  Ledgers against one another; the answers that the document fixes.
-/
import Derived.Test.YtbeoojnofblnjaaGLaw
import Derived.Test.YtbeoojnofblnjaaGFold
namespace Go.Proofs.Ytbeoojnofblnjaa
open Go.RowKit S Go.Shelf Go.Sort
set_option linter.unusedVariables false
set_option linter.unusedSimpArgs false
/-- Open adds behind a slice's address. -/
def Pens (w : World) (ad : Option Addr) (l : List Pen) : Prop := l = [] ∨ ∃ b o, ad = some ⟨b, o, none⟩ ∧ b < w.heap.size ∧ ∀ i s, l[i]? = some s → At w b (o + i * 35) s.v 35
theorem Pens.get {w : World} {ad : Option Addr} {l : List Pen} (h : Pens w ad l) (k : Nat) (s : Pen) (hk : l[k]? = some s) : ∃ b o, ad = some ⟨b, o, none⟩ ∧ b < w.heap.size ∧ At w b (o + k * 35) s.v 35 := by
  rcases h with rfl | ⟨b, o, h1, h2, h3⟩
  · simp at hk
  · exact ⟨b, o, h1, h2, h3 k s hk⟩
theorem Pens.below {w w' : World} {ad : Option Addr} {l : List Pen} (h : Pens w ad l) (hb : Below w.heap.size w w') : Pens w' ad l := by
  rcases h with rfl | ⟨b, o, h1, h2, h3⟩
  · exact .inl rfl
  · exact .inr ⟨b, o, h1, Nat.lt_of_lt_of_le h2 hb.size, fun i s hs => (h3 i s hs).below hb h2⟩
theorem OwnP.pens {B : Nat} {w : World} {v : Value} {l : List Pen} (h : OwnP B w v l) : ∃ ad cap, v = .slice ad l.length cap ∧ Pens w ad l ∧ (∀ x, ad = some x → x.block < w.heap.size ∧ B ≤ x.block) ∧ l.length ≤ cap ∧ cap ≤ maxLen := by
  obtain ⟨hl, ⟨rfl, hn⟩ | ⟨g, cap, cur, rfl, hb, hg, h1, h2, h3, h4⟩⟩ := h
  · have : l = [] := List.length_eq_zero_iff.1 hn
    subst this
    exact ⟨none, 0, rfl, .inl rfl, (fun x hx => by cases hx), by simp, by decide⟩
  · have hlt : g < w.heap.size := by
      rcases Nat.lt_or_ge g w.heap.size with h | h
      · exact h
      · rw [Array.getElem?_eq_none h] at hg; cases hg
    refine ⟨some ⟨g, 0, none⟩, cap, rfl, .inr ⟨g, 0, rfl, hlt, fun i s hs j hj => ?_⟩, (fun x hx => by cases hx; exact ⟨hlt, hb⟩), h1, h2⟩
    rw [cell_of_row w g _ cur _ (0, 0) hg]
    have hi : i < l.length := (List.getElem?_eq_some_iff.1 hs).1
    have e := cellsP_get l i s hs j hj
    rw [← h4, List.getElem?_take] at e
    rw [if_pos (by omega), Array.getElem?_toList] at e
    rw [show 0 + i * 35 + j = i * 35 + j by omega, e]
    unfold Pen.enc
    rw [Array.getElem?_toList, tabv_get _ _ _ hj]
def eqP (s t : Pen) : Bool := (s.ours == t.ours) && ((s.id == t.id) && ((s.amt == t.amt) && eqH s.hash t.hash))
theorem eqP_refl (s : Pen) : eqP s s = true := by unfold eqP; rw [eqH_refl]; simp
theorem fieldsPen : (Try.prog.fieldsOf 55).toList.map (fun f => (f.name, f.type, f.offset)) = [("Ours", 4, 0), ("ID", 2, 1), ("Amount", 2, 2), ("Hash", 41, 3)] := by kernel_rfl
theorem Pen.v_hash (s : Pen) (j : Nat) (hj : j < 32) : s.v (3 + j) = bv s.hash j := by
  unfold Pen.v bv
  rw [if_neg (by omega), if_neg (by omega), if_neg (by omega), Nat.add_sub_cancel_left]
theorem partHashP (w : World) (s : Pen) : (part 41 (tabv s.v 35) 3).run Try.prog w = .ok (.agg (tabv (bv s.hash) 32)) w := by
  have hi : (Try.prog.info? 41).map (·.size) = some 32 := by kernel_rfl
  cases hq : Try.prog.info? 41 with
  | none => simp [hq] at hi
  | some i =>
    have hs : i.size = 32 := by simpa [hq] using hi
    have e : (tabv s.v 35).extract 3 35 = tabv (bv s.hash) 32 := by
      refine tabv_ext _ _ _ (by simp [tabv_size]) fun i hi => ?_
      rw [Array.getElem?_extract, tabv_get _ _ _ (by omega)]
      simp only [tabv_size]
      rw [if_pos (by omega), Pen.v_hash s i hi]
    simp [part, isAgg, run_underlying Try.underlying41, sizeOf, typeInfo, hq, hs, e]
set_option maxRecDepth 100000 in
theorem eqPD (w : World) (s t : Pen) : (Op.equalIn 10000 55 (.agg (tabv s.v 35)) (.agg (tabv t.v 35))).run Try.prog w = .ok (eqP s t) w := by
  rw [run_equalIn_struct w 9999 55 _ _ (by kernel_rfl) (by kernel_rfl)]
  have hf := fieldsPen
  generalize (Try.prog.fieldsOf 55).toList = fs at hf
  rcases fs with _ | ⟨f0, _ | ⟨f1, _ | ⟨f2, _ | ⟨f3, _ | ⟨f4, fs⟩⟩⟩⟩⟩
  · simp at hf
  · simp at hf
  · simp at hf
  · simp at hf
  · simp only [List.map_cons, List.map_nil, List.cons.injEq, Prod.mk.injEq, and_true] at hf
    obtain ⟨⟨n0, t0, o0⟩, ⟨n1, t1, o1⟩, ⟨n2, t2, o2⟩, n3, t3, o3⟩ := hf
    have p0 : ∀ s : Pen, (part 4 (tabv s.v 35) 0).run Try.prog w = .ok (.bool s.ours) w := fun s => by simp [part, isAgg, run_underlying Try.underlying4, tabv_get _ _ _ (show 0 < 35 by omega), Pen.v]
    have p1 : ∀ s : Pen, (part 2 (tabv s.v 35) 1).run Try.prog w = .ok (.int .i64 s.id) w := fun s => by simp [part, isAgg, run_underlying Try.underlying2, tabv_get _ _ _ (show 1 < 35 by omega), Pen.v]
    have p2 : ∀ s : Pen, (part 2 (tabv s.v 35) 2).run Try.prog w = .ok (.int .i64 s.amt) w := fun s => by simp [part, isAgg, run_underlying Try.underlying2, tabv_get _ _ _ (show 2 < 35 by omega), Pen.v]
    have q0 : (Op.equalIn 9999 4 (.bool s.ours) (.bool t.ours)).run Try.prog w = .ok (s.ours == t.ours) w := run_equalIn_bool w 9998 4 _ _ Try.underlying4
    have q1 : (Op.equalIn 9999 2 (.int .i64 s.id) (.int .i64 t.id)).run Try.prog w = .ok (s.id == t.id) w := run_equalIn_int w 9998 2 .i64 .i64 _ _ Try.underlying2
    have q2 : (Op.equalIn 9999 2 (.int .i64 s.amt) (.int .i64 t.amt)).run Try.prog w = .ok (s.amt == t.amt) w := run_equalIn_int w 9998 2 .i64 .i64 _ _ Try.underlying2
    have q3 : (Op.equalIn 9999 41 (.agg (tabv (bv s.hash) 32)) (.agg (tabv (bv t.hash) 32))).run Try.prog w = .ok (eqH s.hash t.hash) w := eqHD 9997 w _ _
    have m0 : f0.name ≠ "_" := by rw [n0]; decide
    have m1 : f1.name ≠ "_" := by rw [n1]; decide
    have m2 : f2.name ≠ "_" := by rw [n2]; decide
    have m3 : f3.name ≠ "_" := by rw [n3]; decide
    simp only [Op.eqFields, if_pos m0, if_pos m1, if_pos m2, if_pos m3, t0, t1, t2, t3, o0, o1, o2, o3, Sem.run_bind, p0, p1, p2, partHashP, q0, q1, q2, q3, Result.andThen_ok]
    unfold eqP
    generalize (s.ours == t.ours) = b0 at *
    generalize (s.id == t.id) = b1 at *
    generalize (s.amt == t.amt) = b2 at *
    generalize eqH s.hash t.hash = b3 at *
    cases b0 <;> cases b1 <;> cases b2 <;> cases b3 <;> simp [partHashP, p1, p2, q1, q2, q3]
  · simp at hf
theorem guardP : Try.prog.eqGuardType Try.prog.depth 55 = false := by kernel_rfl
set_option maxRecDepth 100000 in
set_option maxHeartbeats 1000000 in
theorem sameL_any (x y : Int) (l : List Pen) (v1 v2 : Value) (B1 B2 : Nat) (w : World) (o1 : OwnP B1 w v1 l) (o2 : OwnP B2 w v2 l) : Calls Try.prog 11 #[.agg (tabv (ledv x y v1) 3), .agg (tabv (ledv x y v2) 3)] w fun e w' => e = .returned (.bool true) ∧ Below w.heap.size w w' := by
  obtain ⟨ad1, c1, rfl, h1, _, hc1, hm1⟩ := o1.pens
  obtain ⟨ad2, c2, rfl, h2, _, hc2, hm2⟩ := o2.pens
  obtain ⟨n, hn⟩ : ∃ n, l.length = n := ⟨_, rfl⟩
  rw [hn] at hc1 hc2 ⊢
  have hni : (n : Int) ≤ 9223372036854775807 := by unfold maxLen at hm1; omega
  obtain ⟨V1, hV1⟩ : ∃ z, w.alloc (.cells (tabv (ledv x y (.slice ad1 n c1)) 3) 46) = z := ⟨_, rfl⟩
  obtain ⟨V2, hV2⟩ : ∃ z, V1.alloc (.cells (tabv (ledv x y (.slice ad2 n c2)) 3) 46) = z := ⟨_, rfl⟩
  have k1 : Has V1 w.heap.size 46 (ledv x y (.slice ad1 n c1)) 3 := by rw [← hV1]; exact Has.new w 46 _ 3 _ rfl
  have b1 : Below w.heap.size w V1 := by rw [← hV1]; exact (Below.refl _ _).alloc (Nat.le_refl _) _
  have b2 : Below V1.heap.size V1 V2 := by rw [← hV2]; exact (Below.refl _ _).alloc (Nat.le_refl _) _
  have k2 : Has V2 V1.heap.size 46 (ledv x y (.slice ad2 n c2)) 3 := by rw [← hV2]; exact Has.new V1 46 _ 3 _ rfl
  have q1 := k1.below b2 k1.lt
  have gb := b1.trans (b2.mono b1.size)
  clear k1 b1 b2 o1 o2 hc1 hc2 hm1 hm2
  obtain ⟨g1, hg1⟩ : ∃ g, w.heap.size = g := ⟨_, rfl⟩
  obtain ⟨g2, hg2⟩ : ∃ g, V1.heap.size = g := ⟨_, rfl⟩
  rw [hg1] at q1
  rw [hg2] at k2
  have a0 : V2.cell? ⟨g1, 0, none⟩ = some (.int .i64 x) := q1.cell 0 (by omega)
  have a1 : V2.cell? ⟨g1, 1, none⟩ = some (.int .i64 y) := q1.cell 1 (by omega)
  have a2 : V2.cell? ⟨g1, 2, none⟩ = some (.slice ad1 n c1) := q1.cell 2 (by omega)
  have d0 : V2.cell? ⟨g2, 0, none⟩ = some (.int .i64 x) := k2.cell 0 (by omega)
  have d1 : V2.cell? ⟨g2, 1, none⟩ = some (.int .i64 y) := k2.cell 1 (by omega)
  have d2 : V2.cell? ⟨g2, 2, none⟩ = some (.slice ad2 n c2) := k2.cell 2 (by omega)
  have Q1 := hide q1
  have K2 := hide k2
  have h1 := h1.below gb
  have h2 := h2.below gb
  have hd0 : ((n : Int) != (n : Int)) = false := by simp
  have hd1 : (x != x) = false := by simp
  have hd3 : (y != y) = false := by simp
  have hgs := guardP
  have HN := hide hn
  clear hn q1 k2
  go_enter Try.func11, Try.ntmps11
  go_wp2
  go_loopw [5] (fun i wr => ∃ j : Nat, j ≤ n ∧ i = .int .i64 (j : Int) ∧ Below V2.heap.size V2 wr) (fun i _ => n - (intOf i).toNat)
  case atStart => exact ⟨0, Nat.zero_le _, rfl, Below.refl _ _⟩
  case round =>
    obtain ⟨j, hj, rfl, hwk⟩ := hrel
    have h1' := h1.below hwk
    have h2' := h2.below hwk
    have A2 := (hwk.cell (p := ⟨g1, 2, none⟩) Q1.out.lt).trans a2
    have D2 := (hwk.cell (p := ⟨g2, 2, none⟩) K2.out.lt).trans d2
    clear a0 a1 a2 d0 d1 d2
    by_cases hlt : j < n
    · have hd : decide ((j : Int) < (n : Int)) = true := decide_eq_true (by omega)
      have hd2 : decide (j < n) = true := decide_eq_true hlt
      have hk0 : (0 : Int) ≤ (j : Int) := by omega
      have hk1 : (j : Int) < (n : Int) := by omega
      obtain ⟨s, hs⟩ : ∃ s, l[j]? = some s := ⟨_, List.getElem?_eq_getElem (by rw [HN.out]; exact hlt)⟩
      obtain ⟨b1, o1, rfl, hb1, hA1⟩ := h1'.get j s hs
      obtain ⟨b2, o2, rfl, hb2, hA2⟩ := h2'.get j s hs
      have hqs : ∀ w : World, (Op.equalIn 10000 55 (.agg (tabv s.v 35)) (.agg (tabv s.v 35))).run Try.prog w = .ok true w := fun w => by rw [eqPD, eqP_refl]
      have HA1 := hide hA1
      have HA2 := hide hA2
      clear hA1 hA2 hb1 hb2 hs h1' h2'
      go_wp2
      refine wp_region_quiet_lit (by kernel_rfl) (by kernel_rfl) ?_
      iterate 4 (go_big_quiet_step (fail))
      go_big_quiet_want
      refine quiet_value (fun w' hw' => run_load_at w' 55 _ rfl b1 (o1 + j * 35) (by rfl) (s.v) 35 _ (by obtain ⟨m, rfl⟩ := hw'; exact HA1.out) Try.underlying55 rfl infoP) ?_
      simp only [Act.put, List.setIfInBounds_toArray, List.set_cons_succ, List.set_cons_zero]
      go_big_quiet_on
      iterate 4 (go_big_quiet_step (fail))
      go_big_quiet_want
      refine quiet_value (fun w' hw' => run_load_at w' 55 _ rfl b2 (o2 + j * 35) (by rfl) (s.v) 35 _ (by obtain ⟨m, rfl⟩ := hw'; exact HA2.out) Try.underlying55 rfl infoP) ?_
      simp only [Act.put, List.setIfInBounds_toArray, List.set_cons_succ, List.set_cons_zero]
      go_big_quiet_on
      iterate 1 (go_big_quiet_step (fail))
      refine wpQuiet_nil ?_
      intro _ hw'
      obtain ⟨nq, rfl⟩ := hw'
      go_wp2
      go_roundw
      case rel => exact ⟨j + 1, by omega, by go_num, belowD hwk nq⟩
      case measure => simp [intOf]; omega
    · have hjn : n = j := by omega
      subst hjn
      have hd : decide ((n : Int) < (n : Int)) = false := decide_eq_false (by omega)
      have hd2 : decide (n < n) = false := decide_eq_false (by omega)
      go_wp2
      go_ret
      exact ⟨by simp, gb.trans (hwk.mono gb.size)⟩
end Go.Proofs.Ytbeoojnofblnjaa
