/-
  UpdateNexts: lent, Same, the walk (printed by gen_nexts.py).
-/
import Derived.Test.YtagopbdoabhjfaaDoorUHead
import Derived.BigQuiet
namespace Go.Proofs.YtagopbdoabhjfaaDoor
open Go.RowKit S
set_option linter.unusedVariables false
set_option linter.unusedSimpArgs false
set_option maxRecDepth 100000 in
set_option maxHeartbeats 1000000 in
theorem same_any (ad1 ad2 : Option Addr) (n c1 c2 : Nat) (l : List Upd) (hn : l.length = n) (hz : n ≤ 140737488351232) (w : World) (h1 : Upds w ad1 l) (h2 : Upds w ad2 l) : Calls Tryd.prog 26 #[.slice ad1 n c1, .slice ad2 n c2] w fun e w' => e = .returned (.bool true) ∧ Below w.heap.size w w' := by
  have hni : (n : Int) ≤ 140737488351232 := by omega
  have hd0 : ((n : Int) != (n : Int)) = false := by simp
  have hgs := guardU
  have HN := hide hn
  clear hn
  go_enter Tryd.func26, Tryd.ntmps26
  go_wp2
  go_loopw [5] (fun i wr => ∃ j : Nat, j ≤ n ∧ i = .int .i64 (j : Int) ∧ Below w.heap.size w wr) (fun i _ => n - (intOf i).toNat)
  case atStart => exact ⟨0, Nat.zero_le _, rfl, Below.refl _ _⟩
  case round =>
    obtain ⟨j, hj, rfl, hwk⟩ := hrel
    have h1' := h1.below hwk
    have h2' := h2.below hwk
    by_cases hlt : j < n
    · have hd : decide ((j : Int) < (n : Int)) = true := decide_eq_true (by omega)
      have hd2 : decide (j < n) = true := decide_eq_true hlt
      have hk0 : (0 : Int) ≤ (j : Int) := by omega
      have hk1 : (j : Int) < (n : Int) := by omega
      obtain ⟨s, hs⟩ : ∃ s, l[j]? = some s := ⟨_, List.getElem?_eq_getElem (by rw [HN.out]; exact hlt)⟩
      obtain ⟨b1, o1, rfl, hb1, hA1⟩ := h1'.get j s hs
      obtain ⟨b2, o2, rfl, hb2, hA2⟩ := h2'.get j s hs
      have hqs : ∀ w : World, (Op.equalIn 10000 25 (.agg (tabv s.v 36)) (.agg (tabv s.v 36))).run Tryd.prog w = .ok true w := fun w => by rw [eqUD, eqU_refl]
      have HA1 := hide hA1
      have HA2 := hide hA2
      clear hA1 hA2 hb1 hb2 hs h1' h2'
      go_wp2
      refine wp_region_quiet_lit (by kernel_rfl) (by kernel_rfl) ?_
      iterate 3 (go_big_quiet_step (fail))
      go_big_quiet_want
      refine quiet_value (fun w' hw' => run_load_at w' 25 _ rfl b1 (o1 + j * 36) (by rfl) (s.v) 36 _ (by obtain ⟨m, rfl⟩ := hw'; exact HA1.out) Tryd.underlying25 rfl infoU) ?_
      simp only [Act.put, List.setIfInBounds_toArray, List.set_cons_succ, List.set_cons_zero]
      go_big_quiet_on
      iterate 3 (go_big_quiet_step (fail))
      go_big_quiet_want
      refine quiet_value (fun w' hw' => run_load_at w' 25 _ rfl b2 (o2 + j * 36) (by rfl) (s.v) 36 _ (by obtain ⟨m, rfl⟩ := hw'; exact HA2.out) Tryd.underlying25 rfl infoU) ?_
      simp only [Act.put, List.setIfInBounds_toArray, List.set_cons_succ, List.set_cons_zero]
      go_big_quiet_on
      iterate 1 (go_big_quiet_step (fail))
      refine wpQuiet_nil ?_
      intro _ hw'
      obtain ⟨nq, rfl⟩ := hw'
      go_wp2
      go_roundw
      case rel => exact ⟨j + 1, by omega, by go_num, belowD hwk nq⟩
      case measure => simp [intOf]; omega
    · have hjn : j = n := by omega
      subst hjn
      have hd : decide ((j : Int) < (j : Int)) = false := decide_eq_false (by omega)
      have hd2 : decide (j < j) = false := decide_eq_false (by omega)
      go_wp2
      go_ret
      exact ⟨by simp, hwk⟩
def mark1 : Upd := ⟨77, 0, 0, fun _ => 0, nilB⟩
def mark2 : Upd := ⟨0, 0, 0, fun _ => 0, ⟨#[109, 97, 114, 107]⟩⟩
set_option maxRecDepth 100000 in
theorem built_m1 : Tryd.prog.built 25 [(0, .int .i64 77)] = some (tabv mark1.v 36) := by kernel_rfl
set_option maxRecDepth 100000 in
theorem built_m2 : Tryd.prog.built 25 [(4, .string ⟨#[109, 97, 114, 107]⟩)] = some (tabv mark2.v 36) := by kernel_rfl
def twoV (s t : Upd) : Nat → Value := fun i => if i < 36 then s.v i else t.v (i - 36)
set_option maxRecDepth 100000 in
theorem run_sliceU2 (w : World) (s t : Upd) : (Instr.buildSlice 38 2 #[(0, .agg (tabv s.v 36)), (1, .agg (tabv t.v 36))]).run Tryd.prog w = .ok (.slice (some ⟨w.heap.size, 0, none⟩) 2 2) (w.alloc (.cells (tabv (twoV s t) 72) 25)) := by
  obtain ⟨i, h1, h2, h3, h4⟩ := infoUP
  have e : Instr.fill (fun i => some (i * 36, 36)) ((Array.range 72).map ((tabv Upd.zero.v 36)[· % 36]!)) [(0, .agg (tabv s.v 36)), (1, .agg (tabv t.v 36))] = some (tabv (twoV s t) 72) := by kernel_rfl
  have ez : (Value.agg (tabv Upd.zero.v 36)).cells = tabv Upd.zero.v 36 := rfl
  simp only [Instr.buildSlice, Sem.run_bind, run_underlying Tryd.underlying38, Result.andThen_ok, sizeOf, typeInfo, h1, h3]
  simp [zeroValue, typeInfo, h1, h2, ez, tabv_size]
  rw [h3, if_neg (by omega), if_neg (by omega), e]
  simp [newRow]
theorem upds_two (w : World) (s t : Upd) : Upds (w.alloc (.cells (tabv (twoV s t) 72) 25)) (some ⟨w.heap.size, 0, none⟩) [s, t] := .inr ⟨w.heap.size, 0, rfl, by simp, fun i u hu j hj => by
  have h := Has.new w 25 (twoV s t) 72 _ rfl
  have hi : i < 2 := by have := (List.getElem?_eq_some_iff.1 hu).1; simpa using this
  match i, hi, hu with
  | 0, _, hu =>
    simp only [List.getElem?_cons_zero, Option.some.injEq] at hu
    subst hu
    rw [h.cell (0 + 0 * 36 + j) (by omega), show 0 + 0 * 36 + j = j by omega]
    unfold twoV; rw [if_pos hj]
  | 1, _, hu =>
    simp only [List.getElem?_cons_succ, List.getElem?_cons_zero, Option.some.injEq] at hu
    subst hu
    rw [h.cell (0 + 1 * 36 + j) (by omega), show 0 + 1 * 36 + j = 36 + j by omega]
    unfold twoV; rw [if_neg (by omega), Nat.add_sub_cancel_left]⟩
/-- append(v, news...) onto a list of one's own. -/
theorem run_appUs (w : World) (B : Nat) (v : Value) (l news : List Upd) (a : Addr) (cap : Nat) (ty : TypeId) (hown : OwnU B w v l) (hS : Upds w (some a) news) (hsz : (l.length + news.length) * 72 ≤ 140737488355328) (hB : B ≤ w.heap.size) :
    ∃ v' w', (Builtin.append_ #[38, 38] ty #[v, .slice (some a) news.length cap]).run Tryd.prog w = .ok v' w' ∧ OwnU B w' v' (l ++ news) ∧ w.grownBy w' v.ownBlock := by
  obtain ⟨i, h1, h2, h3, h4⟩ := infoUP
  obtain ⟨v', w', e1, e2, e3, _⟩ := run_append_own (P := Tryd.prog) w B 38 ty 25 i _ 36 72 Tryd.underlying38 h1 h2 h3 h4 (by rfl) (by omega) v l.length (cellsU l) hown a news.length cap (cellsU news) (cellsU_length news)
    (fun j u hj => by
      have hjl : j < news.length * 36 := by have := (List.getElem?_eq_some_iff.1 hj).1; rw [cellsU_length] at this; exact this
      rcases hS with rfl | ⟨b, o, ha, _, h⟩
      · simp at hjl
      · cases ha
        have hk : j / 36 < news.length := by omega
        have hs : news[j / 36]? = some news[j / 36] := List.getElem?_eq_getElem hk
        have hc := h (j / 36) _ hs (j % 36) (by omega)
        have hg := cellsU_get news (j / 36) _ hs (j % 36) (by omega)
        rw [show j / 36 * 36 + j % 36 = j by omega, hj] at hg
        have hadd : (⟨b, o, none⟩ : Addr).add j = ⟨b, o + j, none⟩ := by unfold Addr.add; split <;> simp_all
        rw [hadd, hg, ← hc, show o + j / 36 * 36 + j % 36 = o + j by omega])
    (oneCell_U _) (by unfold maxLen; omega) hsz hB
  refine ⟨v', w', e1, ?_, e3⟩
  unfold OwnU
  rw [List.length_append, cellsU_append]
  exact e2
section
variable {ops : Array Oper} {rest : List Oper} {o : Oper} {a : Act} {w w' : World} {Q : Exit → Act → World → Prop}
theorem wpList_slice2 {P : Program} {v : Value} (hg : o.guard = none) (T : TypeId) (x x2 : Operand) (ho : o.op = .buildSlice T 2 #[(0, x), (1, x2)]) (y y2 : Value) (hy : a.eval x = y) (hy2 : a.eval x2 = y2) (h : (Instr.buildSlice T 2 #[(0, y), (1, y2)]).run P w = .ok v w') (k : wpList P ops Q rest (a.put o.dst v) w') : wpList P ops Q (o :: rest) a w :=
  wpList_plain hg fun K hK => wpRun (by simp [execOp, ho, hy, hy2, h, Result.andThen]) (hK _ _ k)
end
/-- What lent answers: the updates, with two marks behind them. -/
def Lent (B : Nat) (w : World) (v : Value) (l : List Upd) : Prop := ∃ g cap, v = .slice (some ⟨g, 0, none⟩) (l.length + 2) cap ∧ OwnU B w v (l ++ [mark1, mark2])
set_option maxRecDepth 100000 in
set_option maxHeartbeats 1000000 in
theorem lent_any (ad : Option Addr) (n cap : Nat) (l : List Upd) (hn : l.length = n) (hz : n * 72 ≤ 140737488351232) (w : World) (hS : Upds w ad l) : Calls Tryd.prog 23 #[.slice ad n cap] w fun e w' => (∃ v, e = .returned v ∧ Lent w.heap.size w' v l) ∧ Below w.heap.size w w' := by
  subst hn
  obtain ⟨v1, w1, r1, o1, b1⟩ := run_app_all w ad cap l hS (by omega)
  have r2 := run_sliceU2 w1 mark1 mark2
  obtain ⟨w2, hW2⟩ : ∃ x, w1.alloc (.cells (tabv (twoV mark1 mark2) 72) 25) = x := ⟨_, rfl⟩
  rw [hW2] at r2
  have b2 : Below w1.heap.size w1 w2 := by rw [← hW2]; exact (Below.refl _ _).alloc (Nat.le_refl _) _
  have u2 : Upds w2 (some ⟨w1.heap.size, 0, none⟩) [mark1, mark2] := by rw [← hW2]; exact upds_two w1 mark1 mark2
  have o2 : OwnU w.heap.size w2 v1 l := o1.below b2 (Nat.le_refl _)
  obtain ⟨v3, w3, r3, o3, gr3⟩ := run_appUs w2 w.heap.size v1 l [mark1, mark2] ⟨w1.heap.size, 0, none⟩ 2 38 o2 u2 (by show (l.length + 2) * 72 ≤ _; omega) (Nat.le_trans b1.size b2.size)
  have hlen : (l ++ [mark1, mark2]).length = l.length + 2 := by simp
  obtain ⟨g, cap2, hv3, hcap⟩ : ∃ g cap2, v3 = .slice (some ⟨g, 0, none⟩) (l.length + 2) cap2 ∧ l.length + 2 ≤ cap2 := by
    have h := o3.2
    rw [hlen] at h
    rcases h with ⟨_, h⟩ | ⟨g, c, cur, h, _, _, hc, _⟩
    · omega
    · exact ⟨g, c, h, hc⟩
  subst hv3
  have hb : Below w.heap.size w w3 := (b1.trans (b2.mono b1.size)).trans ⟨gr3.os, gr3.tape, gr3.output, gr3.size, fun k hk => gr3.block k (Nat.lt_of_lt_of_le hk (Nat.le_trans b1.size b2.size)) (fun e => by have := (o2.lt k e.symm).1; omega)⟩
  have R1 := hide r1
  have R2 := hide r2
  have R3 := hide r3
  have HO : Hid (Lent w.heap.size w3 (.slice (some ⟨g, 0, none⟩) (l.length + 2) cap2) l) := ⟨g, cap2, rfl, o3⟩
  clear r1 r2 r3 o1 o2 o3 b1 b2 u2 gr3 hW2
  obtain ⟨m, hm⟩ : ∃ m, l.length = m := ⟨_, rfl⟩
  rw [hm] at R1 hcap hz HO R3 ⊢
  clear hm
  have hml : [mark1, mark2].length = 2 := rfl
  rw [hml] at R3
  go_enter Tryd.func23, Tryd.ntmps23
  go_wp2_with (first | refine wpList_app rfl _ _ _ rfl R1.out ?_ | refine wpW_build (by rfl) 25 #[(0, .const (.int .i64 77))] rfl [(0, .int .i64 77)] (by simp [Act.eval]) _ built_m1 ?_ | refine wpW_build (by rfl) 25 #[(4, .const (.string ⟨#[109, 97, 114, 107]⟩))] rfl [(4, .string ⟨#[109, 97, 114, 107]⟩)] (by simp [Act.eval]) _ built_m2 ?_ | refine wpList_slice2 rfl 38 _ _ rfl (.agg (tabv mark1.v 36)) (.agg (tabv mark2.v 36)) rfl rfl R2.out ?_ | refine wpList_app rfl _ _ _ rfl R3.out ?_)
  go_ret
  exact ⟨⟨_, rfl, HO.out⟩, hb⟩
theorem Lent.below {B B' : Nat} {w w' : World} {v : Value} {l : List Upd} (h : Lent B w v l) (hb : Below B' w w') (hB : w.heap.size ≤ B') : Lent B w' v l := by
  obtain ⟨g, cap, h1, h2⟩ := h
  exact ⟨g, cap, h1, h2.below hb hB⟩
theorem Lent.form {B : Nat} {w : World} {v : Value} {l : List Upd} (h : Lent B w v l) : ∃ g cap, v = .slice (some ⟨g, 0, none⟩) (l.length + 2) cap ∧ Upds w (some ⟨g, 0, none⟩) (l ++ [mark1, mark2]) ∧ Upds w (some ⟨g, 0, none⟩) l ∧ l.length + 2 ≤ cap ∧ g < w.heap.size ∧ cap ≤ maxLen := by
  obtain ⟨g, cap, rfl, h2⟩ := h
  have hlen : (l ++ [mark1, mark2]).length = l.length + 2 := by simp
  obtain ⟨ad, c, e, hs, hlt, hc, hm⟩ := h2.upds
  rw [hlen] at e
  cases e
  have hb := hlt _ rfl
  refine ⟨g, cap, rfl, hs, .inr ⟨g, 0, rfl, hb.1, fun i s hi => ?_⟩, by rw [hlen] at hc; exact hc, hb.1, hm⟩
  have hil : i < l.length := (List.getElem?_eq_some_iff.1 hi).1
  obtain ⟨b', o', e', _, hA⟩ := hs.get i s (by rw [List.getElem?_append_left hil]; exact hi)
  cases e'
  exact hA
end Go.Proofs.YtagopbdoabhjfaaDoor
