import Derived.Test.YtlohfoggcdaeiaaGreatSStep
import Derived.Test.YtlohfoggcdaeiaaGreatURead
import Derived.Test.YtlohfoggcdaeiaaGreatUMath
import Derived.Test.YtlohfoggcdaeiaaGreatUNext
import Derived.BigQuiet
/-
  Not of use in this seat. STUB: update/UHead
-/
/-
  UpdateNexts: lent, Same, the walk (printed by gen_nexts.py).
-/
namespace Go.Proofs.YtlohfoggcdaeiaaGreat
set_option maxRecDepth 20000
open Go.RowKit S
set_option linter.unusedVariables false
set_option linter.unusedSimpArgs false
set_option maxRecDepth 100000 in
set_option maxHeartbeats 1000000 in
theorem same_any (ad1 ad2 : Option Addr) (n c1 c2 : Nat) (l : List Upd) (hn : l.length = n) (hz : n ≤ 140737488351232) (w : World) (h1 : Upds w ad1 l) (h2 : Upds w ad2 l) : Calls Tryz.prog 47 #[.slice ad1 n c1, .slice ad2 n c2] w fun e w' => e = .returned (.bool true) ∧ Below w.heap.size w w' := by
  have hni : (n : Int) ≤ 140737488351232 := by omega
  have hd0 : ((n : Int) != (n : Int)) = false := by simp
  have hgs := guardU
  have HN := hide hn
  clear hn
  go_enter Tryz.func47, Tryz.ntmps47
  go_wp2
  go_loopw [5] (fun i wr => ∃ j : Nat, j ≤ n ∧ i = .int .i64 (j : Int) ∧ Below w.heap.size w wr) (fun i _ => n - (intOf i).toNat)
  case atStart => exact ⟨0, Nat.zero_le _, rfl, Below.refl _ _⟩
  case round =>
    obtain ⟨j, hj, rfl, hwk⟩ := hrel
    have h1' := h1.below hwk
    have h2' := h2.below hwk
    by_cases hlt : j < n
    · have hd : decide ((j : Int) < (n : Int)) = true := decide_eq_true (by omega)
      have hd2 : decide (j < n) = true := decide_eq_true hlt
      have hk0 : (0 : Int) ≤ (j : Int) := by omega
      have hk1 : (j : Int) < (n : Int) := by omega
      obtain ⟨s, hs⟩ : ∃ s, l[j]? = some s := ⟨_, List.getElem?_eq_getElem (by rw [HN.out]; exact hlt)⟩
      obtain ⟨b1, o1, rfl, hb1, hA1⟩ := h1'.get j s hs
      obtain ⟨b2, o2, rfl, hb2, hA2⟩ := h2'.get j s hs
      have hqs : ∀ w : World, (Op.equalIn 10000 36 (.agg (tabv s.v 36)) (.agg (tabv s.v 36))).run Tryz.prog w = .ok true w := fun w => by rw [eqUD, eqU_refl]
      have HA1 := hide hA1
      have HA2 := hide hA2
      clear hA1 hA2 hb1 hb2 hs h1' h2'
      go_wp2
      refine wp_region_quiet_lit (by kernel_rfl) (by kernel_rfl) ?_
      iterate 3 (go_big_quiet_step (fail))
      go_big_quiet_want
      refine quiet_value (fun w' hw' => run_load_at w' 36 _ rfl b1 (o1 + j * 36) (by rfl) (s.v) 36 _ (by obtain ⟨m, rfl⟩ := hw'; exact HA1.out) Tryz.underlying36 rfl infoU) ?_
      simp only [Act.put, List.setIfInBounds_toArray, List.set_cons_succ, List.set_cons_zero]
      go_big_quiet_on
      iterate 3 (go_big_quiet_step (fail))
      go_big_quiet_want
      refine quiet_value (fun w' hw' => run_load_at w' 36 _ rfl b2 (o2 + j * 36) (by rfl) (s.v) 36 _ (by obtain ⟨m, rfl⟩ := hw'; exact HA2.out) Tryz.underlying36 rfl infoU) ?_
      simp only [Act.put, List.setIfInBounds_toArray, List.set_cons_succ, List.set_cons_zero]
      go_big_quiet_on
      iterate 1 (go_big_quiet_step (fail))
      refine wpQuiet_nil ?_
      intro _ hw'
      obtain ⟨nq, rfl⟩ := hw'
      go_wp2
      go_roundw
      case rel => exact ⟨j + 1, by omega, by go_num, belowD hwk nq⟩
      case measure => simp [intOf]; omega
    · have hjn : j = n := by omega
      subst hjn
      have hd : decide ((j : Int) < (j : Int)) = false := decide_eq_false (by omega)
      have hd2 : decide (j < j) = false := decide_eq_false (by omega)
      go_wp2
      go_ret
      exact ⟨by simp, hwk⟩
def mark1 : Upd := ⟨77, 0, 0, fun _ => 0, nilB⟩
def mark2 : Upd := ⟨0, 0, 0, fun _ => 0, ⟨#[109, 97, 114, 107]⟩⟩
set_option maxRecDepth 100000 in
theorem built_m1 : Tryz.prog.built 36 [(0, .int .i64 77)] = some (tabv mark1.v 36) := by kernel_rfl
set_option maxRecDepth 100000 in
theorem built_m2 : Tryz.prog.built 36 [(4, .string ⟨#[109, 97, 114, 107]⟩)] = some (tabv mark2.v 36) := by kernel_rfl
def twoV (s t : Upd) : Nat → Value := fun i => if i < 36 then s.v i else t.v (i - 36)
set_option maxRecDepth 100000 in
theorem run_sliceU2 (w : World) (s t : Upd) : (Instr.buildSlice 27 2 #[(0, .agg (tabv s.v 36)), (1, .agg (tabv t.v 36))]).run Tryz.prog w = .ok (.slice (some ⟨w.heap.size, 0, none⟩) 2 2) (w.alloc (.cells (tabv (twoV s t) 72) 36)) := by
  obtain ⟨i, h1, h2, h3, h4⟩ := infoUP
  have e : Instr.fill (fun i => some (i * 36, 36)) ((Array.range 72).map ((tabv Upd.zero.v 36)[· % 36]!)) [(0, .agg (tabv s.v 36)), (1, .agg (tabv t.v 36))] = some (tabv (twoV s t) 72) := by kernel_rfl
  have ez : (Value.agg (tabv Upd.zero.v 36)).cells = tabv Upd.zero.v 36 := rfl
  simp only [Instr.buildSlice, Sem.run_bind, run_underlying Tryz.underlying27, Result.andThen_ok, sizeOf, typeInfo, h1, h3]
  simp [zeroValue, typeInfo, h1, h2, ez, tabv_size]
  rw [h3, if_neg (by omega), if_neg (by omega), e]
  simp [newRow]
theorem upds_two (w : World) (s t : Upd) : Upds (w.alloc (.cells (tabv (twoV s t) 72) 36)) (some ⟨w.heap.size, 0, none⟩) [s, t] := .inr ⟨w.heap.size, 0, rfl, by simp, fun i u hu j hj => by
  have h := Has.new w 36 (twoV s t) 72 _ rfl
  have hi : i < 2 := by have := (List.getElem?_eq_some_iff.1 hu).1; simpa using this
  match i, hi, hu with
  | 0, _, hu =>
    simp only [List.getElem?_cons_zero, Option.some.injEq] at hu
    subst hu
    rw [h.cell (0 + 0 * 36 + j) (by omega), show 0 + 0 * 36 + j = j by omega]
    unfold twoV; rw [if_pos hj]
  | 1, _, hu =>
    simp only [List.getElem?_cons_succ, List.getElem?_cons_zero, Option.some.injEq] at hu
    subst hu
    rw [h.cell (0 + 1 * 36 + j) (by omega), show 0 + 1 * 36 + j = 36 + j by omega]
    unfold twoV; rw [if_neg (by omega), Nat.add_sub_cancel_left]⟩
/-- append(v, news...) onto a list of one's own. -/
theorem run_appUs (w : World) (B : Nat) (v : Value) (l news : List Upd) (a : Addr) (cap : Nat) (ty : TypeId) (hown : OwnU B w v l) (hS : Upds w (some a) news) (hsz : (l.length + news.length) * 72 ≤ 140737488355328) (hB : B ≤ w.heap.size) :
    ∃ v' w', (Builtin.append_ #[27, 27] ty #[v, .slice (some a) news.length cap]).run Tryz.prog w = .ok v' w' ∧ OwnU B w' v' (l ++ news) ∧ w.grownBy w' v.ownBlock := by
  obtain ⟨i, h1, h2, h3, h4⟩ := infoUP
  obtain ⟨v', w', e1, e2, e3, _⟩ := run_append_own (P := Tryz.prog) w B 27 ty 36 i _ 36 72 Tryz.underlying27 h1 h2 h3 h4 (by rfl) (by omega) v l.length (cellsU l) hown a news.length cap (cellsU news) (cellsU_length news)
    (fun j u hj => by
      have hjl : j < news.length * 36 := by have := (List.getElem?_eq_some_iff.1 hj).1; rw [cellsU_length] at this; exact this
      rcases hS with rfl | ⟨b, o, ha, _, h⟩
      · simp at hjl
      · cases ha
        have hk : j / 36 < news.length := by omega
        have hs : news[j / 36]? = some news[j / 36] := List.getElem?_eq_getElem hk
        have hc := h (j / 36) _ hs (j % 36) (by omega)
        have hg := cellsU_get news (j / 36) _ hs (j % 36) (by omega)
        rw [show j / 36 * 36 + j % 36 = j by omega, hj] at hg
        have hadd : (⟨b, o, none⟩ : Addr).add j = ⟨b, o + j, none⟩ := by unfold Addr.add; split <;> simp_all
        rw [hadd, hg, ← hc, show o + j / 36 * 36 + j % 36 = o + j by omega])
    (oneCell_U _) (by unfold maxLen; omega) hsz hB
  refine ⟨v', w', e1, ?_, e3⟩
  unfold OwnU
  rw [List.length_append, cellsU_append]
  exact e2
section
variable {ops : Array Oper} {rest : List Oper} {o : Oper} {a : Act} {w w' : World} {Q : Exit → Act → World → Prop}
theorem wpList_slice2 {P : Program} {v : Value} (hg : o.guard = none) (T : TypeId) (x x2 : Operand) (ho : o.op = .buildSlice T 2 #[(0, x), (1, x2)]) (y y2 : Value) (hy : a.eval x = y) (hy2 : a.eval x2 = y2) (h : (Instr.buildSlice T 2 #[(0, y), (1, y2)]).run P w = .ok v w') (k : wpList P ops Q rest (a.put o.dst v) w') : wpList P ops Q (o :: rest) a w :=
  wpList_plain hg fun K hK => wpRun (by simp [execOp, ho, hy, hy2, h, Result.andThen]) (hK _ _ k)
end
/-- What lent answers: the updates, with two marks behind them. -/
def Lent (B : Nat) (w : World) (v : Value) (l : List Upd) : Prop := ∃ g cap, v = .slice (some ⟨g, 0, none⟩) (l.length + 2) cap ∧ OwnU B w v (l ++ [mark1, mark2])
-- left out in this seat: lent_any
theorem Lent.below {B B' : Nat} {w w' : World} {v : Value} {l : List Upd} (h : Lent B w v l) (hb : Below B' w w') (hB : w.heap.size ≤ B') : Lent B w' v l := by
  obtain ⟨g, cap, h1, h2⟩ := h
  exact ⟨g, cap, h1, h2.below hb hB⟩
theorem Lent.form {B : Nat} {w : World} {v : Value} {l : List Upd} (h : Lent B w v l) : ∃ g cap, v = .slice (some ⟨g, 0, none⟩) (l.length + 2) cap ∧ Upds w (some ⟨g, 0, none⟩) (l ++ [mark1, mark2]) ∧ Upds w (some ⟨g, 0, none⟩) l ∧ l.length + 2 ≤ cap ∧ g < w.heap.size ∧ cap ≤ maxLen := by
  obtain ⟨g, cap, rfl, h2⟩ := h
  have hlen : (l ++ [mark1, mark2]).length = l.length + 2 := by simp
  obtain ⟨ad, c, e, hs, hlt, hc, hm⟩ := h2.upds
  rw [hlen] at e
  cases e
  have hb := hlt _ rfl
  refine ⟨g, cap, rfl, hs, .inr ⟨g, 0, rfl, hb.1, fun i s hi => ?_⟩, by rw [hlen] at hc; exact hc, hb.1, hm⟩
  have hil : i < l.length := (List.getElem?_eq_some_iff.1 hi).1
  obtain ⟨b', o', e', _, hA⟩ := hs.get i s (by rw [List.getElem?_append_left hil]; exact hi)
  cases e'
  exact hA
end Go.Proofs.YtlohfoggcdaeiaaGreat
