import Derived.Test.YtlohfoggcdaeiaaGreatSStep
import Derived.Test.YtlohfoggcdaeiaaGreatURead
import Derived.Test.YtlohfoggcdaeiaaGreatUMath
import Derived.Test.YtlohfoggcdaeiaaGreatUNext
import Derived.BigQuiet
import Derived.Test.YtlohfoggcdaeiaaGreatPPut
import Derived.Laws.AppendOwn
/-
  Not of use in this seat. STUB: update/UHead
-/
/-
  UpdateNexts: lent, Same, the walk (printed by gen_nexts.py).
-/
namespace Go.Proofs.YtlohfoggcdaeiaaGreat
set_option maxRecDepth 20000
open Go.RowKit S
set_option linter.unusedVariables false
set_option linter.unusedSimpArgs false
set_option maxRecDepth 100000 in
set_option maxHeartbeats 1000000 in
theorem same_any (ad1 ad2 : Option Addr) (n c1 c2 : Nat) (l : List Upd) (hn : l.length = n) (hz : n ≤ 140737488351232) (w : World) (h1 : Upds w ad1 l) (h2 : Upds w ad2 l) : Calls Tryz.prog 47 #[.slice ad1 n c1, .slice ad2 n c2] w fun e w' => e = .returned (.bool true) ∧ Below w.heap.size w w' := by
  have hni : (n : Int) ≤ 140737488351232 := by omega
  have hd0 : ((n : Int) != (n : Int)) = false := by simp
  have hgs := guardU
  have HN := hide hn
  clear hn
  go_enter Tryz.func47, Tryz.ntmps47
  go_wp2
  go_loopw [5] (fun i wr => ∃ j : Nat, j ≤ n ∧ i = .int .i64 (j : Int) ∧ Below w.heap.size w wr) (fun i _ => n - (intOf i).toNat)
  case atStart => exact ⟨0, Nat.zero_le _, rfl, Below.refl _ _⟩
  case round =>
    obtain ⟨j, hj, rfl, hwk⟩ := hrel
    have h1' := h1.below hwk
    have h2' := h2.below hwk
    by_cases hlt : j < n
    · have hd : decide ((j : Int) < (n : Int)) = true := decide_eq_true (by omega)
      have hd2 : decide (j < n) = true := decide_eq_true hlt
      have hk0 : (0 : Int) ≤ (j : Int) := by omega
      have hk1 : (j : Int) < (n : Int) := by omega
      obtain ⟨s, hs⟩ : ∃ s, l[j]? = some s := ⟨_, List.getElem?_eq_getElem (by rw [HN.out]; exact hlt)⟩
      obtain ⟨b1, o1, rfl, hb1, hA1⟩ := h1'.get j s hs
      obtain ⟨b2, o2, rfl, hb2, hA2⟩ := h2'.get j s hs
      have hqs : ∀ w : World, (Op.equalIn 10000 36 (.agg (tabv s.v 36)) (.agg (tabv s.v 36))).run Tryz.prog w = .ok true w := fun w => by rw [eqUD, eqU_refl]
      have HA1 := hide hA1
      have HA2 := hide hA2
      clear hA1 hA2 hb1 hb2 hs h1' h2'
      go_wp2
      refine wp_region_quiet_lit (by kernel_rfl) (by kernel_rfl) ?_
      iterate 3 (go_big_quiet_step (fail))
      go_big_quiet_want
      refine quiet_value (fun w' hw' => run_load_at w' 36 _ rfl b1 (o1 + j * 36) (by rfl) (s.v) 36 _ (by obtain ⟨m, rfl⟩ := hw'; exact HA1.out) Tryz.underlying36 rfl infoU) ?_
      simp only [Act.put, List.setIfInBounds_toArray, List.set_cons_succ, List.set_cons_zero]
      go_big_quiet_on
      iterate 3 (go_big_quiet_step (fail))
      go_big_quiet_want
      refine quiet_value (fun w' hw' => run_load_at w' 36 _ rfl b2 (o2 + j * 36) (by rfl) (s.v) 36 _ (by obtain ⟨m, rfl⟩ := hw'; exact HA2.out) Tryz.underlying36 rfl infoU) ?_
      simp only [Act.put, List.setIfInBounds_toArray, List.set_cons_succ, List.set_cons_zero]
      go_big_quiet_on
      iterate 1 (go_big_quiet_step (fail))
      refine wpQuiet_nil ?_
      intro _ hw'
      obtain ⟨nq, rfl⟩ := hw'
      go_wp2
      go_roundw
      case rel => exact ⟨j + 1, by omega, by go_num, belowD hwk nq⟩
      case measure => simp [intOf]; omega
    · have hjn : j = n := by omega
      subst hjn
      have hd : decide ((j : Int) < (j : Int)) = false := decide_eq_false (by omega)
      have hd2 : decide (j < j) = false := decide_eq_false (by omega)
      go_wp2
      go_ret
      exact ⟨by simp, hwk⟩
def mark1 : Upd := ⟨77, 0, 0, fun _ => 0, nilB⟩
def mark2 : Upd := ⟨0, 0, 0, fun _ => 0, ⟨#[109, 97, 114, 107]⟩⟩
set_option maxRecDepth 100000 in
theorem built_m1 : Tryz.prog.built 36 [(0, .int .i64 77)] = some (tabv mark1.v 36) := by kernel_rfl
set_option maxRecDepth 100000 in
theorem built_m2 : Tryz.prog.built 36 [(4, .string ⟨#[109, 97, 114, 107]⟩)] = some (tabv mark2.v 36) := by kernel_rfl
def twoV (s t : Upd) : Nat → Value := fun i => if i < 36 then s.v i else t.v (i - 36)
set_option maxRecDepth 100000 in
theorem run_sliceU2 (w : World) (s t : Upd) : (Instr.buildSlice 27 2 #[(0, .agg (tabv s.v 36)), (1, .agg (tabv t.v 36))]).run Tryz.prog w = .ok (.slice (some ⟨w.heap.size, 0, none⟩) 2 2) (w.alloc (.cells (tabv (twoV s t) 72) 36)) := by
  obtain ⟨i, h1, h2, h3, h4⟩ := infoUP
  have e : Instr.fill (fun i => some (i * 36, 36)) ((Array.range 72).map ((tabv Upd.zero.v 36)[· % 36]!)) [(0, .agg (tabv s.v 36)), (1, .agg (tabv t.v 36))] = some (tabv (twoV s t) 72) := by kernel_rfl
  have ez : (Value.agg (tabv Upd.zero.v 36)).cells = tabv Upd.zero.v 36 := rfl
  simp only [Instr.buildSlice, Sem.run_bind, run_underlying Tryz.underlying27, Result.andThen_ok, sizeOf, typeInfo, h1, h3]
  simp [zeroValue, typeInfo, h1, h2, ez, tabv_size]
  rw [h3, if_neg (by omega), if_neg (by omega), e]
  simp [newRow]
theorem upds_two (w : World) (s t : Upd) : Upds (w.alloc (.cells (tabv (twoV s t) 72) 36)) (some ⟨w.heap.size, 0, none⟩) [s, t] := .inr ⟨w.heap.size, 0, rfl, by simp, fun i u hu j hj => by
  have h := Has.new w 36 (twoV s t) 72 _ rfl
  have hi : i < 2 := by have := (List.getElem?_eq_some_iff.1 hu).1; simpa using this
  match i, hi, hu with
  | 0, _, hu =>
    simp only [List.getElem?_cons_zero, Option.some.injEq] at hu
    subst hu
    rw [h.cell (0 + 0 * 36 + j) (by omega), show 0 + 0 * 36 + j = j by omega]
    unfold twoV; rw [if_pos hj]
  | 1, _, hu =>
    simp only [List.getElem?_cons_succ, List.getElem?_cons_zero, Option.some.injEq] at hu
    subst hu
    rw [h.cell (0 + 1 * 36 + j) (by omega), show 0 + 1 * 36 + j = 36 + j by omega]
    unfold twoV; rw [if_neg (by omega), Nat.add_sub_cancel_left]⟩
/-- append(v, news...) onto a list of one's own. -/
theorem run_appUs (w : World) (B : Nat) (v : Value) (l news : List Upd) (a : Addr) (cap : Nat) (ty : TypeId) (hown : OwnU B w v l) (hS : Upds w (some a) news) (hsz : (l.length + news.length) * 72 ≤ 140737488355328) (hB : B ≤ w.heap.size) :
    ∃ v' w', (Builtin.append_ #[27, 27] ty #[v, .slice (some a) news.length cap]).run Tryz.prog w = .ok v' w' ∧ OwnU B w' v' (l ++ news) ∧ w.grownBy w' v.ownBlock := by
  obtain ⟨i, h1, h2, h3, h4⟩ := infoUP
  obtain ⟨v', w', e1, e2, e3, _⟩ := run_append_own (P := Tryz.prog) w B 27 ty 36 i _ 36 72 Tryz.underlying27 h1 h2 h3 h4 (by rfl) (by omega) v l.length (cellsU l) hown a news.length cap (cellsU news) (cellsU_length news)
    (fun j u hj => by
      have hjl : j < news.length * 36 := by have := (List.getElem?_eq_some_iff.1 hj).1; rw [cellsU_length] at this; exact this
      rcases hS with rfl | ⟨b, o, ha, _, h⟩
      · simp at hjl
      · cases ha
        have hk : j / 36 < news.length := by omega
        have hs : news[j / 36]? = some news[j / 36] := List.getElem?_eq_getElem hk
        have hc := h (j / 36) _ hs (j % 36) (by omega)
        have hg := cellsU_get news (j / 36) _ hs (j % 36) (by omega)
        rw [show j / 36 * 36 + j % 36 = j by omega, hj] at hg
        have hadd : (⟨b, o, none⟩ : Addr).add j = ⟨b, o + j, none⟩ := by unfold Addr.add; split <;> simp_all
        rw [hadd, hg, ← hc, show o + j / 36 * 36 + j % 36 = o + j by omega])
    (oneCell_U _) (by unfold maxLen; omega) hsz hB
  refine ⟨v', w', e1, ?_, e3⟩
  unfold OwnU
  rw [List.length_append, cellsU_append]
  exact e2
section
variable {ops : Array Oper} {rest : List Oper} {o : Oper} {a : Act} {w w' : World} {Q : Exit → Act → World → Prop}
theorem wpList_slice2 {P : Program} {v : Value} (hg : o.guard = none) (T : TypeId) (x x2 : Operand) (ho : o.op = .buildSlice T 2 #[(0, x), (1, x2)]) (y y2 : Value) (hy : a.eval x = y) (hy2 : a.eval x2 = y2) (h : (Instr.buildSlice T 2 #[(0, y), (1, y2)]).run P w = .ok v w') (k : wpList P ops Q rest (a.put o.dst v) w') : wpList P ops Q (o :: rest) a w :=
  wpList_plain hg fun K hK => wpRun (by simp [execOp, ho, hy, hy2, h, Result.andThen]) (hK _ _ k)
end
/-- What lent answers: the updates, with two marks behind them. -/
def Lent (B : Nat) (w : World) (v : Value) (l : List Upd) : Prop := ∃ g cap, v = .slice (some ⟨g, 0, none⟩) (l.length + 2) cap ∧ OwnU B w v (l ++ [mark1, mark2])
-- left out in this seat: lent_any
theorem Lent.below {B B' : Nat} {w w' : World} {v : Value} {l : List Upd} (h : Lent B w v l) (hb : Below B' w w') (hB : w.heap.size ≤ B') : Lent B w' v l := by
  obtain ⟨g, cap, h1, h2⟩ := h
  exact ⟨g, cap, h1, h2.below hb hB⟩
theorem Lent.form {B : Nat} {w : World} {v : Value} {l : List Upd} (h : Lent B w v l) : ∃ g cap, v = .slice (some ⟨g, 0, none⟩) (l.length + 2) cap ∧ Upds w (some ⟨g, 0, none⟩) (l ++ [mark1, mark2]) ∧ Upds w (some ⟨g, 0, none⟩) l ∧ l.length + 2 ≤ cap ∧ g < w.heap.size ∧ cap ≤ maxLen := by
  obtain ⟨g, cap, rfl, h2⟩ := h
  have hlen : (l ++ [mark1, mark2]).length = l.length + 2 := by simp
  obtain ⟨ad, c, e, hs, hlt, hc, hm⟩ := h2.upds
  rw [hlen] at e
  cases e
  have hb := hlt _ rfl
  refine ⟨g, cap, rfl, hs, .inr ⟨g, 0, rfl, hb.1, fun i s hi => ?_⟩, by rw [hlen] at hc; exact hc, hb.1, hm⟩
  have hil : i < l.length := (List.getElem?_eq_some_iff.1 hi).1
  obtain ⟨b', o', e', _, hA⟩ := hs.get i s (by rw [List.getElem?_append_left hil]; exact hi)
  cases e'
  exact hA
end Go.Proofs.YtlohfoggcdaeiaaGreat
/-
  The code's shelf: Get.
-/
namespace Go.Proofs.YtlohfoggcdaeiaaGreat
set_option maxRecDepth 20000
open Go.RowKit S
set_option linter.unusedVariables false
set_option linter.unusedSimpArgs false
theorem getK_yes [Inhabited S.Tbl] {l : List Slot} {n : Int} {j : Nat} (hj : j < 49) (h : yieldB (atA l j) n = true) : getK l n (49 - j) = ((deriveA (atA l j).sec (atA l j).idx n).1, 0) := by
  obtain ⟨k, hk⟩ : ∃ k, 49 - j = k + 1 := ⟨48 - j, by omega⟩
  have e : 49 - (k + 1) = j := by omega
  rw [hk, getK, e, if_pos h]
theorem getK_no [Inhabited S.Tbl] {l : List Slot} {n : Int} {j : Nat} (hj : j < 49) (h : yieldB (atA l j) n = false) : getK l n (49 - j) = getK l n (49 - (j + 1)) := by
  obtain ⟨k, hk⟩ : ∃ k, 49 - j = k + 1 := ⟨48 - j, by omega⟩
  have e : 49 - (k + 1) = j := by omega
  rw [hk, getK, e, if_neg (by rw [h]; decide), show 49 - (j + 1) = k by omega]
-- left out in this seat: get_any
end Go.Proofs.YtlohfoggcdaeiaaGreat
/-
  Not of use in this seat. STUB: shelf/PFirst,shelf/PFirstM
-/
/-
  A shelf of one slot, plain.
-/
namespace Go.Proofs.YtlohfoggcdaeiaaGreat
set_option maxRecDepth 20000
open Go.RowKit S
set_option linter.unusedVariables false
set_option linter.unusedSimpArgs false
theorem getK_skip [Inhabited S.Tbl] {l : List Slot} {n : Int} : ∀ L, L ≤ 49 → (∀ j, j < L → yieldB (atA l j) n = false) → getK l n 49 = getK l n (49 - L)
  | 0, _, _ => rfl
  | L + 1, hL, h => by rw [getK_skip L (by omega) (fun j hj => h j (by omega)), getK_no (by omega) (h L (by omega))]
-- left out in this seat: get_at
-- left out in this seat: put_nil
-- left out in this seat: few_get
theorem get_neg [Inhabited S.Tbl] (l : List Slot) (hl : l.length ≤ 49) (x : Int) (hx : isN x = false) : getA l x = (fun _ => 0, 90) := by
  unfold getA
  rw [if_neg (by omega), if_pos hx]
end Go.Proofs.YtlohfoggcdaeiaaGreat
/-
  Rows of slots and of hashes, grown by append.
-/
namespace Go.Proofs.YtlohfoggcdaeiaaGreat
set_option maxRecDepth 20000
open Go.RowKit S
set_option linter.unusedVariables false
set_option linter.unusedSimpArgs false
def cellsH (l : List (Nat → UInt8)) : List Value := l.flatMap fun s => (tabv (bv s) 32).toList
theorem cellsH_append (a b : List (Nat → UInt8)) : cellsH (a ++ b) = cellsH a ++ cellsH b := by simp [cellsH]
theorem cellsH_one (s : Nat → UInt8) : cellsH [s] = (tabv (bv s) 32).toList := by simp [cellsH]
theorem cellsH_cons (s : Nat → UInt8) (l : List (Nat → UInt8)) : cellsH (s :: l) = (tabv (bv s) 32).toList ++ cellsH l := by simp [cellsH]
theorem cellsH_length : ∀ l : List (Nat → UInt8), (cellsH l).length = l.length * 32
  | [] => rfl
  | s :: l => by rw [cellsH_cons, List.length_append, tabv_len, cellsH_length l, List.length_cons]; omega
theorem cellsH_get : ∀ (l : List (Nat → UInt8)) (k : Nat) (s : Nat → UInt8) (hk : l[k]? = some s) (j : Nat), j < 32 → (cellsH l)[k * 32 + j]? = some (bv s j)
  | [], k, s, hk, j, hj => by simp at hk
  | x :: l, 0, s, hk, j, hj => by
    simp only [List.getElem?_cons_zero, Option.some.injEq] at hk
    subst hk
    rw [cellsH_cons, List.getElem?_append_left (by rw [tabv_len]; omega), Array.getElem?_toList, Nat.zero_mul, Nat.zero_add, tabv_get _ _ _ hj]
  | x :: l, k + 1, s, hk, j, hj => by
    simp only [List.getElem?_cons_succ] at hk
    rw [cellsH_cons, List.getElem?_append_right (by rw [tabv_len]; omega), tabv_len, show (k + 1) * 32 + j - 32 = k * 32 + j by omega]
    exact cellsH_get l k s hk j hj
def OwnH (B : Nat) (w : World) (v : Value) (l : List (Nat → UInt8)) : Prop := w.ownsRow B 25 32 v l.length (cellsH l)
theorem OwnH.nil (B : Nat) (w : World) : OwnH B w (.slice none 0 0) [] := World.ownsRow_nil w B _ _
theorem OwnH.lt {B : Nat} {w : World} {v : Value} {l : List (Nat → UInt8)} (h : OwnH B w v l) : ∀ k, v.ownBlock = some k → B ≤ k ∧ k < w.heap.size := World.ownsRow.lt h
theorem OwnH.same {B : Nat} {w w' : World} {v : Value} {l : List (Nat → UInt8)} (h : OwnH B w v l) (e : ∀ k, v.ownBlock = some k → w'.heap[k]? = w.heap[k]?) : OwnH B w' v l := by
  refine ⟨h.1, h.2.imp id fun ⟨g, cap, cur, h1, h2, h3, h4⟩ => ⟨g, cap, cur, h1, h2, ?_, h4⟩⟩
  rw [e g (by rw [h1]; rfl), h3]
theorem OwnH.below {B B' : Nat} {w w' : World} {v : Value} {l : List (Nat → UInt8)} (h : OwnH B w v l) (hb : Below B' w w') (hB : w.heap.size ≤ B') : OwnH B w' v l := h.same fun k hk => hb.block k (Nat.lt_of_lt_of_le (h.lt k hk).2 hB)
/-- Hashes behind a slice's address. -/
def Hashes (w : World) (ad : Option Addr) (l : List (Nat → UInt8)) : Prop := l = [] ∨ ∃ b o, ad = some ⟨b, o, none⟩ ∧ b < w.heap.size ∧ ∀ i s, l[i]? = some s → At w b (o + i * 32) (bv s) 32
theorem Hashes.get {w : World} {ad : Option Addr} {l : List (Nat → UInt8)} (h : Hashes w ad l) (k : Nat) (s : Nat → UInt8) (hk : l[k]? = some s) : ∃ b o, ad = some ⟨b, o, none⟩ ∧ b < w.heap.size ∧ At w b (o + k * 32) (bv s) 32 := by
  rcases h with rfl | ⟨b, o, h1, h2, h3⟩
  · simp at hk
  · exact ⟨b, o, h1, h2, h3 k s hk⟩
theorem Hashes.below {w w' : World} {ad : Option Addr} {l : List (Nat → UInt8)} (h : Hashes w ad l) (hb : Below w.heap.size w w') : Hashes w' ad l := by
  rcases h with rfl | ⟨b, o, h1, h2, h3⟩
  · exact .inl rfl
  · exact .inr ⟨b, o, h1, Nat.lt_of_lt_of_le h2 hb.size, fun i s hs => (h3 i s hs).below hb h2⟩
theorem OwnH.slots {B : Nat} {w : World} {v : Value} {l : List (Nat → UInt8)} (h : OwnH B w v l) : ∃ ad cap, v = .slice ad l.length cap ∧ Hashes w ad l := by
  obtain ⟨hl, ⟨rfl, hn⟩ | ⟨g, cap, cur, rfl, hb, hg, h1, h2, h3, h4⟩⟩ := h
  · have : l = [] := List.length_eq_zero_iff.1 hn
    subst this
    exact ⟨none, 0, rfl, .inl rfl⟩
  · have hlt : g < w.heap.size := by
      rcases Nat.lt_or_ge g w.heap.size with h | h
      · exact h
      · rw [Array.getElem?_eq_none h] at hg; cases hg
    refine ⟨some ⟨g, 0, none⟩, cap, rfl, .inr ⟨g, 0, rfl, hlt, fun i s hs j hj => ?_⟩⟩
    rw [cell_of_row w g _ cur _ (0, 0) hg]
    have hi : i < l.length := (List.getElem?_eq_some_iff.1 hs).1
    have e := cellsH_get l i s hs j hj
    rw [← h4, List.getElem?_take] at e
    rw [if_pos (by omega), Array.getElem?_toList] at e
    rw [show 0 + i * 32 + j = i * 32 + j by omega]
    exact e
set_option maxRecDepth 100000 in
theorem run_sliceS (w : World) (s : Slot) : (Instr.buildSlice 29 1 #[(0, .agg (tabv s.v 34))]).run Tryz.prog w = .ok (.slice (some ⟨w.heap.size, 0, none⟩) 1 1) (w.alloc (.cells (tabv s.v 34) 49)) := by
  obtain ⟨i, h1, h2, h3, h4⟩ := infoP
  have e : Instr.fill (fun i => some (i * 34, 34)) ((Array.range 34).map ((tabv Slot.zero.v 34)[· % 34]!)) [(0, .agg (tabv s.v 34))] = some (tabv s.v 34) := by kernel_rfl
  have ez : (Value.agg (tabv Slot.zero.v 34)).cells = tabv Slot.zero.v 34 := rfl
  simp only [Instr.buildSlice, Sem.run_bind, run_underlying Tryz.underlying29, Result.andThen_ok, sizeOf, typeInfo, h1, h3]
  simp [zeroValue, typeInfo, h1, h2, ez, tabv_size]
  rw [h3, if_neg (by omega), if_neg (by omega), e]
  simp [newRow]
theorem infoH3 : (Tryz.prog.info? 25).map (fun i => (i.zero, i.size, i.bytes)) = some (some (.agg (tabv (bv (fun _ => (0 : UInt8))) 32)), 32, 32) := by kernel_rfl
theorem infoHP : ∃ i, Tryz.prog.info? 25 = some i ∧ i.zero = some (.agg (tabv (bv (fun _ => (0 : UInt8))) 32)) ∧ i.size = 32 ∧ i.bytes = 32 := by
  have h := infoH3
  cases hq : Tryz.prog.info? 25 with
  | none => simp [hq] at h
  | some i => simp [hq] at h; exact ⟨i, rfl, h.1, h.2.1, h.2.2⟩
-- left out in this seat: run_sliceH
/-- append(v, s) onto a list of one's own. -/
theorem run_appS (w : World) (B : Nat) (v : Value) (l : List Slot) (s : Slot) (ty : TypeId) (hown : OwnS B w v l) (hsz : (l.length + 1) * 48 ≤ 140737488355328) (hB : B ≤ w.heap.size) :
    ∃ v' w', (Builtin.append_ #[29, 29] ty #[v, .slice (some ⟨w.heap.size, 0, none⟩) 1 1]).run Tryz.prog (w.alloc (.cells (tabv s.v 34) 49)) = .ok v' w' ∧ OwnS B w' v' (l ++ [s]) ∧ (w.alloc (.cells (tabv s.v 34) 49)).grownBy w' v.ownBlock := by
  obtain ⟨i, h1, h2, h3, h4⟩ := infoP
  have hb : Has (w.alloc (.cells (tabv s.v 34) 49)) w.heap.size 49 s.v 34 := Has.new w 49 s.v 34 _ rfl
  have ho : OwnS B (w.alloc (.cells (tabv s.v 34) 49)) v l := World.ownsRow.alloc hown _
  obtain ⟨v', w', e1, e2, e3, _⟩ := run_append_own (P := Tryz.prog) (w.alloc (.cells (tabv s.v 34) 49)) B 29 ty 49 i _ 34 48 Tryz.underlying29 h1 h2 h3 h4 (by rfl) (by omega) v l.length (cellsS l) ho ⟨w.heap.size, 0, none⟩ 1 1 (cellsS [s]) (by rw [cellsS_length]; rfl)
    (fun j u hj => by
      have hj' : j < 34 := by have := (List.getElem?_eq_some_iff.1 hj).1; rw [cellsS_length] at this; simpa using this
      have hadd : (⟨w.heap.size, 0, none⟩ : Addr).add j = ⟨w.heap.size, j, none⟩ := by unfold Addr.add; split <;> simp_all
      rw [hadd, hb.cell j hj', ← hj, cellsS_one, Array.getElem?_toList, tabv_get _ _ _ hj'])
    (oneCell_S _) (by unfold maxLen; omega) hsz (by rw [size_alloc]; omega)
  refine ⟨v', w', e1, ?_, e3⟩
  unfold OwnS
  rw [List.length_append, cellsS_append]
  exact e2
theorem oneCell_H (l : List (Nat → UInt8)) : ∀ u ∈ cellsH l, u.oneCell' = true := by
  intro u hu
  obtain ⟨s, _, h⟩ := List.mem_flatMap.1 hu
  obtain ⟨i, hi, rfl⟩ := List.mem_iff_getElem.1 h
  have hi' : i < 32 := by rw [tabv_len] at hi; exact hi
  have e : (tabv (bv s) 32).toList[i]? = some (bv s i) := by rw [Array.getElem?_toList, tabv_get _ _ _ hi']
  rw [List.getElem?_eq_getElem hi] at e
  rw [Option.some.inj e]
  rfl
-- left out in this seat: run_appH
end Go.Proofs.YtlohfoggcdaeiaaGreat
/-
  One more slot, one more hash, as the walk meets it.
-/
namespace Go.Proofs.YtlohfoggcdaeiaaGreat
set_option maxRecDepth 20000
open Go.RowKit S
set_option linter.unusedVariables false
set_option linter.unusedSimpArgs false
-- stands in another text: grown_all
-- left out in this seat: appH_step
theorem appS_step (w : World) (B : Nat) (v : Value) (l : List Slot) (s : Slot) (hown : OwnS B w v l) (hsz : (l.length + 1) * 48 ≤ 140737488355328) (hB : B ≤ w.heap.size) :
    ∃ v' w1 w', (Instr.buildSlice 29 1 #[(0, .agg (tabv s.v 34))]).run Tryz.prog w = .ok (.slice (some ⟨w.heap.size, 0, none⟩) 1 1) w1 ∧ (Builtin.append_ #[29, 29] 29 #[v, .slice (some ⟨w.heap.size, 0, none⟩) 1 1]).run Tryz.prog w1 = .ok v' w' ∧
      OwnS B w' v' (l ++ [s]) ∧ (∀ g, g < w.heap.size → v.ownBlock ≠ some g → w'.heap[g]? = w.heap[g]?) ∧ Below B w w' := by
  obtain ⟨v', w', e1, e2, e3⟩ := run_appS w B v l s 29 hown hsz hB
  obtain ⟨h1, h2⟩ := grown_all e3 (fun k hk => (hown.lt k hk).1) hB
  exact ⟨v', _, w', run_sliceS w s, e1, e2, h1, h2⟩
-- stands in another text: wpRun
-- stands in another text: wpList_app
-- stands in another text: wpList_slice1
end Go.Proofs.YtlohfoggcdaeiaaGreat
/-
  The statements' own helpers: same, lend, kept.
-/
namespace Go.Proofs.YtlohfoggcdaeiaaGreat
set_option maxRecDepth 20000
open Go.RowKit S
set_option linter.unusedVariables false
set_option linter.unusedSimpArgs false
-- left out in this seat: same_any
def mark : Slot := ⟨-7, fun _ => 0, false⟩
def markV : Nat → Value := mark.v
theorem mark34 : tabv markV 34 = (#[.int .i64 (-7), .int .u8 0, .int .u8 0, .int .u8 0, .int .u8 0, .int .u8 0, .int .u8 0, .int .u8 0, .int .u8 0, .int .u8 0, .int .u8 0, .int .u8 0, .int .u8 0, .int .u8 0, .int .u8 0, .int .u8 0, .int .u8 0, .int .u8 0, .int .u8 0, .int .u8 0, .int .u8 0, .int .u8 0, .int .u8 0, .int .u8 0, .int .u8 0, .int .u8 0, .int .u8 0, .int .u8 0, .int .u8 0, .int .u8 0, .int .u8 0, .int .u8 0, .int .u8 0, .bool false] : Array Value) := rfl
/-- What lend answers: the slots, with a mark behind them. -/
def LentH (B : Nat) (w : World) (v : Value) (l : List Slot) : Prop := ∃ g cap, v = .slice (some ⟨g, 0, none⟩) l.length cap ∧ OwnS B w (.slice (some ⟨g, 0, none⟩) (l.length + 1) cap) (l ++ [mark])
theorem run_app_allH (w : World) (ad : Option Addr) (cap : Nat) (l : List Slot) (hS : Slots w ad l) (hz : l.length * 48 ≤ 140737488355328) :
    ∃ v' w', (Builtin.append_ #[29, 29] 29 #[.slice none 0 0, .slice ad l.length cap]).run Tryz.prog w = .ok v' w' ∧ OwnS w.heap.size w' v' l ∧ Below w.heap.size w w' := by
  obtain ⟨i, h1, h2, h3, h4⟩ := infoP
  cases ad with
  | none =>
    have hl : l = [] := by
      rcases hS with rfl | ⟨b, o, h, _⟩
      · rfl
      · cases h
    subst hl
    refine ⟨.slice none 0 0, w, ?_, OwnS.nil _ _, Below.refl _ _⟩
    simp [Builtin.append_, run_underlying Tryz.underlying29, sizeOf, typeInfo, h1, Builtin.lenOf, Builtin.firstCells, storeCells, loadCells, loadCellsFrom]
  | some a =>
    obtain ⟨v', w', e1, e2, e3, _⟩ := run_append_own (P := Tryz.prog) w w.heap.size 29 29 49 i _ 34 48 Tryz.underlying29 h1 h2 h3 h4 (by rfl) (by omega) (.slice none 0 0) 0 [] (World.ownsRow_nil w _ _ _) a l.length cap (cellsS l) (cellsS_length l)
      (fun j u hj => by
        have hjl : j < l.length * 34 := by have := (List.getElem?_eq_some_iff.1 hj).1; rw [cellsS_length] at this; exact this
        rcases hS with rfl | ⟨b, o, ha, _, h⟩
        · simp at hjl
        · cases ha
          have hk : j / 34 < l.length := by omega
          have hs : l[j / 34]? = some l[j / 34] := List.getElem?_eq_getElem hk
          have hc := h (j / 34) _ hs (j % 34) (by omega)
          have hg := cellsS_get l (j / 34) _ hs (j % 34) (by omega)
          rw [show j / 34 * 34 + j % 34 = j by omega, hj] at hg
          have hadd : (⟨b, o, none⟩ : Addr).add j = ⟨b, o + j, none⟩ := by unfold Addr.add; split <;> simp_all
          rw [hadd, hg, ← hc, show o + j / 34 * 34 + j % 34 = o + j by omega])
      (oneCell_S _) (by unfold maxLen; omega) (by omega) (Nat.le_refl _)
    refine ⟨v', w', e1, ?_, ⟨e3.os, e3.tape, e3.output, e3.size, fun k hk => e3.block k hk (by simp [Value.ownBlock])⟩⟩
    unfold OwnS
    rw [Nat.zero_add, List.nil_append] at e2
    exact e2
-- left out in this seat: lend_any
-- stands in another text: Lent.below
-- stands in another text: Lent.form
-- left out in this seat: kept_any
end Go.Proofs.YtlohfoggcdaeiaaGreat
