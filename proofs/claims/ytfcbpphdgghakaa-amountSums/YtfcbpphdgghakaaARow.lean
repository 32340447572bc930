/-
  Rows of numbers of the call's own; append; the mathematics of Sum.
-/
import Derived.Test.YtfcbpphdgghakaaAFirst
import Derived.Laws.OwnMore
import Derived.Laws.AppendOwn
import Derived.Deep.AppendLies
namespace Go.Proofs.Ytfcbpphdgghakaa
open Go.RowKit
set_option linter.unusedVariables false
theorem addr_block (x : Addr) (k : Nat) : (x.add k).block = x.block := by unfold Addr.add; split <;> rfl
theorem RowI.below {w w' : World} {ad : Option Addr} {zs : List Int} (h : RowI w ad zs) (hb : Below w.heap.size w w') : RowI w' ad zs := by
  rcases h with h | ⟨x, ha, hl, hc⟩
  · exact .inl h
  · exact .inr ⟨x, ha, Nat.lt_of_lt_of_le hl hb.size, fun i hi => by rw [← hc i hi]; exact World.cell?_of_block (by rw [addr_block]; exact hb.block x.block hl)⟩
theorem RowI.take {w : World} {ad : Option Addr} {zs : List Int} (h : RowI w ad zs) (k : Nat) : RowI w ad (zs.take k) := by
  rcases h with h | ⟨x, ha, hl, hc⟩
  · exact .inl (by rw [h, List.take_nil])
  · refine .inr ⟨x, ha, hl, fun i hi => ?_⟩
    rw [List.length_take] at hi
    rw [hc i (by omega), List.getD_eq_getElem?_getD, List.getD_eq_getElem?_getD, List.getElem?_take_of_lt (by omega)]
theorem addr_addadd (x : Addr) (k i : Nat) : (x.add k).add i = x.add (k + i) := by
  unfold Addr.add; split <;> split <;> simp_all <;> omega
theorem RowI.drop {w : World} {x : Addr} {zs : List Int} (h : RowI w (some x) zs) (k : Nat) : RowI w (some (x.add k)) (zs.drop k) := by
  rcases h with h | ⟨x', ha, hl, hc⟩
  · exact .inl (by rw [h, List.drop_nil])
  · cases ha
    refine .inr ⟨_, rfl, by rw [addr_block]; exact hl, fun i hi => ?_⟩
    rw [List.length_drop] at hi
    rw [addr_addadd, hc (k + i) (by omega), List.getD_eq_getElem?_getD, List.getD_eq_getElem?_getD, List.getElem?_drop]
def IntsL (w : World) (B : Nat) (v : Value) (l : List Int) : Prop := w.ownsRow B 2 1 v l.length (l.map numV)
theorem info2 : (Try.prog.info? 2).map (fun i => (i.zero, i.size, i.bytes)) = some (some (.int .i64 0), 1, 8) := by kernel_rfl
theorem info_parts {P : Program} {t : TypeId} {z : Value} {s b : Nat} (h : (P.info? t).map (fun i => (i.zero, i.size, i.bytes)) = some (some z, s, b)) : ∃ i, P.info? t = some i ∧ i.zero = some z ∧ i.size = s ∧ i.bytes = b := by
  cases hq : P.info? t with
  | none => rw [hq] at h; cases h
  | some i => rw [hq] at h; simp at h; exact ⟨i, rfl, h.1, h.2.1, h.2.2⟩
theorem IntsL.nil (w : World) (B : Nat) : IntsL w B (.slice none 0 0) [] := World.ownsRow_nil w B 2 1
theorem IntsL.block {w : World} {B : Nat} {v : Value} {l : List Int} (h : IntsL w B v l) : ∀ k, v.ownBlock = some k → B ≤ k ∧ k < w.heap.size := fun k hk => World.ownsRow.lt h k hk
theorem IntsL.same {w w' : World} {B : Nat} {v : Value} {l : List Int} (h : IntsL w B v l) (e : ∀ k, v.ownBlock = some k → w'.heap[k]? = w.heap[k]?) : IntsL w' B v l := by
  refine ⟨h.1, ?_⟩
  rcases h.2 with hn | ⟨g, cap, cur, rfl, hb, hgg, rest⟩
  · exact .inl hn
  · exact .inr ⟨g, cap, cur, rfl, hb, by rw [e g rfl]; exact hgg, rest⟩
theorem IntsL.below {w w' : World} {B : Nat} {v : Value} {l : List Int} (h : IntsL w B v l) (hb : Below w.heap.size w w') : IntsL w' B v l :=
  h.same (fun k hk => hb.block k (h.block k hk).2)
theorem IntsL.row {w : World} {B : Nat} {v : Value} {l : List Int} (h : IntsL w B v l) : ∃ ad cap, v = .slice ad l.length cap ∧ RowI w ad l ∧ l.length ≤ maxLen := by
  have hl := h.1
  rcases h.2 with ⟨rfl, hn⟩ | ⟨g, cap, cur, rfl, hb, hg, hnc, hcm, rest⟩
  · refine ⟨none, 0, by rw [hn], .inl (List.length_eq_zero_iff.1 hn), by rw [hn]; exact Nat.zero_le _⟩
  · refine ⟨_, cap, rfl, .inr ⟨⟨g, 0, none⟩, rfl, (h.block g rfl).2, fun i hi => ?_⟩, by omega⟩
    have := World.ownsRow.cells h (g := g) rfl i (numV (l.getD i 0)) (by simp [hi])
    exact this
theorem grown_below {w w' : World} {row : Option Nat} {B : Nat} (hg : w.grownBy w' row) (hr : ∀ k, row = some k → B ≤ k) (hB : B ≤ w.heap.size) : Below B w w' :=
  ⟨hg.os, hg.tape, hg.output, hg.size, fun k hk => hg.block k (by omega) (fun e => by have := hr k e.symm; omega)⟩
theorem grown_alloc (w : World) (o : Obj) (row : Option Nat) : w.grownBy (w.alloc o) row :=
  ⟨rfl, rfl, rfl, by simp, fun i hi _ => Below.heap_alloc w o i hi⟩
theorem grown_trans {w w1 w2 : World} {row : Option Nat} (h : w.grownBy w1 row) (k : w1.grownBy w2 row) : w.grownBy w2 row :=
  ⟨k.os.trans h.os, k.tape.trans h.tape, k.output.trans h.output, Nat.le_trans h.size k.size, fun i hi hn => (k.block i (Nat.lt_of_lt_of_le hi h.size) hn).trans (h.block i hi hn)⟩
theorem wpList_app1 {ops : Array Oper} {rest : List Oper} {o : Oper} {a : Act} {w w0 : World} {Q : Exit → Act → World → Prop} (hgd : o.guard = none) (s x : Operand)
    (ho : o.op = .call { callee := .builtin .append, args := #[s, x], argTypes := #[27, 27] }) (B : Nat) (v : Value) (l : List Int) (c : Int) (hs : a.eval s = v) (hown : IntsL w0 B v l)
    (hx : a.eval x = .slice (some ⟨w0.heap.size, 0, none⟩) 1 1) (hw : w = w0.alloc (.cells #[.int .i64 c] 2)) (hlen : (l.length + 1) * 8 ≤ 140737488355328) (hB : B ≤ w0.heap.size)
    (h : ∀ g cap w', IntsL w' B (.slice (some ⟨g, 0, none⟩) (l.length + 1) cap) (l ++ [c]) → Below B w0 w' → wpList Try.prog ops Q rest (a.put o.dst (.slice (some ⟨g, 0, none⟩) (l.length + 1) cap)) w') : wpList Try.prog ops Q (o :: rest) a w := by
  subst hw
  obtain ⟨i, hi, hz0, hz1, hz2⟩ := info_parts info2
  have hown' : (w0.alloc (.cells #[.int .i64 c] 2)).ownsRow B 2 1 v l.length (l.map numV) := World.ownsRow.kept hown (grown_alloc w0 _ none) (by cases v.ownBlock <;> simp)
  refine wpList_append_lies (P := Try.prog) _ hgd s x 27 ho B 2 i (.int .i64 0) 1 8 Try.underlying27 hi hz0 hz1 hz2 rfl (by omega) v l.length (l.map numV) hs hown' ⟨w0.heap.size, 0, none⟩ 1 1 [numV c] hx rfl ?_ ?_ (by omega) (by unfold maxLen; omega) hlen (by simp; omega) (w0.heap.size + 1) (by simp) ?_
  · intro j u hu
    exact World.news_of_block (heap_alloc_new w0 _) j u hu
  · intro u hu
    simp at hu; subst hu; rfl
  · intro g cap w' h1 h2 h3 h4
    refine h g cap w' ?_ (grown_below (grown_trans (grown_alloc w0 _ v.ownBlock) h2) (fun k hk => (hown.block k hk).1) hB)
    unfold IntsL
    rw [List.length_append, List.map_append]
    exact h1
theorem wpList_appL {ops : Array Oper} {rest : List Oper} {o : Oper} {a : Act} {w : World} {Q : Exit → Act → World → Prop} (hgd : o.guard = none) (s x : Operand)
    (ho : o.op = .call { callee := .builtin .append, args := #[s, x], argTypes := #[27, 27] }) (B : Nat) (v : Value) (hs : a.eval s = v) (hown : IntsL w B v [])
    (ad : Option Addr) (cp : Nat) (l : List Int) (hne : l ≠ []) (hx : a.eval x = .slice ad l.length cp) (hr : RowI w ad l) (hlen : l.length * 8 ≤ 140737488355328) (hB : B ≤ w.heap.size)
    (h : ∀ g cap w', IntsL w' B (.slice (some ⟨g, 0, none⟩) l.length cap) l → Below B w w' → wpList Try.prog ops Q rest (a.put o.dst (.slice (some ⟨g, 0, none⟩) l.length cap)) w') : wpList Try.prog ops Q (o :: rest) a w := by
  obtain ⟨i, hi, hz0, hz1, hz2⟩ := info_parts info2
  rcases hr with hr | ⟨x0, rfl, hl, hc⟩
  · exact absurd hr hne
  have hpos : 0 < l.length := List.length_pos_iff.2 hne
  refine wpList_append_lies (P := Try.prog) _ hgd s x 27 ho B 2 i (.int .i64 0) 1 8 Try.underlying27 hi hz0 hz1 hz2 rfl (by omega) v 0 [] hs hown x0 l.length cp (l.map numV) hx (by simp) ?_ ?_ hpos (by unfold maxLen; omega) (by omega) hB w.heap.size rfl ?_
  · intro j u hu
    have hj : j < l.length := by simpa using (List.getElem?_eq_some_iff.1 hu).1
    rw [hc j hj]
    rw [List.getElem?_map, List.getElem?_eq_getElem hj] at hu
    simp at hu
    rw [← hu]; simp [hj, numV]
  · intro u hu
    simp at hu
    obtain ⟨z, _, rfl⟩ := hu
    rfl
  · intro g cap w' h1 h2 h3 h4
    rw [Nat.zero_add, List.nil_append] at h1
    rw [Nat.zero_add]
    exact h g cap w' h1 (grown_below h2 (fun k hk => (hown.block k hk).1) hB)
/-- All of l are amounts, and all together with s are one. -/
def okS (s : Int) (l : List Int) : Prop := l.all isA = true ∧ isA (s + l.sum) = true
theorem sum_nonneg : ∀ {l : List Int}, l.all isA = true → 0 ≤ l.sum
  | [], _ => by simp
  | z :: r, h => by
    simp only [List.all_cons, Bool.and_eq_true] at h
    have h1 := sum_nonneg h.2
    have h2 := (isA_iff z).1 h.1
    rw [List.sum_cons]; omega
theorem sumFrom_ok : ∀ (l : List Int) (s : Int), isA s = true → okS s l → sumFrom s l = (s + l.sum, 0)
  | [], s, hs, _ => by simp [sumFrom]
  | z :: r, s, hs, h => by
    obtain ⟨h1, h2⟩ := h
    simp only [List.all_cons, Bool.and_eq_true] at h1
    rw [List.sum_cons] at h2 ⊢
    have hn := sum_nonneg h1.2
    have hz := (isA_iff z).1 h1.1
    have hs' := (isA_iff s).1 hs
    have h2' := (isA_iff _).1 h2
    have hp : isA (s + z) = true := (isA_iff _).2 (by omega)
    have e : plusA s z = (s + z, 0) := by unfold plusA; rw [if_pos ⟨hs, h1.1, hp⟩]
    simp only [sumFrom, e]
    rw [if_pos trivial, sumFrom_ok r (s + z) hp ⟨h1.2, by rw [Int.add_assoc]; exact h2⟩, Int.add_assoc]
theorem sumFrom_no : ∀ (l : List Int) (s : Int), isA s = true → ¬ okS s l → sumFrom s l = (0, 80)
  | [], s, hs, h => absurd ⟨rfl, by simpa using hs⟩ h
  | z :: r, s, hs, h => by
    by_cases hp : isA s = true ∧ isA z = true ∧ isA (s + z) = true
    · have e : plusA s z = (s + z, 0) := by unfold plusA; rw [if_pos hp]
      simp only [sumFrom, e]
      rw [if_pos trivial]
      refine sumFrom_no r (s + z) hp.2.2 (fun k => h ⟨?_, ?_⟩)
      · simp only [List.all_cons, Bool.and_eq_true]; exact ⟨hp.2.1, k.1⟩
      · rw [List.sum_cons, ← Int.add_assoc]; exact k.2
    · have e : plusA s z = (0, 80) := by unfold plusA; rw [if_neg hp]
      simp only [sumFrom, e]
      rfl
theorem sumA_ok {l : List Int} (h : okS 0 l) : sumA l = (l.sum, 0) := by
  unfold sumA; rw [sumFrom_ok l 0 (by decide +kernel) h, Int.zero_add]
theorem sumA_no {l : List Int} (h : ¬ okS 0 l) : sumA l = (0, 80) := sumFrom_no l 0 (by decide +kernel) h
theorem sumA_two (l : List Int) : (sumA l).2 = 0 ∨ sumA l = (0, 80) := by
  by_cases h : okS 0 l
  · exact .inl (by rw [sumA_ok h])
  · exact .inr (sumA_no h)
theorem sum_rev (l : List Int) : l.reverse.sum = l.sum := by
  induction l with
  | nil => rfl
  | cons z r ih => rw [List.reverse_cons, List.sum_append, ih, List.sum_cons, List.sum_cons, List.sum_nil]; omega
theorem sumA_rev (l : List Int) : sumA l.reverse = sumA l := by
  have e : okS 0 l.reverse ↔ okS 0 l := by unfold okS; rw [List.all_reverse, sum_rev]
  by_cases h : okS 0 l
  · rw [sumA_ok h, sumA_ok (e.2 h), sum_rev]
  · rw [sumA_no h, sumA_no (fun k => h (e.1 k))]
theorem okS_parts {l r : List Int} (h : okS 0 (l ++ r)) : okS 0 l ∧ okS 0 r := by
  obtain ⟨h1, h2⟩ := h
  rw [List.all_append, Bool.and_eq_true] at h1
  rw [List.sum_append] at h2
  have a := sum_nonneg h1.1
  have b := sum_nonneg h1.2
  have c := (isA_iff _).1 h2
  exact ⟨⟨h1.1, (isA_iff _).2 (by omega)⟩, ⟨h1.2, (isA_iff _).2 (by omega)⟩⟩
theorem sumA_parts_no (l r : List Int) (h : sumA l = (0, 80) ∨ sumA r = (0, 80)) : sumA (l ++ r) = (0, 80) := by
  refine sumA_no fun k => ?_
  obtain ⟨h1, h2⟩ := okS_parts k
  rcases h with h | h
  · rw [sumA_ok h1] at h; exact absurd (congrArg Prod.snd h) (by show ¬ (0 : Int) = 80; decide)
  · rw [sumA_ok h2] at h; exact absurd (congrArg Prod.snd h) (by show ¬ (0 : Int) = 80; decide)
theorem sumA_parts_ok (l r : List Int) (h1 : (sumA l).2 = 0) (h2 : (sumA r).2 = 0) : plusA (sumA l).1 (sumA r).1 = sumA (l ++ r) := by
  have k1 : okS 0 l := by
    rcases Classical.em (okS 0 l) with k | k
    · exact k
    · rw [sumA_no k] at h1; exact absurd h1 (by decide)
  have k2 : okS 0 r := by
    rcases Classical.em (okS 0 r) with k | k
    · exact k
    · rw [sumA_no k] at h2; exact absurd h2 (by decide)
  rw [sumA_ok k1, sumA_ok k2]
  obtain ⟨a1, a2⟩ := k1
  obtain ⟨b1, b2⟩ := k2
  rw [Int.zero_add] at a2 b2
  by_cases h : isA (l.sum + r.sum) = true
  · rw [sumA_ok ⟨by rw [List.all_append, a1, b1]; rfl, by rw [List.sum_append, Int.zero_add]; exact h⟩, List.sum_append]
    unfold plusA; rw [if_pos ⟨a2, b2, h⟩]
  · rw [sumA_no (fun k => h (by have := k.2; rw [List.sum_append, Int.zero_add] at this; exact this))]
    unfold plusA; rw [if_neg (fun k => h k.2.2)]
end Go.Proofs.Ytfcbpphdgghakaa
