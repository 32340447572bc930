/-
  Bytes cut anywhere; whole numbers in a slice of the call's own.
-/
import Derived.Test.YtmcnempkddahcaaBack
namespace Go.Proofs.Ytmcnempkddahcaa
open Go.RowKit
def flS (vs : List VL) : List UInt8 := fl (vs.filter fun V => !longB V)
def gA (vs : List VL) (k : Nat) : Nat := (flS (vs.take k)).length
theorem flS_snoc (vs : List VL) (V : VL) : flS (vs ++ [V]) = if longB V then flS vs else flS vs ++ vB V := by
  unfold flS
  rw [List.filter_append]
  cases h : longB V
  · rw [List.filter_cons_of_pos (by simp [h]), List.filter_nil, fl_snoc]; rfl
  · rw [List.filter_cons_of_neg (by simp [h]), List.filter_nil, List.append_nil]; rfl
theorem flS_split (vs : List VL) (k : Nat) : flS vs = flS (vs.take k) ++ flS (vs.drop k) := by
  unfold flS
  rw [← fl_append, ← List.filter_append, List.take_append_drop]
theorem flS_cons (V : VL) (vs : List VL) (h : longB V = false) : flS (V :: vs) = vB V ++ flS vs := by
  unfold flS
  rw [List.filter_cons_of_pos (by simp [h]), fl_cons]
theorem gA_le (vs : List VL) (k : Nat) : gA vs k ≤ (flS vs).length := by
  have := congrArg List.length (flS_split vs k)
  rw [List.length_append] at this
  unfold gA; omega
theorem gA_long (vs : List VL) (k : Nat) (hk : k < vs.length) (h : longB vs[k] = true) : gA vs (k + 1) = gA vs k := by
  unfold gA; rw [take_snoc vs k hk, flS_snoc, if_pos h]
theorem gA_step (vs : List VL) (k : Nat) (hk : k < vs.length) (h : longB vs[k] = false) : gA vs (k + 1) = gA vs k + (vB vs[k]).length := by
  unfold gA; rw [take_snoc vs k hk, flS_snoc, if_neg (by rw [h]; decide), List.length_append]
theorem rest_eq (vs : List VL) (k : Nat) (hk : k < vs.length) (h : longB vs[k] = false) : flS vs = flS (vs.take k) ++ (vB vs[k] ++ flS (vs.drop (k + 1))) := by
  have := flS_split vs k
  rw [List.drop_eq_getElem_cons hk, flS_cons _ _ h] at this
  exact this
theorem cutA (vs : List VL) (k m : Nat) (hk : k < vs.length) (h : longB vs[k] = false) (hm : gA vs (k + 1) ≤ m) : ((flS vs).take m).drop (gA vs k) = vB vs[k] ++ ((flS vs).take m).drop (gA vs (k + 1)) := by
  have e := rest_eq vs k hk h
  have hs := gA_step vs k hk h
  have hl : (flS (vs.take k)).length = gA vs k := rfl
  have e1 : (flS vs).take m = flS (vs.take k) ++ (vB vs[k] ++ (flS (vs.drop (k + 1))).take (m - gA vs k - (vB vs[k]).length)) := by
    rw [e, List.take_append, List.take_of_length_le (by omega), List.take_append, List.take_of_length_le (l := vB vs[k]) (by omega), hl]
  have hl2 : (flS (vs.take k) ++ vB vs[k]).length = gA vs k + (vB vs[k]).length := by rw [List.length_append, hl]
  rw [e1, hs, ← hl2]
  have e2 : ∀ r, (flS (vs.take k) ++ (vB vs[k] ++ r)).drop (flS (vs.take k) ++ vB vs[k]).length = r := fun r => by rw [← List.append_assoc, List.drop_left]
  rw [e2, ← hl, List.drop_left]
theorem cutB (vs : List VL) (k m : Nat) (hk : k < vs.length) (h : longB vs[k] = false) (h1 : gA vs k ≤ m) (hm : m < gA vs (k + 1)) : ((flS vs).take m).drop (gA vs k) = (vB vs[k]).take (m - gA vs k) ∧ m - gA vs k < (vB vs[k]).length := by
  have e := rest_eq vs k hk h
  have hs := gA_step vs k hk h
  have hl : (flS (vs.take k)).length = gA vs k := rfl
  refine ⟨?_, by omega⟩
  rw [e, List.take_append, List.take_of_length_le (by omega), hl, ← hl, List.drop_left, List.take_append, hl]
  have e0 : m - gA vs k - (vB vs[k]).length = 0 := by omega
  rw [e0, List.take_zero, List.append_nil]
theorem cutS_of (V : VL) (n : Nat) (h : n < (vB V).length) : CutS V (xo V) (ofL ((vB V).take n), 0) := by
  have hl : ((vB V).take n).length = n := by rw [List.length_take]; omega
  exact .inr ⟨(vB V).take n, rfl, by rw [hl]; exact h, by rw [hl]; rfl⟩
theorem flS_length (vs : List VL) (h : ∀ V ∈ vs, V.ok (xo V)) : (flS vs).length ≤ vs.length * 2097152 := by
  have h1 := fl_length (vs.filter fun V => !longB V) (fun V hV => h V (List.mem_filter.1 hV).1)
  have h2 : (vs.filter fun V => !longB V).length ≤ vs.length := List.length_filter_le _ _
  exact Nat.le_trans h1 (Nat.mul_le_mul_right _ h2)
def nV (n : Nat) : Value := .int .i64 (n : Int)
def IntsO (w : World) (B : Nat) (v : Value) (l : List Nat) : Prop := w.ownsRow B 3 1 v l.length (l.map nV)
theorem info3 : (Try.prog.info? 3).map (fun i => (i.zero, i.size, i.bytes)) = some (some (.int .i64 0), 1, 8) := by kernel_rfl
theorem IntsO.nil (w : World) (B : Nat) : IntsO w B (.slice none 0 0) [] := World.ownsRow_nil w B 3 1
theorem IntsO.block {w : World} {B : Nat} {v : Value} {l : List Nat} (h : IntsO w B v l) : ∀ k, v.ownBlock = some k → B ≤ k ∧ k < w.heap.size := fun k hk => World.ownsRow.lt h k hk
theorem IntsO.same {w w' : World} {B : Nat} {v : Value} {l : List Nat} (h : IntsO w B v l) (e : ∀ k, v.ownBlock = some k → w'.heap[k]? = w.heap[k]?) : IntsO w' B v l := by
  refine ⟨h.1, ?_⟩
  rcases h.2 with hn | ⟨g, cap, cur, rfl, hb, hgg, rest⟩
  · exact .inl hn
  · exact .inr ⟨g, cap, cur, rfl, hb, by rw [e g rfl]; exact hgg, rest⟩
theorem IntsO.below {w w' : World} {B : Nat} {v : Value} {l : List Nat} (h : IntsO w B v l) (hb : Below w.heap.size w w') : IntsO w' B v l :=
  h.same (fun k hk => hb.block k (h.block k hk).2)
theorem IntsO.cell {w : World} {B g n cap : Nat} {l : List Nat} (h : IntsO w B (.slice (some ⟨g, 0, none⟩) n cap) l) (i : Nat) (hi : i < l.length) : w.cell? ⟨g, i, none⟩ = some (.int .i64 (l[i] : Int)) := by
  rcases h.2 with ⟨h1, _⟩ | ⟨g', cap', cur, h1, hb, hg, hnc, hcm, hcs, htake⟩
  · cases h1
  · simp only [Value.slice.injEq, Option.some.injEq, Addr.mk.injEq, and_true] at h1
    obtain ⟨rfl, rfl, rfl⟩ := h1
    rw [cell_of_row w g i cur 3 (0, 0) hg]
    rw [Nat.mul_one] at htake
    have e : (cur.toList.take l.length)[i]? = (l.map nV)[i]? := by rw [htake]
    rw [List.getElem?_take_of_lt hi, List.getElem?_map, List.getElem?_eq_getElem hi, Array.getElem?_toList] at e
    exact e
theorem wpList_append_num {ops : Array Oper} {rest : List Oper} {o : Oper} {a : Act} {w w0 : World} {Q : Exit → Act → World → Prop} (hgd : o.guard = none) (s x : Operand)
    (ho : o.op = .call { callee := .builtin .append, args := #[s, x], argTypes := #[61, 61] }) (B : Nat) (v : Value) (l : List Nat) (c : Nat) (hs : a.eval s = v) (hown : IntsO w0 B v l)
    (hx : a.eval x = .slice (some ⟨w0.heap.size, 0, none⟩) 1 1) (hw : w = w0.alloc (.cells #[.int .i64 (c : Int)] 3)) (hlen : (l.length + 1) * 8 ≤ 140737488355328) (hB : B ≤ w0.heap.size)
    (h : ∀ g cap w', IntsO w' B (.slice (some ⟨g, 0, none⟩) (l.length + 1) cap) (l ++ [c]) → Mv w0 v w' (.slice (some ⟨g, 0, none⟩) (l.length + 1) cap) → wpList Try.prog ops Q rest (a.put o.dst (.slice (some ⟨g, 0, none⟩) (l.length + 1) cap)) w') : wpList Try.prog ops Q (o :: rest) a w := by
  subst hw
  obtain ⟨i, hi, hz0, hz1, hz2⟩ := info_parts info3
  have hown' : (w0.alloc (.cells #[.int .i64 (c : Int)] 3)).ownsRow B 3 1 v l.length (l.map nV) := World.ownsRow.kept hown (grown_alloc w0 _ none) (by cases v.ownBlock <;> simp)
  refine wpList_append_lies (P := Try.prog) _ hgd s x 61 ho B 3 i (.int .i64 0) 1 8 Try.underlying61 hi hz0 hz1 hz2 rfl (by omega) v l.length (l.map nV) hs hown' ⟨w0.heap.size, 0, none⟩ 1 1 [nV c] hx rfl ?_ ?_ (by omega) (by unfold maxLen; omega) hlen (by simp; omega) (w0.heap.size + 1) (by simp) ?_
  · intro j u hu
    exact World.news_of_block (heap_alloc_new w0 _) j u hu
  · intro u hu
    simp at hu; subst hu; rfl
  · intro g cap w' h1 h2 h3 h4
    refine h g cap w' ?_ ⟨grown_trans (grown_alloc w0 _ v.ownBlock) h2, fun g' hg' => ?_⟩
    · unfold IntsO
      rw [List.length_append, List.map_append]
      exact h1
    · have e : g' = g := by simpa [Value.ownBlock] using hg'.symm
      subst e
      rcases h3 with h3 | h3
      · exact .inl h3
      · exact .inr (by omega)
section
variable {P : Program} {ops : Array Oper} {rest : List Oper} {o : Oper} {a : Act} {w : World} {Q : Exit → Act → World → Prop}
theorem wpW_un (op : UnOp) (t : TypeId) (x : Operand) (ho : o.op = .unOp op t x) (X r : Value) (hx : a.eval x = X) (hw : Region.wanted o (yielded ops a.tmps) = true) (hr : (Op.unary op X).run P w = .ok r w)
    (h : wpList P ops Q rest (a.put o.dst r) w) : wpList P ops Q (o :: rest) a w := by
  refine wpList_step fun K hK => ?_
  rw [if_pos hw]
  unfold Oper.wp execOp
  simp only [ho, hx, hr, Sem.run_bind, Sem.run_pure, Result.andThen_ok]
  exact hK _ _ h
theorem run_rem (t : TypeId) (k : IntKind) (X Y Z : Int) (hY : Y ≠ 0) (hZ : X.tmod Y = Z) (w : World) : (binOp .rem t (.int k X) (.int k Y)).run P w = .ok (.int k Z) w := by
  rw [binOp_rem, ← hZ]
  unfold Op.intDiv
  rw [if_neg hY]
  rfl
theorem run_add (t : TypeId) (k : IntKind) (X Y Z : Int) (hZ : k.wrap (X + Y) = Z) (w : World) : (binOp .add t (.int k X) (.int k Y)).run P w = .ok (.int k Z) w := by
  rw [binOp_add, ← hZ]; rfl
theorem run_neg (k : IntKind) (X Z : Int) (hZ : k.wrap (0 - X) = Z) (w : World) : (Op.unary .neg (.int k X)).run P w = .ok (.int k Z) w := by
  rw [← hZ]; rfl
end
/-- Apart from the writer's blocks. -/
def Apart (p : Nat) (v ve : Value) : Prop := ∀ g, ve.ownBlock = some g → g ≠ p ∧ v.ownBlock ≠ some g
end Go.Proofs.Ytmcnempkddahcaa
