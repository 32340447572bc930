/-
  The document's padded text, its One.
-/
import Derived.Test.YtoepmlagolfhcaaDoorRefBlock
import Derived.Deep.AppendSrc
namespace Go.Proofs.YtoepmlagolfhcaaDoor
open Go.RowKit S
/-- append(nil, b...) -/
theorem run_append_text (w : World) (b : ByteArray) (hl : b.size ≤ 140737488355328) (ty : TypeId) :
    ∃ v w', (Builtin.append_ #[60, 9] ty #[.slice none 0 0, .string b]).run Tryd.prog w = .ok v w' ∧ Bytes w' w.heap.size v b.data.toList ∧ Below w.heap.size w w' := by
  have hh := info5
  cases hq : Tryd.prog.info? 5 with
  | none => rw [hq] at hh; cases hh
  | some i =>
    rw [hq] at hh
    simp only [Option.map_some, Option.some.injEq, Prod.mk.injEq] at hh
    obtain ⟨hz0, hz1, hz2⟩ := hh
    have hsrc : Src Tryd.prog i.size 9 (.string b) b.size (byteCells b) w := by rw [hz1]; exact Src.ofString w Tryd.underlying9 b
    rcases Nat.eq_zero_or_pos b.size with h0 | h0
    · have hs : Src Tryd.prog i.size 9 (.string b) 0 [] w := by
        have e : byteCells b = [] := by rw [← List.length_eq_zero_iff, byteCells_length]; exact h0
        rw [h0, e] at hsrc; exact hsrc
      refine ⟨.slice none 0 0, w, ?_, ?_, Below.refl _ _⟩
      · rcases hs.kind with ⟨e', hk⟩ | hk <;> simp [Builtin.append_, run_underlying Tryd.underlying60, run_underlying hk, sizeOf, typeInfo, hq, hs.len, hs.cells]
      · have : b.data.toList = [] := by rw [← List.length_eq_zero_iff, str_len]; exact h0
        rw [this]; exact Bytes.nil w _
    · have hr := run_append_grow_src (P := Tryd.prog) w 60 9 ty 5 i (.int .u8 0) Tryd.underlying60 hq hz0 none 0 0 [] (run_firstCells_none w.drew i.size 0 0 0) (.string b) b.size (byteCells b) hsrc (by omega) (by omega) (by
        rw [hz2, Nat.zero_add, Nat.mul_one]
        rw [nextslicecap_zero h0]; omega)
      rw [Nat.zero_add] at hr
      refine ⟨_, _, hr, ?_, (Below.refl _ _).drew.alloc (Nat.le_refl _) _⟩
      refine ⟨by simp, .inr ⟨w.heap.size, _, _, by rw [str_len], Nat.le_refl _, heap_alloc_new w.drew _, ?_, ?_, ?_, ?_⟩⟩
      · rw [str_len]; exact grownCap_ge w b.size 0 5
      · exact grownCap_le_maxLen w b.size 0 5 (by unfold maxLen; omega)
      · have := grownCap_ge w b.size 0 5
        simp only [List.nil_append, Array.size_append, List.size_toArray, byteCells_length, size_zeroCells, Value.cells, Nat.mul_one]
        simp
        omega
      · rw [Nat.mul_one, Array.toList_append, List.nil_append]
        simp only []
        have e : b.data.toList.length = (byteCells b).length := by rw [byteCells_length, str_len]
        rw [e, List.take_left' rfl]
        rfl
theorem wpList_append_text {ops : Array Oper} {rest : List Oper} {o : Oper} {a : Act} {w : World} {Q : Exit → Act → World → Prop} (hgd : o.guard = none) (s x : Operand)
    (ho : o.op = .call { callee := .builtin .append, args := #[s, x], argTypes := #[60, 9] }) (b : ByteArray) (hs : a.eval s = .slice none 0 0) (hx : a.eval x = .string b) (hl : b.size ≤ 140737488355328)
    (h : ∀ v w', Bytes w' w.heap.size v b.data.toList → Below w.heap.size w w' → wpList Tryd.prog ops Q rest (a.put o.dst v) w') : wpList Tryd.prog ops Q (o :: rest) a w := by
  obtain ⟨v, w', hr, h1, h2⟩ := run_append_text w b hl o.type
  refine wpList_plain hgd fun K hK => ?_
  unfold Oper.wp execOp
  simp only [ho, resolve, invoke, builtin, Sem.run_bind, Sem.run_pure, Result.andThen_ok, List.map_toArray, List.map_cons, List.map_nil, hs, hx, hr]
  exact hK _ _ (h v w' h1 h2)
theorem Bytes.form {w : World} {B : Nat} {v : Value} {l : List UInt8} (h : Bytes w B v l) (hn : 0 < l.length) : ∃ g cap, v = .slice (some ⟨g, 0, none⟩) l.length cap := by
  obtain ⟨g, cap, rfl, _, _⟩ := World.ownsRow.form h hn
  exact ⟨g, cap, rfl⟩
-- left out in this seat: refPadded_any
theorem padded_length (L : List UInt8) : (padded L).length = L.length + 1 + zeros L.length + 8 := by unfold padded lenBytes; simp; omega
theorem padded_mod (L : List UInt8) : (padded L).length % 64 = 0 := by
  rw [padded_length]; unfold zeros; omega
theorem fLit (n : Num) (i : Nat) : (.int .u32 ((first i).toNat : Int) : Value) = wv n first i := by unfold wv; rw [n.eq]
theorem told_num (n : Num) (st : Nat → BitVec 32) (k : Nat) : n.u (st (k / 4)) / 2 ^ (24 - 8 * (k % 4)) % 256 = ((told st k).toNat : Int) := by
  unfold told; rw [n.eq, UInt8.toNat_ofNat']; simp
-- left out in this seat: refOne_any
end Go.Proofs.YtoepmlagolfhcaaDoor
