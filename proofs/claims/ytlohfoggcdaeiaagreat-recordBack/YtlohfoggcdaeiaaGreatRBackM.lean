/-
  RecordBack: the mathematics of a batch, and laws for its walk (by hand).
-/
import Derived.Test.YtlohfoggcdaeiaaGreatRRow
namespace Go.Proofs.YtlohfoggcdaeiaaGreat
open Go.RowKit S
set_option linter.unusedVariables false
set_option linter.unusedSimpArgs false
open Cu (nb be hl ofL CW Mw CR Mr RS takeS takeA hOf nil8 doneS)
theorem bmov {o : Oper} {a : Act} (w : World) (x : Operand) (v : Value) (ho : o.op = .move x) (hx : a.eval x = v) : (execOp a.eval o).run Tryz.prog w = .ok (.value v) w := by
  unfold execOp
  simp only [ho, hx]
  rfl
section
variable {P : Program} {ops : Array Oper} {rest : List Oper} {o : Oper} {a : Act} {w : World} {Q : Exit → Act → World → Prop}
theorem wpW_un (op : UnOp) (t : TypeId) (x : Operand) (ho : o.op = .unOp op t x) (X r : Value) (hx : a.eval x = X) (hw : Region.wanted o (yielded ops a.tmps) = true) (hr : (Op.unary op X).run P w = .ok r w)
    (h : wpList P ops Q rest (a.put o.dst r) w) : wpList P ops Q (o :: rest) a w := by
  refine wpList_step fun K hK => ?_
  rw [if_pos hw]
  unfold Oper.wp execOp
  simp only [ho, hx, hr, Sem.run_bind, Sem.run_pure, Result.andThen_ok]
  exact hK _ _ h
theorem run_rem (t : TypeId) (k : IntKind) (X Y Z : Int) (hY : Y ≠ 0) (hZ : X.tmod Y = Z) (w : World) : (binOp .rem t (.int k X) (.int k Y)).run P w = .ok (.int k Z) w := by
  rw [binOp_rem, ← hZ]
  unfold Op.intDiv
  rw [if_neg hY]
  rfl
theorem run_neg (k : IntKind) (X Z : Int) (hZ : k.wrap (0 - X) = Z) (w : World) : (Op.unary .neg (.int k X)).run P w = .ok (.int k Z) w := by
  rw [← hZ]; rfl
end
theorem tmod_range (x : Int) (m : Nat) (hm : 0 < m) : -(m : Int) < x.tmod m ∧ x.tmod m < (m : Int) := by
  rcases Int.lt_or_le x 0 with h | h
  · have h1 := Int.tmod_nonneg (m : Int) (show 0 ≤ -x by omega)
    have h2 := Int.tmod_lt_of_pos (-x) (show (0 : Int) < m by omega)
    rw [Int.neg_tmod] at h1 h2
    omega
  · have h1 := Int.tmod_nonneg (m : Int) h
    have h2 := Int.tmod_lt_of_pos x (show (0 : Int) < m by omega)
    omega
theorem empty_false {b : ByteArray} (h : 0 < b.size) : b.toList.isEmpty = false := by
  rw [Bool.eq_false_iff]
  intro hc
  rw [List.isEmpty_iff, ByteArray.toList_eq] at hc
  have h0 : b.data.toList.length = 0 := by rw [hc]; rfl
  rw [str_len] at h0
  omega
def bytesL (ms : List (Rc × List Upd)) : List UInt8 := ms.flatMap fun m => bytesR m.1 m.2
def lastB (ms : List (Rc × List Upd)) : List UInt8 := match ms.getLast? with
  | some m => bytesR m.1 m.2
  | none => []
theorem lastB_app (ms : List (Rc × List Upd)) (m : Rc × List Upd) : lastB (ms ++ [m]) = bytesR m.1 m.2 := by
  unfold lastB; rw [List.getLast?_append]; rfl
theorem bytesL_app (ms : List (Rc × List Upd)) (m : Rc × List Upd) : bytesL (ms ++ [m]) = bytesL ms ++ bytesR m.1 m.2 := by
  unfold bytesL; rw [List.flatMap_append]; simp
theorem bytesL_cons (ms : List (Rc × List Upd)) (m : Rc × List Upd) : bytesL (m :: ms) = bytesR m.1 m.2 ++ bytesL ms := by
  unfold bytesL; rw [List.flatMap_cons]
structure MOk (w : World) (m : Rc × List Upd) : Prop where
  val : validR m.1 m.2 = true
  len : m.2.length = m.1.upds.n
  upd : Upds w m.1.upds.ad m.2
theorem bytesL_len : ∀ {ms : List (Rc × List Upd)} {w : World}, (∀ m ∈ ms, MOk w m) → (bytesL ms).length ≤ 40000 * ms.length
  | [], _, _ => Nat.le_refl _
  | m :: ms, w, h => by
    rw [bytesL_cons, List.length_append, List.length_cons]
    have h1 := bytesR_len (h m (by simp)).val (h m (by simp)).len
    have h2 := bytesL_len (ms := ms) (w := w) (fun x hx => h x (by simp [hx]))
    omega
theorem last_of {ms : List (Rc × List Upd)} {w : World} (h : ∀ m ∈ ms, MOk w m) (hne : lastB ms ≠ []) : ∃ m, MOk w m ∧ lastB ms = bytesR m.1 m.2 := by
  unfold lastB at hne ⊢
  cases hl : ms.getLast? with
  | none => rw [hl] at hne; exact absurd rfl hne
  | some m => exact ⟨m, h m (List.mem_of_getLast? hl), rfl⟩
theorem ofL_app (a b : List UInt8) : ofL a ++ ofL b = ofL (a ++ b) := by
  apply ByteArray.ext
  rw [ByteArray.data_append]
  apply Array.ext'
  rw [Array.toList_append, Cu.ofL_data, Cu.ofL_data, Cu.ofL_data]
theorem bytesR_pos (r : Rc) (l : List Upd) : 0 < (bytesR r l).length := by unfold bytesR; simp
theorem slOfR {B : Nat} {w : World} {v : Value} {l : List Rc} (h : OwnR B w v l) : ∃ x : Sl, v = x.v := by
  obtain ⟨ad, cap, e, _⟩ := h.at
  exact ⟨⟨ad, l.length, cap⟩, e⟩
theorem OwnR.sl {B : Nat} {w : World} {x : Sl} {l : List Rc} (h : OwnR B w x.v l) : l.length = x.n ∧ l.length ≤ x.c ∧ ∀ i s, l[i]? = some s → ∃ g, x.ad = some ⟨g, 0, none⟩ ∧ g < w.heap.size ∧ B ≤ g ∧ At w g (i * 138) s.v 138 := by
  obtain ⟨ad, cap, e, h1, h2, h3⟩ := h.at
  simp only [Sl.v, Value.slice.injEq] at e
  exact ⟨e.2.1.symm, by rw [e.2.2]; exact h2, by rw [e.1]; exact h1⟩
theorem lr_nil {r : Rc} {l : List Upd} (hv : validR r l = true) (hn : l.length = r.upds.n) (h3 : r.kind ≠ 3) : l.length = 0 := by
  have hb := (validR_own hv).1
  unfold bareB strip at hb
  rw [hn]
  by_cases h1 : r.kind = 1
  · rw [if_pos h1] at hb; simp only [Bool.and_eq_true, beq_iff_eq] at hb; exact Int.ofNat_eq_zero.1 hb.2.1
  rw [if_neg h1] at hb
  by_cases h2 : r.kind = 2
  · rw [if_pos h2] at hb; simp only [Bool.and_eq_true, beq_iff_eq] at hb; exact Int.ofNat_eq_zero.1 hb.2.1
  rw [if_neg h2, if_neg h3] at hb
  by_cases h4 : r.kind = 4
  · rw [if_pos h4] at hb; simp only [Bool.and_eq_true, beq_iff_eq] at hb; exact Int.ofNat_eq_zero.1 hb.2.1
  rw [if_neg h4] at hb
  by_cases h5 : r.kind = 5
  · rw [if_pos h5] at hb; simp only [Bool.and_eq_true, beq_iff_eq] at hb; exact Int.ofNat_eq_zero.1 hb.2.1
  rw [if_neg h5] at hb; simp only [Bool.and_eq_true, beq_iff_eq] at hb; exact Int.ofNat_eq_zero.1 hb.2.1
end Go.Proofs.YtlohfoggcdaeiaaGreat
