/-
  The writer: I64, Raw, Text, Len, New, stop.
-/
import Derived.Test.YthmbpddpdbkioaaCurWriter
namespace Go.Proofs.Ythmbpddpdbkioaa.Cu
open Go.RowKit
theorem str_len (r : ByteArray) : r.data.toList.length = r.size := by rw [Array.length_toList]; rfl
theorem wpList_append_src {ops : Array Oper} {rest : List Oper} {o : Oper} {a : Act} {w : World} {Q : Exit → Act → World → Prop} (hgd : o.guard = none) (sl x : Operand) (tx : TypeId)
    (ho : o.op = .call { callee := .builtin .append, args := #[sl, x], argTypes := #[52, tx] }) (B : Nat) (v : Value) (l : List UInt8) (hs : a.eval sl = v) (hown : Bytes w B v l) (X : Value) (news : List UInt8) (hx : a.eval x = X) (hsrc : Src Try.prog 1 tx X news.length (news.map byteV) w)
    (hlen : l.length + news.length ≤ 140737488355328) (hB : B ≤ w.heap.size)
    (h : ∀ ad n c w', Bytes w' B (.slice ad n c) (l ++ news) → Mv w v w' (.slice ad n c) → wpList Try.prog ops Q rest (a.put o.dst (.slice ad n c)) w') : wpList Try.prog ops Q (o :: rest) a w := by
  obtain ⟨v', w', hr, h1, h2⟩ := run_append_bytes w B o.type tx v l news hown X hsrc hlen hB
  obtain ⟨ad, n, c, rfl⟩ := h1.shape
  refine wpList_plain hgd fun K hK => ?_
  unfold Oper.wp execOp
  simp only [ho, resolve, invoke, builtin, Sem.run_bind, Sem.run_pure, Result.andThen_ok, List.map_toArray, List.map_cons, List.map_nil, hs, hx, hr]
  exact hK _ _ (h _ _ _ _ h1 h2)
theorem src_text (s : ByteArray) (w : World) : Src Try.prog 1 9 (.string s) s.data.toList.length (s.data.toList.map byteV) w := by
  rw [str_len]; exact Src.ofString w Try.underlying9 s
set_option maxHeartbeats 1000000 in
theorem wI64 (X : Int) (x : Nat) (hX : IntKind.u64.wrap X = (x : Int)) (p : Nat) (v : Value) (s : Option (List UInt8)) (w : World) (h : CW w p v s) (hl : ∀ l, s = some l → l.length + 8 ≤ 140737488355328) :
    Calls Try.prog 14 #[.pointer (some ⟨p, 0, none⟩), .int .i64 X] w fun e w' => e = .returned (.tuple #[]) ∧ ∃ v', CW w' p v' (s.map (· ++ nb x 8)) ∧ Mw p w v w' v' := by
  have HL := hide hl
  obtain ⟨Z, hZ⟩ : ∃ Z : Int, (x : Int) = Z := ⟨_, rfl⟩
  have hc : ∀ w : World, (convert 2 57 (.int .i64 X)).run Try.prog w = .ok (.int .u64 Z) w := fun w => by
    have h := run_convert_int (P := Try.prog) (w := w) 2 57 .i64 X (by kernel_rfl) (by kernel_rfl)
    rw [show Try.prog.intKind 57 = .u64 by kernel_rfl, hX, hZ] at h
    exact h
  have HC := hide hc
  have HZ := hide hZ.symm
  clear hl hX hZ hc
  go_enter Try.func14, Try.ntmps14
  go_wp2_with (first | (refine wpList_conv rfl _ _ _ rfl .i64 .u64 X Z (by rfl) (HC.out _) ?_) | fail)
  refine (put_64 Z x HZ.out p v s _ h HL.out).mono ?_
  rintro e w1 ⟨rfl, h1⟩
  go_wp2
  go_end0
  exact ⟨rfl, h1⟩
-- left out in this seat: wRaw
-- left out in this seat: wStop
def txt (s : Option (List UInt8)) (t : ByteArray) : Option (List UInt8) := if t.size > 65535 then none else (s.map (· ++ nb t.size 2)).map (· ++ t.data.toList)
-- left out in this seat: wText
-- left out in this seat: wLen
set_option maxHeartbeats 1000000 in
theorem wNew (w : World) : Calls Try.prog 12 #[] w fun e w' => e = .returned (.pointer (some ⟨w.heap.size, 0, none⟩)) ∧ CW w' w.heap.size (.slice none 0 0) (some []) ∧ Below w.heap.size w w' ∧ w'.heap.size = w.heap.size + 1 := by
  go_enter Try.func12, Try.ntmps12
  go_wp2
  go_ret
  exact ⟨rfl, ⟨Two.new w 54 _ 0, Bytes.nil _ _⟩, (Below.refl _ _).alloc (Nat.le_refl _) _, by simp⟩
end Go.Proofs.Ythmbpddpdbkioaa.Cu
