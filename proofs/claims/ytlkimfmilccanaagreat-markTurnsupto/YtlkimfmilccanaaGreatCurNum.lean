/-
  Numbers as bytes, the highest first.
-/
import Derived.Test.YtlkimfmilccanaaGreatCurBase
import Derived.Laws.BitsLemmas
namespace Go.Proofs.YtlkimfmilccanaaGreat.Fr
open Go.RowKit
def digit (x n j : Nat) : UInt8 := UInt8.ofNat (x / 2 ^ (8 * (n - 1 - j)))
/-- The last n bytes of x. -/
def nb (x n : Nat) : List UInt8 := (List.range n).map (digit x n)
/-- What bytes are. -/
def be (l : List UInt8) : Nat := l.foldl (fun a c => a * 256 + c.toNat) 0
theorem range_snoc {α : Type} (f : Nat → α) (k : Nat) : (List.range k).map f ++ [f k] = (List.range (k + 1)).map f := by rw [List.range_succ, List.map_append]; rfl
theorem nb_length (x n : Nat) : (nb x n).length = n := by simp [nb]
theorem be_snoc (l : List UInt8) (c : UInt8) : be (l ++ [c]) = be l * 256 + c.toNat := by simp [be]
theorem be_nil : be [] = 0 := rfl
theorem be_fold (l : List UInt8) : ∀ a : Nat, l.foldl (fun a c => a * 256 + c.toNat) a = a * 256 ^ l.length + be l := by
  induction l with
  | nil => intro a; simp [be]
  | cons c l ih =>
    intro a
    unfold be
    rw [List.foldl_cons, List.foldl_cons, ih, ih (0 * 256 + c.toNat), List.length_cons, Nat.pow_succ, Nat.add_mul, Nat.zero_mul, Nat.zero_add, Nat.mul_assoc, Nat.mul_comm 256]
    omega
theorem be_cons (c : UInt8) (l : List UInt8) : be (c :: l) = c.toNat * 256 ^ l.length + be l := by
  have := be_fold l (0 * 256 + c.toNat)
  unfold be at this ⊢
  rw [List.foldl_cons, this, Nat.zero_mul, Nat.zero_add]
theorem be_append (l m : List UInt8) : be (l ++ m) = be l * 256 ^ m.length + be m := by
  unfold be
  rw [List.foldl_append]
  exact be_fold m _
theorem be_lt (l : List UInt8) : be l < 256 ^ l.length := by
  induction l with
  | nil => simp [be]
  | cons c l ih =>
    rw [be_cons, List.length_cons, Nat.pow_succ]
    have := c.toNat_lt
    have h2 : c.toNat * 256 ^ l.length ≤ 255 * 256 ^ l.length := Nat.mul_le_mul_right _ (by omega)
    omega
theorem pow8 (b : Nat) : 2 ^ (8 * b) = 256 ^ b := by rw [Nat.pow_mul]
theorem nb_succ (x n : Nat) : nb x (n + 1) = nb (x / 256) n ++ [UInt8.ofNat x] := by
  unfold nb
  rw [List.range_succ, List.map_append]
  congr 1
  · apply List.map_congr_left
    intro j hj
    have hj' : j < n := List.mem_range.1 hj
    unfold digit
    congr 1
    rw [Nat.div_div_eq_div_mul]
    congr 1
    rw [show n + 1 - 1 - j = (n - 1 - j) + 1 by omega, Nat.mul_add, Nat.pow_add]
    omega
  · simp [digit]
theorem nb_zero (x : Nat) : nb x 0 = [] := rfl
theorem toNat_ofNat8 (x : Nat) : (UInt8.ofNat x).toNat = x % 256 := by simp
theorem nb_mod (x n : Nat) : ∀ y, x % 256 ^ n = y % 256 ^ n → nb x n = nb y n := by
  induction n generalizing x with
  | zero => intro y _; rfl
  | succ n ih =>
    intro y h
    rw [nb_succ, nb_succ]
    have h1 : x / 256 % 256 ^ n = y / 256 % 256 ^ n := by
      rw [Nat.pow_succ, Nat.mul_comm] at h
      have e1 : x % (256 * 256 ^ n) / 256 = x / 256 % 256 ^ n := Nat.mod_mul_right_div_self x 256 (256 ^ n)
      have e2 : y % (256 * 256 ^ n) / 256 = y / 256 % 256 ^ n := Nat.mod_mul_right_div_self y 256 (256 ^ n)
      rw [← e1, ← e2, h]
    have h2 : x % 256 = y % 256 := by
      rw [Nat.pow_succ] at h
      have := congrArg (· % 256) h
      simp only [Nat.mod_mul_left_mod] at this
      exact this
    rw [ih (x / 256) (y / 256) h1]
    have h3 : UInt8.ofNat x = UInt8.ofNat y := by
      apply UInt8.toNat_inj.1
      rw [toNat_ofNat8, toNat_ofNat8, h2]
    rw [h3]
theorem be_nb (x n : Nat) : be (nb x n) = x % 256 ^ n := by
  induction n generalizing x with
  | zero => rw [nb_zero, be_nil, Nat.pow_zero]; omega
  | succ n ih =>
    rw [nb_succ, be_snoc, ih, toNat_ofNat8, Nat.pow_succ, Nat.mul_comm (256 ^ n) 256, Nat.mod_mul]
    omega
theorem nb_add (x a b : Nat) : nb x (a + b) = nb (x / 256 ^ b) a ++ nb x b := by
  induction b generalizing x with
  | zero => simp [nb_zero]
  | succ b ih =>
    rw [← Nat.add_assoc, nb_succ, ih, nb_succ x b, Nat.pow_succ, Nat.mul_comm (256 ^ b) 256, ← Nat.div_div_eq_div_mul, List.append_assoc]
section
variable {P : Program} {ops : Array Oper} {rest : List Oper} {o : Oper} {a : Act} {w : World} {Q : Exit → Act → World → Prop}
theorem wpList_shr (hgd : o.guard = none) (t : TypeId) (x y : Operand) (u : TypeId) (ho : o.op = .binOp .shr t x y u) (k yk : IntKind) (X Y Z : Int) (hx : a.eval x = .int k X) (hy : a.eval y = .int yk Y) (m : Nat) (hY : Y = (m : Int)) (hm : m ≤ k.bits) (hZ : X / (2 : Int) ^ m = Z)
    (h : wpList P ops Q rest (a.put o.dst (.int k Z)) w) : wpList P ops Q (o :: rest) a w := by
  refine wpList_plain hgd fun K hK => ?_
  have hs : Op.shift .shr k X yk Y = pure (.int k Z) := by
    rw [shift_shr_any k yk X Y (by omega), hY, Int.toNat_natCast, Nat.min_eq_left hm, hZ]
  unfold Oper.wp execOp
  simp only [ho, hx, hy, eqGuard_shr, binOp_shr, hs, Sem.run_bind, Sem.run_pure, Result.andThen_ok]
  exact hK _ _ h
theorem wpList_shl (hgd : o.guard = none) (t : TypeId) (x y : Operand) (u : TypeId) (ho : o.op = .binOp .shl t x y u) (k yk : IntKind) (X Y Z : Int) (hx : a.eval x = .int k X) (hy : a.eval y = .int yk Y) (m : Nat) (hY : Y = (m : Int)) (hm : m ≤ k.bits) (hZ : k.wrap (X * (2 : Int) ^ m) = Z)
    (h : wpList P ops Q rest (a.put o.dst (.int k Z)) w) : wpList P ops Q (o :: rest) a w := by
  refine wpList_plain hgd fun K hK => ?_
  have hs : Op.shift .shl k X yk Y = pure (.int k Z) := by
    rw [shift_shl_any k yk X Y (by omega), hY, Int.toNat_natCast, Nat.min_eq_left hm, hZ]
  unfold Oper.wp execOp
  simp only [ho, hx, hy, eqGuard_shl, binOp_shl, hs, Sem.run_bind, Sem.run_pure, Result.andThen_ok]
  exact hK _ _ h
theorem wpList_or (hgd : o.guard = none) (t : TypeId) (x y : Operand) (u : TypeId) (ho : o.op = .binOp .or t x y u) (k : IntKind) (X Y Z : Int) (hx : a.eval x = .int k X) (hy : a.eval y = .int k Y) (hZ : bits .or k X Y = Z)
    (h : wpList P ops Q rest (a.put o.dst (.int k Z)) w) : wpList P ops Q (o :: rest) a w := by
  refine wpList_plain hgd fun K hK => ?_
  unfold Oper.wp execOp
  simp only [ho, hx, hy, eqGuard_or, binOp_or, intBits_or, hZ, Sem.run_bind, Sem.run_pure, Result.andThen_ok]
  exact hK _ _ h
theorem wpList_and (hgd : o.guard = none) (t : TypeId) (x y : Operand) (u : TypeId) (ho : o.op = .binOp .and t x y u) (k : IntKind) (X Y Z : Int) (hx : a.eval x = .int k X) (hy : a.eval y = .int k Y) (hZ : bits .and k X Y = Z)
    (h : wpList P ops Q rest (a.put o.dst (.int k Z)) w) : wpList P ops Q (o :: rest) a w := by
  refine wpList_plain hgd fun K hK => ?_
  unfold Oper.wp execOp
  simp only [ho, hx, hy, eqGuard_and, binOp_and, intBits_and, hZ, Sem.run_bind, Sem.run_pure, Result.andThen_ok]
  exact hK _ _ h
theorem wpList_conv (hgd : o.guard = none) (s d : TypeId) (x : Operand) (ho : o.op = .convert s d x) (k kd : IntKind) (X Z : Int) (hx : a.eval x = .int k X) (hr : (convert s d (.int k X)).run P w = .ok (.int kd Z) w)
    (h : wpList P ops Q rest (a.put o.dst (.int kd Z)) w) : wpList P ops Q (o :: rest) a w := by
  refine wpList_plain hgd fun K hK => ?_
  unfold Oper.wp execOp
  simp only [ho, hx, hr, Sem.run_bind, Sem.run_pure, Result.andThen_ok]
  exact hK _ _ h
end
end Go.Proofs.YtlkimfmilccanaaGreat.Fr
