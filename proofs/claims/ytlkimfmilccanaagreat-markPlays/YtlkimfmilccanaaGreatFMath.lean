import Derived.Test.YtlkimfmilccanaaGreatCurBase
import Derived.Laws.BitsLemmas
/-
  Numbers as bytes, the highest first.
-/
namespace Go.Proofs.YtlkimfmilccanaaGreat.Fr
open Go.RowKit
def digit (x n j : Nat) : UInt8 := UInt8.ofNat (x / 2 ^ (8 * (n - 1 - j)))
/-- The last n bytes of x. -/
def nb (x n : Nat) : List UInt8 := (List.range n).map (digit x n)
/-- What bytes are. -/
def be (l : List UInt8) : Nat := l.foldl (fun a c => a * 256 + c.toNat) 0
theorem range_snoc {α : Type} (f : Nat → α) (k : Nat) : (List.range k).map f ++ [f k] = (List.range (k + 1)).map f := by rw [List.range_succ, List.map_append]; rfl
theorem nb_length (x n : Nat) : (nb x n).length = n := by simp [nb]
theorem be_snoc (l : List UInt8) (c : UInt8) : be (l ++ [c]) = be l * 256 + c.toNat := by simp [be]
theorem be_nil : be [] = 0 := rfl
theorem be_fold (l : List UInt8) : ∀ a : Nat, l.foldl (fun a c => a * 256 + c.toNat) a = a * 256 ^ l.length + be l := by
  induction l with
  | nil => intro a; simp [be]
  | cons c l ih =>
    intro a
    unfold be
    rw [List.foldl_cons, List.foldl_cons, ih, ih (0 * 256 + c.toNat), List.length_cons, Nat.pow_succ, Nat.add_mul, Nat.zero_mul, Nat.zero_add, Nat.mul_assoc, Nat.mul_comm 256]
    omega
theorem be_cons (c : UInt8) (l : List UInt8) : be (c :: l) = c.toNat * 256 ^ l.length + be l := by
  have := be_fold l (0 * 256 + c.toNat)
  unfold be at this ⊢
  rw [List.foldl_cons, this, Nat.zero_mul, Nat.zero_add]
theorem be_append (l m : List UInt8) : be (l ++ m) = be l * 256 ^ m.length + be m := by
  unfold be
  rw [List.foldl_append]
  exact be_fold m _
theorem be_lt (l : List UInt8) : be l < 256 ^ l.length := by
  induction l with
  | nil => simp [be]
  | cons c l ih =>
    rw [be_cons, List.length_cons, Nat.pow_succ]
    have := c.toNat_lt
    have h2 : c.toNat * 256 ^ l.length ≤ 255 * 256 ^ l.length := Nat.mul_le_mul_right _ (by omega)
    omega
theorem pow8 (b : Nat) : 2 ^ (8 * b) = 256 ^ b := by rw [Nat.pow_mul]
theorem nb_succ (x n : Nat) : nb x (n + 1) = nb (x / 256) n ++ [UInt8.ofNat x] := by
  unfold nb
  rw [List.range_succ, List.map_append]
  congr 1
  · apply List.map_congr_left
    intro j hj
    have hj' : j < n := List.mem_range.1 hj
    unfold digit
    congr 1
    rw [Nat.div_div_eq_div_mul]
    congr 1
    rw [show n + 1 - 1 - j = (n - 1 - j) + 1 by omega, Nat.mul_add, Nat.pow_add]
    omega
  · simp [digit]
theorem nb_zero (x : Nat) : nb x 0 = [] := rfl
theorem toNat_ofNat8 (x : Nat) : (UInt8.ofNat x).toNat = x % 256 := by simp
theorem nb_mod (x n : Nat) : ∀ y, x % 256 ^ n = y % 256 ^ n → nb x n = nb y n := by
  induction n generalizing x with
  | zero => intro y _; rfl
  | succ n ih =>
    intro y h
    rw [nb_succ, nb_succ]
    have h1 : x / 256 % 256 ^ n = y / 256 % 256 ^ n := by
      rw [Nat.pow_succ, Nat.mul_comm] at h
      have e1 : x % (256 * 256 ^ n) / 256 = x / 256 % 256 ^ n := Nat.mod_mul_right_div_self x 256 (256 ^ n)
      have e2 : y % (256 * 256 ^ n) / 256 = y / 256 % 256 ^ n := Nat.mod_mul_right_div_self y 256 (256 ^ n)
      rw [← e1, ← e2, h]
    have h2 : x % 256 = y % 256 := by
      rw [Nat.pow_succ] at h
      have := congrArg (· % 256) h
      simp only [Nat.mod_mul_left_mod] at this
      exact this
    rw [ih (x / 256) (y / 256) h1]
    have h3 : UInt8.ofNat x = UInt8.ofNat y := by
      apply UInt8.toNat_inj.1
      rw [toNat_ofNat8, toNat_ofNat8, h2]
    rw [h3]
theorem be_nb (x n : Nat) : be (nb x n) = x % 256 ^ n := by
  induction n generalizing x with
  | zero => rw [nb_zero, be_nil, Nat.pow_zero]; omega
  | succ n ih =>
    rw [nb_succ, be_snoc, ih, toNat_ofNat8, Nat.pow_succ, Nat.mul_comm (256 ^ n) 256, Nat.mod_mul]
    omega
theorem nb_add (x a b : Nat) : nb x (a + b) = nb (x / 256 ^ b) a ++ nb x b := by
  induction b generalizing x with
  | zero => simp [nb_zero]
  | succ b ih =>
    rw [← Nat.add_assoc, nb_succ, ih, nb_succ x b, Nat.pow_succ, Nat.mul_comm (256 ^ b) 256, ← Nat.div_div_eq_div_mul, List.append_assoc]
section
variable {P : Program} {ops : Array Oper} {rest : List Oper} {o : Oper} {a : Act} {w : World} {Q : Exit → Act → World → Prop}
theorem wpList_shr (hgd : o.guard = none) (t : TypeId) (x y : Operand) (u : TypeId) (ho : o.op = .binOp .shr t x y u) (k yk : IntKind) (X Y Z : Int) (hx : a.eval x = .int k X) (hy : a.eval y = .int yk Y) (m : Nat) (hY : Y = (m : Int)) (hm : m ≤ k.bits) (hZ : X / (2 : Int) ^ m = Z)
    (h : wpList P ops Q rest (a.put o.dst (.int k Z)) w) : wpList P ops Q (o :: rest) a w := by
  refine wpList_plain hgd fun K hK => ?_
  have hs : Op.shift .shr k X yk Y = pure (.int k Z) := by
    rw [shift_shr_any k yk X Y (by omega), hY, Int.toNat_natCast, Nat.min_eq_left hm, hZ]
  unfold Oper.wp execOp
  simp only [ho, hx, hy, eqGuard_shr, binOp_shr, hs, Sem.run_bind, Sem.run_pure, Result.andThen_ok]
  exact hK _ _ h
theorem wpList_shl (hgd : o.guard = none) (t : TypeId) (x y : Operand) (u : TypeId) (ho : o.op = .binOp .shl t x y u) (k yk : IntKind) (X Y Z : Int) (hx : a.eval x = .int k X) (hy : a.eval y = .int yk Y) (m : Nat) (hY : Y = (m : Int)) (hm : m ≤ k.bits) (hZ : k.wrap (X * (2 : Int) ^ m) = Z)
    (h : wpList P ops Q rest (a.put o.dst (.int k Z)) w) : wpList P ops Q (o :: rest) a w := by
  refine wpList_plain hgd fun K hK => ?_
  have hs : Op.shift .shl k X yk Y = pure (.int k Z) := by
    rw [shift_shl_any k yk X Y (by omega), hY, Int.toNat_natCast, Nat.min_eq_left hm, hZ]
  unfold Oper.wp execOp
  simp only [ho, hx, hy, eqGuard_shl, binOp_shl, hs, Sem.run_bind, Sem.run_pure, Result.andThen_ok]
  exact hK _ _ h
theorem wpList_or (hgd : o.guard = none) (t : TypeId) (x y : Operand) (u : TypeId) (ho : o.op = .binOp .or t x y u) (k : IntKind) (X Y Z : Int) (hx : a.eval x = .int k X) (hy : a.eval y = .int k Y) (hZ : bits .or k X Y = Z)
    (h : wpList P ops Q rest (a.put o.dst (.int k Z)) w) : wpList P ops Q (o :: rest) a w := by
  refine wpList_plain hgd fun K hK => ?_
  unfold Oper.wp execOp
  simp only [ho, hx, hy, eqGuard_or, binOp_or, intBits_or, hZ, Sem.run_bind, Sem.run_pure, Result.andThen_ok]
  exact hK _ _ h
theorem wpList_and (hgd : o.guard = none) (t : TypeId) (x y : Operand) (u : TypeId) (ho : o.op = .binOp .and t x y u) (k : IntKind) (X Y Z : Int) (hx : a.eval x = .int k X) (hy : a.eval y = .int k Y) (hZ : bits .and k X Y = Z)
    (h : wpList P ops Q rest (a.put o.dst (.int k Z)) w) : wpList P ops Q (o :: rest) a w := by
  refine wpList_plain hgd fun K hK => ?_
  unfold Oper.wp execOp
  simp only [ho, hx, hy, eqGuard_and, binOp_and, intBits_and, hZ, Sem.run_bind, Sem.run_pure, Result.andThen_ok]
  exact hK _ _ h
theorem wpList_conv (hgd : o.guard = none) (s d : TypeId) (x : Operand) (ho : o.op = .convert s d x) (k kd : IntKind) (X Z : Int) (hx : a.eval x = .int k X) (hr : (convert s d (.int k X)).run P w = .ok (.int kd Z) w)
    (h : wpList P ops Q rest (a.put o.dst (.int kd Z)) w) : wpList P ops Q (o :: rest) a w := by
  refine wpList_plain hgd fun K hK => ?_
  unfold Oper.wp execOp
  simp only [ho, hx, hr, Sem.run_bind, Sem.run_pure, Result.andThen_ok]
  exact hK _ _ h
end
end Go.Proofs.YtlkimfmilccanaaGreat.Fr
/-
  FRAMES, PLAIN: their bytes, what stands at the head of some bytes, frames one behind the other. Nothing of the program.
-/
namespace Go.Proofs.YtlkimfmilccanaaGreat.Fr
open Go.RowKit C
def room (k : Nat) : Nat := (k + 79) / 64 * 64
def sumL (n : Nat) (p : List UInt8) : Nat := (on 0#32 (nb p.length 4 ++ nb n 8 ++ p)).toNat
def fillL (k : Nat) : List UInt8 := List.replicate (room k - (16 + k)) 0
def frameL (n : Nat) (p : List UInt8) : List UInt8 := nb p.length 4 ++ (nb n 8 ++ (nb (sumL n p) 4 ++ (p ++ fillL p.length)))
theorem room_ge (k : Nat) : 16 + k ≤ room k ∧ room k < 80 + k ∧ 64 ≤ room k ∧ room k % 64 = 0 := by unfold room; omega
theorem frameL_length (n : Nat) (p : List UInt8) : (frameL n p).length = room p.length := by
  have := room_ge p.length
  unfold frameL fillL
  simp only [List.length_append, nb_length, List.length_replicate]
  omega
theorem nb_inj {x y k : Nat} (h : nb x k = nb y k) (hx : x < 256 ^ k) (hy : y < 256 ^ k) : x = y := by
  have := congrArg be h
  rwa [be_nb, be_nb, Nat.mod_eq_of_lt hx, Nat.mod_eq_of_lt hy] at this
theorem sumL_lt (n : Nat) (p : List UInt8) : sumL n p < 256 ^ 4 := (on 0#32 (nb p.length 4 ++ nb n 8 ++ p)).isLt
/-- What the first bytes of a frame tell. -/
theorem frame_head {n : Nat} {p l : List UInt8} (h : frameL n p <+: l) : l.take 4 = nb p.length 4 ∧ (l.drop 4).take 8 = nb n 8 ∧ (l.drop 12).take 4 = nb (sumL n p) 4 ∧ (l.drop 16).take p.length = p ∧ room p.length ≤ l.length := by
  obtain ⟨r, rfl⟩ := h
  refine ⟨?_, ?_, ?_, ?_, ?_⟩
  · unfold frameL
    rw [List.append_assoc, List.take_left' (nb_length _ _)]
  · unfold frameL
    rw [List.append_assoc, List.drop_left' (nb_length _ _), List.append_assoc, List.take_left' (nb_length _ _)]
  · unfold frameL
    rw [List.append_assoc, show 12 = 4 + 8 from rfl, ← List.drop_drop, List.drop_left' (nb_length _ _), List.append_assoc, List.drop_left' (nb_length _ _), List.append_assoc, List.take_left' (nb_length _ _)]
  · unfold frameL
    rw [List.append_assoc, show 16 = 4 + (8 + 4) from rfl, ← List.drop_drop, ← List.drop_drop, List.drop_left' (nb_length _ _), List.append_assoc, List.drop_left' (nb_length _ _), List.append_assoc, List.drop_left' (nb_length _ _), List.append_assoc, List.take_left' rfl]
  · rw [List.length_append, frameL_length]; omega
theorem frame_inj {n m : Nat} {p q l : List UInt8} (h : frameL n p <+: l) (k : frameL m q <+: l) (hp : p.length < 256 ^ 4) (hq : q.length < 256 ^ 4) (hn : n < 256 ^ 8) (hm : m < 256 ^ 8) : p = q ∧ n = m := by
  obtain ⟨a1, a2, _, a4, _⟩ := frame_head h
  obtain ⟨b1, b2, _, b4, _⟩ := frame_head k
  have e1 : p.length = q.length := nb_inj (a1.symm.trans b1) hp hq
  refine ⟨?_, nb_inj (a2.symm.trans b2) hn hm⟩
  rw [← a4, ← b4, e1]
/-- The payload that the head's length says. -/
def payloadL (t : List UInt8) : List UInt8 := (t.drop 16).take (be (t.take 4))
abbrev Whole (n : Int) (t p : List UInt8) : Prop := 0 ≤ n ∧ n < 9223372036854775808 ∧ p.length ≤ 65536 ∧ frameL n.toNat p <+: t
theorem Whole.payload {n : Int} {t p : List UInt8} (h : Whole n t p) : payloadL t = p := by
  obtain ⟨a1, _, _, a4, _⟩ := frame_head h.2.2.2
  unfold payloadL
  rw [a1, be_nb, Nat.mod_eq_of_lt (by have := h.2.2.1; omega), a4]
theorem Whole.inj {n m : Int} {t p q : List UInt8} (h : Whole n t p) (k : Whole m t q) : p = q ∧ n = m := by
  obtain ⟨e1, e2⟩ := frame_inj h.2.2.2 k.2.2.2 (by have := h.2.2.1; omega) (by have := k.2.2.1; omega) (by have := h.1; have := h.2.1; omega) (by have := k.1; have := k.2.1; omega)
  exact ⟨e1, by have := h.1; have := k.1; omega⟩
def wholeT (t : List UInt8) (n : Int) : Option (List UInt8) := if Whole n t (payloadL t) then some (payloadL t) else none
theorem wholeT_some {t : List UInt8} {n : Int} {p : List UInt8} : wholeT t n = some p ↔ Whole n t p := by
  unfold wholeT
  constructor
  · intro h
    split at h
    · rename_i hw
      cases h
      exact hw
    · cases h
  · intro h
    have e := h.payload
    rw [e, if_pos h]
theorem wholeT_none {t : List UInt8} {n : Int} : wholeT t n = none ↔ ∀ p, ¬ Whole n t p := by
  constructor
  · intro h p hp
    rw [wholeT_some.2 hp] at h
    cases h
  · intro h
    unfold wholeT
    rw [if_neg (h _)]
theorem Whole.len {n : Int} {t p : List UInt8} (h : Whole n t p) : room p.length ≤ t.length := (frame_head h.2.2.2).2.2.2.2
theorem Whole.split {n : Int} {t p : List UInt8} (h : Whole n t p) : t = frameL n.toNat p ++ t.drop (room p.length) := by
  obtain ⟨r, hr⟩ := h.2.2.2
  rw [← hr, List.drop_left' (frameL_length _ _)]
/-- What Next answers. -/
def nextA (l : List UInt8) (at_ n : Int) : List UInt8 × Nat × Int :=
  if at_ = l.length then ([], 0, 0) else if at_ < 0 ∨ (l.length : Int) < at_ then ([], 0, 2) else
  match wholeT (l.drop at_.toNat) n with
  | some p => (p, room p.length, 1)
  | none => ([], 0, 2)
/-- From t on, the frames of n, n + 1, .. with these payloads; t' is behind them. -/
def Told : List UInt8 → Int → List (List UInt8) → List UInt8 → Prop
  | t, _, [], t' => t' = t
  | t, n, p :: ps, t' => Whole n t p ∧ Told (t.drop (room p.length)) (n + 1) ps t'
theorem Told.snoc {p : List UInt8} : ∀ {ps : List (List UInt8)} {t t' : List UInt8} {n : Int}, Told t n ps t' → Whole (n + ps.length) t' p → Told t n (ps ++ [p]) (t'.drop (room p.length))
  | [], t, t', n, h, hw => by
    have e : t' = t := h
    subst e
    simp only [List.length_nil, Int.natCast_zero, Int.add_zero] at hw
    exact ⟨hw, rfl⟩
  | q :: ps, t, t', n, h, hw => by
    refine ⟨h.1, Told.snoc h.2 ?_⟩
    rw [List.length_cons] at hw
    rw [show n + 1 + (ps.length : Int) = n + ((ps.length + 1 : Nat) : Int) by omega]
    exact hw
theorem Told.unique : ∀ {ps qs : List (List UInt8)} {t t' t'' : List UInt8} {n : Int}, Told t n ps t' → wholeT t' (n + ps.length) = none → Told t n qs t'' → wholeT t'' (n + qs.length) = none → ps = qs ∧ t' = t''
  | [], [], t, t', t'', n, h, _, k, _ => ⟨rfl, by have e1 : t' = t := h; have e2 : t'' = t := k; rw [e1, e2]⟩
  | [], q :: qs, t, t', t'', n, h, hn, k, _ => by
    have e1 : t' = t := h
    subst e1
    simp only [List.length_nil, Int.natCast_zero, Int.add_zero] at hn
    rw [wholeT_some.2 k.1] at hn
    cases hn
  | p :: ps, [], t, t', t'', n, h, _, k, kn => by
    have e1 : t'' = t := k
    subst e1
    simp only [List.length_nil, Int.natCast_zero, Int.add_zero] at kn
    rw [wholeT_some.2 h.1] at kn
    cases kn
  | p :: ps, q :: qs, t, t', t'', n, h, hn, k, kn => by
    obtain ⟨rfl, _⟩ := h.1.inj k.1
    rw [List.length_cons, show n + ((ps.length + 1 : Nat) : Int) = n + 1 + (ps.length : Int) by omega] at hn
    rw [List.length_cons, show n + ((qs.length + 1 : Nat) : Int) = n + 1 + (qs.length : Int) by omega] at kn
    obtain ⟨rfl, e⟩ := Told.unique h.2 hn k.2 kn
    exact ⟨rfl, e⟩
theorem Told.le : ∀ {ps qs : List (List UInt8)} {t t' t'' : List UInt8} {n : Int}, Told t n ps t' → wholeT t' (n + ps.length) = none → Told t n qs t'' → qs.length ≤ ps.length
  | _, [], _, _, _, _, _, _, _ => Nat.zero_le _
  | [], q :: qs, t, t', t'', n, h, hn, k => by
    have e1 : t' = t := h
    subst e1
    simp only [List.length_nil, Int.natCast_zero, Int.add_zero] at hn
    rw [wholeT_some.2 k.1] at hn
    cases hn
  | p :: ps, q :: qs, t, t', t'', n, h, hn, k => by
    obtain ⟨rfl, _⟩ := h.1.inj k.1
    rw [List.length_cons, show n + ((ps.length + 1 : Nat) : Int) = n + 1 + (ps.length : Int) by omega] at hn
    have := Told.le h.2 hn k.2
    rw [List.length_cons, List.length_cons]
    omega
theorem Told.suffix : ∀ {ps : List (List UInt8)} {t t' : List UInt8} {n : Int}, Told t n ps t' → t' = t.drop (t.length - t'.length) ∧ t'.length + 64 * ps.length ≤ t.length
  | [], t, t', n, h => by
    have e : t' = t := h
    subst e
    simp
  | p :: ps, t, t', n, h => by
    obtain ⟨h1, h2⟩ := Told.suffix h.2
    have h3 := h.1.len
    have h4 := room_ge p.length
    rw [List.length_drop] at h1 h2
    refine ⟨?_, by rw [List.length_cons]; omega⟩
    rw [List.drop_drop] at h1
    rw [show t.length - t'.length = room p.length + (t.length - room p.length - t'.length) by omega]
    exact h1
theorem Told.range : ∀ {ps : List (List UInt8)} {t t' : List UInt8} {n : Int}, Told t n ps t' → ps ≠ [] → 0 ≤ n ∧ n + ps.length ≤ 9223372036854775808
  | [], _, _, _, _, h => absurd rfl h
  | p :: ps, t, t', n, h, _ => by
    have h1 := h.1.1
    have h2 := h.1.2.1
    rw [List.length_cons]
    cases ps with
    | nil => simp only [List.length_nil]; omega
    | cons q qs =>
      have := Told.range h.2 (by simp)
      omega
def joinF : Nat → List (List UInt8) → List UInt8
  | _, [] => []
  | n, p :: ps => frameL n p ++ joinF (n + 1) ps
theorem joinF_snoc (p : List UInt8) : ∀ (ps : List (List UInt8)) (n : Nat), joinF n (ps ++ [p]) = joinF n ps ++ frameL (n + ps.length) p
  | [], n => by simp [joinF]
  | q :: ps, n => by
    simp only [List.cons_append, joinF, List.length_cons]
    rw [joinF_snoc p ps (n + 1), List.append_assoc, show n + 1 + ps.length = n + (ps.length + 1) by omega]
theorem joinF_append (qs : List (List UInt8)) : ∀ (ps : List (List UInt8)) (n : Nat), joinF n (ps ++ qs) = joinF n ps ++ joinF (n + ps.length) qs
  | [], n => by simp [joinF]
  | q :: ps, n => by
    simp only [List.cons_append, joinF, List.length_cons]
    rw [joinF_append qs ps (n + 1), List.append_assoc, show n + 1 + ps.length = n + (ps.length + 1) by omega]
theorem told_join (t' : List UInt8) : ∀ (ps : List (List UInt8)) (n : Nat), (∀ p ∈ ps, p.length ≤ 65536) → n + ps.length ≤ 9223372036854775808 → Told (joinF n ps ++ t') n ps t'
  | [], n, _, _ => rfl
  | p :: ps, n, hp, hn => by
    rw [List.length_cons] at hn
    refine ⟨⟨by omega, by omega, hp p (by simp), ?_⟩, ?_⟩
    · simp only [joinF, List.append_assoc, Int.toNat_natCast]
      exact List.prefix_append _ _
    · simp only [joinF, List.append_assoc]
      rw [List.drop_left' (frameL_length _ _)]
      exact told_join t' ps (n + 1) (fun q hq => hp q (by simp [hq])) (by omega)
/-- Less than a frame's bytes are no frame. -/
theorem cut_none (n : Nat) (p : List UInt8) (hp : p.length ≤ 65536) (hn : n < 9223372036854775808) (k : Nat) (hk : k < room p.length) : wholeT ((frameL n p).take k) n = none := by
  rw [wholeT_none]
  intro q hq
  have h1 : frameL n q <+: frameL n p := by
    have := hq.2.2.2.trans (List.take_prefix k (frameL n p))
    simpa using this
  obtain ⟨rfl, _⟩ := frame_inj h1 (List.prefix_rfl) (by have := hq.2.2.1; omega) (by omega) (by omega) (by omega)
  have := hq.len
  rw [List.length_take, frameL_length] at this
  omega
theorem none_empty (n : Int) : wholeT [] n = none := by
  rw [wholeT_none]
  intro q hq
  have := hq.len
  have := room_ge q.length
  simp only [List.length_nil] at *
  omega
theorem none_neg {n : Int} (h : n < 0) (t : List UInt8) : wholeT t n = none := by
  rw [wholeT_none]
  intro q hq
  have := hq.1
  omega
theorem none_big {n : Int} (h : 9223372036854775808 ≤ n) (t : List UInt8) : wholeT t n = none := by
  rw [wholeT_none]
  intro q hq
  have := hq.2.1
  omega
set_option maxRecDepth 100000 in
theorem sum_zero : sumL 0 [] ≠ 0 := by decide +kernel
theorem be_zeros : ∀ k, be (List.replicate k (0 : UInt8)) = 0
  | 0 => rfl
  | k + 1 => by rw [List.replicate_succ, be_cons, be_zeros k]; simp
theorem zeros_none (k : Nat) (n : Int) : wholeT (List.replicate k 0) n = none := by
  rw [wholeT_none]
  intro q hq
  obtain ⟨a1, a2, a3, _, a5⟩ := frame_head hq.2.2.2
  have hr := room_ge q.length
  rw [List.length_replicate] at a5
  have e : ∀ i j, i + j ≤ k → ((List.replicate k (0 : UInt8)).drop i).take j = List.replicate j 0 := fun i j hij => by
    rw [List.drop_replicate, List.take_replicate, Nat.min_eq_left (by omega)]
  have a1' : (List.replicate k (0 : UInt8)).take 4 = List.replicate 4 0 := by rw [List.take_replicate, Nat.min_eq_left (by omega)]
  rw [a1'] at a1
  rw [e 4 8 (by omega)] at a2
  rw [e 12 4 (by omega)] at a3
  have b1 := congrArg be a1
  have b2 := congrArg be a2
  have b3 := congrArg be a3
  rw [be_zeros, be_nb, Nat.mod_eq_of_lt (by have := hq.2.2.1; omega)] at b1
  rw [be_zeros, be_nb, Nat.mod_eq_of_lt (by have := hq.1; have := hq.2.1; omega)] at b2
  rw [be_zeros, be_nb, Nat.mod_eq_of_lt (sumL_lt _ _)] at b3
  have e1 : q = [] := List.length_eq_zero_iff.1 b1.symm
  rw [e1, ← b2] at b3
  exact sum_zero b3.symm
theorem other_none (m : Nat) (p : List UInt8) (hp : p.length ≤ 65536) (hm : m < 9223372036854775808) (n : Int) (hne : (m : Int) ≠ n) : wholeT (frameL m p) n = none := by
  rw [wholeT_none]
  intro q hq
  obtain ⟨_, e⟩ := frame_inj hq.2.2.2 (List.prefix_rfl) (by have := hq.2.2.1; omega) (by omega) (by have := hq.1; have := hq.2.1; omega) (by omega)
  have := hq.1
  omega
end Go.Proofs.YtlkimfmilccanaaGreat.Fr
