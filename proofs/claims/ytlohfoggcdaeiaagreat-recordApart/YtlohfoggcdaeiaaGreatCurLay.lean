import Derived.Test.YtlohfoggcdaeiaaGreatCurBase
import Derived.Laws.BitsLemmas
/-
  The width of each kind of number, out of the library's Len64.
-/
namespace Go.Proofs.YtlohfoggcdaeiaaGreat.Cu
set_option maxRecDepth 20000
open Go.RowKit
section
variable {P : Program}
theorem wpList_index_lit {ops : Array Oper} {rest : List Oper} {o : Oper} {a : Act} {w : World} {Q : Exit → Act → World → Prop} (hgd : o.guard = none) (t : TypeId) (s x : Operand) (ho : o.op = .index t s x) (r : Value)
    (hr : (Instr.index t (a.eval s) (a.eval x)).run P w = .ok r w) (h : wpList P ops Q rest (a.put o.dst r) w) : wpList P ops Q (o :: rest) a w := by
  refine wpList_plain hgd fun K hK => ?_
  unfold Oper.wp execOp
  simp only [ho, Sem.run_bind, Sem.run_pure, Result.andThen_ok, hr]
  exact hK _ _ h
end
set_option maxRecDepth 100000 in
set_option maxHeartbeats 1000000 in
theorem len64_8 (w : World) : Calls Tryz.prog 103 #[.int .u64 255] w fun e w' => e = .returned (.int .i64 8) ∧ w = w' := by
  go_enter Tryz.func103, Tryz.ntmps103
  go_wp2_with (refine wpList_index_lit rfl _ _ _ rfl (.int .u8 8) ?_ ?_; · kernel_rfl)
  go_ret
  exact ⟨rfl, rfl⟩
theorem width_8 (w : World) : Calls Tryz.prog 91 #[] w fun e w' => e = .returned (.int .i64 1) ∧ w = w' := by
  go_enter Tryz.func91, Tryz.ntmps91
  go_wp2_with fail
  refine (len64_8 _).mono ?_
  rintro e w1 ⟨rfl, rfl⟩
  go_wp2
  go_ret
  exact ⟨rfl, rfl⟩
set_option maxRecDepth 100000 in
set_option maxHeartbeats 1000000 in
theorem len64_16 (w : World) : Calls Tryz.prog 103 #[.int .u64 65535] w fun e w' => e = .returned (.int .i64 16) ∧ w = w' := by
  go_enter Tryz.func103, Tryz.ntmps103
  go_wp2_with (refine wpList_index_lit rfl _ _ _ rfl (.int .u8 8) ?_ ?_; · kernel_rfl)
  go_ret
  exact ⟨rfl, rfl⟩
theorem width_16 (w : World) : Calls Tryz.prog 97 #[] w fun e w' => e = .returned (.int .i64 2) ∧ w = w' := by
  go_enter Tryz.func97, Tryz.ntmps97
  go_wp2_with fail
  refine (len64_16 _).mono ?_
  rintro e w1 ⟨rfl, rfl⟩
  go_wp2
  go_ret
  exact ⟨rfl, rfl⟩
set_option maxRecDepth 100000 in
set_option maxHeartbeats 1000000 in
theorem len64_32 (w : World) : Calls Tryz.prog 103 #[.int .u64 4294967295] w fun e w' => e = .returned (.int .i64 32) ∧ w = w' := by
  go_enter Tryz.func103, Tryz.ntmps103
  go_wp2_with (refine wpList_index_lit rfl _ _ _ rfl (.int .u8 8) ?_ ?_; · kernel_rfl)
  go_ret
  exact ⟨rfl, rfl⟩
-- left out in this seat: width_32
set_option maxRecDepth 100000 in
set_option maxHeartbeats 1000000 in
theorem len64_64 (w : World) : Calls Tryz.prog 103 #[.int .u64 18446744073709551615] w fun e w' => e = .returned (.int .i64 64) ∧ w = w' := by
  go_enter Tryz.func103, Tryz.ntmps103
  go_wp2_with (refine wpList_index_lit rfl _ _ _ rfl (.int .u8 8) ?_ ?_; · kernel_rfl)
  go_ret
  exact ⟨rfl, rfl⟩
theorem width_64 (w : World) : Calls Tryz.prog 95 #[] w fun e w' => e = .returned (.int .i64 8) ∧ w = w' := by
  go_enter Tryz.func95, Tryz.ntmps95
  go_wp2_with fail
  refine (len64_64 _).mono ?_
  rintro e w1 ⟨rfl, rfl⟩
  go_wp2
  go_ret
  exact ⟨rfl, rfl⟩
end Go.Proofs.YtlohfoggcdaeiaaGreat.Cu
/-
  Numbers as bytes, the highest first.
-/
namespace Go.Proofs.YtlohfoggcdaeiaaGreat.Cu
set_option maxRecDepth 20000
open Go.RowKit
def digit (x n j : Nat) : UInt8 := UInt8.ofNat (x / 2 ^ (8 * (n - 1 - j)))
/-- The last n bytes of x. -/
def nb (x n : Nat) : List UInt8 := (List.range n).map (digit x n)
/-- What bytes are. -/
def be (l : List UInt8) : Nat := l.foldl (fun a c => a * 256 + c.toNat) 0
theorem range_snoc {α : Type} (f : Nat → α) (k : Nat) : (List.range k).map f ++ [f k] = (List.range (k + 1)).map f := by rw [List.range_succ, List.map_append]; rfl
theorem nb_length (x n : Nat) : (nb x n).length = n := by simp [nb]
theorem be_snoc (l : List UInt8) (c : UInt8) : be (l ++ [c]) = be l * 256 + c.toNat := by simp [be]
theorem be_nil : be [] = 0 := rfl
theorem be_fold (l : List UInt8) : ∀ a : Nat, l.foldl (fun a c => a * 256 + c.toNat) a = a * 256 ^ l.length + be l := by
  induction l with
  | nil => intro a; simp [be]
  | cons c l ih =>
    intro a
    unfold be
    rw [List.foldl_cons, List.foldl_cons, ih, ih (0 * 256 + c.toNat), List.length_cons, Nat.pow_succ, Nat.add_mul, Nat.zero_mul, Nat.zero_add, Nat.mul_assoc, Nat.mul_comm 256]
    omega
theorem be_cons (c : UInt8) (l : List UInt8) : be (c :: l) = c.toNat * 256 ^ l.length + be l := by
  have := be_fold l (0 * 256 + c.toNat)
  unfold be at this ⊢
  rw [List.foldl_cons, this, Nat.zero_mul, Nat.zero_add]
theorem be_append (l m : List UInt8) : be (l ++ m) = be l * 256 ^ m.length + be m := by
  unfold be
  rw [List.foldl_append]
  exact be_fold m _
theorem be_lt (l : List UInt8) : be l < 256 ^ l.length := by
  induction l with
  | nil => simp [be]
  | cons c l ih =>
    rw [be_cons, List.length_cons, Nat.pow_succ]
    have := c.toNat_lt
    have h2 : c.toNat * 256 ^ l.length ≤ 255 * 256 ^ l.length := Nat.mul_le_mul_right _ (by omega)
    omega
theorem pow8 (b : Nat) : 2 ^ (8 * b) = 256 ^ b := by rw [Nat.pow_mul]
theorem nb_succ (x n : Nat) : nb x (n + 1) = nb (x / 256) n ++ [UInt8.ofNat x] := by
  unfold nb
  rw [List.range_succ, List.map_append]
  congr 1
  · apply List.map_congr_left
    intro j hj
    have hj' : j < n := List.mem_range.1 hj
    unfold digit
    congr 1
    rw [Nat.div_div_eq_div_mul]
    congr 1
    rw [show n + 1 - 1 - j = (n - 1 - j) + 1 by omega, Nat.mul_add, Nat.pow_add]
    omega
  · simp [digit]
theorem nb_zero (x : Nat) : nb x 0 = [] := rfl
theorem toNat_ofNat8 (x : Nat) : (UInt8.ofNat x).toNat = x % 256 := by simp
theorem nb_mod (x n : Nat) : ∀ y, x % 256 ^ n = y % 256 ^ n → nb x n = nb y n := by
  induction n generalizing x with
  | zero => intro y _; rfl
  | succ n ih =>
    intro y h
    rw [nb_succ, nb_succ]
    have h1 : x / 256 % 256 ^ n = y / 256 % 256 ^ n := by
      rw [Nat.pow_succ, Nat.mul_comm] at h
      have e1 : x % (256 * 256 ^ n) / 256 = x / 256 % 256 ^ n := Nat.mod_mul_right_div_self x 256 (256 ^ n)
      have e2 : y % (256 * 256 ^ n) / 256 = y / 256 % 256 ^ n := Nat.mod_mul_right_div_self y 256 (256 ^ n)
      rw [← e1, ← e2, h]
    have h2 : x % 256 = y % 256 := by
      rw [Nat.pow_succ] at h
      have := congrArg (· % 256) h
      simp only [Nat.mod_mul_left_mod] at this
      exact this
    rw [ih (x / 256) (y / 256) h1]
    have h3 : UInt8.ofNat x = UInt8.ofNat y := by
      apply UInt8.toNat_inj.1
      rw [toNat_ofNat8, toNat_ofNat8, h2]
    rw [h3]
theorem be_nb (x n : Nat) : be (nb x n) = x % 256 ^ n := by
  induction n generalizing x with
  | zero => rw [nb_zero, be_nil, Nat.pow_zero]; omega
  | succ n ih =>
    rw [nb_succ, be_snoc, ih, toNat_ofNat8, Nat.pow_succ, Nat.mul_comm (256 ^ n) 256, Nat.mod_mul]
    omega
theorem nb_add (x a b : Nat) : nb x (a + b) = nb (x / 256 ^ b) a ++ nb x b := by
  induction b generalizing x with
  | zero => simp [nb_zero]
  | succ b ih =>
    rw [← Nat.add_assoc, nb_succ, ih, nb_succ x b, Nat.pow_succ, Nat.mul_comm (256 ^ b) 256, ← Nat.div_div_eq_div_mul, List.append_assoc]
section
variable {P : Program} {ops : Array Oper} {rest : List Oper} {o : Oper} {a : Act} {w : World} {Q : Exit → Act → World → Prop}
theorem wpList_shr (hgd : o.guard = none) (t : TypeId) (x y : Operand) (u : TypeId) (ho : o.op = .binOp .shr t x y u) (k yk : IntKind) (X Y Z : Int) (hx : a.eval x = .int k X) (hy : a.eval y = .int yk Y) (m : Nat) (hY : Y = (m : Int)) (hm : m ≤ k.bits) (hZ : X / (2 : Int) ^ m = Z)
    (h : wpList P ops Q rest (a.put o.dst (.int k Z)) w) : wpList P ops Q (o :: rest) a w := by
  refine wpList_plain hgd fun K hK => ?_
  have hs : Op.shift .shr k X yk Y = pure (.int k Z) := by
    rw [shift_shr_any k yk X Y (by omega), hY, Int.toNat_natCast, Nat.min_eq_left hm, hZ]
  unfold Oper.wp execOp
  simp only [ho, hx, hy, eqGuard_shr, binOp_shr, hs, Sem.run_bind, Sem.run_pure, Result.andThen_ok]
  exact hK _ _ h
theorem wpList_shl (hgd : o.guard = none) (t : TypeId) (x y : Operand) (u : TypeId) (ho : o.op = .binOp .shl t x y u) (k yk : IntKind) (X Y Z : Int) (hx : a.eval x = .int k X) (hy : a.eval y = .int yk Y) (m : Nat) (hY : Y = (m : Int)) (hm : m ≤ k.bits) (hZ : k.wrap (X * (2 : Int) ^ m) = Z)
    (h : wpList P ops Q rest (a.put o.dst (.int k Z)) w) : wpList P ops Q (o :: rest) a w := by
  refine wpList_plain hgd fun K hK => ?_
  have hs : Op.shift .shl k X yk Y = pure (.int k Z) := by
    rw [shift_shl_any k yk X Y (by omega), hY, Int.toNat_natCast, Nat.min_eq_left hm, hZ]
  unfold Oper.wp execOp
  simp only [ho, hx, hy, eqGuard_shl, binOp_shl, hs, Sem.run_bind, Sem.run_pure, Result.andThen_ok]
  exact hK _ _ h
theorem wpList_or (hgd : o.guard = none) (t : TypeId) (x y : Operand) (u : TypeId) (ho : o.op = .binOp .or t x y u) (k : IntKind) (X Y Z : Int) (hx : a.eval x = .int k X) (hy : a.eval y = .int k Y) (hZ : bits .or k X Y = Z)
    (h : wpList P ops Q rest (a.put o.dst (.int k Z)) w) : wpList P ops Q (o :: rest) a w := by
  refine wpList_plain hgd fun K hK => ?_
  unfold Oper.wp execOp
  simp only [ho, hx, hy, eqGuard_or, binOp_or, intBits_or, hZ, Sem.run_bind, Sem.run_pure, Result.andThen_ok]
  exact hK _ _ h
theorem wpList_conv (hgd : o.guard = none) (s d : TypeId) (x : Operand) (ho : o.op = .convert s d x) (k kd : IntKind) (X Z : Int) (hx : a.eval x = .int k X) (hr : (convert s d (.int k X)).run P w = .ok (.int kd Z) w)
    (h : wpList P ops Q rest (a.put o.dst (.int kd Z)) w) : wpList P ops Q (o :: rest) a w := by
  refine wpList_plain hgd fun K hK => ?_
  unfold Oper.wp execOp
  simp only [ho, hx, hr, Sem.run_bind, Sem.run_pure, Result.andThen_ok]
  exact hK _ _ h
end
end Go.Proofs.YtlohfoggcdaeiaaGreat.Cu
/-
  lay: a number's bytes behind others, of each kind.
-/
namespace Go.Proofs.YtlohfoggcdaeiaaGreat.Cu
set_option maxRecDepth 20000
open Go.RowKit
theorem wrap8_digit (x n j m : Nat) (hm : 8 * (n - 1 - j) = m) : IntKind.u8.wrap ((x : Int) / (2 : Int) ^ m) = ((digit x n j).toNat : Int) := by
  unfold digit
  rw [hm, toNat_ofNat8]
  have e : (x : Int) / (2 : Int) ^ m = ((x / 2 ^ m : Nat) : Int) := by simp
  rw [e]
  simp [IntKind.wrap, IntKind.bits, IntKind.signed]
theorem conv_u8 (t : TypeId) (k : IntKind) (Z : Int) (ht : (Tryz.prog.underlying t).isSome = true) (w : World) : (convert t 5 (.int k Z)).run Tryz.prog w = .ok (.int .u8 (IntKind.u8.wrap Z)) w := by
  have h := run_convert_int (P := Tryz.prog) (w := w) t 5 k Z ht (by kernel_rfl)
  rw [show Tryz.prog.intKind 5 = .u8 by kernel_rfl] at h
  exact h
set_option maxHeartbeats 1000000 in
theorem lay_8 (X : Int) (x : Nat) (hx : x < 256) (hX : X = (x : Int)) (v : Value) (l : List UInt8) (B : Nat) (w : World) (hB : Bytes w B v l) (hs : B ≤ w.heap.size) (hl : l.length + 1 ≤ 140737488355328) :
    Calls Tryz.prog 79 #[v, .int .u8 X] w fun e w' => ∃ v', e = .returned v' ∧ Bytes w' B v' (l ++ nb x 1) ∧ Mv w v w' v' := by
  have HL := hide hl
  have HX := hide hX
  clear hl hX
  go_enter Tryz.func79, Tryz.ntmps79
  go_wp2_with fail
  refine (width_8 _).mono ?_
  rintro e w1 ⟨rfl, rfl⟩
  go_wp2
  go_loopw [0, 5] (fun b i wr => ∃ k : Nat, k ≤ 1 ∧ i = .int .i64 ((k : Int) - 1) ∧ Bytes wr B b (l ++ (List.range (1 - k)).map (digit x 1)) ∧ Mv w v wr b) (fun _ i _ => (intOf i + 1).toNat)
  case atStart => exact ⟨1, by omega, rfl, by rw [Nat.sub_self, List.range_zero, List.map_nil, List.append_nil]; exact hB, Mv.refl _ _⟩
  case round =>
    clear hB
    obtain ⟨k, hk, rfl, hB, hM⟩ := hrel
    have hs' : B ≤ wr.heap.size := Nat.le_trans hs hM.gr.size
    by_cases hlt : 0 < k
    · have h1 : (0 : Int) ≤ (k : Int) - 1 := by omega
      have hd : decide ((k : Int) - 1 ≥ 0) = true := by simp; omega
      obtain ⟨Z, hZ⟩ : ∃ Z : Int, ((digit x 1 (1 - k)).toNat : Int) = Z := ⟨_, rfl⟩
      have HZ : Hid (X / (2 : Int) ^ (8 * (k - 1)) = Z) := by
        show _ = _
        rw [← hZ, HX.out]
        unfold digit
        rw [toNat_ofNat8, show 1 - 1 - (1 - k) = 0 by omega, show k - 1 = 0 by omega]
        simp
        omega
      have HD := hide hZ.symm
      clear hZ
      have hll := HL.out
      obtain ⟨L, hL⟩ : ∃ L, l ++ (List.range (1 - k)).map (digit x 1) = L := ⟨_, rfl⟩
      have HLL : Hid (L.length + 1 ≤ 140737488355328) := by
        show _ ≤ _
        rw [← hL, List.length_append, List.length_map, List.length_range]; omega
      rw [hL] at hB
      have HE := hide hL
      clear hll hL
      go_wp2_with (first | (refine wpList_shr rfl _ _ _ _ rfl .u8 .i64 X _ Z (by rfl) (by rfl) (8 * (k - 1)) (by omega) (by show _ ≤ 8; omega) HZ.out ?_) | (at_builtin; refine wpList_append_byte rfl _ _ rfl B _ L (digit x 1 (1 - k)) Z HD.out (by rfl) hB (by rfl) rfl HLL.out hs' ?_; intro g cap w5 hB5 hM5))
      go_roundw
      case rel =>
        refine ⟨k - 1, by omega, by congr 1; omega, ?_, hM.trans hM5⟩
        rw [← HE.out, List.append_assoc, range_snoc, show 1 - k + 1 = 1 - (k - 1) by omega] at hB5
        rw [HE.out] at hB5
        exact hB5
      case measure => simp [intOf]; omega
    · have hk0 : k = 0 := by omega
      subst hk0
      go_wp2
      go_ret
      exact ⟨_, rfl, hB, hM⟩
set_option maxHeartbeats 1000000 in
theorem lay_16 (X : Int) (x : Nat) (hX : X = (x : Int)) (v : Value) (l : List UInt8) (B : Nat) (w : World) (hB : Bytes w B v l) (hs : B ≤ w.heap.size) (hl : l.length + 2 ≤ 140737488355328) :
    Calls Tryz.prog 151 #[v, .int .u16 X] w fun e w' => ∃ v', e = .returned v' ∧ Bytes w' B v' (l ++ nb x 2) ∧ Mv w v w' v' := by
  have HL := hide hl
  have HX := hide hX
  clear hl hX
  go_enter Tryz.func151, Tryz.ntmps151
  go_wp2_with fail
  refine (width_16 _).mono ?_
  rintro e w1 ⟨rfl, rfl⟩
  go_wp2
  go_loopw [0, 5] (fun b i wr => ∃ k : Nat, k ≤ 2 ∧ i = .int .i64 ((k : Int) - 1) ∧ Bytes wr B b (l ++ (List.range (2 - k)).map (digit x 2)) ∧ Mv w v wr b) (fun _ i _ => (intOf i + 1).toNat)
  case atStart => exact ⟨2, by omega, rfl, by rw [Nat.sub_self, List.range_zero, List.map_nil, List.append_nil]; exact hB, Mv.refl _ _⟩
  case round =>
    clear hB
    obtain ⟨k, hk, rfl, hB, hM⟩ := hrel
    have hs' : B ≤ wr.heap.size := Nat.le_trans hs hM.gr.size
    by_cases hlt : 0 < k
    · have h1 : (0 : Int) ≤ (k : Int) - 1 := by omega
      have hd : decide ((k : Int) - 1 ≥ 0) = true := by simp; omega
      obtain ⟨Z, hZ⟩ : ∃ Z : Int, X / (2 : Int) ^ (8 * (k - 1)) = Z := ⟨_, rfl⟩
      have hc : ∀ w : World, (convert 115 5 (.int .u16 Z)).run Tryz.prog w = .ok (.int .u8 ((digit x 2 (2 - k)).toNat : Int)) w := fun w => by
        rw [← wrap8_digit x 2 (2 - k) (8 * (k - 1)) (by omega), ← HX.out, hZ]
        exact conv_u8 115 .u16 Z (by kernel_rfl) w
      have HZ := hide hZ
      have HC := hide hc
      clear hZ hc
      have hll := HL.out
      obtain ⟨L, hL⟩ : ∃ L, l ++ (List.range (2 - k)).map (digit x 2) = L := ⟨_, rfl⟩
      have HLL : Hid (L.length + 1 ≤ 140737488355328) := by
        show _ ≤ _
        rw [← hL, List.length_append, List.length_map, List.length_range]; omega
      rw [hL] at hB
      have HE := hide hL
      clear hll hL
      go_wp2_with (first | (refine wpList_shr rfl _ _ _ _ rfl .u16 .i64 X _ Z (by rfl) (by rfl) (8 * (k - 1)) (by omega) (by show _ ≤ 16; omega) HZ.out ?_) | (refine wpList_conv rfl _ _ _ rfl .u16 .u8 Z _ (by rfl) (HC.out _) ?_) | (at_builtin; refine wpList_append_byte rfl _ _ rfl B _ L (digit x 2 (2 - k)) _ rfl (by rfl) hB (by rfl) rfl HLL.out hs' ?_; intro g cap w5 hB5 hM5))
      go_roundw
      case rel =>
        refine ⟨k - 1, by omega, by congr 1; omega, ?_, hM.trans hM5⟩
        rw [← HE.out, List.append_assoc, range_snoc, show 2 - k + 1 = 2 - (k - 1) by omega] at hB5
        rw [HE.out] at hB5
        exact hB5
      case measure => simp [intOf]; omega
    · have hk0 : k = 0 := by omega
      subst hk0
      go_wp2
      go_ret
      exact ⟨_, rfl, hB, hM⟩
-- left out in this seat: lay_32
set_option maxHeartbeats 1000000 in
theorem lay_64 (X : Int) (x : Nat) (hX : X = (x : Int)) (v : Value) (l : List UInt8) (B : Nat) (w : World) (hB : Bytes w B v l) (hs : B ≤ w.heap.size) (hl : l.length + 8 ≤ 140737488355328) :
    Calls Tryz.prog 149 #[v, .int .u64 X] w fun e w' => ∃ v', e = .returned v' ∧ Bytes w' B v' (l ++ nb x 8) ∧ Mv w v w' v' := by
  have HL := hide hl
  have HX := hide hX
  clear hl hX
  go_enter Tryz.func149, Tryz.ntmps149
  go_wp2_with fail
  refine (width_64 _).mono ?_
  rintro e w1 ⟨rfl, rfl⟩
  go_wp2
  go_loopw [0, 5] (fun b i wr => ∃ k : Nat, k ≤ 8 ∧ i = .int .i64 ((k : Int) - 1) ∧ Bytes wr B b (l ++ (List.range (8 - k)).map (digit x 8)) ∧ Mv w v wr b) (fun _ i _ => (intOf i + 1).toNat)
  case atStart => exact ⟨8, by omega, rfl, by rw [Nat.sub_self, List.range_zero, List.map_nil, List.append_nil]; exact hB, Mv.refl _ _⟩
  case round =>
    clear hB
    obtain ⟨k, hk, rfl, hB, hM⟩ := hrel
    have hs' : B ≤ wr.heap.size := Nat.le_trans hs hM.gr.size
    by_cases hlt : 0 < k
    · have h1 : (0 : Int) ≤ (k : Int) - 1 := by omega
      have hd : decide ((k : Int) - 1 ≥ 0) = true := by simp; omega
      obtain ⟨Z, hZ⟩ : ∃ Z : Int, X / (2 : Int) ^ (8 * (k - 1)) = Z := ⟨_, rfl⟩
      have hc : ∀ w : World, (convert 79 5 (.int .u64 Z)).run Tryz.prog w = .ok (.int .u8 ((digit x 8 (8 - k)).toNat : Int)) w := fun w => by
        rw [← wrap8_digit x 8 (8 - k) (8 * (k - 1)) (by omega), ← HX.out, hZ]
        exact conv_u8 79 .u64 Z (by kernel_rfl) w
      have HZ := hide hZ
      have HC := hide hc
      clear hZ hc
      have hll := HL.out
      obtain ⟨L, hL⟩ : ∃ L, l ++ (List.range (8 - k)).map (digit x 8) = L := ⟨_, rfl⟩
      have HLL : Hid (L.length + 1 ≤ 140737488355328) := by
        show _ ≤ _
        rw [← hL, List.length_append, List.length_map, List.length_range]; omega
      rw [hL] at hB
      have HE := hide hL
      clear hll hL
      go_wp2_with (first | (refine wpList_shr rfl _ _ _ _ rfl .u64 .i64 X _ Z (by rfl) (by rfl) (8 * (k - 1)) (by omega) (by show _ ≤ 64; omega) HZ.out ?_) | (refine wpList_conv rfl _ _ _ rfl .u64 .u8 Z _ (by rfl) (HC.out _) ?_) | (at_builtin; refine wpList_append_byte rfl _ _ rfl B _ L (digit x 8 (8 - k)) _ rfl (by rfl) hB (by rfl) rfl HLL.out hs' ?_; intro g cap w5 hB5 hM5))
      go_roundw
      case rel =>
        refine ⟨k - 1, by omega, by congr 1; omega, ?_, hM.trans hM5⟩
        rw [← HE.out, List.append_assoc, range_snoc, show 8 - k + 1 = 8 - (k - 1) by omega] at hB5
        rw [HE.out] at hB5
        exact hB5
      case measure => simp [intOf]; omega
    · have hk0 : k = 0 := by omega
      subst hk0
      go_wp2
      go_ret
      exact ⟨_, rfl, hB, hM⟩
end Go.Proofs.YtlohfoggcdaeiaaGreat.Cu
