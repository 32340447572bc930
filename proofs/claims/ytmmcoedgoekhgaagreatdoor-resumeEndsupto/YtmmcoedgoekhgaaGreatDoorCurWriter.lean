import Derived.Test.YtmmcoedgoekhgaaGreatDoorCurBase
import Derived.Laws.BitsLemmas
/-
  The width of each kind of number, out of the library's Len64.
-/
namespace Go.Proofs.YtmmcoedgoekhgaaGreatDoor.Cu
set_option maxRecDepth 20000
open Go.RowKit
section
variable {P : Program}
theorem wpList_index_lit {ops : Array Oper} {rest : List Oper} {o : Oper} {a : Act} {w : World} {Q : Exit → Act → World → Prop} (hgd : o.guard = none) (t : TypeId) (s x : Operand) (ho : o.op = .index t s x) (r : Value)
    (hr : (Instr.index t (a.eval s) (a.eval x)).run P w = .ok r w) (h : wpList P ops Q rest (a.put o.dst r) w) : wpList P ops Q (o :: rest) a w := by
  refine wpList_plain hgd fun K hK => ?_
  unfold Oper.wp execOp
  simp only [ho, Sem.run_bind, Sem.run_pure, Result.andThen_ok, hr]
  exact hK _ _ h
end
set_option maxRecDepth 100000 in
set_option maxHeartbeats 1000000 in
theorem len64_8 (w : World) : Calls Tryz.prog 222 #[.int .u64 255] w fun e w' => e = .returned (.int .i64 8) ∧ w = w' := by
  go_enter Tryz.func222, Tryz.ntmps222
  go_wp2_with (refine wpList_index_lit rfl _ _ _ rfl (.int .u8 8) ?_ ?_; · kernel_rfl)
  go_ret
  exact ⟨rfl, rfl⟩
theorem width_8 (w : World) : Calls Tryz.prog 217 #[] w fun e w' => e = .returned (.int .i64 1) ∧ w = w' := by
  go_enter Tryz.func217, Tryz.ntmps217
  go_wp2_with fail
  refine (len64_8 _).mono ?_
  rintro e w1 ⟨rfl, rfl⟩
  go_wp2
  go_ret
  exact ⟨rfl, rfl⟩
set_option maxRecDepth 100000 in
set_option maxHeartbeats 1000000 in
theorem len64_16 (w : World) : Calls Tryz.prog 222 #[.int .u64 65535] w fun e w' => e = .returned (.int .i64 16) ∧ w = w' := by
  go_enter Tryz.func222, Tryz.ntmps222
  go_wp2_with (refine wpList_index_lit rfl _ _ _ rfl (.int .u8 8) ?_ ?_; · kernel_rfl)
  go_ret
  exact ⟨rfl, rfl⟩
theorem width_16 (w : World) : Calls Tryz.prog 219 #[] w fun e w' => e = .returned (.int .i64 2) ∧ w = w' := by
  go_enter Tryz.func219, Tryz.ntmps219
  go_wp2_with fail
  refine (len64_16 _).mono ?_
  rintro e w1 ⟨rfl, rfl⟩
  go_wp2
  go_ret
  exact ⟨rfl, rfl⟩
set_option maxRecDepth 100000 in
set_option maxHeartbeats 1000000 in
theorem len64_64 (w : World) : Calls Tryz.prog 222 #[.int .u64 18446744073709551615] w fun e w' => e = .returned (.int .i64 64) ∧ w = w' := by
  go_enter Tryz.func222, Tryz.ntmps222
  go_wp2_with (refine wpList_index_lit rfl _ _ _ rfl (.int .u8 8) ?_ ?_; · kernel_rfl)
  go_ret
  exact ⟨rfl, rfl⟩
theorem width_64 (w : World) : Calls Tryz.prog 218 #[] w fun e w' => e = .returned (.int .i64 8) ∧ w = w' := by
  go_enter Tryz.func218, Tryz.ntmps218
  go_wp2_with fail
  refine (len64_64 _).mono ?_
  rintro e w1 ⟨rfl, rfl⟩
  go_wp2
  go_ret
  exact ⟨rfl, rfl⟩
end Go.Proofs.YtmmcoedgoekhgaaGreatDoor.Cu
/-
  Numbers as bytes, the highest first.
-/
namespace Go.Proofs.YtmmcoedgoekhgaaGreatDoor.Cu
set_option maxRecDepth 20000
open Go.RowKit
def digit (x n j : Nat) : UInt8 := UInt8.ofNat (x / 2 ^ (8 * (n - 1 - j)))
/-- The last n bytes of x. -/
def nb (x n : Nat) : List UInt8 := (List.range n).map (digit x n)
/-- What bytes are. -/
def be (l : List UInt8) : Nat := l.foldl (fun a c => a * 256 + c.toNat) 0
theorem range_snoc {α : Type} (f : Nat → α) (k : Nat) : (List.range k).map f ++ [f k] = (List.range (k + 1)).map f := by rw [List.range_succ, List.map_append]; rfl
theorem nb_length (x n : Nat) : (nb x n).length = n := by simp [nb]
theorem toNat_ofNat8 (x : Nat) : (UInt8.ofNat x).toNat = x % 256 := by simp
section
variable {P : Program} {ops : Array Oper} {rest : List Oper} {o : Oper} {a : Act} {w : World} {Q : Exit → Act → World → Prop}
theorem wpList_shr (hgd : o.guard = none) (t : TypeId) (x y : Operand) (u : TypeId) (ho : o.op = .binOp .shr t x y u) (k yk : IntKind) (X Y Z : Int) (hx : a.eval x = .int k X) (hy : a.eval y = .int yk Y) (m : Nat) (hY : Y = (m : Int)) (hm : m ≤ k.bits) (hZ : X / (2 : Int) ^ m = Z)
    (h : wpList P ops Q rest (a.put o.dst (.int k Z)) w) : wpList P ops Q (o :: rest) a w := by
  refine wpList_plain hgd fun K hK => ?_
  have hs : Op.shift .shr k X yk Y = pure (.int k Z) := by
    rw [shift_shr_any k yk X Y (by omega), hY, Int.toNat_natCast, Nat.min_eq_left hm, hZ]
  unfold Oper.wp execOp
  simp only [ho, hx, hy, eqGuard_shr, binOp_shr, hs, Sem.run_bind, Sem.run_pure, Result.andThen_ok]
  exact hK _ _ h
theorem wpList_conv (hgd : o.guard = none) (s d : TypeId) (x : Operand) (ho : o.op = .convert s d x) (k kd : IntKind) (X Z : Int) (hx : a.eval x = .int k X) (hr : (convert s d (.int k X)).run P w = .ok (.int kd Z) w)
    (h : wpList P ops Q rest (a.put o.dst (.int kd Z)) w) : wpList P ops Q (o :: rest) a w := by
  refine wpList_plain hgd fun K hK => ?_
  unfold Oper.wp execOp
  simp only [ho, hx, hr, Sem.run_bind, Sem.run_pure, Result.andThen_ok]
  exact hK _ _ h
end
end Go.Proofs.YtmmcoedgoekhgaaGreatDoor.Cu
/-
  lay: a number's bytes behind others, of each kind.
-/
namespace Go.Proofs.YtmmcoedgoekhgaaGreatDoor.Cu
set_option maxRecDepth 20000
open Go.RowKit
theorem wrap8_digit (x n j m : Nat) (hm : 8 * (n - 1 - j) = m) : IntKind.u8.wrap ((x : Int) / (2 : Int) ^ m) = ((digit x n j).toNat : Int) := by
  unfold digit
  rw [hm, toNat_ofNat8]
  have e : (x : Int) / (2 : Int) ^ m = ((x / 2 ^ m : Nat) : Int) := by simp
  rw [e]
  simp [IntKind.wrap, IntKind.bits, IntKind.signed]
theorem conv_u8 (t : TypeId) (k : IntKind) (Z : Int) (ht : (Tryz.prog.underlying t).isSome = true) (w : World) : (convert t 5 (.int k Z)).run Tryz.prog w = .ok (.int .u8 (IntKind.u8.wrap Z)) w := by
  have h := run_convert_int (P := Tryz.prog) (w := w) t 5 k Z ht (by kernel_rfl)
  rw [show Tryz.prog.intKind 5 = .u8 by kernel_rfl] at h
  exact h
set_option maxHeartbeats 1000000 in
theorem lay_8 (X : Int) (x : Nat) (hx : x < 256) (hX : X = (x : Int)) (v : Value) (l : List UInt8) (B : Nat) (w : World) (hB : Bytes w B v l) (hs : B ≤ w.heap.size) (hl : l.length + 1 ≤ 140737488355328) :
    Calls Tryz.prog 210 #[v, .int .u8 X] w fun e w' => ∃ v', e = .returned v' ∧ Bytes w' B v' (l ++ nb x 1) ∧ Mv w v w' v' := by
  have HL := hide hl
  have HX := hide hX
  clear hl hX
  go_enter Tryz.func210, Tryz.ntmps210
  go_wp2_with fail
  refine (width_8 _).mono ?_
  rintro e w1 ⟨rfl, rfl⟩
  go_wp2
  go_loopw [0, 5] (fun b i wr => ∃ k : Nat, k ≤ 1 ∧ i = .int .i64 ((k : Int) - 1) ∧ Bytes wr B b (l ++ (List.range (1 - k)).map (digit x 1)) ∧ Mv w v wr b) (fun _ i _ => (intOf i + 1).toNat)
  case atStart => exact ⟨1, by omega, rfl, by rw [Nat.sub_self, List.range_zero, List.map_nil, List.append_nil]; exact hB, Mv.refl _ _⟩
  case round =>
    clear hB
    obtain ⟨k, hk, rfl, hB, hM⟩ := hrel
    have hs' : B ≤ wr.heap.size := Nat.le_trans hs hM.gr.size
    by_cases hlt : 0 < k
    · have h1 : (0 : Int) ≤ (k : Int) - 1 := by omega
      have hd : decide ((k : Int) - 1 ≥ 0) = true := by simp; omega
      obtain ⟨Z, hZ⟩ : ∃ Z : Int, ((digit x 1 (1 - k)).toNat : Int) = Z := ⟨_, rfl⟩
      have HZ : Hid (X / (2 : Int) ^ (8 * (k - 1)) = Z) := by
        show _ = _
        rw [← hZ, HX.out]
        unfold digit
        rw [toNat_ofNat8, show 1 - 1 - (1 - k) = 0 by omega, show k - 1 = 0 by omega]
        simp
        omega
      have HD := hide hZ.symm
      clear hZ
      have hll := HL.out
      obtain ⟨L, hL⟩ : ∃ L, l ++ (List.range (1 - k)).map (digit x 1) = L := ⟨_, rfl⟩
      have HLL : Hid (L.length + 1 ≤ 140737488355328) := by
        show _ ≤ _
        rw [← hL, List.length_append, List.length_map, List.length_range]; omega
      rw [hL] at hB
      have HE := hide hL
      clear hll hL
      go_wp2_with (first | (refine wpList_shr rfl _ _ _ _ rfl .u8 .i64 X _ Z (by rfl) (by rfl) (8 * (k - 1)) (by omega) (by show _ ≤ 8; omega) HZ.out ?_) | (at_builtin; refine wpList_append_byte rfl _ _ rfl B _ L (digit x 1 (1 - k)) Z HD.out (by rfl) hB (by rfl) rfl HLL.out hs' ?_; intro g cap w5 hB5 hM5))
      go_roundw
      case rel =>
        refine ⟨k - 1, by omega, by congr 1; omega, ?_, hM.trans hM5⟩
        rw [← HE.out, List.append_assoc, range_snoc, show 1 - k + 1 = 1 - (k - 1) by omega] at hB5
        rw [HE.out] at hB5
        exact hB5
      case measure => simp [intOf]; omega
    · have hk0 : k = 0 := by omega
      subst hk0
      go_wp2
      go_ret
      exact ⟨_, rfl, hB, hM⟩
set_option maxHeartbeats 1000000 in
theorem lay_16 (X : Int) (x : Nat) (hX : X = (x : Int)) (v : Value) (l : List UInt8) (B : Nat) (w : World) (hB : Bytes w B v l) (hs : B ≤ w.heap.size) (hl : l.length + 2 ≤ 140737488355328) :
    Calls Tryz.prog 212 #[v, .int .u16 X] w fun e w' => ∃ v', e = .returned v' ∧ Bytes w' B v' (l ++ nb x 2) ∧ Mv w v w' v' := by
  have HL := hide hl
  have HX := hide hX
  clear hl hX
  go_enter Tryz.func212, Tryz.ntmps212
  go_wp2_with fail
  refine (width_16 _).mono ?_
  rintro e w1 ⟨rfl, rfl⟩
  go_wp2
  go_loopw [0, 5] (fun b i wr => ∃ k : Nat, k ≤ 2 ∧ i = .int .i64 ((k : Int) - 1) ∧ Bytes wr B b (l ++ (List.range (2 - k)).map (digit x 2)) ∧ Mv w v wr b) (fun _ i _ => (intOf i + 1).toNat)
  case atStart => exact ⟨2, by omega, rfl, by rw [Nat.sub_self, List.range_zero, List.map_nil, List.append_nil]; exact hB, Mv.refl _ _⟩
  case round =>
    clear hB
    obtain ⟨k, hk, rfl, hB, hM⟩ := hrel
    have hs' : B ≤ wr.heap.size := Nat.le_trans hs hM.gr.size
    by_cases hlt : 0 < k
    · have h1 : (0 : Int) ≤ (k : Int) - 1 := by omega
      have hd : decide ((k : Int) - 1 ≥ 0) = true := by simp; omega
      obtain ⟨Z, hZ⟩ : ∃ Z : Int, X / (2 : Int) ^ (8 * (k - 1)) = Z := ⟨_, rfl⟩
      have hc : ∀ w : World, (convert 184 5 (.int .u16 Z)).run Tryz.prog w = .ok (.int .u8 ((digit x 2 (2 - k)).toNat : Int)) w := fun w => by
        rw [← wrap8_digit x 2 (2 - k) (8 * (k - 1)) (by omega), ← HX.out, hZ]
        exact conv_u8 184 .u16 Z (by kernel_rfl) w
      have HZ := hide hZ
      have HC := hide hc
      clear hZ hc
      have hll := HL.out
      obtain ⟨L, hL⟩ : ∃ L, l ++ (List.range (2 - k)).map (digit x 2) = L := ⟨_, rfl⟩
      have HLL : Hid (L.length + 1 ≤ 140737488355328) := by
        show _ ≤ _
        rw [← hL, List.length_append, List.length_map, List.length_range]; omega
      rw [hL] at hB
      have HE := hide hL
      clear hll hL
      go_wp2_with (first | (refine wpList_shr rfl _ _ _ _ rfl .u16 .i64 X _ Z (by rfl) (by rfl) (8 * (k - 1)) (by omega) (by show _ ≤ 16; omega) HZ.out ?_) | (refine wpList_conv rfl _ _ _ rfl .u16 .u8 Z _ (by rfl) (HC.out _) ?_) | (at_builtin; refine wpList_append_byte rfl _ _ rfl B _ L (digit x 2 (2 - k)) _ rfl (by rfl) hB (by rfl) rfl HLL.out hs' ?_; intro g cap w5 hB5 hM5))
      go_roundw
      case rel =>
        refine ⟨k - 1, by omega, by congr 1; omega, ?_, hM.trans hM5⟩
        rw [← HE.out, List.append_assoc, range_snoc, show 2 - k + 1 = 2 - (k - 1) by omega] at hB5
        rw [HE.out] at hB5
        exact hB5
      case measure => simp [intOf]; omega
    · have hk0 : k = 0 := by omega
      subst hk0
      go_wp2
      go_ret
      exact ⟨_, rfl, hB, hM⟩
-- left out in this seat: lay_32
set_option maxHeartbeats 1000000 in
theorem lay_64 (X : Int) (x : Nat) (hX : X = (x : Int)) (v : Value) (l : List UInt8) (B : Nat) (w : World) (hB : Bytes w B v l) (hs : B ≤ w.heap.size) (hl : l.length + 8 ≤ 140737488355328) :
    Calls Tryz.prog 211 #[v, .int .u64 X] w fun e w' => ∃ v', e = .returned v' ∧ Bytes w' B v' (l ++ nb x 8) ∧ Mv w v w' v' := by
  have HL := hide hl
  have HX := hide hX
  clear hl hX
  go_enter Tryz.func211, Tryz.ntmps211
  go_wp2_with fail
  refine (width_64 _).mono ?_
  rintro e w1 ⟨rfl, rfl⟩
  go_wp2
  go_loopw [0, 5] (fun b i wr => ∃ k : Nat, k ≤ 8 ∧ i = .int .i64 ((k : Int) - 1) ∧ Bytes wr B b (l ++ (List.range (8 - k)).map (digit x 8)) ∧ Mv w v wr b) (fun _ i _ => (intOf i + 1).toNat)
  case atStart => exact ⟨8, by omega, rfl, by rw [Nat.sub_self, List.range_zero, List.map_nil, List.append_nil]; exact hB, Mv.refl _ _⟩
  case round =>
    clear hB
    obtain ⟨k, hk, rfl, hB, hM⟩ := hrel
    have hs' : B ≤ wr.heap.size := Nat.le_trans hs hM.gr.size
    by_cases hlt : 0 < k
    · have h1 : (0 : Int) ≤ (k : Int) - 1 := by omega
      have hd : decide ((k : Int) - 1 ≥ 0) = true := by simp; omega
      obtain ⟨Z, hZ⟩ : ∃ Z : Int, X / (2 : Int) ^ (8 * (k - 1)) = Z := ⟨_, rfl⟩
      have hc : ∀ w : World, (convert 197 5 (.int .u64 Z)).run Tryz.prog w = .ok (.int .u8 ((digit x 8 (8 - k)).toNat : Int)) w := fun w => by
        rw [← wrap8_digit x 8 (8 - k) (8 * (k - 1)) (by omega), ← HX.out, hZ]
        exact conv_u8 197 .u64 Z (by kernel_rfl) w
      have HZ := hide hZ
      have HC := hide hc
      clear hZ hc
      have hll := HL.out
      obtain ⟨L, hL⟩ : ∃ L, l ++ (List.range (8 - k)).map (digit x 8) = L := ⟨_, rfl⟩
      have HLL : Hid (L.length + 1 ≤ 140737488355328) := by
        show _ ≤ _
        rw [← hL, List.length_append, List.length_map, List.length_range]; omega
      rw [hL] at hB
      have HE := hide hL
      clear hll hL
      go_wp2_with (first | (refine wpList_shr rfl _ _ _ _ rfl .u64 .i64 X _ Z (by rfl) (by rfl) (8 * (k - 1)) (by omega) (by show _ ≤ 64; omega) HZ.out ?_) | (refine wpList_conv rfl _ _ _ rfl .u64 .u8 Z _ (by rfl) (HC.out _) ?_) | (at_builtin; refine wpList_append_byte rfl _ _ rfl B _ L (digit x 8 (8 - k)) _ rfl (by rfl) hB (by rfl) rfl HLL.out hs' ?_; intro g cap w5 hB5 hM5))
      go_roundw
      case rel =>
        refine ⟨k - 1, by omega, by congr 1; omega, ?_, hM.trans hM5⟩
        rw [← HE.out, List.append_assoc, range_snoc, show 8 - k + 1 = 8 - (k - 1) by omega] at hB5
        rw [HE.out] at hB5
        exact hB5
      case measure => simp [intOf]; omega
    · have hk0 : k = 0 := by omega
      subst hk0
      go_wp2
      go_ret
      exact ⟨_, rfl, hB, hM⟩
end Go.Proofs.YtmmcoedgoekhgaaGreatDoor.Cu
/-
  The writer: put of each kind, New, Len.
-/
namespace Go.Proofs.YtmmcoedgoekhgaaGreatDoor.Cu
set_option maxRecDepth 20000
open Go.RowKit
/-- Block p is a struct of two cells. -/
def Two (T : TypeId) (w : World) (p : Nat) (v : Value) (f : Int) : Prop := w.heap[p]? = some (.cells #[v, .int .i64 f] T (0, 0))
section
variable {T : TypeId} {w w' : World} {p : Nat} {v v' : Value} {f : Int}
theorem Two.c0 (h : Two T w p v f) : w.cell? ⟨p, 0, none⟩ = some v := by rw [cell_of_row w p 0 _ T (0, 0) h]; rfl
theorem Two.c1 (h : Two T w p v f) : w.cell? ⟨p, 1, none⟩ = some (.int .i64 f) := by rw [cell_of_row w p 1 _ T (0, 0) h]; rfl
theorem Two.fz (h : Two T w p v f) (i : Nat) : w.frozen? ⟨p, i, none⟩ = false := frozen_of_row w p i _ T h
theorem Two.lt (h : Two T w p v f) : p < w.heap.size := by
  rcases Nat.lt_or_ge p w.heap.size with hl | hl
  · exact hl
  · unfold Two at h; rw [Array.getElem?_eq_none hl] at h; cases h
theorem Two.set0 (h : Two T w p v f) (u : Value) : Two T (w.setCell ⟨p, 0, none⟩ u) p u f := by
  unfold Two; rw [heap_setCell_same w p 0 _ T _ h]; rfl
theorem Two.same (h : Two T w p v f) (e : w'.heap[p]? = w.heap[p]?) : Two T w' p v f := by unfold Two; rw [e]; exact h
theorem Two.new (w : World) (T : TypeId) (v : Value) (f : Int) : Two T (w.alloc (.cells #[v, .int .i64 f] T)) w.heap.size v f := heap_alloc_new w _
end
/-- A step on what lies at p and on v: nothing else that was there has turned. -/
structure Mw (p : Nat) (w : World) (v : Value) (w' : World) (v' : Value) : Prop where
  os : w'.os = w.os
  tape : w'.tape = w.tape
  output : w'.output = w.output
  size : w.heap.size ≤ w'.heap.size
  block : ∀ k, k < w.heap.size → k ≠ p → v.ownBlock ≠ some k → w'.heap[k]? = w.heap[k]?
  own : ∀ g, v'.ownBlock = some g → v.ownBlock = some g ∨ w.heap.size ≤ g
theorem Mw.refl (p : Nat) (w : World) (v : Value) : Mw p w v w v := ⟨rfl, rfl, rfl, Nat.le_refl _, fun _ _ _ _ => rfl, fun _ h => .inl h⟩
theorem Mw.trans {p : Nat} {w w1 w2 : World} {v v1 v2 : Value} (h : Mw p w v w1 v1) (k : Mw p w1 v1 w2 v2) : Mw p w v w2 v2 := by
  refine ⟨k.os.trans h.os, k.tape.trans h.tape, k.output.trans h.output, Nat.le_trans h.size k.size, fun i hi hp hn => ?_, fun g hg => ?_⟩
  · refine (k.block i (Nat.lt_of_lt_of_le hi h.size) hp (fun e => ?_)).trans (h.block i hi hp hn)
    rcases h.own i e with h1 | h1
    · exact hn h1
    · omega
  · have := h.size
    rcases k.own g hg with h1 | h1
    · exact h.own g h1
    · exact .inr (by omega)
theorem Mw.below {p B : Nat} {w w' : World} {v v' : Value} (h : Mw p w v w' v') (hp : B ≤ p) (hB : B ≤ w.heap.size) (hv : ∀ k, v.ownBlock = some k → B ≤ k) : Below B w w' :=
  ⟨h.os, h.tape, h.output, h.size, fun k hk => h.block k (by omega) (by omega) (fun e => by have := hv k e; omega)⟩
theorem Mw.of {p : Nat} {w w' : World} {v v' : Value} (h : Mv w v w' v') : Mw p w v w' v' := ⟨h.gr.os, h.gr.tape, h.gr.output, h.gr.size, fun k hk _ hn => h.gr.block k hk (fun e => hn e.symm), h.own⟩
theorem Mw.of_below {p : Nat} {w w' : World} {v : Value} (h : Below w.heap.size w w') : Mw p w v w' v := ⟨h.os, h.tape, h.output, h.size, fun k hk _ _ => h.block k hk, fun _ h => .inl h⟩
/-- The program's writer at p: what it has, or broken. -/
def CW (w : World) (p : Nat) (v : Value) : Option (List UInt8) → Prop
  | some l => Two 221 w p v 0 ∧ Bytes w (p + 1) v l
  | none => Two 221 w p v 3 ∧ v = .slice none 0 0
theorem CW.lt {w : World} {p : Nat} {v : Value} {s : Option (List UInt8)} (h : CW w p v s) : p < w.heap.size := by
  cases s with
  | none => exact h.1.lt
  | some l => exact h.1.lt
theorem CW.own {w : World} {p : Nat} {v : Value} {s : Option (List UInt8)} (h : CW w p v s) : ∀ k, v.ownBlock = some k → p + 1 ≤ k ∧ k < w.heap.size := by
  cases s with
  | none => intro k hk; rw [h.2] at hk; simp [Value.ownBlock] at hk
  | some l => exact fun k hk => ⟨h.2.block k hk, h.2.lt k hk⟩
theorem Bytes.same {w w' : World} {B : Nat} {v : Value} {l : List UInt8} (h : Bytes w B v l) (e : ∀ k, v.ownBlock = some k → w'.heap[k]? = w.heap[k]?) : Bytes w' B v l := by
  refine ⟨h.1, ?_⟩
  rcases h.2 with hn | ⟨g, cap, cur, rfl, hb, hgg, rest⟩
  · exact .inl hn
  · exact .inr ⟨g, cap, cur, rfl, hb, by rw [e g rfl]; exact hgg, rest⟩
theorem Bytes.shape {w : World} {B : Nat} {v : Value} {l : List UInt8} (h : Bytes w B v l) : ∃ ad n c, v = .slice ad n c := by
  rcases h.2 with hn | ⟨g, cap, cur, rfl, _⟩
  · exact ⟨none, 0, 0, hn.1⟩
  · exact ⟨_, _, _, rfl⟩
/-- Untouched blocks: the writer stands. -/
theorem CW.same {w w' : World} {p : Nat} {v : Value} {s : Option (List UInt8)} (h : CW w p v s) (e1 : w'.heap[p]? = w.heap[p]?) (e2 : ∀ k, v.ownBlock = some k → w'.heap[k]? = w.heap[k]?) : CW w' p v s := by
  cases s with
  | none => exact ⟨h.1.same e1, h.2⟩
  | some l => exact ⟨h.1.same e1, h.2.same e2⟩
theorem CW.below {w w' : World} {p : Nat} {v : Value} {s : Option (List UInt8)} (h : CW w p v s) (hb : Below w.heap.size w w') : CW w' p v s :=
  h.same (hb.block p h.lt) (fun k hk => hb.block k (h.own k hk).2)
/-- Behind an append and the store into the field. -/
theorem stored {T : TypeId} {f : Int} {w w1 : World} {p : Nat} {v v1 : Value} {l l' : List UInt8} (h : Two T w p v f) (hB : Bytes w (p + 1) v l) (hM : Mv w v w1 v1) (hB1 : Bytes w1 (p + 1) v1 l') :
    Two T w1 p v f ∧ Two T (w1.setCell ⟨p, 0, none⟩ v1) p v1 f ∧ Bytes (w1.setCell ⟨p, 0, none⟩ v1) (p + 1) v1 l' ∧ Mw p w v (w1.setCell ⟨p, 0, none⟩ v1) v1 := by
  have e : w1.heap[p]? = w.heap[p]? := hM.gr.block p h.lt (fun e => by have := hB.block p e.symm; omega)
  have h1 := h.same e
  refine ⟨h1, h1.set0 v1, ownsRow_setCell_below hB1 (by show p < p + 1; omega) v1, ?_⟩
  refine ⟨hM.gr.os, hM.gr.tape, hM.gr.output, by simpa using hM.gr.size, fun k hk hp hn => ?_, hM.own⟩
  rw [Below.heap_setCell w1 ⟨p, 0, none⟩ v1 k hp]
  exact hM.gr.block k hk (fun e => hn e.symm)
set_option maxHeartbeats 1000000 in
theorem put_8 (X : Int) (x : Nat) (hx : x < 256) (hX : X = (x : Int)) (p : Nat) (v : Value) (s : Option (List UInt8)) (w : World) (h : CW w p v s) (hl : ∀ l, s = some l → l.length + 1 ≤ 140737488355328) :
    Calls Tryz.prog 190 #[.pointer (some ⟨p, 0, none⟩), .int .u8 X] w fun e w' => e = .returned (.tuple #[]) ∧ ∃ v', CW w' p v' (s.map (· ++ nb x 1)) ∧ Mw p w v w' v' := by
  have HX := hide hX
  have HL := hide hl
  clear hl hX
  cases s with
  | none =>
    have c1 := h.1.c1
    go_enter Tryz.func190, Tryz.ntmps190
    go_wp2
    go_end0
    exact ⟨rfl, v, h, Mw.refl _ _ _⟩
  | some l =>
    have c1 := h.1.c1
    have c0 := h.1.c0
    go_enter Tryz.func190, Tryz.ntmps190
    go_wp2_with fail
    refine (lay_8 X x hx HX.out v l (p + 1) _ h.2 (by have := h.1.lt; omega) (HL.out l rfl)).mono ?_
    rintro e w1 ⟨v1, rfl, hB1, hM⟩
    obtain ⟨ad, n1, c1', rfl⟩ := hB1.shape
    obtain ⟨t1, t2, t3, t4⟩ := stored h.1 h.2 hM hB1
    have d0 := t1.c0
    have df := t1.fz 0
    go_wp2
    go_end0
    exact ⟨rfl, _, ⟨t2, t3⟩, t4⟩
theorem wU8 (X : Int) (x : Nat) (hx : x < 256) (hX : X = (x : Int)) (p : Nat) (v : Value) (s : Option (List UInt8)) (w : World) (h : CW w p v s) (hl : ∀ l, s = some l → l.length + 1 ≤ 140737488355328) :
    Calls Tryz.prog 148 #[.pointer (some ⟨p, 0, none⟩), .int .u8 X] w fun e w' => e = .returned (.tuple #[]) ∧ ∃ v', CW w' p v' (s.map (· ++ nb x 1)) ∧ Mw p w v w' v' := by
  have HL := hide hl
  have HX := hide hX
  clear hl hX
  go_enter Tryz.func148, Tryz.ntmps148
  go_wp2_with fail
  refine (put_8 X x hx HX.out p v s _ h HL.out).mono ?_
  rintro e w1 ⟨rfl, h1⟩
  go_wp2
  go_end0
  exact ⟨rfl, h1⟩
set_option maxHeartbeats 1000000 in
theorem put_16 (X : Int) (x : Nat) (hX : X = (x : Int)) (p : Nat) (v : Value) (s : Option (List UInt8)) (w : World) (h : CW w p v s) (hl : ∀ l, s = some l → l.length + 2 ≤ 140737488355328) :
    Calls Tryz.prog 192 #[.pointer (some ⟨p, 0, none⟩), .int .u16 X] w fun e w' => e = .returned (.tuple #[]) ∧ ∃ v', CW w' p v' (s.map (· ++ nb x 2)) ∧ Mw p w v w' v' := by
  have HX := hide hX
  have HL := hide hl
  clear hl hX
  cases s with
  | none =>
    have c1 := h.1.c1
    go_enter Tryz.func192, Tryz.ntmps192
    go_wp2
    go_end0
    exact ⟨rfl, v, h, Mw.refl _ _ _⟩
  | some l =>
    have c1 := h.1.c1
    have c0 := h.1.c0
    go_enter Tryz.func192, Tryz.ntmps192
    go_wp2_with fail
    refine (lay_16 X x HX.out v l (p + 1) _ h.2 (by have := h.1.lt; omega) (HL.out l rfl)).mono ?_
    rintro e w1 ⟨v1, rfl, hB1, hM⟩
    obtain ⟨ad, n1, c1', rfl⟩ := hB1.shape
    obtain ⟨t1, t2, t3, t4⟩ := stored h.1 h.2 hM hB1
    have d0 := t1.c0
    have df := t1.fz 0
    go_wp2
    go_end0
    exact ⟨rfl, _, ⟨t2, t3⟩, t4⟩
theorem wU16 (X : Int) (x : Nat) (hX : X = (x : Int)) (p : Nat) (v : Value) (s : Option (List UInt8)) (w : World) (h : CW w p v s) (hl : ∀ l, s = some l → l.length + 2 ≤ 140737488355328) :
    Calls Tryz.prog 151 #[.pointer (some ⟨p, 0, none⟩), .int .u16 X] w fun e w' => e = .returned (.tuple #[]) ∧ ∃ v', CW w' p v' (s.map (· ++ nb x 2)) ∧ Mw p w v w' v' := by
  have HL := hide hl
  have HX := hide hX
  clear hl hX
  go_enter Tryz.func151, Tryz.ntmps151
  go_wp2_with fail
  refine (put_16 X x HX.out p v s _ h HL.out).mono ?_
  rintro e w1 ⟨rfl, h1⟩
  go_wp2
  go_end0
  exact ⟨rfl, h1⟩
-- left out in this seat: put_32
-- left out in this seat: wU32
set_option maxHeartbeats 1000000 in
theorem put_64 (X : Int) (x : Nat) (hX : X = (x : Int)) (p : Nat) (v : Value) (s : Option (List UInt8)) (w : World) (h : CW w p v s) (hl : ∀ l, s = some l → l.length + 8 ≤ 140737488355328) :
    Calls Tryz.prog 191 #[.pointer (some ⟨p, 0, none⟩), .int .u64 X] w fun e w' => e = .returned (.tuple #[]) ∧ ∃ v', CW w' p v' (s.map (· ++ nb x 8)) ∧ Mw p w v w' v' := by
  have HX := hide hX
  have HL := hide hl
  clear hl hX
  cases s with
  | none =>
    have c1 := h.1.c1
    go_enter Tryz.func191, Tryz.ntmps191
    go_wp2
    go_end0
    exact ⟨rfl, v, h, Mw.refl _ _ _⟩
  | some l =>
    have c1 := h.1.c1
    have c0 := h.1.c0
    go_enter Tryz.func191, Tryz.ntmps191
    go_wp2_with fail
    refine (lay_64 X x HX.out v l (p + 1) _ h.2 (by have := h.1.lt; omega) (HL.out l rfl)).mono ?_
    rintro e w1 ⟨v1, rfl, hB1, hM⟩
    obtain ⟨ad, n1, c1', rfl⟩ := hB1.shape
    obtain ⟨t1, t2, t3, t4⟩ := stored h.1 h.2 hM hB1
    have d0 := t1.c0
    have df := t1.fz 0
    go_wp2
    go_end0
    exact ⟨rfl, _, ⟨t2, t3⟩, t4⟩
-- left out in this seat: wU64
end Go.Proofs.YtmmcoedgoekhgaaGreatDoor.Cu
