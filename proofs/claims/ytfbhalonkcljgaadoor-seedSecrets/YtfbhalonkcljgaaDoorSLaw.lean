/-
  The statements' own helpers: full, begins, number, hangs; what the four calls of the layer must answer.
-/
import Derived.Test.YtfbhalonkcljgaaDoorSRef2
import Derived.Test.YtfbhalonkcljgaaDoorSHead
namespace Go.Proofs.YtfbhalonkcljgaaDoor
open Go.RowKit S
set_option linter.unusedVariables false
theorem wpList_load_want {P : Program} {ops : Array Oper} {rest : List Oper} {o : Oper} {a : Act} {w : World} {Q : Exit → Act → World → Prop} (hw : Region.wanted o (yielded ops a.tmps) = true) (ty : TypeId) (x : Operand) (ho : o.op = .load ty x)
    (g of : Nat) (hx : a.eval x = .pointer (some ⟨g, of, none⟩)) (t : TypeId) (f : Nat → Value) (M m : Nat) (d : TypeDesc) (hg : Has w g t f M) (hm : of + m ≤ M)
    (hu : P.underlying ty = some d) (hd : (match d with | .struct _ | .array _ _ => true | _ => false) = true) (hi : (P.info? ty).map (·.size) = some m)
    (f' : Nat → Value) (hf : ∀ i, i < m → f (of + i) = f' i)
    (h : wpList P ops Q rest (a.put o.dst (.agg (tabv f' m))) w) : wpList P ops Q (o :: rest) a w :=
  wpList_step fun K hK => by rw [if_pos hw]; exact wp_load_part ty x ho g of hx t f M m d hg hm hu hd hi (hK _ _ (by rw [tabv_congr _ f' m hf]; exact h))
/-- What the layer's four calls answer. -/
structure SeedOk (n : Num) : Prop where
  secret : ∀ (h : Nat → UInt8) (x : Int) (w : World), Glob n w → Calls Tryd.prog 12 #[.agg (tabv (bv h) 32), .int .i64 x] w fun e w' => e = .returned (.tuple #[.agg (tabv (bv (secretA h x).1) 32), .int .i64 (secretA h x).2]) ∧ Below w.heap.size w w'
  point : ∀ (h : Nat → UInt8) (w : World), Glob n w → Calls Tryd.prog 17 #[.agg (tabv (bv h) 32)] w fun e w' => e = .returned (.agg (tabv (bv (sha (listOf h))) 32)) ∧ Below w.heap.size w w'
  level : ∀ (x : Int) (w : World), Calls Tryd.prog 10 #[.int .i64 x] w fun e w' => e = .returned (.tuple #[.int .i64 (levelA x).1, .int .i64 (levelA x).2]) ∧ Below w.heap.size w w'
  derive : ∀ (h : Nat → UInt8) (x y : Int) (w : World), Glob n w → Calls Tryd.prog 11 #[.agg (tabv (bv h) 32), .int .i64 x, .int .i64 y] w fun e w' => e = .returned (.tuple #[.agg (tabv (bv (deriveA h x y).1) 32), .int .i64 (deriveA h x y).2]) ∧ Below w.heap.size w w'
theorem Glob.up {n : Num} {w w' : World} (h : Glob n w) (hb : Below w.heap.size w w') : Glob n w' := h.below hb h.2.2
def fullUp (c : UInt8) (k : Nat) : Nat → UInt8 := fun i => if i < k then c else 0
theorem fullUp_next (c : UInt8) (k : Nat) : upd (bv (fullUp c k)) k (.int .u8 (c.toNat : Int)) = bv (fullUp c (k + 1)) := by
  funext i
  unfold upd bv fullUp
  by_cases h : i = k
  · subst h; rw [if_pos rfl, if_pos (by omega)]
  · rw [if_neg h]
    by_cases h2 : i < k
    · rw [if_pos h2, if_pos (by omega)]
    · rw [if_neg h2, if_neg (by omega)]
set_option maxRecDepth 100000 in
set_option maxHeartbeats 1000000 in
theorem full_any (c : UInt8) (C : Int) (hC : C = (c.toNat : Int)) (w : World) : Calls Tryd.prog 19 #[.int .u8 C] w fun e w' => e = .returned (.agg (tabv (bv (fun _ => c)) 32)) ∧ Below w.heap.size w w' := by
  have HC := hide hC
  clear hC
  go_enter Tryd.func19, Tryd.ntmps19
  go_wp2
  generalize hW : World.alloc (World.alloc w _) _ = w3
  have g0 : Has w3 w.heap.size 23 (fun _ => .int .u8 0) 32 := by rw [← hW]; exact (Has.new w 23 (fun _ => .int .u8 0) 32 _ rfl).old _
  have g1 : Has w3 (w.heap.size + 1) 23 (bv (fullUp c 0)) 32 := by
    rw [← hW]
    have := (Has.new (w.alloc (.cells (tabv (fun _ => .int .u8 0) 32) 23)) 23 (fun _ => .int .u8 0) 32 _ rfl).congr (bv (fullUp c 0)) (fun i _ => by unfold bv fullUp; rw [if_neg (by omega)]; rfl)
    rw [size_alloc] at this
    exact this
  have gb : Below w.heap.size w w3 := by rw [← hW]; exact ((Below.refl w.heap.size w).alloc (Nat.le_refl _) _).alloc (by simp) _
  clear hW
  go_loopw [4] (fun i wr => ∃ k : Nat, k ≤ 32 ∧ i = .int .i64 k ∧ Has wr w.heap.size 23 (fun _ => .int .u8 0) 32 ∧ Has wr (w.heap.size + 1) 23 (bv (fullUp c k)) 32 ∧ Below w.heap.size w wr) (fun i _ => 32 - (intOf i).toNat)
  case atStart => exact ⟨0, by omega, rfl, g0, g1, gb⟩
  case round =>
    clear g0 g1 gb
    obtain ⟨k, hk, rfl, g0, g1, gb⟩ := hrel
    by_cases hlt : k < 32
    · have c0 := g1.cell k hlt
      have f0 := g1.frozen k
      have hd : decide ((k : Int) < 32) = true := by simp; omega
      have hk0 : (0 : Int) ≤ (k : Int) := by omega
      have hk1 : (k : Int) < 32 := by omega
      go_wp2
      go_roundw
      case rel =>
        refine ⟨k + 1, by omega, by go_num, g0.other _ _ (by simp), ?_, gb.setCell (by simp) _⟩
        have := g1.set k (.int .u8 (c.toNat : Int))
        rw [fullUp_next, ← HC.out] at this
        exact this
      case measure => simp [intOf]; omega
    · have hk8 : k = 32 := by omega
      subst hk8
      have hd : decide (((32 : Nat) : Int) < 32) = false := by decide
      go_wp2_with (first | refine wpList_load_part rfl 23 _ rfl (w.heap.size + 1) 0 rfl 23 _ 32 32 _ g1 (by omega) Tryd.underlying23 rfl info26 (bv (fun _ => c)) (fun i hi => by rw [Nat.zero_add]; unfold bv fullUp; rw [if_pos (by omega)]) ?_ | refine wpList_store_part rfl 23 _ _ rfl rfl w.heap.size 0 (bv (fun _ => c)) 32 rfl rfl 23 _ 32 g0 (by omega) info26 (fun _ _ => rfl) (bv (fun _ => c)) (fun i hi => by unfold splice; rw [if_pos (by omega)]; rfl) ?_)
      exact bodyPost_ret (results_cell_row rfl _ _ w.heap.size 23 _ (0, 0) _ rfl (g0.row _ _ rfl) Tryd.underlying23 rfl (by rw [tabv_size]; exact info26)) rfl ⟨rfl, below_setRow gb (Nat.le_refl _) _⟩
set_option maxRecDepth 100000 in
set_option maxHeartbeats 1000000 in
theorem begins_any (h : Nat → UInt8) (a b c d : Int) (w : World) (ha : ((h 0).toNat : Int) = a) (hb : ((h 1).toNat : Int) = b) (hc : ((h 2).toNat : Int) = c) (hd : ((h 3).toNat : Int) = d) : Calls Tryd.prog 20 #[.agg (tabv (bv h) 32), .int .u8 a, .int .u8 b, .int .u8 c, .int .u8 d] w fun e w' => e = .returned (.bool true) ∧ Below w.heap.size w w' := by
  obtain ⟨w3, hW⟩ : ∃ w3, w.alloc (.cells (tabv (bv h) 32) 23) = w3 := ⟨_, rfl⟩
  have g0 : Has w3 w.heap.size 23 (bv h) 32 := by rw [← hW]; exact Has.new w 23 (bv h) 32 _ rfl
  have c0 : w3.cell? ⟨w.heap.size, 0, none⟩ = some (.int .u8 a) := by rw [g0.cell 0 (by omega), ← ha]; rfl
  have c1 : w3.cell? ⟨w.heap.size, 1, none⟩ = some (.int .u8 b) := by rw [g0.cell 1 (by omega), ← hb]; rfl
  have c2 : w3.cell? ⟨w.heap.size, 2, none⟩ = some (.int .u8 c) := by rw [g0.cell 2 (by omega), ← hc]; rfl
  have c3 : w3.cell? ⟨w.heap.size, 3, none⟩ = some (.int .u8 d) := by rw [g0.cell 3 (by omega), ← hd]; rfl
  have gb : Below w.heap.size w w3 := by rw [← hW]; exact (Below.refl w.heap.size w).alloc (Nat.le_refl _) _
  clear g0 ha hb hc hd
  go_enter Tryd.func20, Tryd.ntmps20
  go_wp2
  go_ret
  exact ⟨by simp, gb⟩
def numA (x : Int) : Nat := (bits .and .i64 x 281474976710655).toNat
theorem num_is (x : Int) : bits .and .i64 x 281474976710655 = (numA x : Int) ∧ numA x ≤ 281474976710655 := by
  have e : bits .and .i64 x 281474976710655 = IntKind.i64.wrap ((BitVec.ofInt 64 x &&& BitVec.ofInt 64 281474976710655).toNat : Int) := rfl
  have hle : (BitVec.ofInt 64 x &&& BitVec.ofInt 64 281474976710655).toNat ≤ 281474976710655 := by
    rw [BitVec.toNat_and]
    refine Nat.le_trans Nat.and_le_right ?_
    decide
  unfold numA
  rw [e]
  generalize (BitVec.ofInt 64 x &&& BitVec.ofInt 64 281474976710655).toNat = m at hle
  rw [IntKind.wrap_i64]
  omega
theorem number_any (x : Int) (w : World) : Calls Tryd.prog 9 #[.int .i64 x] w fun e w' => e = .returned (.int .i64 (numA x : Int)) ∧ w' = w := by
  have e := (num_is x).1
  go_enter Tryd.func9, Tryd.ntmps9
  go_wp2
  go_ret
  exact ⟨by first | rfl | (rw [← e]; rfl), by first | rfl | trivial⟩
end Go.Proofs.YtfbhalonkcljgaaDoor
