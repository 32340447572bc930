import Derived.Test.YtlohfoggcdaeiaaGreatSRef2
import Derived.Test.YtlohfoggcdaeiaaGreatSStep
/-
  Not of use in this seat. STUB: seed/SOpen
-/
namespace Go.Proofs.YtlohfoggcdaeiaaGreat
open Go.RowKit S
def num : Num := ⟨fun b => (b.toNat : Int), fun _ => rfl⟩
end Go.Proofs.YtlohfoggcdaeiaaGreat
/-
  Not of use in this seat. STUB: seed/SLaid
-/
/-
  Not of use in this seat. STUB: seed/SHead
-/
/-
  The statements' own helpers: full, begins, number, hangs; what the four calls of the layer must answer.
-/
namespace Go.Proofs.YtlohfoggcdaeiaaGreat
set_option maxRecDepth 20000
open Go.RowKit S
set_option linter.unusedVariables false
theorem wpList_load_want {P : Program} {ops : Array Oper} {rest : List Oper} {o : Oper} {a : Act} {w : World} {Q : Exit → Act → World → Prop} (hw : Region.wanted o (yielded ops a.tmps) = true) (ty : TypeId) (x : Operand) (ho : o.op = .load ty x)
    (g of : Nat) (hx : a.eval x = .pointer (some ⟨g, of, none⟩)) (t : TypeId) (f : Nat → Value) (M m : Nat) (d : TypeDesc) (hg : Has w g t f M) (hm : of + m ≤ M)
    (hu : P.underlying ty = some d) (hd : (match d with | .struct _ | .array _ _ => true | _ => false) = true) (hi : (P.info? ty).map (·.size) = some m)
    (f' : Nat → Value) (hf : ∀ i, i < m → f (of + i) = f' i)
    (h : wpList P ops Q rest (a.put o.dst (.agg (tabv f' m))) w) : wpList P ops Q (o :: rest) a w :=
  wpList_step fun K hK => by rw [if_pos hw]; exact wp_load_part ty x ho g of hx t f M m d hg hm hu hd hi (hK _ _ (by rw [tabv_congr _ f' m hf]; exact h))
-- left out in this seat: SeedOk
theorem Glob.up [Inhabited S.Tbl] {n : Num} {w w' : World} (h : Glob n w) (hb : Below w.heap.size w w') : Glob n w' := h.below hb h.2.2
def fullUp (c : UInt8) (k : Nat) : Nat → UInt8 := fun i => if i < k then c else 0
theorem fullUp_next (c : UInt8) (k : Nat) : upd (bv (fullUp c k)) k (.int .u8 (c.toNat : Int)) = bv (fullUp c (k + 1)) := by
  funext i
  unfold upd bv fullUp
  by_cases h : i = k
  · subst h; rw [if_pos rfl, if_pos (by omega)]
  · rw [if_neg h]
    by_cases h2 : i < k
    · rw [if_pos h2, if_pos (by omega)]
    · rw [if_neg h2, if_neg (by omega)]
-- left out in this seat: full_any
-- left out in this seat: begins_any
def numA (x : Int) : Nat := (bits .and .i64 x 281474976710655).toNat
theorem num_is (x : Int) : bits .and .i64 x 281474976710655 = (numA x : Int) ∧ numA x ≤ 281474976710655 := by
  have e : bits .and .i64 x 281474976710655 = IntKind.i64.wrap ((BitVec.ofInt 64 x &&& BitVec.ofInt 64 281474976710655).toNat : Int) := rfl
  have hle : (BitVec.ofInt 64 x &&& BitVec.ofInt 64 281474976710655).toNat ≤ 281474976710655 := by
    rw [BitVec.toNat_and]
    refine Nat.le_trans Nat.and_le_right ?_
    decide
  unfold numA
  rw [e]
  generalize (BitVec.ofInt 64 x &&& BitVec.ofInt 64 281474976710655).toNat = m at hle
  rw [IntKind.wrap_i64]
  omega
-- left out in this seat: number_any
end Go.Proofs.YtlohfoggcdaeiaaGreat
/-
  hangs: P9.4's words by numbers alone.
-/
namespace Go.Proofs.YtlohfoggcdaeiaaGreat
set_option maxRecDepth 20000
open Go.RowKit S
set_option linter.unusedVariables false
def nearB (a c : Nat) : Bool := decide (c ≤ a) && decide (a - c < 2 ^ lvl (place a) 48)
theorem pow_wrap {k : Nat} (h : k ≤ 48) : wrap64 ((2 : Int) ^ k) = (2 : Int) ^ k := by
  have h1 : (2 : Nat) ^ k ≤ 2 ^ 48 := Nat.pow_le_pow_right (by omega) h
  have e : ((2 : Int) ^ k) = ((2 ^ k : Nat) : Int) := by norm_cast
  rw [e]
  have h2 : (2 : Nat) ^ 48 = 281474976710656 := rfl
  generalize (2 : Nat) ^ k = m at h1
  unfold wrap64; omega
-- left out in this seat: hangs_any
end Go.Proofs.YtlohfoggcdaeiaaGreat
/-
  head: the examples that every statement asks first.
-/
namespace Go.Proofs.YtlohfoggcdaeiaaGreat
set_option maxRecDepth 20000
open Go.RowKit S
set_option linter.unusedVariables false
theorem at_of {h : Nat → UInt8} {l : List UInt8} (e : listOf h = l) (i : Nat) (hi : i < 32) (v : Nat) (hv : (l.getD i 0).toNat = v) : ((h i).toNat : Int) = (v : Int) := by
  rw [← listOf_getD h i hi, e, hv]
theorem sec_one [Inhabited S.Tbl] : secretA (fun _ => (0 : UInt8)) 0 = (secretOf step (fun _ => (0 : UInt8)) 0, 0) := by
  unfold secretA; rw [if_pos (by decide +kernel)]; rfl
theorem sec_two [Inhabited S.Tbl] : secretA (fun _ => (1 : UInt8)) 281474976710654 = (secretOf step (fun _ => (1 : UInt8)) 281474976710654, 0) := by
  unfold secretA; rw [if_pos (by decide +kernel)]; rfl
theorem lev_three : levelA 3 = (2, 0) := by decide +kernel
theorem der_four [Inhabited S.Tbl] (h : Nat → UInt8) : deriveA h 3 4 = (fun _ => 0, 5) := by
  unfold deriveA; rw [if_pos (by decide +kernel), if_neg (by decide +kernel)]
-- left out in this seat: head_any
end Go.Proofs.YtlohfoggcdaeiaaGreat
/-
  Numbers that hang on one another: what the statements of layer 9 lean on.
-/
namespace Go.Proofs.YtlohfoggcdaeiaaGreat
set_option maxRecDepth 20000
open Go.RowKit S
set_option linter.unusedVariables false
theorem isN_nat {a : Nat} (h : a ≤ 281474976710655) : isN (a : Int) = true := by rw [isN_iff]; omega
theorem level_nat {a : Nat} (h : a ≤ 281474976710655) : levelA (a : Int) = ((lvl (place a) 48 : Int), 0) := by
  unfold levelA; rw [if_pos (isN_nat h), Int.toNat_natCast]
theorem secret_nat [Inhabited S.Tbl] {s : Nat → UInt8} {a : Nat} (h : a ≤ 281474976710655) : secretA s (a : Int) = (secretOf step s a, 0) := by
  unfold secretA; rw [if_pos (isN_nat h), Int.toNat_natCast]
theorem place_lt (a : Nat) : place a < 281474976710656 := by unfold place; omega
theorem derive_yes [Inhabited S.Tbl] {s : Nat → UInt8} {a c : Nat} (ha : a ≤ 281474976710655) (hc : c ≤ 281474976710655) (h : Hangs (place a) (place c)) : deriveA s (a : Int) (c : Int) = (deriveOf step s a c, 0) := by
  unfold deriveA
  rw [if_pos ⟨isN_nat ha, isN_nat hc⟩, Int.toNat_natCast, Int.toNat_natCast, if_pos ((hangs_div (place_lt a) (place_lt c)).1 h)]
theorem derive_none [Inhabited S.Tbl] {s : Nat → UInt8} {a c : Nat} (ha : a ≤ 281474976710655) (hc : c ≤ 281474976710655) (h : ¬ Hangs (place a) (place c)) : deriveA s (a : Int) (c : Int) = (fun _ => 0, 5) := by
  unfold deriveA
  rw [if_pos ⟨isN_nat ha, isN_nat hc⟩, Int.toNat_natCast, Int.toNat_natCast, if_neg (fun k => h ((hangs_div (place_lt a) (place_lt c)).2 k))]
theorem and_mask (x M : Int) (h1 : 1 ≤ M) (h2 : M ≤ 281474976710656) : ∃ m : Nat, bits .and .i64 x (M - 1) = (m : Int) ∧ (m : Int) ≤ M - 1 := by
  obtain ⟨y, hy⟩ : ∃ y : Nat, M - 1 = (y : Int) := ⟨(M - 1).toNat, by omega⟩
  rw [hy]
  have hyl : y < 281474976710656 := by omega
  have e : bits .and .i64 x (y : Int) = IntKind.i64.wrap ((BitVec.ofInt 64 x &&& BitVec.ofInt 64 (y : Int)).toNat : Int) := rfl
  have hle : (BitVec.ofInt 64 x &&& BitVec.ofInt 64 (y : Int)).toNat ≤ y := by
    rw [BitVec.toNat_and]
    refine Nat.le_trans Nat.and_le_right ?_
    rw [BitVec.ofInt_natCast, BitVec.toNat_ofNat]
    exact Nat.mod_le _ _
  refine ⟨(BitVec.ofInt 64 x &&& BitVec.ofInt 64 (y : Int)).toNat, ?_, by omega⟩
  rw [e]
  generalize (BitVec.ofInt 64 x &&& BitVec.ofInt 64 (y : Int)).toNat = m at hle
  rw [IntKind.wrap_i64]
  omega
/-- A number is at least its level's power of two, less one. -/
theorem level_room {a : Nat} (ha : a ≤ 281474976710655) : 2 ^ lvl (place a) 48 ≤ a + 1 := by
  have hm := mod_zero (lvl_zeros 48 (place a))
  have hl := lvl_le 48 (place a)
  obtain ⟨k, hk⟩ : ∃ k, lvl (place a) 48 = k := ⟨_, rfl⟩
  rw [hk] at hm hl ⊢
  have h48 : (281474976710656 : Nat) % 2 ^ k = 0 := by
    rw [show (281474976710656 : Nat) = 2 ^ k * 2 ^ (48 - k) by rw [← Nat.pow_add, show k + (48 - k) = 48 by omega]]
    exact Nat.mul_mod_right _ _
  have hpos : 0 < 2 ^ k := Nat.pow_pos (by omega)
  have he : a + 1 = 281474976710656 - place a := by unfold place; omega
  have hd : (2 ^ k) ∣ (a + 1) := by
    rw [he]
    exact Nat.dvd_sub (Nat.dvd_of_mod_eq_zero h48) (Nat.dvd_of_mod_eq_zero hm)
  exact Nat.le_of_dvd (by omega) hd
/-- A number a little earlier has no higher level. -/
theorem level_near {a b : Nat} (ha : a ≤ 281474976710655) (h1 : b ≤ a) (h2 : a - b < 2 ^ lvl (place a) 48) : lvl (place b) 48 ≤ lvl (place a) 48 := by
  rcases Nat.lt_or_ge (lvl (place a) 48) (lvl (place b) 48) with h | h
  · exfalso
    have hb := mod_zero (lvl_zeros 48 (place b))
    have ha' := mod_zero (lvl_zeros 48 (place a))
    have hl := lvl_le 48 (place b)
    have hone := lvl_one 48 (place a) (by omega)
    obtain ⟨k, hk⟩ : ∃ k, lvl (place a) 48 = k := ⟨_, rfl⟩
    rw [hk] at h h2 ha' hone
    have hz := lvl_zeros 48 (place b) k h
    have hbk : place b % 2 ^ k = 0 := mod_zero (fun i hi => lvl_zeros 48 (place b) i (by omega))
    have e : place b = place a + (a - b) := by unfold place; omega
    have hab : a - b = 0 := by
      have : (place a + (a - b)) % 2 ^ k = a - b := by
        rw [Nat.add_mod, ha', Nat.zero_add, Nat.mod_mod, Nat.mod_eq_of_lt h2]
      rw [← e, hbk] at this
      exact this.symm
    rw [hab, Nat.add_zero] at e
    rw [e, hone] at hz
    cases hz
  · exact h
theorem Hangs.trans {p q r : Nat} (h : Hangs p q) (hl : lvl q 48 ≤ lvl p 48) (k : Hangs q r) : Hangs p r :=
  fun i h1 h2 => (h i h1 h2).trans (k i (by omega) h2)
theorem pow_cast (k : Nat) : ((2 : Int) ^ k) = ((2 ^ k : Nat) : Int) := by norm_cast
theorem pow_range {k : Nat} (h : k ≤ 48) : 1 ≤ (2 : Int) ^ k ∧ (2 : Int) ^ k ≤ 281474976710656 := by
  have h1 : (2 : Nat) ^ k ≤ 2 ^ 48 := Nat.pow_le_pow_right (by omega) h
  have h2 : (2 : Nat) ^ 48 = 281474976710656 := rfl
  have h3 : 0 < (2 : Nat) ^ k := Nat.pow_pos (by omega)
  rw [pow_cast]
  omega
/-- x - y&(1<<level - 1). -/
theorem near_of (a : Nat) (ha : a ≤ 281474976710655) (x M : Int) (hM : (2 : Int) ^ lvl (place a) 48 = M) : ∃ m b : Nat, bits .and .i64 x (M - 1) = (m : Int) ∧ (a : Int) - (m : Int) = (b : Int) ∧ b ≤ a ∧ m ≤ a ∧ Hangs (place a) (place b) ∧ lvl (place b) 48 ≤ lvl (place a) 48 := by
  have hr := pow_range (lvl_le 48 (place a))
  have hroom := level_room ha
  rw [hM] at hr
  obtain ⟨m, h1, h2⟩ := and_mask x M hr.1 hr.2
  have hM' : M = ((2 ^ lvl (place a) 48 : Nat) : Int) := by rw [← hM, pow_cast]
  have hlt : a - (a - m) < 2 ^ lvl (place a) 48 := by omega
  exact ⟨m, a - m, h1, by omega, by omega, by omega, (hangs_near ha (by omega)).2 ⟨by omega, hlt⟩, level_near ha (by omega) hlt⟩
end Go.Proofs.YtlohfoggcdaeiaaGreat
