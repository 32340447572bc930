/-
  Layer 14 in plain words: which ledgers are sound, a commitment's bytes.
-/
import Derived.Test.YthmbpddpdbkioaaPnBase
namespace Go.Proofs.Ythmbpddpdbkioaa
open Go.RowKit S
set_option linter.unusedVariables false
set_option linter.unusedSimpArgs false
open Cu (nb be hl ofL CW Mw CR Mr)
def amB (a : Int) : Bool := !(decide (a < 0) || decide (1152921504606846976 < a))
def okP (p : Pen) : Bool := !(decide (p.id < 0) || (decide (p.amt < 1) || decide (1152921504606846976 < p.amt)))
/-- May p stand right behind q? -/
def foll (q p : Pen) : Bool := if q.ours != p.ours then q.ours else decide (q.id < p.id)
theorem foll_trans {a b c : Pen} (h : foll a b = true) (k : foll b c = true) : foll a c = true := by
  unfold foll at *
  cases ha : a.ours <;> cases hb : b.ours <;> cases hc : c.ours <;> simp_all <;> omega
def goodAt (l : List Pen) (i : Nat) : Prop := ∀ p, l[i]? = some p → okP p = true ∧ ∀ q, 0 < i → l[i - 1]? = some q → foll q p = true
def goodD (l : List Pen) (i : Nat) : Prop := ∀ p, l[i]? = some p → okP p = true ∧ ∀ j q, j < i → l[j]? = some q → foll q p = true
theorem goodD_at {l : List Pen} {i : Nat} (h : goodD l i) : goodAt l i := fun p hp => ⟨(h p hp).1, fun q hi hq => (h p hp).2 (i - 1) q (by omega) hq⟩
theorem good_all {l : List Pen} : ∀ n, (∀ i, i < n → goodAt l i) → ∀ i, i < n → goodD l i := fun n h i => by
  induction i with
  | zero => exact fun hi p hp => ⟨(h 0 hi p hp).1, fun j q hj => absurd hj (by omega)⟩
  | succ i ih =>
    intro hi p hp
    refine ⟨(h _ hi p hp).1, fun j q hj hq => ?_⟩
    have hlt : i < l.length := by have := (List.getElem?_eq_some_iff.1 hp).1; omega
    have hx : l[i]? = some l[i] := List.getElem?_eq_getElem hlt
    have h1 := (h _ hi p hp).2 l[i] (by omega) (by simp [hx])
    rcases Nat.lt_or_ge j i with hc | hc
    · exact foll_trans ((ih (by omega) _ hx).2 j q hc hq) h1
    · obtain rfl : j = i := by omega
      rw [hx] at hq
      obtain rfl := Option.some.inj hq
      exact h1
def cntP (o : Bool) (l : List Pen) : Nat := (l.filter fun p => p.ours == o).length
theorem cnt_next {l : List Pen} {j : Nat} {x : Pen} (h : l[j]? = some x) (o : Bool) : cntP o (l.take (j + 1)) = cntP o (l.take j) + (if (x.ours == o) = true then 1 else 0) := by
  rw [take_snoc h]
  unfold cntP
  rw [List.filter_append, List.length_append]
  by_cases hc : (x.ours == o) = true <;> simp [hc]
theorem cnt_le (o : Bool) (l : List Pen) : cntP o l ≤ l.length := List.length_filter_le _ _
theorem cnt_both (l : List Pen) : cntP true l + cntP false l = l.length := by
  induction l with
  | nil => rfl
  | cons p l ih => unfold cntP at *; simp only [List.filter_cons, List.length_cons]; cases h : p.ours <;> simp only [beq_self_eq_true, if_true, show (false == true) = false from rfl, show (true == false) = false from rfl, Bool.false_eq_true, if_false, List.length_cons] <;> omega
/-- A sound ledger. -/
def Snd (x y : Int) (l : List Pen) : Prop := (amB x = true ∧ amB y = true) ∧ (∀ i, i < l.length → goodAt l i) ∧ cntP true l ≤ 483 ∧ cntP false l ≤ 483
theorem Snd.len {x y : Int} {l : List Pen} (h : Snd x y l) : l.length ≤ 966 := by have := cnt_both l; have := h.2.2; omega
theorem Snd.ok {x y : Int} {l : List Pen} (h : Snd x y l) {p : Pen} (hp : p ∈ l) : okP p = true := by
  obtain ⟨i, hi⟩ := List.mem_iff_getElem?.1 hp
  exact (h.2.1 i (List.getElem?_eq_some_iff.1 hi).1 p hi).1
/-- A commitment. -/
structure Cm where
  owner : Int
  index : Int
  point : Nat → UInt8
  x : Int
  y : Int
  l : List Pen
def Arg (o n : Int) : Prop := 0 ≤ o ∧ o ≤ 1 ∧ 0 ≤ n ∧ n ≤ 281474976710655
/-- What a number of 64 bits is as bytes. -/
def u64 (z : Int) : Nat := (IntKind.u64.wrap z).toNat
theorem u64_wrap (z : Int) : IntKind.u64.wrap z = ((u64 z : Nat) : Int) := by
  unfold u64
  rw [Int.toNat_of_nonneg]
  simp [IntKind.wrap, IntKind.bits, IntKind.signed]; omega
theorem u64_lt (z : Int) : u64 z < 18446744073709551616 := by
  unfold u64
  have : IntKind.u64.wrap z < 18446744073709551616 := by simp [IntKind.wrap, IntKind.bits, IntKind.signed]; omega
  have h0 : 0 ≤ IntKind.u64.wrap z := by simp [IntKind.wrap, IntKind.bits, IntKind.signed]; omega
  omega
theorem u64_back {z : Int} (h0 : -9223372036854775808 ≤ z) (h1 : z ≤ 9223372036854775807) : IntKind.i64.wrap ((u64 z : Nat) : Int) = z := by
  rw [← u64_wrap]
  simp [IntKind.wrap, IntKind.bits, IntKind.signed]; omega
theorem u64_nat {z : Int} (h0 : 0 ≤ z) (h1 : z ≤ 9223372036854775807) : u64 z = z.toNat := by
  unfold u64
  have : IntKind.u64.wrap z = z := by simp [IntKind.wrap, IntKind.bits, IntKind.signed]; omega
  rw [this]
def penB (p : Pen) : List UInt8 := ((nb (if p.ours = true then 1 else 0) 1 ++ nb (u64 p.id) 8) ++ nb (u64 p.amt) 8) ++ hl p.hash
theorem penB_length (p : Pen) : (penB p).length = 49 := by simp [penB, Cu.nb_length, Cu.hl_length]
def headB (o n : Int) (h : Nat → UInt8) (x y : Int) (k : Nat) : List UInt8 := ((((nb o.toNat 1 ++ nb (u64 n) 8) ++ hl h) ++ nb (u64 x) 8) ++ nb (u64 y) 8) ++ nb k 2
theorem headB_length (o n : Int) (h : Nat → UInt8) (x y : Int) (k : Nat) : (headB o n h x y k).length = 59 := by simp [headB, Cu.nb_length, Cu.hl_length]
def opensB (l : List Pen) : List UInt8 := l.flatMap penB
theorem opensB_length (l : List Pen) : (opensB l).length = 49 * l.length := by
  induction l with
  | nil => rfl
  | cons p l ih => unfold opensB at *; rw [List.flatMap_cons, List.length_append, penB_length, ih, List.length_cons]; omega
theorem opensB_next {l : List Pen} {j : Nat} {p : Pen} (h : l[j]? = some p) : opensB (l.take (j + 1)) = opensB (l.take j) ++ penB p := by
  rw [take_snoc h]; unfold opensB; rw [List.flatMap_append]; simp
def textB (o n : Int) (h : Nat → UInt8) (x y : Int) (l : List Pen) : List UInt8 := headB o n h x y l.length ++ opensB l
theorem textB_length (o n : Int) (h : Nat → UInt8) (x y : Int) (l : List Pen) : (textB o n h x y l).length = 59 + 49 * l.length := by unfold textB; rw [List.length_append, headB_length, opensB_length]
/-- What Text answers. -/
structure TA (o n : Int) (h : Nat → UInt8) (x y : Int) (l : List Pen) (b : ByteArray) (e : Int) : Prop where
  arg : ¬ Arg o n → b = nilB ∧ e = 1
  form : Arg o n → ¬ Snd x y l → b = nilB ∧ e = 4
  good : Arg o n → Snd x y l → b = ofL (textB o n h x y l) ∧ e = 0
theorem TA.one {o n : Int} {h : Nat → UInt8} {x y : Int} {l : List Pen} {b c : ByteArray} {e f : Int} (p : TA o n h x y l b e) (q : TA o n h x y l c f) : b = c ∧ e = f := by
  by_cases ha : Arg o n
  · by_cases hs : Snd x y l
    · have := p.good ha hs; have := q.good ha hs; simp_all
    · have := p.form ha hs; have := q.form ha hs; simp_all
  · have := p.arg ha; have := q.arg ha; simp_all
theorem TA.ok {o n : Int} {h : Nat → UInt8} {x y : Int} {l : List Pen} {b : ByteArray} {e : Int} (p : TA o n h x y l b e) (he : e = 0) : Arg o n ∧ Snd x y l ∧ b = ofL (textB o n h x y l) := by
  by_cases ha : Arg o n
  · by_cases hs : Snd x y l
    · exact ⟨ha, hs, (p.good ha hs).1⟩
    · have := (p.form ha hs).2; omega
  · have := (p.arg ha).2; omega
end Go.Proofs.Ythmbpddpdbkioaa
