/-
  Four bytes in a row laid over a text: the list, and what its sum tells. Nothing of the program.
-/
import Derived.Test.YtobfijpfdibccaaCrcMath
namespace Go.Proofs.Ytobfijpfdibccaa.Fr
namespace C
/-- l, with f 0 .. f (k - 1) laid over the bytes from p on. -/
def over (l : List UInt8) (p : Nat) (f : Nat → UInt8) (k : Nat) : List UInt8 := l.mapIdx fun i c => if p ≤ i ∧ i < p + k then c ^^^ f (i - p) else c
theorem over_length (l : List UInt8) (p : Nat) (f : Nat → UInt8) (k : Nat) : (over l p f k).length = l.length := by simp [over]
theorem over_get (l : List UInt8) (p : Nat) (f : Nat → UInt8) (k i : Nat) : (over l p f k)[i]? = (l[i]?).map fun c => if p ≤ i ∧ i < p + k then c ^^^ f (i - p) else c := by
  simp [over]
theorem over_zero (l : List UInt8) (p : Nat) (f : Nat → UInt8) : over l p f 0 = l := by
  apply List.ext_getElem?
  intro i
  rw [over_get]
  cases l[i]? with
  | none => rfl
  | some c => simp; intro h1 h2; omega
theorem over_at (l : List UInt8) (p : Nat) (f : Nat → UInt8) (k : Nat) (h : p + k < l.length) : (over l p f k)[p + k]? = some l[p + k] := by
  rw [over_get, List.getElem?_eq_getElem h]
  simp
theorem over_succ (l : List UInt8) (p : Nat) (f : Nat → UInt8) (k : Nat) (h : p + k < l.length) : (over l p f k).set (p + k) (l[p + k] ^^^ f k) = over l p f (k + 1) := by
  apply List.ext_getElem?
  intro i
  rw [List.getElem?_set, over_get, over_get, over_length]
  by_cases e : p + k = i
  · subst e
    rw [if_pos rfl, if_pos h, List.getElem?_eq_getElem h]
    simp only [Option.map_some]
    rw [if_pos (by omega), show p + k - p = k by omega]
  · rw [if_neg e]
    cases l[i]? with
    | none => rfl
    | some c =>
      simp only [Option.map_some]
      by_cases h1 : p ≤ i ∧ i < p + k
      · rw [if_pos h1, if_pos (by omega)]
      · rw [if_neg h1, if_neg (by omega)]
/-- Is one of f 0 .. f (k - 1) not 0? -/
def some0 (f : Nat → UInt8) : Nat → Bool
  | 0 => false
  | k + 1 => some0 f k || f k != 0
theorem some0_false (f : Nat → UInt8) : ∀ k, some0 f k = false → ∀ i, i < k → f i = 0
  | 0, _, i, hi => by omega
  | k + 1, h, i, hi => by
    simp only [some0, Bool.or_eq_false_iff] at h
    by_cases e : i = k
    · subst e; simpa using h.2
    · exact some0_false f k h.1 i (by omega)
theorem some0_of (f : Nat → UInt8) : ∀ k, (∀ i, i < k → f i = 0) → some0 f k = false
  | 0, _ => rfl
  | k + 1, h => by
    simp only [some0, Bool.or_eq_false_iff]
    exact ⟨some0_of f k fun i hi => h i (by omega), by rw [h k (by omega)]; rfl⟩
theorem xor_zero8 (c : UInt8) : c ^^^ 0 = c := by simp
theorem xor_self8 (c d : UInt8) (h : c ^^^ d = c) : d = 0 := by
  have := congrArg (c ^^^ ·) h
  simpa [← UInt8.xor_assoc] using this
theorem over_same (l : List UInt8) (p : Nat) (f : Nat → UInt8) (k : Nat) (h : ∀ i, i < k → f i = 0) : over l p f k = l := by
  apply List.ext_getElem?
  intro i
  rw [over_get]
  cases l[i]? with
  | none => rfl
  | some c =>
    simp only [Option.map_some]
    by_cases h1 : p ≤ i ∧ i < p + k
    · rw [if_pos h1, h (i - p) (by omega), xor_zero8]
    · rw [if_neg h1]
theorem cut3 (l : List UInt8) (p k : Nat) : l = l.take p ++ (l.drop p).take k ++ l.drop (p + k) := by
  rw [List.append_assoc]
  have h1 : (l.drop p).take k ++ l.drop (p + k) = l.drop p := by
    rw [← List.drop_drop]; exact List.take_append_drop k (l.drop p)
  rw [h1, List.take_append_drop]
theorem over_tells (l : List UInt8) (p : Nat) (f : Nat → UInt8) (k : Nat) (hk : k ≤ 4) (hp : p + k ≤ l.length) (h : on 0#32 (over l p f k) = on 0#32 l) : ∀ i, i < k → f i = 0 := by
  have e1 : (over l p f k).take p = l.take p := by
    apply List.ext_getElem?
    intro i
    by_cases hi : i < p
    · rw [List.getElem?_take_of_lt hi, List.getElem?_take_of_lt hi, over_get]
      cases l[i]? with
      | none => rfl
      | some c => simp only [Option.map_some]; rw [if_neg (by omega)]
    · rw [List.getElem?_eq_none (by rw [List.length_take]; omega), List.getElem?_eq_none (by rw [List.length_take]; omega)]
  have e2 : (over l p f k).drop (p + k) = l.drop (p + k) := by
    apply List.ext_getElem?
    intro i
    rw [List.getElem?_drop, List.getElem?_drop, over_get]
    cases l[p + k + i]? with
    | none => rfl
    | some c => simp only [Option.map_some]; rw [if_neg (by omega)]
  have c1 := cut3 (over l p f k) p k
  have c2 := cut3 l p k
  rw [e1, e2] at c1
  rw [c1] at h
  have h' : on 0#32 (l.take p ++ ((over l p f k).drop p).take k ++ l.drop (p + k)) = on 0#32 (l.take p ++ (l.drop p).take k ++ l.drop (p + k)) := by rw [h, ← c2]
  have hm := tells (l.take p) (((over l p f k).drop p).take k) ((l.drop p).take k) (l.drop (p + k)) (by simp only [List.length_take, List.length_drop, over_length]) (by simp only [List.length_take]; omega) h'
  intro i hi
  have hg := congrArg (fun q => q[i]?) hm
  simp only [List.getElem?_take_of_lt hi, List.getElem?_drop, over_get] at hg
  have hl : p + i < l.length := by omega
  rw [List.getElem?_eq_getElem hl] at hg
  simp only [Option.map_some, Option.some.injEq] at hg
  rw [if_pos (by omega), show p + i - p = i by omega] at hg
  exact xor_self8 _ _ hg
/-- The sum is another one just where one of the bytes is not 0. -/
theorem tells_iff (l : List UInt8) (p : Nat) (f : Nat → UInt8) (k : Nat) (hk : k ≤ 4) (hp : p + k ≤ l.length) : (on 0#32 (over l p f k) != on 0#32 l) = some0 f k := by
  cases hs : some0 f k with
  | false =>
    rw [over_same l p f k (some0_false f k hs)]
    simp
  | true =>
    rw [bne_iff_ne]
    intro h
    rw [some0_of f k (over_tells l p f k hk hp h)] at hs
    cases hs
end C
end Go.Proofs.Ytobfijpfdibccaa.Fr
