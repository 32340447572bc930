import Derived.WalkKit
import Derived.Test.YtlkimfmilccanaaGreatProg
import Derived.WalkSpells
import Derived.WalkLawsBesides
import Derived.Laws.CopyRow
import Derived.Laws.BytesArg
import Derived.Laws.OwnMore
import Derived.Deep.AppendLies
import Derived.Deep.AppendSrc
import Derived.Deep.Upon
import Derived.Deep.QuietTactic
import Derived.BigQuiet
/-
  THE PLAIN MATHEMATICS OF CRC32C: one step on 32 bits, its being linear and one to one, a text's steps, a half byte at a time, a table of bits, four bytes in a row. Nothing of the program.
-/
namespace Go.Proofs.YtlkimfmilccanaaGreat.Fr
namespace C
def poly : BitVec 32 := 0x82f63b78#32
def st (x : BitVec 32) : BitVec 32 := if x.getLsbD 0 then x >>> 1 ^^^ poly else x >>> 1
def stN : Nat → BitVec 32 → BitVec 32
  | 0, x => x
  | n + 1, x => stN n (st x)
def B (c : UInt8) : BitVec 32 := BitVec.ofNat 32 c.toNat
def tn (x : BitVec 32) : List UInt8 → BitVec 32
  | [] => x
  | c :: l => tn (stN 8 (x ^^^ B c)) l
def on (s : BitVec 32) (l : List UInt8) : BitVec 32 := ~~~ (tn (~~~ s) l)

theorem xor_swap (a b c d : BitVec 32) : (a ^^^ b) ^^^ (c ^^^ d) = (a ^^^ c) ^^^ (b ^^^ d) := by
  rw [BitVec.xor_assoc, BitVec.xor_assoc, ← BitVec.xor_assoc b c d, BitVec.xor_comm b c, BitVec.xor_assoc]

theorem st_xor (x y : BitVec 32) : st (x ^^^ y) = st x ^^^ st y := by
  unfold st
  rw [BitVec.getLsbD_xor, BitVec.ushiftRight_xor_distrib]
  cases x.getLsbD 0 <;> cases y.getLsbD 0 <;> simp
  · rw [BitVec.xor_assoc]
  · rw [BitVec.xor_assoc, BitVec.xor_assoc, BitVec.xor_comm poly]
  · rw [xor_swap, BitVec.xor_self, BitVec.xor_zero]
theorem st_zero : st 0#32 = 0#32 := by decide
theorem stN_xor (n : Nat) : ∀ x y, stN n (x ^^^ y) = stN n x ^^^ stN n y := by
  induction n with
  | zero => intro x y; rfl
  | succ n ih => intro x y; simp only [stN]; rw [st_xor, ih]
theorem stN_zero (n : Nat) : stN n 0#32 = 0#32 := by
  induction n with
  | zero => rfl
  | succ n ih => simp only [stN]; rw [st_zero, ih]
theorem stN_add (m n : Nat) : ∀ x, stN (m + n) x = stN n (stN m x) := by
  induction m with
  | zero => intro x; rw [Nat.zero_add]; rfl
  | succ m ih => intro x; rw [Nat.succ_add]; simp only [stN]; rw [ih]
theorem stN_succ (n : Nat) (x : BitVec 32) : stN (n + 1) x = st (stN n x) := by rw [stN_add]; rfl
theorem st_eq_zero (x : BitVec 32) (h : st x = 0#32) : x = 0#32 := by
  unfold st at h
  split at h
  · exfalso
    have h31 := congrArg (fun b => BitVec.getLsbD b 31) h
    simp [poly] at h31
  · rename_i h0
    apply BitVec.eq_of_getLsbD_eq
    intro i hi
    rcases Nat.eq_zero_or_pos i with rfl | hp
    · simpa using h0
    · have := congrArg (fun b => BitVec.getLsbD b (i - 1)) h
      simp only [BitVec.getLsbD_ushiftRight, BitVec.getLsbD_zero] at this
      rw [show 1 + (i - 1) = i by omega] at this
      simpa using this
theorem stN_eq_zero (n : Nat) : ∀ x, stN n x = 0#32 → x = 0#32 := by
  induction n with
  | zero => intro x h; exact h
  | succ n ih => intro x h; exact st_eq_zero x (ih _ h)
theorem eq_of_xor_zero (x y : BitVec 32) (h : x ^^^ y = 0#32) : x = y := by
  have := congrArg (· ^^^ y) h
  simpa [BitVec.xor_assoc] using this
theorem stN_inj (n : Nat) (x y : BitVec 32) (h : stN n x = stN n y) : x = y := by
  apply eq_of_xor_zero
  apply stN_eq_zero n
  rw [stN_xor, h, BitVec.xor_self]

theorem tn_append (x : BitVec 32) (a b : List UInt8) : tn x (a ++ b) = tn (tn x a) b := by
  induction a generalizing x with
  | nil => rfl
  | cons c a ih => simp only [List.cons_append, tn]; rw [ih]
theorem tn_inj (l : List UInt8) : ∀ x y, tn x l = tn y l → x = y := by
  induction l with
  | nil => intro x y h; exact h
  | cons c l ih =>
    intro x y h
    have := stN_inj 8 _ _ (ih _ _ h)
    have := congrArg (· ^^^ B c) this
    simpa [BitVec.xor_assoc] using this
theorem tn_split (l : List UInt8) : ∀ x, tn x l = stN (8 * l.length) x ^^^ tn 0#32 l := by
  induction l with
  | nil => intro x; simp [tn, stN]
  | cons c l ih =>
    intro x
    simp only [tn, List.length_cons]
    rw [ih, ih (stN 8 (0#32 ^^^ B c)), show 8 * (l.length + 1) = 8 + 8 * l.length by omega, stN_add, stN_xor, stN_xor, BitVec.zero_xor, BitVec.xor_assoc]
theorem on_split (s : BitVec 32) (l : List UInt8) : on s l = stN (8 * l.length) s ^^^ on 0#32 l := by
  unfold on
  rw [tn_split, tn_split l (~~~ 0#32)]
  have e : ∀ x : BitVec 32, ~~~ x = BitVec.allOnes 32 ^^^ x := fun x => BitVec.allOnes_xor.symm
  rw [e s, e (0#32), stN_xor, stN_xor, stN_zero, e, e]
  generalize stN (8 * l.length) (BitVec.allOnes 32) = p
  generalize stN (8 * l.length) s = q
  generalize tn 0#32 l = r
  simp only [BitVec.xor_zero]
  ac_rfl
theorem on_append (s : BitVec 32) (a b : List UInt8) : on s (a ++ b) = on (on s a) b := by
  unfold on; rw [tn_append, BitVec.not_not]
theorem on_nil (s : BitVec 32) : on s [] = s := by unfold on tn; rw [BitVec.not_not]

def zip3 : List UInt8 → List UInt8 → List UInt8 → List UInt8
  | a :: x, b :: y, c :: z => (a ^^^ b ^^^ c) :: zip3 x y z
  | _, _, _ => []
theorem B_xor (a b : UInt8) : B (a ^^^ b) = B a ^^^ B b := by
  unfold B
  apply BitVec.eq_of_toNat_eq
  have ha := a.toNat_lt; have hb := b.toNat_lt
  have hx : a.toNat ^^^ b.toNat < 2 ^ 8 := Nat.xor_lt_two_pow ha hb
  rw [BitVec.toNat_xor, BitVec.toNat_ofNat, BitVec.toNat_ofNat, BitVec.toNat_ofNat, UInt8.toNat_xor, Nat.mod_eq_of_lt (by omega), Nat.mod_eq_of_lt (by omega), Nat.mod_eq_of_lt (by omega)]
theorem tn_zip3 : ∀ (a b c : List UInt8) (x y z : BitVec 32), a.length = b.length → a.length = c.length → tn x a ^^^ tn y b ^^^ tn z c = tn (x ^^^ y ^^^ z) (zip3 a b c)
  | [], [], [], x, y, z, _, _ => rfl
  | a :: l, b :: m, c :: n, x, y, z, h1, h2 => by
    simp only [tn, zip3]
    rw [tn_zip3 l m n _ _ _ (by simpa using h1) (by simpa using h2), ← stN_xor, ← stN_xor, B_xor, B_xor]
    congr 2
    ac_rfl
theorem on_zip3 (a b c : List UInt8) (h1 : a.length = b.length) (h2 : a.length = c.length) : on 0#32 a ^^^ on 0#32 b ^^^ on 0#32 c = on 0#32 (zip3 a b c) := by
  unfold on
  have e : ∀ x : BitVec 32, ~~~ x = BitVec.allOnes 32 ^^^ x := fun x => BitVec.allOnes_xor.symm
  have h := tn_zip3 a b c (~~~ 0#32) (~~~ 0#32) (~~~ 0#32) h1 h2
  have hz : (~~~ 0#32 ^^^ ~~~ 0#32 ^^^ ~~~ 0#32 : BitVec 32) = ~~~ 0#32 := by decide
  rw [hz] at h
  rw [← h]
  generalize tn (~~~ 0#32) a = p
  generalize tn (~~~ 0#32) b = q
  generalize tn (~~~ 0#32) c = r
  rw [e p, e q, e r, e (p ^^^ q ^^^ r)]
  have : BitVec.allOnes 32 ^^^ p ^^^ (BitVec.allOnes 32 ^^^ q) ^^^ (BitVec.allOnes 32 ^^^ r) = (BitVec.allOnes 32 ^^^ BitVec.allOnes 32) ^^^ (BitVec.allOnes 32 ^^^ (p ^^^ q ^^^ r)) := by ac_rfl
  rw [this, BitVec.xor_self, BitVec.zero_xor]

-- a half byte at a time
theorem st_even (x : BitVec 32) (h : x.getLsbD 0 = false) : st x = x >>> 1 := by
  unfold st; rw [h]; rfl
theorem stN_low (k : Nat) : ∀ x : BitVec 32, (∀ i, i < k → x.getLsbD i = false) → stN k x = x >>> k := by
  induction k with
  | zero => intro x _; simp [stN]
  | succ k ih =>
    intro x h
    simp only [stN]
    rw [st_even x (h 0 (by omega)), ih]
    · rw [← BitVec.shiftRight_add, Nat.add_comm]
    · intro i hi
      rw [BitVec.getLsbD_ushiftRight]
      exact h _ (by omega)
theorem low_high (x : BitVec 32) (k : Nat) : x = (x >>> k) <<< k ^^^ (x &&& BitVec.ofNat 32 (2 ^ k - 1)) := by
  apply BitVec.eq_of_getLsbD_eq
  intro i hi
  rw [BitVec.getLsbD_xor, BitVec.getLsbD_shiftLeft, BitVec.getLsbD_ushiftRight, BitVec.getLsbD_and, BitVec.getLsbD_ofNat, Nat.testBit_two_pow_sub_one]
  by_cases h : i < k
  · simp [hi, h]
  · simp [hi, h, show k + (i - k) = i by omega]
theorem stN_cut (x : BitVec 32) (k : Nat) : stN k x = x >>> k ^^^ stN k (x &&& BitVec.ofNat 32 (2 ^ k - 1)) := by
  have h := congrArg (stN k) (low_high x k)
  rw [stN_xor, stN_low k ((x >>> k) <<< k)] at h
  · rw [h]
    congr 1
    apply BitVec.eq_of_getLsbD_eq
    intro i hi
    rw [BitVec.getLsbD_ushiftRight, BitVec.getLsbD_shiftLeft, BitVec.getLsbD_ushiftRight, BitVec.getLsbD_ushiftRight]
    by_cases h : k + i < 32
    · simp [h]
    · simp [h, BitVec.getLsbD_of_ge x (k + i) (by omega)]
  · intro i hi
    rw [BitVec.getLsbD_shiftLeft]
    simp [hi]

-- a table of what a linear function makes of each bit
def ap (t : Nat → BitVec 32) (x : BitVec 32) : Nat → BitVec 32
  | 0 => 0#32
  | k + 1 => if x.getLsbD k then ap t x k ^^^ t k else ap t x k
def one (i : Nat) : BitVec 32 := 1#32 <<< i
theorem one_bit (k i : Nat) (hk : k < 32) : (one k).getLsbD i = decide (i = k) := by
  unfold one
  rw [BitVec.getLsbD_shiftLeft, BitVec.getLsbD_one]
  by_cases h : i = k
  · subst h; simp; omega
  · by_cases h2 : i < k
    · simp [h2]; omega
    · simp [h2, h]; omega
def low (x : BitVec 32) (k : Nat) : BitVec 32 := x &&& BitVec.ofNat 32 (2 ^ k - 1)
theorem low_bit (x : BitVec 32) (k i : Nat) (hi : i < 32) : (low x k).getLsbD i = (x.getLsbD i && decide (i < k)) := by
  unfold low
  rw [BitVec.getLsbD_and, BitVec.getLsbD_ofNat, Nat.testBit_two_pow_sub_one]
  simp [hi]
theorem low_succ (x : BitVec 32) (k : Nat) (hk : k < 32) : low x (k + 1) = if x.getLsbD k then low x k ^^^ one k else low x k := by
  apply BitVec.eq_of_getLsbD_eq
  intro i hi
  rw [low_bit x (k + 1) i hi]
  by_cases h : x.getLsbD k
  · rw [if_pos h, BitVec.getLsbD_xor, low_bit x k i hi, one_bit k i hk]
    by_cases e : i = k
    · subst e; simp [h]
    · have : decide (i < k + 1) = decide (i < k) := by simp; omega
      simp [e, this]
  · rw [if_neg h, low_bit x k i hi]
    by_cases e : i = k
    · subst e; simp [h]
    · have : decide (i < k + 1) = decide (i < k) := by simp; omega
      rw [this]
theorem low_all (x : BitVec 32) : low x 32 = x := by
  apply BitVec.eq_of_getLsbD_eq
  intro i hi
  rw [low_bit x 32 i hi]; simp [hi]
theorem low_none (x : BitVec 32) : low x 0 = 0#32 := by
  apply BitVec.eq_of_getLsbD_eq
  intro i hi
  rw [low_bit x 0 i hi]; simp
theorem ap_low (n : Nat) (x : BitVec 32) (k : Nat) (hk : k ≤ 32) : ap (fun i => stN n (one i)) x k = stN n (low x k) := by
  induction k with
  | zero => rw [low_none, stN_zero]; rfl
  | succ k ih =>
    simp only [ap]
    rw [low_succ x k (by omega), ih (by omega)]
    split
    · rw [stN_xor]
    · rfl
theorem ap_stN (n : Nat) (x : BitVec 32) : ap (fun i => stN n (one i)) x 32 = stN n x := by
  rw [ap_low n x 32 (Nat.le_refl _), low_all]

-- four bytes
def word : List UInt8 → BitVec 32
  | [] => 0#32
  | c :: l => B c ^^^ word l <<< 8
theorem B_bit (c : UInt8) (i : Nat) (h : 8 ≤ i) : (B c).getLsbD i = false := by
  unfold B
  rw [BitVec.getLsbD_ofNat]
  have : c.toNat.testBit i = false := Nat.testBit_lt_two_pow (Nat.lt_of_lt_of_le c.toNat_lt (Nat.pow_le_pow_right (by omega) h))
  rw [this]; simp
theorem word_bit : ∀ (l : List UInt8) (i : Nat), 8 * l.length ≤ i → (word l).getLsbD i = false
  | [], i, _ => by simp [word]
  | c :: l, i, h => by
    simp only [List.length_cons] at h
    simp only [word]
    rw [BitVec.getLsbD_xor, BitVec.getLsbD_shiftLeft, B_bit c i (by omega), word_bit l (i - 8) (by omega)]
    simp
theorem stN_shl (y : BitVec 32) (h : ∀ i, 24 ≤ i → y.getLsbD i = false) : stN 8 (y <<< 8) = y := by
  rw [stN_low 8]
  · apply BitVec.eq_of_getLsbD_eq
    intro i hi
    rw [BitVec.getLsbD_ushiftRight, BitVec.getLsbD_shiftLeft]
    by_cases h24 : i < 24
    · simp [show 8 + i < 32 by omega]
    · rw [h i (by omega)]; simp; omega
  · intro i hi
    rw [BitVec.getLsbD_shiftLeft]; simp [hi]
theorem tn_word : ∀ (l : List UInt8) (x : BitVec 32), l.length ≤ 4 → tn x l = stN (8 * l.length) (x ^^^ word l)
  | [], x, _ => by simp [tn, word, stN]
  | c :: l, x, h => by
    simp only [List.length_cons] at h ⊢
    simp only [tn, word]
    rw [tn_word l _ (by omega), show 8 * (l.length + 1) = 8 + 8 * l.length by omega, stN_add, ← BitVec.xor_assoc, stN_xor 8 (x ^^^ B c), stN_shl (word l) (fun i hi => word_bit l i (by omega))]
theorem word_inj : ∀ (l m : List UInt8), l.length = m.length → l.length ≤ 4 → word l = word m → l = m
  | [], [], _, _, _ => rfl
  | c :: l, d :: m, h1, h2, h => by
    simp only [List.length_cons] at h1 h2
    have hb : ∀ i, ((B c).getLsbD i ^^ (decide (i < 32) && !decide (i < 8) && (word l).getLsbD (i - 8))) = ((B d).getLsbD i ^^ (decide (i < 32) && !decide (i < 8) && (word m).getLsbD (i - 8))) := by
      intro i
      have := congrArg (fun b => BitVec.getLsbD b i) h
      simpa [word, BitVec.getLsbD_xor, BitVec.getLsbD_shiftLeft] using this
    have hcd : B c = B d := by
      apply BitVec.eq_of_getLsbD_eq
      intro i hi
      by_cases h8 : i < 8
      · simpa [h8] using hb i
      · rw [B_bit c i (by omega), B_bit d i (by omega)]
    have hlm : word l = word m := by
      apply BitVec.eq_of_getLsbD_eq
      intro i hi
      by_cases h24 : i < 24
      · have := hb (i + 8)
        rw [hcd] at this
        simpa [show i + 8 < 32 by omega, show ¬ (i + 8 < 8) by omega] using this
      · rw [word_bit l i (by omega), word_bit m i (by omega)]
    have hc : c = d := by
      have := congrArg BitVec.toNat hcd
      have hc := c.toNat_lt; have hd := d.toNat_lt
      unfold B at this
      rw [BitVec.toNat_ofNat, BitVec.toNat_ofNat, Nat.mod_eq_of_lt (by omega), Nat.mod_eq_of_lt (by omega)] at this
      exact UInt8.toNat_inj.1 this
    rw [hc, word_inj l m (by omega) (by omega) hlm]
theorem tells (p m m' s : List UInt8) (h1 : m.length = m'.length) (h2 : m.length ≤ 4) (h : on 0#32 (p ++ m ++ s) = on 0#32 (p ++ m' ++ s)) : m = m' := by
  unfold on at h
  have h := congrArg (fun b => ~~~ b) h
  simp only [BitVec.not_not] at h
  rw [tn_append, tn_append _ (p ++ m'), tn_append, tn_append _ p m'] at h
  have h := tn_inj s _ _ h
  rw [tn_word m _ h2, tn_word m' _ (by omega), h1] at h
  have h := stN_inj _ _ _ h
  have h := congrArg (tn (~~~ 0#32) p ^^^ ·) h
  simp only [← BitVec.xor_assoc, BitVec.xor_self, BitVec.zero_xor] at h
  exact word_inj m m' h1 h2 h
end C
end Go.Proofs.YtlkimfmilccanaaGreat.Fr
/-
  Four bytes in a row laid over a text: the list, and what its sum tells. Nothing of the program.
-/
namespace Go.Proofs.YtlkimfmilccanaaGreat.Fr
namespace C
/-- l, with f 0 .. f (k - 1) laid over the bytes from p on. -/
def over (l : List UInt8) (p : Nat) (f : Nat → UInt8) (k : Nat) : List UInt8 := l.mapIdx fun i c => if p ≤ i ∧ i < p + k then c ^^^ f (i - p) else c
theorem over_length (l : List UInt8) (p : Nat) (f : Nat → UInt8) (k : Nat) : (over l p f k).length = l.length := by simp [over]
theorem over_get (l : List UInt8) (p : Nat) (f : Nat → UInt8) (k i : Nat) : (over l p f k)[i]? = (l[i]?).map fun c => if p ≤ i ∧ i < p + k then c ^^^ f (i - p) else c := by
  simp [over]
theorem over_zero (l : List UInt8) (p : Nat) (f : Nat → UInt8) : over l p f 0 = l := by
  apply List.ext_getElem?
  intro i
  rw [over_get]
  cases l[i]? with
  | none => rfl
  | some c => simp; intro h1 h2; omega
theorem over_at (l : List UInt8) (p : Nat) (f : Nat → UInt8) (k : Nat) (h : p + k < l.length) : (over l p f k)[p + k]? = some l[p + k] := by
  rw [over_get, List.getElem?_eq_getElem h]
  simp
theorem over_succ (l : List UInt8) (p : Nat) (f : Nat → UInt8) (k : Nat) (h : p + k < l.length) : (over l p f k).set (p + k) (l[p + k] ^^^ f k) = over l p f (k + 1) := by
  apply List.ext_getElem?
  intro i
  rw [List.getElem?_set, over_get, over_get, over_length]
  by_cases e : p + k = i
  · subst e
    rw [if_pos rfl, if_pos h, List.getElem?_eq_getElem h]
    simp only [Option.map_some]
    rw [if_pos (by omega), show p + k - p = k by omega]
  · rw [if_neg e]
    cases l[i]? with
    | none => rfl
    | some c =>
      simp only [Option.map_some]
      by_cases h1 : p ≤ i ∧ i < p + k
      · rw [if_pos h1, if_pos (by omega)]
      · rw [if_neg h1, if_neg (by omega)]
/-- Is one of f 0 .. f (k - 1) not 0? -/
def some0 (f : Nat → UInt8) : Nat → Bool
  | 0 => false
  | k + 1 => some0 f k || f k != 0
theorem some0_false (f : Nat → UInt8) : ∀ k, some0 f k = false → ∀ i, i < k → f i = 0
  | 0, _, i, hi => by omega
  | k + 1, h, i, hi => by
    simp only [some0, Bool.or_eq_false_iff] at h
    by_cases e : i = k
    · subst e; simpa using h.2
    · exact some0_false f k h.1 i (by omega)
theorem some0_of (f : Nat → UInt8) : ∀ k, (∀ i, i < k → f i = 0) → some0 f k = false
  | 0, _ => rfl
  | k + 1, h => by
    simp only [some0, Bool.or_eq_false_iff]
    exact ⟨some0_of f k fun i hi => h i (by omega), by rw [h k (by omega)]; rfl⟩
theorem xor_zero8 (c : UInt8) : c ^^^ 0 = c := by simp
theorem xor_self8 (c d : UInt8) (h : c ^^^ d = c) : d = 0 := by
  have := congrArg (c ^^^ ·) h
  simpa [← UInt8.xor_assoc] using this
theorem over_same (l : List UInt8) (p : Nat) (f : Nat → UInt8) (k : Nat) (h : ∀ i, i < k → f i = 0) : over l p f k = l := by
  apply List.ext_getElem?
  intro i
  rw [over_get]
  cases l[i]? with
  | none => rfl
  | some c =>
    simp only [Option.map_some]
    by_cases h1 : p ≤ i ∧ i < p + k
    · rw [if_pos h1, h (i - p) (by omega), xor_zero8]
    · rw [if_neg h1]
theorem cut3 (l : List UInt8) (p k : Nat) : l = l.take p ++ (l.drop p).take k ++ l.drop (p + k) := by
  rw [List.append_assoc]
  have h1 : (l.drop p).take k ++ l.drop (p + k) = l.drop p := by
    rw [← List.drop_drop]; exact List.take_append_drop k (l.drop p)
  rw [h1, List.take_append_drop]
theorem over_tells (l : List UInt8) (p : Nat) (f : Nat → UInt8) (k : Nat) (hk : k ≤ 4) (hp : p + k ≤ l.length) (h : on 0#32 (over l p f k) = on 0#32 l) : ∀ i, i < k → f i = 0 := by
  have e1 : (over l p f k).take p = l.take p := by
    apply List.ext_getElem?
    intro i
    by_cases hi : i < p
    · rw [List.getElem?_take_of_lt hi, List.getElem?_take_of_lt hi, over_get]
      cases l[i]? with
      | none => rfl
      | some c => simp only [Option.map_some]; rw [if_neg (by omega)]
    · rw [List.getElem?_eq_none (by rw [List.length_take]; omega), List.getElem?_eq_none (by rw [List.length_take]; omega)]
  have e2 : (over l p f k).drop (p + k) = l.drop (p + k) := by
    apply List.ext_getElem?
    intro i
    rw [List.getElem?_drop, List.getElem?_drop, over_get]
    cases l[p + k + i]? with
    | none => rfl
    | some c => simp only [Option.map_some]; rw [if_neg (by omega)]
  have c1 := cut3 (over l p f k) p k
  have c2 := cut3 l p k
  rw [e1, e2] at c1
  rw [c1] at h
  have h' : on 0#32 (l.take p ++ ((over l p f k).drop p).take k ++ l.drop (p + k)) = on 0#32 (l.take p ++ (l.drop p).take k ++ l.drop (p + k)) := by rw [h, ← c2]
  have hm := tells (l.take p) (((over l p f k).drop p).take k) ((l.drop p).take k) (l.drop (p + k)) (by simp only [List.length_take, List.length_drop, over_length]) (by simp only [List.length_take]; omega) h'
  intro i hi
  have hg := congrArg (fun q => q[i]?) hm
  simp only [List.getElem?_take_of_lt hi, List.getElem?_drop, over_get] at hg
  have hl : p + i < l.length := by omega
  rw [List.getElem?_eq_getElem hl] at hg
  simp only [Option.map_some, Option.some.injEq] at hg
  rw [if_pos (by omega), show p + i - p = i by omega] at hg
  exact xor_self8 _ _ hg
/-- The sum is another one just where one of the bytes is not 0. -/
theorem tells_iff (l : List UInt8) (p : Nat) (f : Nat → UInt8) (k : Nat) (hk : k ≤ 4) (hp : p + k ≤ l.length) : (on 0#32 (over l p f k) != on 0#32 l) = some0 f k := by
  cases hs : some0 f k with
  | false =>
    rw [over_same l p f k (some0_false f k hs)]
    simp
  | true =>
    rw [bne_iff_ne]
    intro h
    rw [some0_of f k (over_tells l p f k hk hp h)] at hs
    cases hs
end C
end Go.Proofs.YtlkimfmilccanaaGreat.Fr
/-
  Bytes in memory of the call's own; what a step may turn.
-/
namespace Go.Proofs.YtlkimfmilccanaaGreat.Fr
open Go.RowKit
theorem hide {p : Prop} (h : p) : Hid p := h
theorem ret_int {k : IntKind} {a b : Int} (h : a = b) : Ending.returned (.int k a) = .returned (.int k b) := by rw [h]
def byteV (c : UInt8) : Value := .int .u8 (c.toNat : Int)
def byteAt (l : List UInt8) (i : Nat) : UInt8 := l.getD i 0
/-- v is a slice of the bytes l, in memory of the call's own, from block B on. -/
def Bytes (w : World) (B : Nat) (v : Value) (l : List UInt8) : Prop := w.ownsRow B 5 1 v l.length (l.map byteV)
theorem info5 : (Tryz.prog.info? 5).map (fun i => (i.zero, i.size, i.bytes)) = some (some (.int .u8 0), 1, 1) := by kernel_rfl
theorem Bytes.nil (w : World) (B : Nat) : Bytes w B (.slice none 0 0) [] := World.ownsRow_nil w B 5 1
theorem grown_below {w w' : World} {row : Option Nat} {B : Nat} (hg : w.grownBy w' row) (hr : ∀ k, row = some k → B ≤ k) (hB : B ≤ w.heap.size) : Below B w w' :=
  ⟨hg.os, hg.tape, hg.output, hg.size, fun k hk => hg.block k (by omega) (fun e => by have := hr k e.symm; omega)⟩
theorem grown_alloc (w : World) (o : Obj) (row : Option Nat) : w.grownBy (w.alloc o) row :=
  ⟨rfl, rfl, rfl, by simp, fun i hi _ => Below.heap_alloc w o i hi⟩
theorem grown_trans {w w1 w2 : World} {row : Option Nat} (h : w.grownBy w1 row) (k : w1.grownBy w2 row) : w.grownBy w2 row :=
  ⟨k.os.trans h.os, k.tape.trans h.tape, k.output.trans h.output, Nat.le_trans h.size k.size, fun i hi hn => (k.block i (Nat.lt_of_lt_of_le hi h.size) hn).trans (h.block i hi hn)⟩
theorem Bytes.block {w : World} {B : Nat} {v : Value} {l : List UInt8} (h : Bytes w B v l) : ∀ k, v.ownBlock = some k → B ≤ k := fun k hk => (World.ownsRow.lt h k hk).1
theorem Bytes.lt {w : World} {B : Nat} {v : Value} {l : List UInt8} (h : Bytes w B v l) : ∀ k, v.ownBlock = some k → k < w.heap.size := fun k hk => (World.ownsRow.lt h k hk).2
/-- From v in w to v' in w': only v's own block and new ones have turned. -/
structure Mv (w : World) (v : Value) (w' : World) (v' : Value) : Prop where
  gr : w.grownBy w' v.ownBlock
  own : ∀ g, v'.ownBlock = some g → v.ownBlock = some g ∨ w.heap.size ≤ g
theorem Mv.refl (w : World) (v : Value) : Mv w v w v := ⟨⟨rfl, rfl, rfl, Nat.le_refl _, fun _ _ _ => rfl⟩, fun _ h => .inl h⟩
theorem Mv.trans {w w1 w2 : World} {v v1 v2 : Value} (h : Mv w v w1 v1) (k : Mv w1 v1 w2 v2) : Mv w v w2 v2 := by
  refine ⟨⟨k.gr.os.trans h.gr.os, k.gr.tape.trans h.gr.tape, k.gr.output.trans h.gr.output, Nat.le_trans h.gr.size k.gr.size, fun i hi hn => ?_⟩, fun g hg => ?_⟩
  · refine (k.gr.block i (Nat.lt_of_lt_of_le hi h.gr.size) (fun e => ?_)).trans (h.gr.block i hi hn)
    rcases h.own i e.symm with h1 | h1
    · exact hn h1.symm
    · omega
  · have := h.gr.size
    rcases k.own g hg with h1 | h1
    · exact h.own g h1
    · exact .inr (by omega)
theorem wpList_append_byte {ops : Array Oper} {rest : List Oper} {o : Oper} {a : Act} {w w0 : World} {Q : Exit → Act → World → Prop} (hgd : o.guard = none) (s x : Operand)
    (ho : o.op = .call { callee := .builtin .append, args := #[s, x], argTypes := #[42, 42] }) (B : Nat) (v : Value) (l : List UInt8) (c : UInt8) (X : Int) (hX : X = (c.toNat : Int)) (hs : a.eval s = v) (hown : Bytes w0 B v l)
    (hx : a.eval x = .slice (some ⟨w0.heap.size, 0, none⟩) 1 1) (hw : w = w0.alloc (.cells #[.int .u8 X] 5)) (hlen : l.length + 1 ≤ 140737488355328) (hB : B ≤ w0.heap.size)
    (h : ∀ g cap w', Bytes w' B (.slice (some ⟨g, 0, none⟩) (l.length + 1) cap) (l ++ [c]) → Mv w0 v w' (.slice (some ⟨g, 0, none⟩) (l.length + 1) cap) → wpList Tryz.prog ops Q rest (a.put o.dst (.slice (some ⟨g, 0, none⟩) (l.length + 1) cap)) w') : wpList Tryz.prog ops Q (o :: rest) a w := by
  subst hX hw
  have hh := info5
  cases hq : Tryz.prog.info? 5 with
  | none => rw [hq] at hh; cases hh
  | some i =>
    rw [hq] at hh
    simp only [Option.map_some, Option.some.injEq, Prod.mk.injEq] at hh
    obtain ⟨hz0, hz1, hz2⟩ := hh
    have hown' : (w0.alloc (.cells #[.int .u8 (c.toNat : Int)] 5)).ownsRow B 5 1 v l.length (l.map byteV) := World.ownsRow.kept hown (grown_alloc w0 _ none) (by cases v.ownBlock <;> simp)
    refine wpList_append_lies (P := Tryz.prog) _ hgd s x 42 ho B 5 i (.int .u8 0) 1 1 Tryz.underlying42 hq hz0 hz1 hz2 rfl (by omega) v l.length (l.map byteV) hs hown' ⟨w0.heap.size, 0, none⟩ 1 1 [byteV c] hx rfl ?_ ?_ (by omega) (by unfold maxLen; omega) (by omega) (by simp; omega) (w0.heap.size + 1) (by simp) ?_
    · intro j u hu
      exact World.news_of_block (heap_alloc_new w0 _) j u hu
    · intro u hu
      simp at hu; subst hu; rfl
    · intro g cap w' h1 h2 h3 h4
      refine h g cap w' ?_ ⟨grown_trans (grown_alloc w0 _ v.ownBlock) h2, fun g' hg' => ?_⟩
      · unfold Bytes
        rw [List.length_append, List.map_append]
        exact h1
      · have e : g' = g := by simpa [Value.ownBlock] using hg'.symm
        subst e
        rcases h3 with h3 | h3
        · exact .inl h3
        · exact .inr (by omega)
/-- append(v, x...), x a text or bytes elsewhere. -/
theorem run_append_bytes (w : World) (B : Nat) (ty tx : TypeId) (v : Value) (l news : List UInt8) (hown : Bytes w B v l) (x : Value) (hs : Src Tryz.prog 1 tx x news.length (news.map byteV) w) (hlen : l.length + news.length ≤ 140737488355328) (hB : B ≤ w.heap.size) :
    ∃ v' w', (Builtin.append_ #[42, tx] ty #[v, x]).run Tryz.prog w = .ok v' w' ∧ Bytes w' B v' (l ++ news) ∧ Mv w v w' v' := by
  obtain ⟨i, hi, hz0, hz1, hz2⟩ := info_parts info5
  rw [← hz1] at hs
  by_cases hn : news = []
  · subst hn
    have hh := hown.2
    rcases hh with ⟨rfl, hl⟩ | ⟨g, cap, cur, rfl, hb, hg, hnc, hcm, hcs, htake⟩
    · exact ⟨_, _, run_append_nothing (P := Tryz.prog) w 42 tx ty 5 i Tryz.underlying42 hi none 0 0 (Nat.le_refl _) x hs, by rw [List.append_nil]; exact hown, Mv.refl _ _⟩
    · exact ⟨_, _, run_append_nothing (P := Tryz.prog) w 42 tx ty 5 i Tryz.underlying42 hi (some ⟨g, 0, none⟩) l.length cap hnc x hs, by rw [List.append_nil]; exact hown, Mv.refl _ _⟩
  have hpos : 0 < news.length := List.length_pos_iff.2 hn
  have hlen' : (l ++ news).map byteV = l.map byteV ++ news.map byteV := List.map_append
  have grown : ∀ (old : Nat), old < l.length + news.length →
      Bytes (w.drew.alloc (.cells ((l.map byteV ++ news.map byteV).toArray ++ Builtin.zeroCells (Value.int .u8 0).cells (grownCap w (l.length + news.length) old 5 - (l.length + news.length))) 5)) B
        (.slice (some ⟨w.heap.size, 0, none⟩) (l.length + news.length) (grownCap w (l.length + news.length) old 5)) (l ++ news) ∧
      ∀ row : Option Nat, w.grownBy (w.drew.alloc (.cells ((l.map byteV ++ news.map byteV).toArray ++ Builtin.zeroCells (Value.int .u8 0).cells (grownCap w (l.length + news.length) old 5 - (l.length + news.length))) 5)) row := by
    intro old ho
    have hge := grownCap_ge w (l.length + news.length) old 5
    have hcm : grownCap w (l.length + news.length) old 5 ≤ maxLen := grownCap_le_maxLen w _ old 5 (by unfold maxLen; omega)
    refine ⟨?_, fun row => ⟨rfl, rfl, rfl, by simp, fun k hk _ => Below.heap_alloc w.drew _ k hk⟩⟩
    unfold Bytes
    rw [List.length_append]
    refine ⟨by simp, .inr ⟨w.heap.size, _, _, rfl, hB, heap_alloc_new w.drew _, hge, hcm, ?_, ?_⟩⟩
    · simp only [Array.size_append, List.size_toArray, size_zeroCells, List.length_append, List.length_map]
      rw [show (Value.int .u8 0).cells.size = 1 from rfl]
      omega
    · rw [hlen', Array.toList_append]
      have e : (l.length + news.length) * 1 = (l.map byteV ++ news.map byteV).length := by simp
      rw [e]
      exact List.take_left
  have hh := hown.2
  rcases hh with ⟨rfl, hl⟩ | ⟨g, cap, cur, rfl, hb, hg, hnc, hcm, hcs, htake⟩
  · have hl0 : l = [] := List.length_eq_zero_iff.1 hl
    subst hl0
    have hr := run_append_grow_src (P := Tryz.prog) w 42 tx ty 5 i (.int .u8 0) Tryz.underlying42 hi hz0 none 0 0 [] (run_firstCells_none w.drew i.size 0 0 0) x news.length (news.map byteV) hs (by omega) (by omega) (by
      rw [hz2, Nat.zero_add, Nat.mul_one]
      rw [nextslicecap_zero hpos]; simp only [List.length_nil, Nat.zero_add] at hlen; omega)
    obtain ⟨g1, g2⟩ := grown 0 (by omega)
    simp only [List.length_nil, Nat.zero_add, List.map_nil] at g1 g2 hr
    refine ⟨_, _, hr, g1, g2 _, fun g' hg' => .inr ?_⟩
    have e : g' = w.heap.size := by simpa [Value.ownBlock] using hg'.symm
    omega
  · have hc := World.ownsRow.cells hown (g := g) rfl
    by_cases hroom : l.length + news.length ≤ cap
    · have hst := run_storeCells_at Tryz.prog g (l.length * i.size) 5 (news.map byteV) 0 cur w hg (by simp [hz1]; omega) hs.one
      rw [Nat.add_zero] at hst
      have hr : (Builtin.append_ #[42, tx] ty #[.slice (some ⟨g, 0, none⟩) l.length cap, x]).run Tryz.prog w = .ok (.slice (some ⟨g, 0, none⟩) (l.length + news.length) cap) (w.setRow g (cur.toList.take (l.length * i.size) ++ news.map byteV ++ cur.toList.drop (l.length * i.size + (news.map byteV).length)).toArray) := by
        rcases hs.kind with ⟨e', hk⟩ | hk <;> simp [Builtin.append_, run_underlying Tryz.underlying42, run_underlying hk, sizeOf, typeInfo, hi, hs.len, hroom, hs.cells, Addr.add_lit, hst]
      refine ⟨_, _, hr, ?_, ⟨rfl, rfl, rfl, by simp, fun k _ hk => setRow_other w g k _ (fun e => hk (by simp [Value.ownBlock, e]))⟩, fun g' hg' => .inl ?_⟩
      · unfold Bytes
        rw [List.length_append]
        refine ⟨by simp, .inr ⟨g, cap, _, rfl, hb, setRow_heap w g cur _ 5 _ hg, hroom, hcm, ?_, ?_⟩⟩
        · simp only [List.size_toArray, List.length_append, List.length_take, List.length_drop, Array.length_toList, List.length_map, hz1]
          omega
        · rw [hz1, htake, hlen']
          have e : (l.length + news.length) * 1 = (l.map byteV ++ news.map byteV).length := by simp
          rw [e]
          exact List.take_left
      · simpa [Value.ownBlock] using hg'
    · have hr := run_append_grow_src (P := Tryz.prog) w 42 tx ty 5 i (.int .u8 0) Tryz.underlying42 hi hz0 (some ⟨g, 0, none⟩) l.length cap (l.map byteV) (by
        have := run_firstCells_some (P := Tryz.prog) w.drew i.size l.length ⟨g, 0, none⟩ l.length cap (l.map byteV) (by simp [hz1]) hc
        exact this) x news.length (news.map byteV) hs (by omega) (by omega) (growslice_fits (by omega) (by rw [hz2]; omega))
      obtain ⟨g1, g2⟩ := grown cap (by omega)
      refine ⟨_, _, hr, g1, g2 _, fun g' hg' => .inr ?_⟩
      have e : g' = w.heap.size := by simpa [Value.ownBlock] using hg'.symm
      omega
end Go.Proofs.YtlkimfmilccanaaGreat.Fr
