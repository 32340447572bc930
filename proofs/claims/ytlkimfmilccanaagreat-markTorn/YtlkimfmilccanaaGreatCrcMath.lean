/-
  THE PLAIN MATHEMATICS OF CRC32C: one step on 32 bits, its being linear and one to one, a text's steps, a half byte at a time, a table of bits, four bytes in a row. Nothing of the program.
-/
import Derived.WalkKit
namespace Go.Proofs.YtlkimfmilccanaaGreat.Fr
namespace C
def poly : BitVec 32 := 0x82f63b78#32
def st (x : BitVec 32) : BitVec 32 := if x.getLsbD 0 then x >>> 1 ^^^ poly else x >>> 1
def stN : Nat → BitVec 32 → BitVec 32
  | 0, x => x
  | n + 1, x => stN n (st x)
def B (c : UInt8) : BitVec 32 := BitVec.ofNat 32 c.toNat
def tn (x : BitVec 32) : List UInt8 → BitVec 32
  | [] => x
  | c :: l => tn (stN 8 (x ^^^ B c)) l
def on (s : BitVec 32) (l : List UInt8) : BitVec 32 := ~~~ (tn (~~~ s) l)

theorem xor_swap (a b c d : BitVec 32) : (a ^^^ b) ^^^ (c ^^^ d) = (a ^^^ c) ^^^ (b ^^^ d) := by
  rw [BitVec.xor_assoc, BitVec.xor_assoc, ← BitVec.xor_assoc b c d, BitVec.xor_comm b c, BitVec.xor_assoc]

theorem st_xor (x y : BitVec 32) : st (x ^^^ y) = st x ^^^ st y := by
  unfold st
  rw [BitVec.getLsbD_xor, BitVec.ushiftRight_xor_distrib]
  cases x.getLsbD 0 <;> cases y.getLsbD 0 <;> simp
  · rw [BitVec.xor_assoc]
  · rw [BitVec.xor_assoc, BitVec.xor_assoc, BitVec.xor_comm poly]
  · rw [xor_swap, BitVec.xor_self, BitVec.xor_zero]
theorem st_zero : st 0#32 = 0#32 := by decide
theorem stN_xor (n : Nat) : ∀ x y, stN n (x ^^^ y) = stN n x ^^^ stN n y := by
  induction n with
  | zero => intro x y; rfl
  | succ n ih => intro x y; simp only [stN]; rw [st_xor, ih]
theorem stN_zero (n : Nat) : stN n 0#32 = 0#32 := by
  induction n with
  | zero => rfl
  | succ n ih => simp only [stN]; rw [st_zero, ih]
theorem stN_add (m n : Nat) : ∀ x, stN (m + n) x = stN n (stN m x) := by
  induction m with
  | zero => intro x; rw [Nat.zero_add]; rfl
  | succ m ih => intro x; rw [Nat.succ_add]; simp only [stN]; rw [ih]
theorem stN_succ (n : Nat) (x : BitVec 32) : stN (n + 1) x = st (stN n x) := by rw [stN_add]; rfl
theorem st_eq_zero (x : BitVec 32) (h : st x = 0#32) : x = 0#32 := by
  unfold st at h
  split at h
  · exfalso
    have h31 := congrArg (fun b => BitVec.getLsbD b 31) h
    simp [poly] at h31
  · rename_i h0
    apply BitVec.eq_of_getLsbD_eq
    intro i hi
    rcases Nat.eq_zero_or_pos i with rfl | hp
    · simpa using h0
    · have := congrArg (fun b => BitVec.getLsbD b (i - 1)) h
      simp only [BitVec.getLsbD_ushiftRight, BitVec.getLsbD_zero] at this
      rw [show 1 + (i - 1) = i by omega] at this
      simpa using this
theorem stN_eq_zero (n : Nat) : ∀ x, stN n x = 0#32 → x = 0#32 := by
  induction n with
  | zero => intro x h; exact h
  | succ n ih => intro x h; exact st_eq_zero x (ih _ h)
theorem eq_of_xor_zero (x y : BitVec 32) (h : x ^^^ y = 0#32) : x = y := by
  have := congrArg (· ^^^ y) h
  simpa [BitVec.xor_assoc] using this
theorem stN_inj (n : Nat) (x y : BitVec 32) (h : stN n x = stN n y) : x = y := by
  apply eq_of_xor_zero
  apply stN_eq_zero n
  rw [stN_xor, h, BitVec.xor_self]

theorem tn_append (x : BitVec 32) (a b : List UInt8) : tn x (a ++ b) = tn (tn x a) b := by
  induction a generalizing x with
  | nil => rfl
  | cons c a ih => simp only [List.cons_append, tn]; rw [ih]
theorem tn_inj (l : List UInt8) : ∀ x y, tn x l = tn y l → x = y := by
  induction l with
  | nil => intro x y h; exact h
  | cons c l ih =>
    intro x y h
    have := stN_inj 8 _ _ (ih _ _ h)
    have := congrArg (· ^^^ B c) this
    simpa [BitVec.xor_assoc] using this
theorem tn_split (l : List UInt8) : ∀ x, tn x l = stN (8 * l.length) x ^^^ tn 0#32 l := by
  induction l with
  | nil => intro x; simp [tn, stN]
  | cons c l ih =>
    intro x
    simp only [tn, List.length_cons]
    rw [ih, ih (stN 8 (0#32 ^^^ B c)), show 8 * (l.length + 1) = 8 + 8 * l.length by omega, stN_add, stN_xor, stN_xor, BitVec.zero_xor, BitVec.xor_assoc]
theorem on_split (s : BitVec 32) (l : List UInt8) : on s l = stN (8 * l.length) s ^^^ on 0#32 l := by
  unfold on
  rw [tn_split, tn_split l (~~~ 0#32)]
  have e : ∀ x : BitVec 32, ~~~ x = BitVec.allOnes 32 ^^^ x := fun x => BitVec.allOnes_xor.symm
  rw [e s, e (0#32), stN_xor, stN_xor, stN_zero, e, e]
  generalize stN (8 * l.length) (BitVec.allOnes 32) = p
  generalize stN (8 * l.length) s = q
  generalize tn 0#32 l = r
  simp only [BitVec.xor_zero]
  ac_rfl
theorem on_append (s : BitVec 32) (a b : List UInt8) : on s (a ++ b) = on (on s a) b := by
  unfold on; rw [tn_append, BitVec.not_not]
theorem on_nil (s : BitVec 32) : on s [] = s := by unfold on tn; rw [BitVec.not_not]

def zip3 : List UInt8 → List UInt8 → List UInt8 → List UInt8
  | a :: x, b :: y, c :: z => (a ^^^ b ^^^ c) :: zip3 x y z
  | _, _, _ => []
theorem B_xor (a b : UInt8) : B (a ^^^ b) = B a ^^^ B b := by
  unfold B
  apply BitVec.eq_of_toNat_eq
  have ha := a.toNat_lt; have hb := b.toNat_lt
  have hx : a.toNat ^^^ b.toNat < 2 ^ 8 := Nat.xor_lt_two_pow ha hb
  rw [BitVec.toNat_xor, BitVec.toNat_ofNat, BitVec.toNat_ofNat, BitVec.toNat_ofNat, UInt8.toNat_xor, Nat.mod_eq_of_lt (by omega), Nat.mod_eq_of_lt (by omega), Nat.mod_eq_of_lt (by omega)]
theorem tn_zip3 : ∀ (a b c : List UInt8) (x y z : BitVec 32), a.length = b.length → a.length = c.length → tn x a ^^^ tn y b ^^^ tn z c = tn (x ^^^ y ^^^ z) (zip3 a b c)
  | [], [], [], x, y, z, _, _ => rfl
  | a :: l, b :: m, c :: n, x, y, z, h1, h2 => by
    simp only [tn, zip3]
    rw [tn_zip3 l m n _ _ _ (by simpa using h1) (by simpa using h2), ← stN_xor, ← stN_xor, B_xor, B_xor]
    congr 2
    ac_rfl
theorem on_zip3 (a b c : List UInt8) (h1 : a.length = b.length) (h2 : a.length = c.length) : on 0#32 a ^^^ on 0#32 b ^^^ on 0#32 c = on 0#32 (zip3 a b c) := by
  unfold on
  have e : ∀ x : BitVec 32, ~~~ x = BitVec.allOnes 32 ^^^ x := fun x => BitVec.allOnes_xor.symm
  have h := tn_zip3 a b c (~~~ 0#32) (~~~ 0#32) (~~~ 0#32) h1 h2
  have hz : (~~~ 0#32 ^^^ ~~~ 0#32 ^^^ ~~~ 0#32 : BitVec 32) = ~~~ 0#32 := by decide
  rw [hz] at h
  rw [← h]
  generalize tn (~~~ 0#32) a = p
  generalize tn (~~~ 0#32) b = q
  generalize tn (~~~ 0#32) c = r
  rw [e p, e q, e r, e (p ^^^ q ^^^ r)]
  have : BitVec.allOnes 32 ^^^ p ^^^ (BitVec.allOnes 32 ^^^ q) ^^^ (BitVec.allOnes 32 ^^^ r) = (BitVec.allOnes 32 ^^^ BitVec.allOnes 32) ^^^ (BitVec.allOnes 32 ^^^ (p ^^^ q ^^^ r)) := by ac_rfl
  rw [this, BitVec.xor_self, BitVec.zero_xor]

-- a half byte at a time
theorem st_even (x : BitVec 32) (h : x.getLsbD 0 = false) : st x = x >>> 1 := by
  unfold st; rw [h]; rfl
theorem stN_low (k : Nat) : ∀ x : BitVec 32, (∀ i, i < k → x.getLsbD i = false) → stN k x = x >>> k := by
  induction k with
  | zero => intro x _; simp [stN]
  | succ k ih =>
    intro x h
    simp only [stN]
    rw [st_even x (h 0 (by omega)), ih]
    · rw [← BitVec.shiftRight_add, Nat.add_comm]
    · intro i hi
      rw [BitVec.getLsbD_ushiftRight]
      exact h _ (by omega)
theorem low_high (x : BitVec 32) (k : Nat) : x = (x >>> k) <<< k ^^^ (x &&& BitVec.ofNat 32 (2 ^ k - 1)) := by
  apply BitVec.eq_of_getLsbD_eq
  intro i hi
  rw [BitVec.getLsbD_xor, BitVec.getLsbD_shiftLeft, BitVec.getLsbD_ushiftRight, BitVec.getLsbD_and, BitVec.getLsbD_ofNat, Nat.testBit_two_pow_sub_one]
  by_cases h : i < k
  · simp [hi, h]
  · simp [hi, h, show k + (i - k) = i by omega]
theorem stN_cut (x : BitVec 32) (k : Nat) : stN k x = x >>> k ^^^ stN k (x &&& BitVec.ofNat 32 (2 ^ k - 1)) := by
  have h := congrArg (stN k) (low_high x k)
  rw [stN_xor, stN_low k ((x >>> k) <<< k)] at h
  · rw [h]
    congr 1
    apply BitVec.eq_of_getLsbD_eq
    intro i hi
    rw [BitVec.getLsbD_ushiftRight, BitVec.getLsbD_shiftLeft, BitVec.getLsbD_ushiftRight, BitVec.getLsbD_ushiftRight]
    by_cases h : k + i < 32
    · simp [h]
    · simp [h, BitVec.getLsbD_of_ge x (k + i) (by omega)]
  · intro i hi
    rw [BitVec.getLsbD_shiftLeft]
    simp [hi]

-- a table of what a linear function makes of each bit
def ap (t : Nat → BitVec 32) (x : BitVec 32) : Nat → BitVec 32
  | 0 => 0#32
  | k + 1 => if x.getLsbD k then ap t x k ^^^ t k else ap t x k
def one (i : Nat) : BitVec 32 := 1#32 <<< i
theorem one_bit (k i : Nat) (hk : k < 32) : (one k).getLsbD i = decide (i = k) := by
  unfold one
  rw [BitVec.getLsbD_shiftLeft, BitVec.getLsbD_one]
  by_cases h : i = k
  · subst h; simp; omega
  · by_cases h2 : i < k
    · simp [h2]; omega
    · simp [h2, h]; omega
def low (x : BitVec 32) (k : Nat) : BitVec 32 := x &&& BitVec.ofNat 32 (2 ^ k - 1)
theorem low_bit (x : BitVec 32) (k i : Nat) (hi : i < 32) : (low x k).getLsbD i = (x.getLsbD i && decide (i < k)) := by
  unfold low
  rw [BitVec.getLsbD_and, BitVec.getLsbD_ofNat, Nat.testBit_two_pow_sub_one]
  simp [hi]
theorem low_succ (x : BitVec 32) (k : Nat) (hk : k < 32) : low x (k + 1) = if x.getLsbD k then low x k ^^^ one k else low x k := by
  apply BitVec.eq_of_getLsbD_eq
  intro i hi
  rw [low_bit x (k + 1) i hi]
  by_cases h : x.getLsbD k
  · rw [if_pos h, BitVec.getLsbD_xor, low_bit x k i hi, one_bit k i hk]
    by_cases e : i = k
    · subst e; simp [h]
    · have : decide (i < k + 1) = decide (i < k) := by simp; omega
      simp [e, this]
  · rw [if_neg h, low_bit x k i hi]
    by_cases e : i = k
    · subst e; simp [h]
    · have : decide (i < k + 1) = decide (i < k) := by simp; omega
      rw [this]
theorem low_all (x : BitVec 32) : low x 32 = x := by
  apply BitVec.eq_of_getLsbD_eq
  intro i hi
  rw [low_bit x 32 i hi]; simp [hi]
theorem low_none (x : BitVec 32) : low x 0 = 0#32 := by
  apply BitVec.eq_of_getLsbD_eq
  intro i hi
  rw [low_bit x 0 i hi]; simp
theorem ap_low (n : Nat) (x : BitVec 32) (k : Nat) (hk : k ≤ 32) : ap (fun i => stN n (one i)) x k = stN n (low x k) := by
  induction k with
  | zero => rw [low_none, stN_zero]; rfl
  | succ k ih =>
    simp only [ap]
    rw [low_succ x k (by omega), ih (by omega)]
    split
    · rw [stN_xor]
    · rfl
theorem ap_stN (n : Nat) (x : BitVec 32) : ap (fun i => stN n (one i)) x 32 = stN n x := by
  rw [ap_low n x 32 (Nat.le_refl _), low_all]

-- four bytes
def word : List UInt8 → BitVec 32
  | [] => 0#32
  | c :: l => B c ^^^ word l <<< 8
theorem B_bit (c : UInt8) (i : Nat) (h : 8 ≤ i) : (B c).getLsbD i = false := by
  unfold B
  rw [BitVec.getLsbD_ofNat]
  have : c.toNat.testBit i = false := Nat.testBit_lt_two_pow (Nat.lt_of_lt_of_le c.toNat_lt (Nat.pow_le_pow_right (by omega) h))
  rw [this]; simp
theorem word_bit : ∀ (l : List UInt8) (i : Nat), 8 * l.length ≤ i → (word l).getLsbD i = false
  | [], i, _ => by simp [word]
  | c :: l, i, h => by
    simp only [List.length_cons] at h
    simp only [word]
    rw [BitVec.getLsbD_xor, BitVec.getLsbD_shiftLeft, B_bit c i (by omega), word_bit l (i - 8) (by omega)]
    simp
theorem stN_shl (y : BitVec 32) (h : ∀ i, 24 ≤ i → y.getLsbD i = false) : stN 8 (y <<< 8) = y := by
  rw [stN_low 8]
  · apply BitVec.eq_of_getLsbD_eq
    intro i hi
    rw [BitVec.getLsbD_ushiftRight, BitVec.getLsbD_shiftLeft]
    by_cases h24 : i < 24
    · simp [show 8 + i < 32 by omega]
    · rw [h i (by omega)]; simp; omega
  · intro i hi
    rw [BitVec.getLsbD_shiftLeft]; simp [hi]
theorem tn_word : ∀ (l : List UInt8) (x : BitVec 32), l.length ≤ 4 → tn x l = stN (8 * l.length) (x ^^^ word l)
  | [], x, _ => by simp [tn, word, stN]
  | c :: l, x, h => by
    simp only [List.length_cons] at h ⊢
    simp only [tn, word]
    rw [tn_word l _ (by omega), show 8 * (l.length + 1) = 8 + 8 * l.length by omega, stN_add, ← BitVec.xor_assoc, stN_xor 8 (x ^^^ B c), stN_shl (word l) (fun i hi => word_bit l i (by omega))]
theorem word_inj : ∀ (l m : List UInt8), l.length = m.length → l.length ≤ 4 → word l = word m → l = m
  | [], [], _, _, _ => rfl
  | c :: l, d :: m, h1, h2, h => by
    simp only [List.length_cons] at h1 h2
    have hb : ∀ i, ((B c).getLsbD i ^^ (decide (i < 32) && !decide (i < 8) && (word l).getLsbD (i - 8))) = ((B d).getLsbD i ^^ (decide (i < 32) && !decide (i < 8) && (word m).getLsbD (i - 8))) := by
      intro i
      have := congrArg (fun b => BitVec.getLsbD b i) h
      simpa [word, BitVec.getLsbD_xor, BitVec.getLsbD_shiftLeft] using this
    have hcd : B c = B d := by
      apply BitVec.eq_of_getLsbD_eq
      intro i hi
      by_cases h8 : i < 8
      · simpa [h8] using hb i
      · rw [B_bit c i (by omega), B_bit d i (by omega)]
    have hlm : word l = word m := by
      apply BitVec.eq_of_getLsbD_eq
      intro i hi
      by_cases h24 : i < 24
      · have := hb (i + 8)
        rw [hcd] at this
        simpa [show i + 8 < 32 by omega, show ¬ (i + 8 < 8) by omega] using this
      · rw [word_bit l i (by omega), word_bit m i (by omega)]
    have hc : c = d := by
      have := congrArg BitVec.toNat hcd
      have hc := c.toNat_lt; have hd := d.toNat_lt
      unfold B at this
      rw [BitVec.toNat_ofNat, BitVec.toNat_ofNat, Nat.mod_eq_of_lt (by omega), Nat.mod_eq_of_lt (by omega)] at this
      exact UInt8.toNat_inj.1 this
    rw [hc, word_inj l m (by omega) (by omega) hlm]
theorem tells (p m m' s : List UInt8) (h1 : m.length = m'.length) (h2 : m.length ≤ 4) (h : on 0#32 (p ++ m ++ s) = on 0#32 (p ++ m' ++ s)) : m = m' := by
  unfold on at h
  have h := congrArg (fun b => ~~~ b) h
  simp only [BitVec.not_not] at h
  rw [tn_append, tn_append _ (p ++ m'), tn_append, tn_append _ p m'] at h
  have h := tn_inj s _ _ h
  rw [tn_word m _ h2, tn_word m' _ (by omega), h1] at h
  have h := stN_inj _ _ _ h
  have h := congrArg (tn (~~~ 0#32) p ^^^ ·) h
  simp only [← BitVec.xor_assoc, BitVec.xor_self, BitVec.zero_xor] at h
  exact word_inj m m' h1 h2 h
end C
end Go.Proofs.YtlkimfmilccanaaGreat.Fr
