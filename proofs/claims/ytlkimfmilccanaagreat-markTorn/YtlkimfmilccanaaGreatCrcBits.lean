/-
  The model's uint32 against 32 bits: U b is the number of b; what the walk's operations make of such numbers. Tables of such numbers in a block.
-/
import Derived.Test.YtlkimfmilccanaaGreatCrcMath
import Derived.Test.YtlkimfmilccanaaGreatCurBase
import Derived.WalkSpells
import Derived.WalkLawsBesides
namespace Go.Proofs.YtlkimfmilccanaaGreat.Fr
open Go.RowKit
namespace C
/-- A number for each 32 bits: kept as a letter, so that the walk never looks into it. -/
structure Num where
  u : BitVec 32 → Int
  eq : ∀ b, u b = (b.toNat : Int)
variable (n : Num)
theorem Num.nonneg (b : BitVec 32) : 0 ≤ n.u b := by rw [n.eq]; omega
theorem Num.lt (b : BitVec 32) : n.u b < 4294967296 := by have := b.isLt; rw [n.eq]; omega
theorem Num.of (b : BitVec 32) : BitVec.ofInt 32 (n.u b) = b := by
  rw [n.eq, BitVec.ofInt_natCast]; simp
theorem Num.mk_of (a : Int) (h0 : 0 ≤ a) (h1 : a < 4294967296) : a = n.u (BitVec.ofNat 32 a.toNat) := by
  rw [n.eq, BitVec.toNat_ofNat, Nat.mod_eq_of_lt (by omega)]; omega
theorem Num.inj (a b : BitVec 32) (h : n.u a = n.u b) : a = b := by
  rw [n.eq, n.eq] at h; exact BitVec.eq_of_toNat_eq (by omega)
theorem Num.beq (a b : BitVec 32) : (n.u a == n.u b) = (a == b) := by
  rw [Bool.eq_iff_iff, beq_iff_eq, beq_iff_eq]; exact ⟨n.inj a b, fun h => by rw [h]⟩
theorem Num.wrap (b : BitVec 32) : IntKind.u32.wrap (b.toNat : Int) = n.u b := by
  rw [IntKind.wrap_u32', n.eq]; have := b.isLt; omega
theorem Num.xor (a b : BitVec 32) : bits .xor .u32 (n.u a) (n.u b) = n.u (a ^^^ b) := by
  show IntKind.u32.wrap ((BitVec.ofInt 32 (n.u a) ^^^ BitVec.ofInt 32 (n.u b)).toNat : Int) = _
  rw [n.of, n.of, n.wrap]
theorem Num.and (a b : BitVec 32) : bits .and .u32 (n.u a) (n.u b) = n.u (a &&& b) := by
  show IntKind.u32.wrap ((BitVec.ofInt 32 (n.u a) &&& BitVec.ofInt 32 (n.u b)).toNat : Int) = _
  rw [n.of, n.of, n.wrap]
theorem Num.poly (a : BitVec 32) : bits .xor .u32 (n.u a) 2197175160 = n.u (a ^^^ C.poly) := by
  have h := n.xor a C.poly
  rwa [n.eq C.poly] at h
theorem Num.and15 (a : BitVec 32) : bits .and .u32 (n.u a) 15 = n.u (a &&& 15#32) := by
  have h := n.and a 15#32
  rwa [n.eq 15#32] at h
theorem and_one (a : BitVec 32) : a &&& 1#32 = if a.getLsbD 0 = true then 1#32 else 0#32 := by
  apply BitVec.eq_of_getLsbD_eq
  intro i hi
  rw [BitVec.getLsbD_and, BitVec.getLsbD_one]
  cases h0 : a.getLsbD 0
  · rw [if_neg (by simp)]
    by_cases h : i = 0
    · subst h; rw [h0]; simp
    · simp [h]
  · rw [if_pos rfl, BitVec.getLsbD_one]
    by_cases h : i = 0
    · subst h; rw [h0]; simp
    · simp [h]
theorem Num.odd (a : BitVec 32) : (bits .and .u32 (n.u a) 1 == 1) = a.getLsbD 0 := by
  have h := n.and a 1#32
  rw [n.eq 1#32] at h
  have h : bits .and .u32 (n.u a) 1 = _ := h
  rw [h, and_one, n.eq]
  cases a.getLsbD 0 <;> rfl
theorem Num.half (a : BitVec 32) : n.u a / (2 : Int) = n.u (a >>> 1) := by
  rw [n.eq, n.eq, BitVec.toNat_ushiftRight, Nat.shiftRight_eq_div_pow]; omega
theorem Num.half4 (a : BitVec 32) : n.u a / (16 : Int) = n.u (a >>> 4) := by
  rw [n.eq, n.eq, BitVec.toNat_ushiftRight, Nat.shiftRight_eq_div_pow]; omega
theorem Num.shr (a : BitVec 32) (k : Nat) : n.u a / (2 : Int) ^ k = n.u (a >>> k) := by
  rw [n.eq, n.eq, BitVec.toNat_ushiftRight, Nat.shiftRight_eq_div_pow]; simp
theorem Num.byte (c : UInt8) : (c.toNat : Int) = n.u (B c) := by
  have := c.toNat_lt; unfold B; rw [n.eq, BitVec.toNat_ofNat, Nat.mod_eq_of_lt (by omega)]
theorem st_true (x : BitVec 32) (h : x.getLsbD 0 = true) : x >>> 1 ^^^ poly = st x := by unfold st; rw [h]; rfl
theorem st_false (x : BitVec 32) (h : x.getLsbD 0 = false) : x >>> 1 = st x := by unfold st; rw [h]; rfl
theorem st_true' (x : BitVec 32) (h : x[0] = true) : bits .xor .u32 (n.u x / (2 : Int)) 2197175160 = n.u (st x) := by
  rw [n.half, n.poly, st_true x (by simpa using h)]
theorem st_false' (x : BitVec 32) (h : x[0] = false) : n.u x / (2 : Int) = n.u (st x) := by
  rw [n.half, st_false x (by simpa using h)]
theorem and1_i64 (q : Nat) (h : q ≤ 9223372036854775807) : bits .and .i64 (q : Int) 1 = ((q % 2 : Nat) : Int) := by
  show IntKind.i64.wrap ((BitVec.ofInt 64 (q : Int) &&& BitVec.ofInt 64 1).toNat : Int) = _
  have h2 : (BitVec.ofInt 64 1).toNat = 1 := rfl
  rw [BitVec.toNat_and, h2, BitVec.ofInt_natCast, BitVec.toNat_ofNat, Nat.mod_eq_of_lt (by omega), Nat.and_one_is_mod]
  have h3 : q % 2 < 2 := Nat.mod_lt _ (by omega)
  rcases Nat.lt_or_ge (q % 2) 1 with h4 | h4
  · rw [show q % 2 = 0 by omega]; rfl
  · rw [show q % 2 = 1 by omega]; rfl
theorem odd_i64 (q : Nat) (h : q ≤ 9223372036854775807) (h1 : q % 2 = 1) : (bits .and .i64 (q : Int) 1 == 1) = true := by rw [and1_i64 q h, h1]; rfl
theorem even_i64 (q : Nat) (h : q ≤ 9223372036854775807) (h1 : ¬ q % 2 = 1) : (bits .and .i64 (q : Int) 1 == 1) = false := by rw [and1_i64 q h, show q % 2 = 0 by omega]; rfl
theorem Num.xor_byte (a : BitVec 32) (c : UInt8) : bits .xor .u32 (n.u a) ((c.toNat : Int) % 4294967296) = n.u (a ^^^ B c) := by
  have := c.toNat_lt
  rw [show (c.toNat : Int) % 4294967296 = (c.toNat : Int) by omega, n.byte, n.xor]
theorem Num.low15 (a : BitVec 32) : n.u (a &&& 15#32) < 16 := by
  rw [n.eq, BitVec.toNat_and]
  have : a.toNat &&& 15 < 2 ^ 4 := Nat.and_lt_two_pow _ (by decide)
  show ((a.toNat &&& 15 : Nat) : Int) < 16
  omega
theorem Num.idx (a : BitVec 32) : BitVec.ofNat 32 (n.u a).toNat = a := by
  rw [n.eq, Int.toNat_natCast]; simp
theorem half_byte (x : BitVec 32) : x >>> 4 ^^^ stN 4 (x &&& 15#32) = stN 4 x := (stN_cut x 4).symm
theorem two_halves (x : BitVec 32) : stN 4 (stN 4 x) = stN 8 x := (stN_add 4 4 x).symm
theorem Num.not (a : BitVec 32) : bits .xor .u32 IntKind.u32.max (n.u a) = n.u (~~~a) := by
  have h := n.xor (BitVec.allOnes 32) a
  rw [n.eq (BitVec.allOnes 32), BitVec.allOnes_xor] at h
  exact h
theorem int_eq {k : IntKind} {a b : Int} (h : a = b) : Value.int k a = .int k b := by rw [h]

def tab (f : Nat → BitVec 32) (m : Nat) : Array Value := ((List.range m).map fun i => Value.int .u32 (n.u (f i))).toArray
theorem tab_size (f : Nat → BitVec 32) (m : Nat) : (tab n f m).size = m := by simp [tab]
theorem tab_get (f : Nat → BitVec 32) (m i : Nat) (h : i < m) : (tab n f m)[i]? = some (.int .u32 (n.u (f i))) := by simp [tab, h]
def upd (f : Nat → BitVec 32) (k : Nat) (v : BitVec 32) : Nat → BitVec 32 := fun i => if i = k then v else f i
theorem tab_set (f : Nat → BitVec 32) (m k : Nat) (v : BitVec 32) : (tab n f m).setIfInBounds k (.int .u32 (n.u v)) = tab n (upd f k v) m := by
  apply Array.ext_getElem?
  intro i
  rw [Array.getElem?_setIfInBounds]
  by_cases h : i < m
  · rw [tab_get _ _ _ _ h, tab_get _ _ _ _ h]
    by_cases e : k = i
    · subst e; simp [tab_size, h, upd]
    · rw [if_neg e]; unfold upd; rw [if_neg (fun x => e x.symm)]
  · rw [Array.getElem?_eq_none (xs := tab n f m) (i := i) (by rw [tab_size]; omega)]
    rw [Array.getElem?_eq_none (xs := tab n (upd f k v) m) (by rw [tab_size]; omega), tab_size]
    by_cases e : k = i
    · rw [if_pos e, if_neg (by omega)]
    · rw [if_neg e]
theorem tab_congr (f g : Nat → BitVec 32) (m : Nat) (h : ∀ i, i < m → f i = g i) : tab n f m = tab n g m := by
  unfold tab; congr 1; apply List.map_congr_left; intro i hi; rw [h i (List.mem_range.1 hi)]
/-- The first k entries as g says, the rest as before. -/
def upto (g : Nat → BitVec 32) (k : Nat) : Nat → BitVec 32 := fun i => if i < k then g i else 0#32
theorem upd_upto (g : Nat → BitVec 32) (k : Nat) : upd (upto g k) k (g k) = upto g (k + 1) := by
  funext i; unfold upd upto
  by_cases e : i = k
  · subst e; rw [if_pos rfl, if_pos (by omega)]
  · rw [if_neg e]; by_cases h : i < k
    · rw [if_pos h, if_pos (by omega)]
    · rw [if_neg h, if_neg (by omega)]
theorem tab_full (g : Nat → BitVec 32) (m : Nat) : tab n (upto g m) m = tab n g m := tab_congr n _ _ m fun i h => by unfold upto; rw [if_pos h]

/-- Block g of w holds the table f of n numbers. -/
def Has (w : World) (g : Nat) (t : TypeId) (f : Nat → BitVec 32) (m : Nat) : Prop := w.heap[g]? = some (.cells (tab n f m) t (0, 0))
theorem Has.cell {n : Num} {w : World} {g : Nat} {t : TypeId} {f : Nat → BitVec 32} {m : Nat} (h : Has n w g t f m) (i : Nat) (hi : i < m) : w.cell? ⟨g, i, none⟩ = some (.int .u32 (n.u (f i))) := by
  rw [cell_of_row w g i _ t (0, 0) h, tab_get n f m i hi]
theorem Has.frozen {n : Num} {w : World} {g : Nat} {t : TypeId} {f : Nat → BitVec 32} {m : Nat} (h : Has n w g t f m) (i : Nat) : w.frozen? ⟨g, i, none⟩ = false := frozen_of_row w g i _ t h
theorem Has.set {n : Num} {w : World} {g : Nat} {t : TypeId} {f : Nat → BitVec 32} {m : Nat} (h : Has n w g t f m) (i : Nat) (v : BitVec 32) : Has n (w.setCell ⟨g, i, none⟩ (.int .u32 (n.u v))) g t (upd f i v) m := by
  unfold Has; rw [heap_setCell_same w g i _ t _ h, tab_set]
theorem Has.other {n : Num} {w : World} {g : Nat} {t : TypeId} {f : Nat → BitVec 32} {m : Nat} (h : Has n w g t f m) (p : Addr) (v : Value) (hp : g ≠ p.block) : Has n (w.setCell p v) g t f m := by
  unfold Has; rw [heap_setCell_other w p g v hp]; exact h
theorem Has.below {n : Num} {w w' : World} {b g : Nat} {t : TypeId} {f : Nat → BitVec 32} {m : Nat} (h : Has n w g t f m) (hb : Below b w w') (hg : g < b) : Has n w' g t f m := by
  unfold Has; rw [hb.block g hg]; exact h
theorem tab_one (f : Nat → BitVec 32) (m : Nat) : (tab n f m).all (·.oneCell') = true := by
  rw [Array.all_eq_true_iff_forall_mem]
  intro v hv
  simp only [tab, List.mem_toArray, List.mem_map] at hv
  obtain ⟨i, _, rfl⟩ := hv
  rfl
theorem Has.row {n : Num} {w : World} {g : Nat} {t : TypeId} {f : Nat → BitVec 32} {m : Nat} (h : Has n w g t f m) (f' : Nat → BitVec 32) : Has n (w.setRow g (tab n f' m)) g t f' m := setRow_heap w g _ _ t _ h
theorem Has.row_other {n : Num} {w : World} {g : Nat} {t : TypeId} {f : Nat → BitVec 32} {m : Nat} (h : Has n w g t f m) (g' : Nat) (cs : Array Value) (hg : g ≠ g') : Has n (w.setRow g' cs) g t f m := by
  unfold Has; rw [setRow_other w g' g cs hg]; exact h
theorem below_setRow {B : Nat} {a w : World} (h : Below B a w) {g : Nat} (hg : B ≤ g) (cs : Array Value) : Below B a (w.setRow g cs) :=
  h.trans ⟨rfl, rfl, rfl, by simp, fun k hk => setRow_other w g k cs (by omega)⟩
theorem Num.ofNat (k : Nat) (h : k < 4294967296) : (k : Int) = n.u (BitVec.ofNat 32 k) := by
  rw [n.eq, BitVec.toNat_ofNat, Nat.mod_eq_of_lt (by omega)]
theorem Num.one (k : Nat) (h : k < 32) : (2 : Int) ^ k % 4294967296 = n.u (one k) := by
  have h2 : (2 : Nat) ^ k < 4294967296 := by
    have := Nat.pow_lt_pow_right (a := 2) (by omega) h
    simpa using this
  unfold C.one
  rw [n.eq, BitVec.toNat_shiftLeft, Nat.shiftLeft_eq]
  simp
theorem Num.bit (x : BitVec 32) (k : Nat) : (bits .and .u32 (n.u x / (2 : Int) ^ k) 1 == 1) = x.getLsbD k := by
  rw [n.shr, n.odd, BitVec.getLsbD_ushiftRight, Nat.add_zero]
theorem Num.zero : n.u 0#32 = 0 := by rw [n.eq]; rfl
theorem zeros16 (g : Nat → BitVec 32) : #[.int .u32 0, .int .u32 0, .int .u32 0, .int .u32 0, .int .u32 0, .int .u32 0, .int .u32 0, .int .u32 0, .int .u32 0, .int .u32 0, .int .u32 0, .int .u32 0, .int .u32 0, .int .u32 0, .int .u32 0, .int .u32 0] = tab n (upto g 0) 16 := by
  simp [tab, upto, n.zero, List.range_succ]
theorem zeros32 (g : Nat → BitVec 32) : #[.int .u32 0, .int .u32 0, .int .u32 0, .int .u32 0, .int .u32 0, .int .u32 0, .int .u32 0, .int .u32 0, .int .u32 0, .int .u32 0, .int .u32 0, .int .u32 0, .int .u32 0, .int .u32 0, .int .u32 0, .int .u32 0, .int .u32 0, .int .u32 0, .int .u32 0, .int .u32 0, .int .u32 0, .int .u32 0, .int .u32 0, .int .u32 0, .int .u32 0, .int .u32 0, .int .u32 0, .int .u32 0, .int .u32 0, .int .u32 0, .int .u32 0, .int .u32 0] = tab n (upto g 0) 32 := by
  simp [tab, upto, n.zero, List.range_succ]
theorem Has.new (w : World) (t : TypeId) (f : Nat → BitVec 32) (m : Nat) (cs : Array Value) (h : cs = tab n f m) : Has n (w.alloc (.cells cs t)) w.heap.size t f m := by
  unfold Has; rw [h]; exact heap_alloc_new w _
theorem Has.old {n : Num} {w : World} {g : Nat} {t : TypeId} {f : Nat → BitVec 32} {m : Nat} (h : Has n w g t f m) (o : Obj) (hg : g < w.heap.size) : Has n (w.alloc o) g t f m := by
  unfold Has; rw [Below.heap_alloc w o g hg]; exact h
theorem Has.lt {n : Num} {w : World} {g : Nat} {t : TypeId} {f : Nat → BitVec 32} {m : Nat} (h : Has n w g t f m) : g < w.heap.size := by
  by_cases hlt : g < w.heap.size
  · exact hlt
  · have hn : w.heap[g]? = none := by simp; omega
    unfold Has at h; rw [hn] at h; cases h
end C
end Go.Proofs.YtlkimfmilccanaaGreat.Fr
