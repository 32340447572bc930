import Derived.Test.YtlkimfmilccanaaGreatCurBase
import Derived.WalkSpells
import Derived.WalkLawsBesides
import Derived.Test.YtlkimfmilccanaaGreatProg
import Derived.Test.YtlkimfmilccanaaGreatFMath
/-
  The model's uint32 against 32 bits: U b is the number of b; what the walk's operations make of such numbers. Tables of such numbers in a block.
-/
namespace Go.Proofs.YtlkimfmilccanaaGreat.Fr
open Go.RowKit
namespace C
/-- A number for each 32 bits: kept as a letter, so that the walk never looks into it. -/
structure Num where
  u : BitVec 32 → Int
  eq : ∀ b, u b = (b.toNat : Int)
variable (n : Num)
theorem Num.nonneg (b : BitVec 32) : 0 ≤ n.u b := by rw [n.eq]; omega
theorem Num.lt (b : BitVec 32) : n.u b < 4294967296 := by have := b.isLt; rw [n.eq]; omega
theorem Num.of (b : BitVec 32) : BitVec.ofInt 32 (n.u b) = b := by
  rw [n.eq, BitVec.ofInt_natCast]; simp
theorem Num.mk_of (a : Int) (h0 : 0 ≤ a) (h1 : a < 4294967296) : a = n.u (BitVec.ofNat 32 a.toNat) := by
  rw [n.eq, BitVec.toNat_ofNat, Nat.mod_eq_of_lt (by omega)]; omega
theorem Num.inj (a b : BitVec 32) (h : n.u a = n.u b) : a = b := by
  rw [n.eq, n.eq] at h; exact BitVec.eq_of_toNat_eq (by omega)
theorem Num.beq (a b : BitVec 32) : (n.u a == n.u b) = (a == b) := by
  rw [Bool.eq_iff_iff, beq_iff_eq, beq_iff_eq]; exact ⟨n.inj a b, fun h => by rw [h]⟩
theorem Num.wrap (b : BitVec 32) : IntKind.u32.wrap (b.toNat : Int) = n.u b := by
  rw [IntKind.wrap_u32', n.eq]; have := b.isLt; omega
theorem Num.xor (a b : BitVec 32) : bits .xor .u32 (n.u a) (n.u b) = n.u (a ^^^ b) := by
  show IntKind.u32.wrap ((BitVec.ofInt 32 (n.u a) ^^^ BitVec.ofInt 32 (n.u b)).toNat : Int) = _
  rw [n.of, n.of, n.wrap]
theorem Num.and (a b : BitVec 32) : bits .and .u32 (n.u a) (n.u b) = n.u (a &&& b) := by
  show IntKind.u32.wrap ((BitVec.ofInt 32 (n.u a) &&& BitVec.ofInt 32 (n.u b)).toNat : Int) = _
  rw [n.of, n.of, n.wrap]
theorem Num.poly (a : BitVec 32) : bits .xor .u32 (n.u a) 2197175160 = n.u (a ^^^ C.poly) := by
  have h := n.xor a C.poly
  rwa [n.eq C.poly] at h
theorem Num.and15 (a : BitVec 32) : bits .and .u32 (n.u a) 15 = n.u (a &&& 15#32) := by
  have h := n.and a 15#32
  rwa [n.eq 15#32] at h
theorem and_one (a : BitVec 32) : a &&& 1#32 = if a.getLsbD 0 = true then 1#32 else 0#32 := by
  apply BitVec.eq_of_getLsbD_eq
  intro i hi
  rw [BitVec.getLsbD_and, BitVec.getLsbD_one]
  cases h0 : a.getLsbD 0
  · rw [if_neg (by simp)]
    by_cases h : i = 0
    · subst h; rw [h0]; simp
    · simp [h]
  · rw [if_pos rfl, BitVec.getLsbD_one]
    by_cases h : i = 0
    · subst h; rw [h0]; simp
    · simp [h]
theorem Num.odd (a : BitVec 32) : (bits .and .u32 (n.u a) 1 == 1) = a.getLsbD 0 := by
  have h := n.and a 1#32
  rw [n.eq 1#32] at h
  have h : bits .and .u32 (n.u a) 1 = _ := h
  rw [h, and_one, n.eq]
  cases a.getLsbD 0 <;> rfl
theorem Num.half (a : BitVec 32) : n.u a / (2 : Int) = n.u (a >>> 1) := by
  rw [n.eq, n.eq, BitVec.toNat_ushiftRight, Nat.shiftRight_eq_div_pow]; omega
theorem Num.half4 (a : BitVec 32) : n.u a / (16 : Int) = n.u (a >>> 4) := by
  rw [n.eq, n.eq, BitVec.toNat_ushiftRight, Nat.shiftRight_eq_div_pow]; omega
theorem Num.shr (a : BitVec 32) (k : Nat) : n.u a / (2 : Int) ^ k = n.u (a >>> k) := by
  rw [n.eq, n.eq, BitVec.toNat_ushiftRight, Nat.shiftRight_eq_div_pow]; simp
theorem Num.byte (c : UInt8) : (c.toNat : Int) = n.u (B c) := by
  have := c.toNat_lt; unfold B; rw [n.eq, BitVec.toNat_ofNat, Nat.mod_eq_of_lt (by omega)]
theorem st_true (x : BitVec 32) (h : x.getLsbD 0 = true) : x >>> 1 ^^^ poly = st x := by unfold st; rw [h]; rfl
theorem st_false (x : BitVec 32) (h : x.getLsbD 0 = false) : x >>> 1 = st x := by unfold st; rw [h]; rfl
theorem st_true' (x : BitVec 32) (h : x[0] = true) : bits .xor .u32 (n.u x / (2 : Int)) 2197175160 = n.u (st x) := by
  rw [n.half, n.poly, st_true x (by simpa using h)]
theorem st_false' (x : BitVec 32) (h : x[0] = false) : n.u x / (2 : Int) = n.u (st x) := by
  rw [n.half, st_false x (by simpa using h)]
theorem and1_i64 (q : Nat) (h : q ≤ 9223372036854775807) : bits .and .i64 (q : Int) 1 = ((q % 2 : Nat) : Int) := by
  show IntKind.i64.wrap ((BitVec.ofInt 64 (q : Int) &&& BitVec.ofInt 64 1).toNat : Int) = _
  have h2 : (BitVec.ofInt 64 1).toNat = 1 := rfl
  rw [BitVec.toNat_and, h2, BitVec.ofInt_natCast, BitVec.toNat_ofNat, Nat.mod_eq_of_lt (by omega), Nat.and_one_is_mod]
  have h3 : q % 2 < 2 := Nat.mod_lt _ (by omega)
  rcases Nat.lt_or_ge (q % 2) 1 with h4 | h4
  · rw [show q % 2 = 0 by omega]; rfl
  · rw [show q % 2 = 1 by omega]; rfl
theorem odd_i64 (q : Nat) (h : q ≤ 9223372036854775807) (h1 : q % 2 = 1) : (bits .and .i64 (q : Int) 1 == 1) = true := by rw [and1_i64 q h, h1]; rfl
theorem even_i64 (q : Nat) (h : q ≤ 9223372036854775807) (h1 : ¬ q % 2 = 1) : (bits .and .i64 (q : Int) 1 == 1) = false := by rw [and1_i64 q h, show q % 2 = 0 by omega]; rfl
theorem Num.xor_byte (a : BitVec 32) (c : UInt8) : bits .xor .u32 (n.u a) ((c.toNat : Int) % 4294967296) = n.u (a ^^^ B c) := by
  have := c.toNat_lt
  rw [show (c.toNat : Int) % 4294967296 = (c.toNat : Int) by omega, n.byte, n.xor]
theorem Num.low15 (a : BitVec 32) : n.u (a &&& 15#32) < 16 := by
  rw [n.eq, BitVec.toNat_and]
  have : a.toNat &&& 15 < 2 ^ 4 := Nat.and_lt_two_pow _ (by decide)
  show ((a.toNat &&& 15 : Nat) : Int) < 16
  omega
theorem Num.idx (a : BitVec 32) : BitVec.ofNat 32 (n.u a).toNat = a := by
  rw [n.eq, Int.toNat_natCast]; simp
theorem half_byte (x : BitVec 32) : x >>> 4 ^^^ stN 4 (x &&& 15#32) = stN 4 x := (stN_cut x 4).symm
theorem two_halves (x : BitVec 32) : stN 4 (stN 4 x) = stN 8 x := (stN_add 4 4 x).symm
theorem Num.not (a : BitVec 32) : bits .xor .u32 IntKind.u32.max (n.u a) = n.u (~~~a) := by
  have h := n.xor (BitVec.allOnes 32) a
  rw [n.eq (BitVec.allOnes 32), BitVec.allOnes_xor] at h
  exact h
theorem int_eq {k : IntKind} {a b : Int} (h : a = b) : Value.int k a = .int k b := by rw [h]

def tab (f : Nat → BitVec 32) (m : Nat) : Array Value := ((List.range m).map fun i => Value.int .u32 (n.u (f i))).toArray
theorem tab_size (f : Nat → BitVec 32) (m : Nat) : (tab n f m).size = m := by simp [tab]
theorem tab_get (f : Nat → BitVec 32) (m i : Nat) (h : i < m) : (tab n f m)[i]? = some (.int .u32 (n.u (f i))) := by simp [tab, h]
def upd (f : Nat → BitVec 32) (k : Nat) (v : BitVec 32) : Nat → BitVec 32 := fun i => if i = k then v else f i
theorem tab_set (f : Nat → BitVec 32) (m k : Nat) (v : BitVec 32) : (tab n f m).setIfInBounds k (.int .u32 (n.u v)) = tab n (upd f k v) m := by
  apply Array.ext_getElem?
  intro i
  rw [Array.getElem?_setIfInBounds]
  by_cases h : i < m
  · rw [tab_get _ _ _ _ h, tab_get _ _ _ _ h]
    by_cases e : k = i
    · subst e; simp [tab_size, h, upd]
    · rw [if_neg e]; unfold upd; rw [if_neg (fun x => e x.symm)]
  · rw [Array.getElem?_eq_none (xs := tab n f m) (i := i) (by rw [tab_size]; omega)]
    rw [Array.getElem?_eq_none (xs := tab n (upd f k v) m) (by rw [tab_size]; omega), tab_size]
    by_cases e : k = i
    · rw [if_pos e, if_neg (by omega)]
    · rw [if_neg e]
theorem tab_congr (f g : Nat → BitVec 32) (m : Nat) (h : ∀ i, i < m → f i = g i) : tab n f m = tab n g m := by
  unfold tab; congr 1; apply List.map_congr_left; intro i hi; rw [h i (List.mem_range.1 hi)]
/-- The first k entries as g says, the rest as before. -/
def upto (g : Nat → BitVec 32) (k : Nat) : Nat → BitVec 32 := fun i => if i < k then g i else 0#32
theorem upd_upto (g : Nat → BitVec 32) (k : Nat) : upd (upto g k) k (g k) = upto g (k + 1) := by
  funext i; unfold upd upto
  by_cases e : i = k
  · subst e; rw [if_pos rfl, if_pos (by omega)]
  · rw [if_neg e]; by_cases h : i < k
    · rw [if_pos h, if_pos (by omega)]
    · rw [if_neg h, if_neg (by omega)]
theorem tab_full (g : Nat → BitVec 32) (m : Nat) : tab n (upto g m) m = tab n g m := tab_congr n _ _ m fun i h => by unfold upto; rw [if_pos h]

/-- Block g of w holds the table f of n numbers. -/
def Has (w : World) (g : Nat) (t : TypeId) (f : Nat → BitVec 32) (m : Nat) : Prop := w.heap[g]? = some (.cells (tab n f m) t (0, 0))
theorem Has.cell {n : Num} {w : World} {g : Nat} {t : TypeId} {f : Nat → BitVec 32} {m : Nat} (h : Has n w g t f m) (i : Nat) (hi : i < m) : w.cell? ⟨g, i, none⟩ = some (.int .u32 (n.u (f i))) := by
  rw [cell_of_row w g i _ t (0, 0) h, tab_get n f m i hi]
theorem Has.frozen {n : Num} {w : World} {g : Nat} {t : TypeId} {f : Nat → BitVec 32} {m : Nat} (h : Has n w g t f m) (i : Nat) : w.frozen? ⟨g, i, none⟩ = false := frozen_of_row w g i _ t h
theorem Has.set {n : Num} {w : World} {g : Nat} {t : TypeId} {f : Nat → BitVec 32} {m : Nat} (h : Has n w g t f m) (i : Nat) (v : BitVec 32) : Has n (w.setCell ⟨g, i, none⟩ (.int .u32 (n.u v))) g t (upd f i v) m := by
  unfold Has; rw [heap_setCell_same w g i _ t _ h, tab_set]
theorem Has.other {n : Num} {w : World} {g : Nat} {t : TypeId} {f : Nat → BitVec 32} {m : Nat} (h : Has n w g t f m) (p : Addr) (v : Value) (hp : g ≠ p.block) : Has n (w.setCell p v) g t f m := by
  unfold Has; rw [heap_setCell_other w p g v hp]; exact h
theorem Has.below {n : Num} {w w' : World} {b g : Nat} {t : TypeId} {f : Nat → BitVec 32} {m : Nat} (h : Has n w g t f m) (hb : Below b w w') (hg : g < b) : Has n w' g t f m := by
  unfold Has; rw [hb.block g hg]; exact h
theorem tab_one (f : Nat → BitVec 32) (m : Nat) : (tab n f m).all (·.oneCell') = true := by
  rw [Array.all_eq_true_iff_forall_mem]
  intro v hv
  simp only [tab, List.mem_toArray, List.mem_map] at hv
  obtain ⟨i, _, rfl⟩ := hv
  rfl
theorem Has.row {n : Num} {w : World} {g : Nat} {t : TypeId} {f : Nat → BitVec 32} {m : Nat} (h : Has n w g t f m) (f' : Nat → BitVec 32) : Has n (w.setRow g (tab n f' m)) g t f' m := setRow_heap w g _ _ t _ h
theorem Has.row_other {n : Num} {w : World} {g : Nat} {t : TypeId} {f : Nat → BitVec 32} {m : Nat} (h : Has n w g t f m) (g' : Nat) (cs : Array Value) (hg : g ≠ g') : Has n (w.setRow g' cs) g t f m := by
  unfold Has; rw [setRow_other w g' g cs hg]; exact h
theorem below_setRow {B : Nat} {a w : World} (h : Below B a w) {g : Nat} (hg : B ≤ g) (cs : Array Value) : Below B a (w.setRow g cs) :=
  h.trans ⟨rfl, rfl, rfl, by simp, fun k hk => setRow_other w g k cs (by omega)⟩
theorem Num.ofNat (k : Nat) (h : k < 4294967296) : (k : Int) = n.u (BitVec.ofNat 32 k) := by
  rw [n.eq, BitVec.toNat_ofNat, Nat.mod_eq_of_lt (by omega)]
theorem Num.one (k : Nat) (h : k < 32) : (2 : Int) ^ k % 4294967296 = n.u (one k) := by
  have h2 : (2 : Nat) ^ k < 4294967296 := by
    have := Nat.pow_lt_pow_right (a := 2) (by omega) h
    simpa using this
  unfold C.one
  rw [n.eq, BitVec.toNat_shiftLeft, Nat.shiftLeft_eq]
  simp
theorem Num.bit (x : BitVec 32) (k : Nat) : (bits .and .u32 (n.u x / (2 : Int) ^ k) 1 == 1) = x.getLsbD k := by
  rw [n.shr, n.odd, BitVec.getLsbD_ushiftRight, Nat.add_zero]
theorem Num.zero : n.u 0#32 = 0 := by rw [n.eq]; rfl
theorem zeros16 (g : Nat → BitVec 32) : #[.int .u32 0, .int .u32 0, .int .u32 0, .int .u32 0, .int .u32 0, .int .u32 0, .int .u32 0, .int .u32 0, .int .u32 0, .int .u32 0, .int .u32 0, .int .u32 0, .int .u32 0, .int .u32 0, .int .u32 0, .int .u32 0] = tab n (upto g 0) 16 := by
  simp [tab, upto, n.zero, List.range_succ]
theorem zeros32 (g : Nat → BitVec 32) : #[.int .u32 0, .int .u32 0, .int .u32 0, .int .u32 0, .int .u32 0, .int .u32 0, .int .u32 0, .int .u32 0, .int .u32 0, .int .u32 0, .int .u32 0, .int .u32 0, .int .u32 0, .int .u32 0, .int .u32 0, .int .u32 0, .int .u32 0, .int .u32 0, .int .u32 0, .int .u32 0, .int .u32 0, .int .u32 0, .int .u32 0, .int .u32 0, .int .u32 0, .int .u32 0, .int .u32 0, .int .u32 0, .int .u32 0, .int .u32 0, .int .u32 0, .int .u32 0] = tab n (upto g 0) 32 := by
  simp [tab, upto, n.zero, List.range_succ]
theorem Has.new (w : World) (t : TypeId) (f : Nat → BitVec 32) (m : Nat) (cs : Array Value) (h : cs = tab n f m) : Has n (w.alloc (.cells cs t)) w.heap.size t f m := by
  unfold Has; rw [h]; exact heap_alloc_new w _
theorem Has.old {n : Num} {w : World} {g : Nat} {t : TypeId} {f : Nat → BitVec 32} {m : Nat} (h : Has n w g t f m) (o : Obj) (hg : g < w.heap.size) : Has n (w.alloc o) g t f m := by
  unfold Has; rw [Below.heap_alloc w o g hg]; exact h
theorem Has.lt {n : Num} {w : World} {g : Nat} {t : TypeId} {f : Nat → BitVec 32} {m : Nat} (h : Has n w g t f m) : g < w.heap.size := by
  by_cases hlt : g < w.heap.size
  · exact hlt
  · have hn : w.heap[g]? = none := by simp; omega
    unfold Has at h; rw [hn] at h; cases h
end C
end Go.Proofs.YtlkimfmilccanaaGreat.Fr
/-
  The walks of the leaves: step, Step; halfBytes, byteSteps.
-/
namespace Go.Proofs.YtlkimfmilccanaaGreat.Fr
open Go.RowKit C
attribute [local go_sem] Num.odd
set_option maxHeartbeats 400000 in
theorem step_any (n : Num) (x : BitVec 32) (w : World) :
    Calls Tryz.prog 151 #[.int .u32 (n.u x)] w fun e w' => e = .returned (.int .u32 (n.u (st x))) ∧ w' = w := by
  have h0 := n.nonneg x
  have h1 := n.lt x
  go_enter Tryz.func151, Tryz.ntmps151
  go_wp2
  all_goals go_ret
  · exact ⟨ret_int (st_true' n x ‹_›), rfl⟩
  · exact ⟨ret_int (st_false' n x ‹_›), rfl⟩
set_option maxHeartbeats 400000 in
theorem refStep_any (n : Num) (x : BitVec 32) (w : World) :
    Calls Tryz.prog 165 #[.int .u32 (n.u x)] w fun e w' => e = .returned (.int .u32 (n.u (st x))) ∧ w' = w := by
  have h0 := n.nonneg x
  have h1 := n.lt x
  go_enter Tryz.func165, Tryz.ntmps165
  go_wp2
  all_goals go_ret
  · exact ⟨ret_int (st_true' n x ‹_›), rfl⟩
  · exact ⟨ret_int (st_false' n x ‹_›), rfl⟩
theorem infoHalf (n : Num) (f : Nat → BitVec 32) : (Tryz.prog.info? 189).map (·.size) = some (tab n f 16).size := by rw [tab_size]; kernel_rfl
set_option maxHeartbeats 400000 in
theorem half_any (n : Num) (w : World) :
    Calls Tryz.prog 132 #[] w fun e w' => e = .returned (.agg (tab n (fun i => stN 4 (BitVec.ofNat 32 i)) 16)) ∧ Below w.heap.size w w' := by
  go_enter Tryz.func132, Tryz.ntmps132
  go_wp2
  go_loopw [4] (fun i wr => ∃ k : Nat, k ≤ 16 ∧ i = .int .i64 k ∧ Has n wr (w.heap.size + 1) 189 (upto (fun i => stN 4 (BitVec.ofNat 32 i)) k) 16 ∧ Has n wr w.heap.size 189 (upto (fun _ => 0#32) 0) 16 ∧ Below w.heap.size w wr) (fun i _ => 16 - (intOf i).toNat)
  case atStart =>
    refine ⟨0, by omega, rfl, ?_, ?_, ((Below.refl _ _).alloc (Nat.le_refl _) _).alloc (by simp) _⟩
    · have := Has.new n (w.alloc (.cells #[.int .u32 0, .int .u32 0, .int .u32 0, .int .u32 0, .int .u32 0, .int .u32 0, .int .u32 0, .int .u32 0, .int .u32 0, .int .u32 0, .int .u32 0, .int .u32 0, .int .u32 0, .int .u32 0, .int .u32 0, .int .u32 0] 189)) 189 _ 16 _ (zeros16 n (fun i => stN 4 (BitVec.ofNat 32 i)))
      simpa using this
    · exact (Has.new n w 189 _ 16 _ (zeros16 n _)).old _ (by simp)
  case round =>
    obtain ⟨k, hk, rfl, ht, hz, hb⟩ := hrel
    by_cases hlt : k < 16
    · have hc := ht.cell k hlt
      have hf := ht.frozen k
      have hd : decide ((k : Int) < 16) = true := by simp; omega
      go_wp2
      go_loop [3, 9] (fun x j => ∃ q : Nat, q ≤ 4 ∧ j = .int .i64 q ∧ x = .int .u32 (n.u (stN q (BitVec.ofNat 32 k)))) (fun _ j => 4 - (intOf j).toNat)
      case atStart => exact ⟨0, by omega, rfl, int_eq (n.ofNat k (by omega))⟩
      case round =>
        obtain ⟨q, hq, rfl, rfl⟩ := hrel
        by_cases hl : q < 4
        · go_wp2_with (go_at_call 151; refine (step_any n _ _).mono ?_; rintro e w' ⟨rfl, rfl⟩)
          go_round
          case rel => exact ⟨q + 1, by omega, by go_num, int_eq (by rw [stN_succ])⟩
          case measure => simp [intOf]; omega
        · have hq4 : q = 4 := by omega
          subst hq4
          go_wp2
          go_roundw
          case rel =>
            refine ⟨k + 1, by omega, by go_num, ?_, hz.other _ _ (by simp), hb.setCell (by simp) _⟩
            have := ht.set k (stN 4 (BitVec.ofNat 32 k))
            rw [upd_upto (fun i => stN 4 (BitVec.ofNat 32 i)) k] at this
            exact this
          case measure => simp [intOf]; omega
    · have hk16 : k = 16 := by omega
      subst hk16
      go_wp2_with (first | refine wpList_load_row rfl 189 _ rfl (w.heap.size + 1) rfl 189 _ (0, 0) _ ht Tryz.underlying189 rfl (infoHalf n _) ?_ | refine wpList_store_row rfl 189 _ _ rfl w.heap.size _ rfl rfl 189 _ hz (infoHalf n _) (by rw [tab_size, tab_size]) (tab_one n _ _) ?_)
      exact bodyPost_ret (results_cell_row rfl _ _ w.heap.size 189 _ (0, 0) _ rfl (hz.row _) Tryz.underlying189 rfl (infoHalf n _)) rfl ⟨by rw [tab_full], below_setRow hb (Nat.le_refl _) _⟩
end Go.Proofs.YtlkimfmilccanaaGreat.Fr
namespace Go.Proofs.YtlkimfmilccanaaGreat.Fr
open Go.RowKit C
theorem take_snoc (s : ByteArray) (k : Nat) (h : k < s.size) : s.data.toList.take (k + 1) = s.data.toList.take k ++ [s[k]] := by
  rw [List.take_succ_eq_append_getElem (by simpa using h)]; rfl
attribute [local go_sem] Num.xor Num.xor_byte Num.and15 Num.half4
set_option maxHeartbeats 400000 in
theorem turn_any (n : Num) (x : BitVec 32) (s : ByteArray) (w : World) (hs : s.size ≤ maxLen) :
    Calls Tryz.prog 101 #[.int .u32 (n.u x), .string s] w fun e w' => e = .returned (.int .u32 (n.u (tn x s.data.toList))) ∧ Below w.heap.size w w' := by
  unfold maxLen at hs
  go_enter Tryz.func101, Tryz.ntmps101
  go_wp2_with fail
  refine (half_any n _).mono ?_
  rintro e w1 ⟨rfl, hb1⟩
  have hm0 := Has.new n w1 189 _ 16 _ (zeros16 n (fun _ => 0#32))
  have hm1 := hm0.row (fun i => stN 4 (BitVec.ofNat 32 i))
  have hs1 : w.heap.size ≤ w1.heap.size := hb1.size
  go_wp2_with (refine wpList_store_row rfl 189 _ _ rfl w1.heap.size (tab n (fun i => stN 4 (BitVec.ofNat 32 i)) 16) rfl rfl 189 (tab n (upto (fun _ => 0#32) 0) 16) hm0 (infoHalf n _) ((tab_size n _ _).trans (tab_size n _ _).symm) (tab_one n _ _) ?_)
  have hb2 := below_setRow (hb1.alloc hs1 (.cells #[.int .u32 0, .int .u32 0, .int .u32 0, .int .u32 0, .int .u32 0, .int .u32 0, .int .u32 0, .int .u32 0, .int .u32 0, .int .u32 0, .int .u32 0, .int .u32 0, .int .u32 0, .int .u32 0, .int .u32 0, .int .u32 0] 189)) hs1 (tab n (fun i => stN 4 (BitVec.ofNat 32 i)) 16)
  generalize (w1.alloc (.cells #[.int .u32 0, .int .u32 0, .int .u32 0, .int .u32 0, .int .u32 0, .int .u32 0, .int .u32 0, .int .u32 0, .int .u32 0, .int .u32 0, .int .u32 0, .int .u32 0, .int .u32 0, .int .u32 0, .int .u32 0, .int .u32 0] 189)).setRow w1.heap.size (tab n (fun i => stN 4 (BitVec.ofNat 32 i)) 16) = w2 at hm1 hb2 ⊢
  clear hm0
  have hc : ∀ y : BitVec 32, w2.cell? ⟨w1.heap.size, (n.u (y &&& 15#32)).toNat, none⟩ = some (.int .u32 (n.u (stN 4 (y &&& 15#32)))) := by
    intro y
    have h1 := n.low15 y
    have h0 := n.nonneg (y &&& 15#32)
    have := hm1.cell (n.u (y &&& 15#32)).toNat (by omega)
    rw [n.idx] at this
    exact this
  have hl := n.low15
  have hn := n.nonneg
  go_loop [0, 10] (fun y i => ∃ k : Nat, k ≤ s.size ∧ i = .int .i64 k ∧ y = .int .u32 (n.u (tn x (s.data.toList.take k)))) (fun _ i => s.size - (intOf i).toNat)
  case atStart => exact ⟨0, Nat.zero_le _, rfl, rfl⟩
  case round =>
    obtain ⟨k, hk, rfl, rfl⟩ := hrel
    by_cases hlt : k < s.size
    · have HT := hide (take_snoc s k hlt)
      go_wp2
      go_round
      case rel =>
        refine ⟨k + 1, by omega, by go_num, int_eq ?_⟩
        rw [HT.out, tn_append, half_byte, half_byte, two_halves]; rfl
      case measure => simp [intOf]; omega
    · go_wp2
      go_ret
      exact ⟨ret_int (by rw [List.take_of_length_le (by simp; omega)]), hb2⟩
end Go.Proofs.YtlkimfmilccanaaGreat.Fr
/-
  On, Sum; the document's Sum and On.
-/
namespace Go.Proofs.YtlkimfmilccanaaGreat.Fr
open Go.RowKit C
attribute [local go_sem] Num.not Num.xor Num.xor_byte
set_option maxHeartbeats 400000 in
theorem on_any (n : Num) (x : BitVec 32) (s : ByteArray) (w : World) (hs : s.size ≤ maxLen) :
    Calls Tryz.prog 69 #[.int .u32 (n.u x), .string s] w fun e w' => e = .returned (.int .u32 (n.u (on x s.data.toList))) ∧ Below w.heap.size w w' := by
  go_enter Tryz.func69, Tryz.ntmps69
  go_wp2_with fail
  refine (turn_any n _ s _ hs).mono ?_
  rintro e w1 ⟨rfl, hb1⟩
  go_wp2
  go_ret
  exact ⟨rfl, hb1⟩
set_option maxHeartbeats 400000 in
theorem sum_any (n : Num) (s : ByteArray) (w : World) (hs : s.size ≤ maxLen) :
    Calls Tryz.prog 36 #[.string s] w fun e w' => e = .returned (.int .u32 (n.u (on 0#32 s.data.toList))) ∧ Below w.heap.size w w' := by
  have h := on_any n 0#32 s w hs
  rw [n.zero] at h
  have H := hide h
  clear h
  go_enter Tryz.func36, Tryz.ntmps36
  go_wp2_with fail
  refine H.out.mono ?_
  rintro e w1 ⟨rfl, hb1⟩
  go_wp2
  go_ret
  exact ⟨rfl, hb1⟩
set_option maxHeartbeats 400000 in
theorem refOn_any (n : Num) (x : BitVec 32) (s : ByteArray) (w : World) (hs : s.size ≤ maxLen) :
    Calls Tryz.prog 143 #[.int .u32 (n.u x), .string s] w fun e w' => e = .returned (.int .u32 (n.u (on x s.data.toList))) ∧ w' = w := by
  unfold maxLen at hs
  go_enter Tryz.func143, Tryz.ntmps143
  go_wp2
  go_loop [5, 6] (fun y i => ∃ k : Nat, k ≤ s.size ∧ i = .int .i64 k ∧ y = .int .u32 (n.u (tn (~~~x) (s.data.toList.take k)))) (fun _ i => s.size - (intOf i).toNat)
  case atStart => exact ⟨0, Nat.zero_le _, rfl, rfl⟩
  case round =>
    obtain ⟨k, hk, rfl, rfl⟩ := hrel
    by_cases hlt : k < s.size
    · have HT := hide (take_snoc s k hlt)
      have hd : decide ((k : Int) < (s.size : Int)) = true := by simp; omega
      go_wp2
      go_loop [5, 7] (fun y j => ∃ q : Nat, q ≤ 8 ∧ j = .int .i64 q ∧ y = .int .u32 (n.u (stN q (tn (~~~x) (s.data.toList.take k) ^^^ B s[k])))) (fun _ j => 8 - (intOf j).toNat)
      case atStart => exact ⟨0, by omega, rfl, rfl⟩
      case round =>
        obtain ⟨q, hq, rfl, rfl⟩ := hrel
        by_cases hl : q < 8
        · go_wp2_with (go_at_call 165; refine (refStep_any n _ _).mono ?_; rintro e w' ⟨rfl, rfl⟩)
          go_round
          case rel => exact ⟨q + 1, by omega, by go_num, int_eq (by rw [stN_succ])⟩
          case measure => simp [intOf]; omega
        · have hq8 : q = 8 := by omega
          subst hq8
          go_wp2
          go_round
          case rel =>
            refine ⟨k + 1, by omega, by go_num, int_eq ?_⟩
            rw [HT.out, tn_append]; rfl
          case measure => simp [intOf]; omega
    · go_wp2
      go_ret
      exact ⟨ret_int (by rw [List.take_of_length_le (by simp; omega)]; rfl), rfl⟩
set_option maxHeartbeats 400000 in
theorem refSum_any (n : Num) (s : ByteArray) (w : World) (hs : s.size ≤ maxLen) :
    Calls Tryz.prog 117 #[.string s] w fun e w' => e = .returned (.int .u32 (n.u (on 0#32 s.data.toList))) ∧ w' = w := by
  have h := refOn_any n 0#32 s w hs
  rw [n.zero] at h
  have H := hide h
  clear h
  go_enter Tryz.func117, Tryz.ntmps117
  go_wp2_with fail
  refine H.out.mono ?_
  rintro e w1 ⟨rfl, rfl⟩
  go_wp2
  go_ret
  exact ⟨rfl, rfl⟩
end Go.Proofs.YtlkimfmilccanaaGreat.Fr
/-
  The width of each kind of number, out of the library's Len64.
-/
namespace Go.Proofs.YtlkimfmilccanaaGreat.Fr
open Go.RowKit
section
variable {P : Program}
theorem wpList_index_lit {ops : Array Oper} {rest : List Oper} {o : Oper} {a : Act} {w : World} {Q : Exit → Act → World → Prop} (hgd : o.guard = none) (t : TypeId) (s x : Operand) (ho : o.op = .index t s x) (r : Value)
    (hr : (Instr.index t (a.eval s) (a.eval x)).run P w = .ok r w) (h : wpList P ops Q rest (a.put o.dst r) w) : wpList P ops Q (o :: rest) a w := by
  refine wpList_plain hgd fun K hK => ?_
  unfold Oper.wp execOp
  simp only [ho, Sem.run_bind, Sem.run_pure, Result.andThen_ok, hr]
  exact hK _ _ h
end
set_option maxRecDepth 20000 in
set_option maxHeartbeats 1000000 in
theorem len64_32 (w : World) : Calls Tryz.prog 129 #[.int .u64 4294967295] w fun e w' => e = .returned (.int .i64 32) ∧ w = w' := by
  go_enter Tryz.func129, Tryz.ntmps129
  go_wp2_with (refine wpList_index_lit rfl _ _ _ rfl (.int .u8 8) ?_ ?_; · kernel_rfl)
  go_ret
  exact ⟨rfl, rfl⟩
theorem width_32 (w : World) : Calls Tryz.prog 153 #[] w fun e w' => e = .returned (.int .i64 4) ∧ w = w' := by
  go_enter Tryz.func153, Tryz.ntmps153
  go_wp2_with fail
  refine (len64_32 _).mono ?_
  rintro e w1 ⟨rfl, rfl⟩
  go_wp2
  go_ret
  exact ⟨rfl, rfl⟩
set_option maxRecDepth 20000 in
set_option maxHeartbeats 1000000 in
theorem len64_64 (w : World) : Calls Tryz.prog 129 #[.int .u64 18446744073709551615] w fun e w' => e = .returned (.int .i64 64) ∧ w = w' := by
  go_enter Tryz.func129, Tryz.ntmps129
  go_wp2_with (refine wpList_index_lit rfl _ _ _ rfl (.int .u8 8) ?_ ?_; · kernel_rfl)
  go_ret
  exact ⟨rfl, rfl⟩
theorem width_64 (w : World) : Calls Tryz.prog 152 #[] w fun e w' => e = .returned (.int .i64 8) ∧ w = w' := by
  go_enter Tryz.func152, Tryz.ntmps152
  go_wp2_with fail
  refine (len64_64 _).mono ?_
  rintro e w1 ⟨rfl, rfl⟩
  go_wp2
  go_ret
  exact ⟨rfl, rfl⟩
end Go.Proofs.YtlkimfmilccanaaGreat.Fr
/-
  lay: a number's bytes behind others, of each kind.
-/
namespace Go.Proofs.YtlkimfmilccanaaGreat.Fr
open Go.RowKit
theorem wrap8_digit (x n j m : Nat) (hm : 8 * (n - 1 - j) = m) : IntKind.u8.wrap ((x : Int) / (2 : Int) ^ m) = ((digit x n j).toNat : Int) := by
  unfold digit
  rw [hm, toNat_ofNat8]
  have e : (x : Int) / (2 : Int) ^ m = ((x / 2 ^ m : Nat) : Int) := by simp
  rw [e]
  simp [IntKind.wrap, IntKind.bits, IntKind.signed]
theorem conv_u8 (t : TypeId) (k : IntKind) (Z : Int) (ht : (Tryz.prog.underlying t).isSome = true) (w : World) : (convert t 5 (.int k Z)).run Tryz.prog w = .ok (.int .u8 (IntKind.u8.wrap Z)) w := by
  have h := run_convert_int (P := Tryz.prog) (w := w) t 5 k Z ht (by kernel_rfl)
  rw [show Tryz.prog.intKind 5 = .u8 by kernel_rfl] at h
  exact h
set_option maxHeartbeats 1000000 in
theorem lay_32 (X : Int) (x : Nat) (hX : X = (x : Int)) (v : Value) (l : List UInt8) (B : Nat) (w : World) (hB : Bytes w B v l) (hs : B ≤ w.heap.size) (hl : l.length + 4 ≤ 140737488355328) :
    Calls Tryz.prog 134 #[v, .int .u32 X] w fun e w' => ∃ v', e = .returned v' ∧ Bytes w' B v' (l ++ nb x 4) ∧ Mv w v w' v' := by
  have HL := hide hl
  have HX := hide hX
  clear hl hX
  go_enter Tryz.func134, Tryz.ntmps134
  go_wp2_with fail
  refine (width_32 _).mono ?_
  rintro e w1 ⟨rfl, rfl⟩
  go_wp2
  go_loopw [0, 5] (fun b i wr => ∃ k : Nat, k ≤ 4 ∧ i = .int .i64 ((k : Int) - 1) ∧ Bytes wr B b (l ++ (List.range (4 - k)).map (digit x 4)) ∧ Mv w v wr b) (fun _ i _ => (intOf i + 1).toNat)
  case atStart => exact ⟨4, by omega, rfl, by rw [Nat.sub_self, List.range_zero, List.map_nil, List.append_nil]; exact hB, Mv.refl _ _⟩
  case round =>
    clear hB
    obtain ⟨k, hk, rfl, hB, hM⟩ := hrel
    have hs' : B ≤ wr.heap.size := Nat.le_trans hs hM.gr.size
    by_cases hlt : 0 < k
    · have h1 : (0 : Int) ≤ (k : Int) - 1 := by omega
      have hd : decide ((k : Int) - 1 ≥ 0) = true := by simp; omega
      obtain ⟨Z, hZ⟩ : ∃ Z : Int, X / (2 : Int) ^ (8 * (k - 1)) = Z := ⟨_, rfl⟩
      have hc : ∀ w : World, (convert 88 5 (.int .u32 Z)).run Tryz.prog w = .ok (.int .u8 ((digit x 4 (4 - k)).toNat : Int)) w := fun w => by
        rw [← wrap8_digit x 4 (4 - k) (8 * (k - 1)) (by omega), ← HX.out, hZ]
        exact conv_u8 88 .u32 Z (by kernel_rfl) w
      have HZ := hide hZ
      have HC := hide hc
      clear hZ hc
      have hll := HL.out
      obtain ⟨L, hL⟩ : ∃ L, l ++ (List.range (4 - k)).map (digit x 4) = L := ⟨_, rfl⟩
      have HLL : Hid (L.length + 1 ≤ 140737488355328) := by
        show _ ≤ _
        rw [← hL, List.length_append, List.length_map, List.length_range]; omega
      rw [hL] at hB
      have HE := hide hL
      clear hll hL
      go_wp2_with (first | (refine wpList_shr rfl _ _ _ _ rfl .u32 .i64 X _ Z (by rfl) (by rfl) (8 * (k - 1)) (by omega) (by show _ ≤ 32; omega) HZ.out ?_) | (refine wpList_conv rfl _ _ _ rfl .u32 .u8 Z _ (by rfl) (HC.out _) ?_) | (at_builtin; refine wpList_append_byte rfl _ _ rfl B _ L (digit x 4 (4 - k)) _ rfl (by rfl) hB (by rfl) rfl HLL.out hs' ?_; intro g cap w5 hB5 hM5))
      go_roundw
      case rel =>
        refine ⟨k - 1, by omega, by congr 1; omega, ?_, hM.trans hM5⟩
        rw [← HE.out, List.append_assoc, range_snoc, show 4 - k + 1 = 4 - (k - 1) by omega] at hB5
        rw [HE.out] at hB5
        exact hB5
      case measure => simp [intOf]; omega
    · have hk0 : k = 0 := by omega
      subst hk0
      go_wp2
      go_ret
      exact ⟨_, rfl, hB, hM⟩
set_option maxHeartbeats 1000000 in
theorem lay_64 (X : Int) (x : Nat) (hX : X = (x : Int)) (v : Value) (l : List UInt8) (B : Nat) (w : World) (hB : Bytes w B v l) (hs : B ≤ w.heap.size) (hl : l.length + 8 ≤ 140737488355328) :
    Calls Tryz.prog 133 #[v, .int .u64 X] w fun e w' => ∃ v', e = .returned v' ∧ Bytes w' B v' (l ++ nb x 8) ∧ Mv w v w' v' := by
  have HL := hide hl
  have HX := hide hX
  clear hl hX
  go_enter Tryz.func133, Tryz.ntmps133
  go_wp2_with fail
  refine (width_64 _).mono ?_
  rintro e w1 ⟨rfl, rfl⟩
  go_wp2
  go_loopw [0, 5] (fun b i wr => ∃ k : Nat, k ≤ 8 ∧ i = .int .i64 ((k : Int) - 1) ∧ Bytes wr B b (l ++ (List.range (8 - k)).map (digit x 8)) ∧ Mv w v wr b) (fun _ i _ => (intOf i + 1).toNat)
  case atStart => exact ⟨8, by omega, rfl, by rw [Nat.sub_self, List.range_zero, List.map_nil, List.append_nil]; exact hB, Mv.refl _ _⟩
  case round =>
    clear hB
    obtain ⟨k, hk, rfl, hB, hM⟩ := hrel
    have hs' : B ≤ wr.heap.size := Nat.le_trans hs hM.gr.size
    by_cases hlt : 0 < k
    · have h1 : (0 : Int) ≤ (k : Int) - 1 := by omega
      have hd : decide ((k : Int) - 1 ≥ 0) = true := by simp; omega
      obtain ⟨Z, hZ⟩ : ∃ Z : Int, X / (2 : Int) ^ (8 * (k - 1)) = Z := ⟨_, rfl⟩
      have hc : ∀ w : World, (convert 158 5 (.int .u64 Z)).run Tryz.prog w = .ok (.int .u8 ((digit x 8 (8 - k)).toNat : Int)) w := fun w => by
        rw [← wrap8_digit x 8 (8 - k) (8 * (k - 1)) (by omega), ← HX.out, hZ]
        exact conv_u8 158 .u64 Z (by kernel_rfl) w
      have HZ := hide hZ
      have HC := hide hc
      clear hZ hc
      have hll := HL.out
      obtain ⟨L, hL⟩ : ∃ L, l ++ (List.range (8 - k)).map (digit x 8) = L := ⟨_, rfl⟩
      have HLL : Hid (L.length + 1 ≤ 140737488355328) := by
        show _ ≤ _
        rw [← hL, List.length_append, List.length_map, List.length_range]; omega
      rw [hL] at hB
      have HE := hide hL
      clear hll hL
      go_wp2_with (first | (refine wpList_shr rfl _ _ _ _ rfl .u64 .i64 X _ Z (by rfl) (by rfl) (8 * (k - 1)) (by omega) (by show _ ≤ 64; omega) HZ.out ?_) | (refine wpList_conv rfl _ _ _ rfl .u64 .u8 Z _ (by rfl) (HC.out _) ?_) | (at_builtin; refine wpList_append_byte rfl _ _ rfl B _ L (digit x 8 (8 - k)) _ rfl (by rfl) hB (by rfl) rfl HLL.out hs' ?_; intro g cap w5 hB5 hM5))
      go_roundw
      case rel =>
        refine ⟨k - 1, by omega, by congr 1; omega, ?_, hM.trans hM5⟩
        rw [← HE.out, List.append_assoc, range_snoc, show 8 - k + 1 = 8 - (k - 1) by omega] at hB5
        rw [HE.out] at hB5
        exact hB5
      case measure => simp [intOf]; omega
    · have hk0 : k = 0 := by omega
      subst hk0
      go_wp2
      go_ret
      exact ⟨_, rfl, hB, hM⟩
end Go.Proofs.YtlkimfmilccanaaGreat.Fr
