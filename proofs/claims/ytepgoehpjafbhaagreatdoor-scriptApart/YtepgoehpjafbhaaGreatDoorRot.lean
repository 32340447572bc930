import Derived.WalkKit
import Derived.StillTail
import Derived.Deep.Quiet
import Derived.Test.YtepgoehpjafbhaaGreatDoorProg
import Derived.WalkSpells
import Derived.WalkLawsBesides
import Derived.Laws.CopyRow
import Derived.Deep.QuietTactic
import Derived.BigQuiet
/-
  THE PLAIN MATHEMATICS OF SHA-256: a block's words, its rounds, a text's blocks, its padding. Nothing of the program.
-/
namespace Go.Proofs.YtepgoehpjafbhaaGreatDoor
namespace S
def rot (k : Nat) (x : BitVec 32) : BitVec 32 := x >>> k ||| x <<< (32 - k)
def s0 (x : BitVec 32) : BitVec 32 := rot 7 x ^^^ rot 18 x ^^^ x >>> 3
def s1 (x : BitVec 32) : BitVec 32 := rot 17 x ^^^ rot 19 x ^^^ x >>> 10
def S0 (x : BitVec 32) : BitVec 32 := rot 2 x ^^^ rot 13 x ^^^ rot 22 x
def S1 (x : BitVec 32) : BitVec 32 := rot 6 x ^^^ rot 11 x ^^^ rot 25 x
def ch (e f g : BitVec 32) : BitVec 32 := (e &&& f) ^^^ (~~~e &&& g)
def maj (a b c : BitVec 32) : BitVec 32 := (a &&& b) ^^^ (a &&& c) ^^^ (b &&& c)
def Ks : List (BitVec 32) := [0x428a2f98#32, 0x71374491#32, 0xb5c0fbcf#32, 0xe9b5dba5#32, 0x3956c25b#32, 0x59f111f1#32, 0x923f82a4#32, 0xab1c5ed5#32,
  0xd807aa98#32, 0x12835b01#32, 0x243185be#32, 0x550c7dc3#32, 0x72be5d74#32, 0x80deb1fe#32, 0x9bdc06a7#32, 0xc19bf174#32,
  0xe49b69c1#32, 0xefbe4786#32, 0x0fc19dc6#32, 0x240ca1cc#32, 0x2de92c6f#32, 0x4a7484aa#32, 0x5cb0a9dc#32, 0x76f988da#32,
  0x983e5152#32, 0xa831c66d#32, 0xb00327c8#32, 0xbf597fc7#32, 0xc6e00bf3#32, 0xd5a79147#32, 0x06ca6351#32, 0x14292967#32,
  0x27b70a85#32, 0x2e1b2138#32, 0x4d2c6dfc#32, 0x53380d13#32, 0x650a7354#32, 0x766a0abb#32, 0x81c2c92e#32, 0x92722c85#32,
  0xa2bfe8a1#32, 0xa81a664b#32, 0xc24b8b70#32, 0xc76c51a3#32, 0xd192e819#32, 0xd6990624#32, 0xf40e3585#32, 0x106aa070#32,
  0x19a4c116#32, 0x1e376c08#32, 0x2748774c#32, 0x34b0bcb5#32, 0x391c0cb3#32, 0x4ed8aa4a#32, 0x5b9cca4f#32, 0x682e6ff3#32,
  0x748f82ee#32, 0x78a5636f#32, 0x84c87814#32, 0x8cc70208#32, 0x90befffa#32, 0xa4506ceb#32, 0xbef9a3f7#32, 0xc67178f2#32]
def K (t : Nat) : BitVec 32 := Ks.getD t 0#32
def Fs : List (BitVec 32) := [0x6a09e667#32, 0xbb67ae85#32, 0x3c6ef372#32, 0xa54ff53a#32, 0x510e527f#32, 0x9b05688c#32, 0x1f83d9ab#32, 0x5be0cd19#32]
def first (i : Nat) : BitVec 32 := Fs.getD i 0#32
def B (c : UInt8) : BitVec 32 := BitVec.ofNat 32 c.toNat
/-- Word t of a block. -/
def word (b : Nat → UInt8) (t : Nat) : BitVec 32 := B (b (4 * t)) <<< 24 ||| B (b (4 * t + 1)) <<< 16 ||| B (b (4 * t + 2)) <<< 8 ||| B (b (4 * t + 3))
def upd {α : Type} (f : Nat → α) (k : Nat) (v : α) : Nat → α := fun i => if i = k then v else f i
/-- The words behind k steps of growth. -/
def grown (m : Nat → BitVec 32) : Nat → Nat → BitVec 32
  | 0 => m
  | k + 1 => upd (grown m k) (16 + k) (grown m k k + s0 (grown m k (k + 1)) + grown m k (k + 9) + s1 (grown m k (k + 14)))
/-- a..h behind k rounds, h first of the tuple's places 0..7. -/
def round (k w : BitVec 32) (s : Nat → BitVec 32) : Nat → BitVec 32 :=
  let u := s 7 + S1 (s 4) + ch (s 4) (s 5) (s 6) + k + w
  let v := S0 (s 0) + maj (s 0) (s 1) (s 2)
  fun i => match i with
    | 0 => u + v | 1 => s 0 | 2 => s 1 | 3 => s 2 | 4 => s 3 + u | 5 => s 4 | 6 => s 5 | 7 => s 6 | _ => 0#32
def rounds (w : Nat → BitVec 32) (s : Nat → BitVec 32) : Nat → Nat → BitVec 32
  | 0 => s
  | k + 1 => round (K k) (w k) (rounds w s k)
def words (b : Nat → UInt8) : Nat → BitVec 32 := grown (fun i => if i < 16 then word b i else 0#32) 48
def turn (s : Nat → BitVec 32) (b : Nat → UInt8) : Nat → BitVec 32 := fun i => s i + rounds (words b) s 64 i
/-- The state behind k blocks. -/
def blocks (b : Nat → UInt8) : Nat → Nat → BitVec 32
  | 0 => first
  | k + 1 => turn (blocks b k) (fun i => b (64 * k + i))
def byteAt (L : List UInt8) (i : Nat) : UInt8 := L.getD i 0
def told (s : Nat → BitVec 32) (i : Nat) : UInt8 := UInt8.ofNat ((s (i / 4)).toNat / 2 ^ (24 - 8 * (i % 4)))
end S
end Go.Proofs.YtepgoehpjafbhaaGreatDoor
/-
  A REGION THAT DRAWS ITS ORDER, WHOSE FIRST n OPERATIONS LEAVE A CLASS OF WORLDS (one value in all of them) AND WHOSE LAST ONES ARE FORCED (each waits for the one before, the first of them for all): ONE WALK IN THE ORDER OF THE TEXT. The library's two theorems (quiet; still with a tail), joined.
-/
namespace Go.Proofs.YtepgoehpjafbhaaGreatDoor
section
variable {P : Program} {ops : Array Oper} {md : Region.Mode} {C : World → Prop}
def wpAnyQL (P : Program) (md : Region.Mode) (ops : Array Oper) (C : World → Prop) (n : Nat) (L : Array Bool → Act → Prop) : Nat → Array Bool → Act → Prop
  | 0, listed, a => L listed a
  | f + 1, listed, a =>
    Region.ready md ops listed ≠ [] ∧ ∀ i ∈ Region.ready md ops listed, i < n ∧ qOp P ops C i (wpAnyQL P md ops C n L f (listed.setIfInBounds i true)) a
theorem wpAny_of_headQ {n g : Nat} {L : Array Bool → Act → Prop} {Q' : Exit → Act → World → Prop} (hL : ∀ listed a w, C w → L listed a → wpAny P md ops Q' g listed a w) :
    ∀ (f : Nat) (listed : Array Bool) (a : Act) (w : World), C w → wpAnyQL P md ops C n L f listed a → wpAny P md ops Q' (f + g) listed a w
  | 0, listed, a, w, hw, h => by rw [Nat.zero_add]; exact hL _ _ _ hw h
  | f + 1, listed, a, w, hw, h => by
    rw [show f + 1 + g = (f + g) + 1 by omega]
    exact ⟨fun h0 => absurd h0 h.1, fun i hi => wpOp_of_qOp hw (fun a' w' hw' h' => wpAny_of_headQ hL f _ a' w' hw' h') (h.2 i hi).2⟩
theorem wpAnyQL_first {n i : Nat} {oi : Oper} {v : Value} {L : Array Bool → Act → Prop} (hi : ops[i]? = some oi) (hsel : ∀ (j : Nat) (o : Oper) cs b, ops[j]? = some o → o.op ≠ .select cs b)
    (hs : Region.sinkB md ops n = true) (hc : Region.chainB md ops n = true) (hn : n < ops.size) (hin : i < n)
    (hdone : ∀ listed a, L listed a → ∀ j ∈ Region.ready md ops listed, n ≤ j) :
    ∀ (f : Nat) (listed : Array Bool) (a : Act), HeadInv md ops n listed →
      (∀ j oj, ops[j]? = some oj → j ≠ i → listed.getD j true = false → (∀ e ∈ oj.after, Region.binds md e = true → e.on ≠ i) → oi.apart ops oj = true) →
      i ∈ Region.ready md ops listed → YieldsIn P ops C oi v a →
      wpAnyQL P md ops C n L f (listed.setIfInBounds i true) (a.put oi.dst v) → wpAnyQL P md ops C n L (f + 1) listed a := by
  intro f
  induction f with
  | zero =>
    intro listed a inv _ hr hy H
    have hun := (mem_ready.1 hr).1
    refine ⟨fun h => (by rw [h] at hr; cases hr), fun j hj => ?_⟩
    have hjn : j < n := by
      rcases Nat.lt_or_ge j n with h | h
      · exact h
      · exact absurd hj (tail_waits hs hc hn inv _ i rfl hin hun j h)
    refine ⟨hjn, ?_⟩
    by_cases hji : j = i
    · subst hji; exact hy.qOp hi H
    · have := hdone _ _ H j (ready_mono hj hji)
      omega
  | succ f ih =>
    intro listed a inv hfree hr hy H
    have hun := (mem_ready.1 hr).1
    refine ⟨fun h => (by rw [h] at hr; cases hr), fun j hj => ?_⟩
    have hjn : j < n := by
      rcases Nat.lt_or_ge j n with h | h
      · exact h
      · exact absurd hj (tail_waits hs hc hn inv _ i rfl hin hun j h)
    refine ⟨hjn, ?_⟩
    by_cases hji : j = i
    · subst hji; exact hy.qOp hi H
    · have h1 := (H.2 j (ready_mono hj hji)).2
      obtain ⟨hjun, oj, hoj, hall⟩ := mem_ready.1 hj
      have hnot : ∀ e ∈ oj.after, Region.binds md e = true → e.on ≠ i := fun e he hb heq => by
        have h1 := hall e he hb
        rw [heq, getD_both hun] at h1
        cases h1
      have h2 := qOp_put hoj (hfree j oj hoj hji hjun hnot) (fun cs b => hsel i oi cs b hi) (fun cs b => hsel j oj cs b hoj) hy h1
      have hfree' : ∀ k ok, ops[k]? = some ok → k ≠ i → (listed.setIfInBounds j true).getD k true = false →
          (∀ e ∈ ok.after, Region.binds md e = true → e.on ≠ i) → oi.apart ops ok = true := fun k ok hk hki hun hno => by
        refine hfree k ok hk hki ?_ hno
        by_cases hjk : j = k
        · subst hjk; exact hjun
        · rw [getD_set_ne true hjk] at hun; exact hun
      refine qOp_mono (fun a' h3 => ih (listed.setIfInBounds j true) a' (inv.set hj hjn) hfree' (ready_mono hr (Ne.symm hji)) h3.1 ?_) h2
      rw [Array.setIfInBounds_comm _ _ hji]
      exact h3.2
theorem wpAnyQL_lex {n g : Nat} {Lq : Act → Prop} (hsel : Region.noSelect ops = true) (hs : Region.sinkB md ops n = true) (hc : Region.chainB md ops n = true) (hn : n < ops.size) :
    ∀ (l : List Oper) (k : Nat) (listed : Array Bool) (a : Act), (∀ j, j < l.length → l[j]? = ops[k + j]?) → k + l.length = n → HeadInv md ops n listed →
    Region.lexHead md ops g l.length k listed = true → wpQuiet P ops C Lq l a →
    wpAnyQL P md ops C n (fun listed' a' => Region.seqB md ops g n listed' = true ∧ Lq a') l.length listed a
  | [], k, listed, a, _, hk, _, hB, h => by
    have : k = n := by simpa using hk
    subst this
    exact ⟨by simpa [Region.lexHead] using hB, h⟩
  | o :: l, k, listed, a, hl, hk, inv, hB, h => by
    have h0 : ops[k]? = some o := by simpa using (hl 0 (by simp)).symm
    simp only [List.length_cons, Region.lexHead, Bool.and_eq_true] at hB
    obtain ⟨⟨hr, hf⟩, hB'⟩ := hB
    have hkn : k < n := by simp only [List.length_cons] at hk; omega
    have hr' : k ∈ Region.ready md ops listed := by simpa using hr
    have hst : qOp P ops C k (wpQuiet P ops C Lq l) a := by unfold qOp; simp only [h0]; exact h
    obtain ⟨v, hy, hK⟩ := yieldsIn_of_qOp h0 hst
    exact wpAnyQL_first h0 (Region.noSelect_spec hsel) hs hc hn hkn (fun listed' a' hL => seqB_ready hL.1) l.length listed a inv (Region.free_spec h0 hf) hr' hy
      (wpAnyQL_lex hsel hs hc hn l (k + 1) _ _ (fun j hj => by have := hl (j + 1) (by simp; omega); simpa [Nat.add_assoc, Nat.add_comm 1 j] using this) (by simp only [List.length_cons] at hk; omega) (inv.set hr' hkn) hB' hK)
/-- The region, parted behind its first n operations. -/
theorem wp_region_quiet_tail {id : Nat} {Q : Exit → Act → World → Prop} {a : Act} {w : World} {l : List Oper} (C : World → Prop) (n : Nat) (hm : P.follows .mixedOrders = true) (hB : Region.lexTailB .any l.toArray n = true)
    (hC : C w.drew)
    (h : wpQuiet P l.toArray C (fun a' => ∀ w', C w' → wpList P l.toArray Q (l.drop n) a' w') (l.take n) a) : (Code.region id l.toArray true).wp P Q a w := by
  simp only [Region.lexTailB, Bool.and_eq_true, decide_eq_true_eq] at hB
  obtain ⟨⟨⟨⟨hsel, hn⟩, hs⟩, hc⟩, hlex⟩ := hB
  have hn' : n < l.length := by simpa using hn
  have htl : (l.take n).length = n := by simp; omega
  have hdl : (l.drop n).length = l.toArray.size - n := by simp
  have inv0 : HeadInv .any l.toArray n (Array.replicate l.toArray.size false) :=
    ⟨by simp, fun j oj _ hl => (by rw [getD_replicate_false] at hl; cases hl), fun t _ ht => getD_in (by simpa using ht) (getD_replicate_false _ _)⟩
  have H := wpAnyQL_lex (md := .any) (g := l.toArray.size - n) hsel hs hc hn (l.take n) 0 _ a (fun j hj => by
    have hj' : j < n := by rw [htl] at hj; exact hj
    simp [hj']) (by simpa using htl) inv0 (by rw [htl]; exact hlex) h
  refine wp_region_any hm ?_
  have := wpAny_of_headQ (C := C) (Q' := Q) (g := l.toArray.size - n) (fun listed a' w' hw' hL => by
    have := wpAny_of_seq (md := .any) (Q' := Q) (l.drop n) n listed a' w' (fun j => by simp [List.getElem?_drop]) (by rw [hdl]; exact hL.1) (hL.2 w' hw')
    rwa [hdl] at this) _ _ _ w.drew hC H
  rw [htl, show n + (l.toArray.size - n) = l.toArray.size by omega] at this
  exact this
/-- .. at the class 'w after some draws'. -/
theorem wp_region_drew_tail {id : Nat} {Q : Exit → Act → World → Prop} {a : Act} {w : World} {l : List Oper} (n : Nat) (hm : P.follows .mixedOrders = true) (hB : Region.lexTailB .any l.toArray n = true)
    (h : wpQuiet P l.toArray (fun w' => ∃ n, w' = w.drewN n) (fun a' => ∀ w', (∃ n, w' = w.drewN n) → wpList P l.toArray Q (l.drop n) a' w') (l.take n) a) : (Code.region id l.toArray true).wp P Q a w :=
  wp_region_quiet_tail _ n hm hB ⟨1, rfl⟩ h
end
end Go.Proofs.YtepgoehpjafbhaaGreatDoor
/-
  The model's uint32 against 32 bits; blocks of cells said by a function.
-/
namespace Go.Proofs.YtepgoehpjafbhaaGreatDoor
open Go.RowKit
/-- A number for each 32 bits: kept as a letter, so that the walk never looks into it. -/
structure Num where
  u : BitVec 32 → Int
  eq : ∀ b, u b = (b.toNat : Int)
variable (n : Num)
theorem Num.lt (b : BitVec 32) : n.u b < 4294967296 := by have := b.isLt; rw [n.eq]; omega
theorem Num.of (b : BitVec 32) : BitVec.ofInt 32 (n.u b) = b := by
  rw [n.eq, BitVec.ofInt_natCast]; simp
theorem Num.inj (a b : BitVec 32) (h : n.u a = n.u b) : a = b := by
  rw [n.eq, n.eq] at h; exact BitVec.eq_of_toNat_eq (by omega)
theorem Num.wrap (b : BitVec 32) : IntKind.u32.wrap (b.toNat : Int) = n.u b := by
  rw [IntKind.wrap_u32', n.eq]; have := b.isLt; omega
theorem Num.xor (a b : BitVec 32) : bits .xor .u32 (n.u a) (n.u b) = n.u (a ^^^ b) := by
  show IntKind.u32.wrap ((BitVec.ofInt 32 (n.u a) ^^^ BitVec.ofInt 32 (n.u b)).toNat : Int) = _
  rw [n.of, n.of, n.wrap]
theorem Num.and (a b : BitVec 32) : bits .and .u32 (n.u a) (n.u b) = n.u (a &&& b) := by
  show IntKind.u32.wrap ((BitVec.ofInt 32 (n.u a) &&& BitVec.ofInt 32 (n.u b)).toNat : Int) = _
  rw [n.of, n.of, n.wrap]
theorem Num.or (a b : BitVec 32) : bits .or .u32 (n.u a) (n.u b) = n.u (a ||| b) := by
  show IntKind.u32.wrap ((BitVec.ofInt 32 (n.u a) ||| BitVec.ofInt 32 (n.u b)).toNat : Int) = _
  rw [n.of, n.of, n.wrap]
theorem Num.not (a : BitVec 32) : bits .xor .u32 IntKind.u32.max (n.u a) = n.u (~~~a) := by
  have h := n.xor (BitVec.allOnes 32) a
  rw [n.eq (BitVec.allOnes 32), BitVec.allOnes_xor] at h
  exact h
theorem Num.add (a b : BitVec 32) : (n.u a + n.u b) % (4294967296 : Int) = n.u (a + b) := by
  rw [n.eq, n.eq, n.eq, BitVec.toNat_add]; omega
theorem Num.shr (a : BitVec 32) (k : Nat) : n.u a / (2 : Int) ^ k = n.u (a >>> k) := by
  rw [n.eq, n.eq, BitVec.toNat_ushiftRight, Nat.shiftRight_eq_div_pow]; simp
theorem Num.shl (a : BitVec 32) (k : Nat) : n.u a * (2 : Int) ^ k % (4294967296 : Int) = n.u (a <<< k) := by
  rw [n.eq, n.eq, BitVec.toNat_shiftLeft, Nat.shiftLeft_eq]; simp
theorem Num.byte (c : UInt8) : (c.toNat : Int) = n.u (S.B c) := by
  have := c.toNat_lt; unfold S.B; rw [n.eq, BitVec.toNat_ofNat, Nat.mod_eq_of_lt (by omega)]
theorem Num.zero : n.u 0#32 = 0 := by rw [n.eq]; rfl
theorem hide {p : Prop} (h : p) : Hid p := h
end Go.Proofs.YtepgoehpjafbhaaGreatDoor
/-
  Turned words: rot, bits.RotateLeft32; the document's rot.
-/
namespace Go.Proofs.YtepgoehpjafbhaaGreatDoor
open Go.RowKit S
attribute [local go_sem] Num.shl Num.shr Num.or
-- left out in this seat: rotl_any
-- left out in this seat: rot_any
-- left out in this seat: refRot_any
-- left out in this seat: rot_int
-- left out in this seat: refRot_int
end Go.Proofs.YtepgoehpjafbhaaGreatDoor
