import Derived.Test.YtlkimfmilccanaaGreatKSave
/-
  Save, Load.
-/
namespace Go.Proofs.YtlkimfmilccanaaGreat
open Go.RowKit Go.Maps Go.WideMaps
set_option linter.unusedVariables false
theorem kset_same {α : Type} {L : List α} {i : Nat} {x : α} (h : L[i]? = some x) : L.set i x = L := by
  apply List.ext_getElem?
  intro j
  by_cases e : i = j
  · subst e; rw [kget h, h]
  · rw [List.getElem?_set_ne e]
theorem kname_size {k : ByteArray} (h : knameOk k.data.toList = true) : k.size ≤ 28 := by
  rw [knameOk_eq, Bool.and_eq_true, Bool.and_eq_true, decide_eq_true_iff, decide_eq_true_iff, str_len] at h
  exact h.1.2
section
variable {B : Nat} {w : World} {L : List Item} {i p : Nat} {A : AD}
-- left out in this seat: save_any
-- left out in this seat: load_any
end
end Go.Proofs.YtlkimfmilccanaaGreat
/-
  The statements' own first: what the document gives.
-/
namespace Go.Proofs.YtlkimfmilccanaaGreat
open Go.RowKit Go.Maps Go.WideMaps
set_option linter.unusedVariables false
theorem k_new {B : Nat} {w : World} {L : List Item} (h : Lies B w L) (cap : Int) (h0 : 0 ≤ cap) (h1 : cap ≤ 16777216) : Calls Tryz.prog 8 #[.int .i64 cap] w fun e w' => ∃ p, e = .returned (.tuple #[.pointer (some ⟨p, 0, none⟩), .int .i64 0]) ∧ Lies B w' (L ++ [.disk p (AD.fresh cap)]) ∧ Below B w w' := by
  refine (new_good w cap h0 h1).mono ?_
  rintro e w' ⟨rfl, hd, hb⟩
  refine ⟨_, rfl, h.push (S' := foot (w.heap.size + 1) w.heap.size (fun _ => FC.void) (AD.fresh cap).fs) hb ⟨w.heap.size, _, hd, fun _ => Iff.rfl⟩ ?_, hb.mono h.base⟩
  rintro b (rfl | rfl | ⟨k, F, hk, _⟩)
  · exact Nat.le_succ _
  · exact Nat.le_refl _
  · simp [AD.fresh, fget] at hk
def KF0 : AD := AD.fresh 100000
def KF1 : AD := (KF0.save [99] [97, 98]).2
def KF2 : AD := (KF1.save [99] [111, 108, 100]).2
def KF3 : AD := KF2.fallen 2
def KF4 : AD := (KF3.save [99] [110, 101, 119]).2
def KF5 : AD := KF4.crash []
def KF6 : AD := KF5.on
set_option maxRecDepth 100000 in
theorem kv1 : (KF0.save [99] [97, 98]).1 = 0 := by decide +kernel
set_option maxRecDepth 100000 in
theorem kv2 : KF1.size [99] = (10, 0) := by decide +kernel
set_option maxRecDepth 100000 in
theorem kv3 : (KF1.save [99] [111, 108, 100]).1 = 0 := by decide +kernel
set_option maxRecDepth 100000 in
theorem kv4 : (KF3.save [99] [110, 101, 119]).1 = 9 := by decide +kernel
set_option maxRecDepth 100000 in
theorem kv5 : KF6.load [99] = ([111, 108, 100], 0) := by decide +kernel
set_option maxRecDepth 100000 in
theorem kv6 : KF6.load [113] = ([], 5) := by decide +kernel
section
variable {B : Nat} {w : World} {p : Nat}
-- left out in this seat: kc1
theorem kc2 (h : Lies B w [.disk p KF1]) : Calls Tryz.prog 32 #[.pointer (some ⟨p, 0, none⟩), .string ⟨#[99]⟩] w fun e w' => e = .returned (.tuple #[.int .i64 10, .int .i64 0]) ∧ w' = w := by
  have := s_size (i := 0) h rfl ⟨#[99]⟩ (by decide)
  have e : KF1.size (⟨#[99]⟩ : ByteArray).data.toList = (10, 0) := kv2
  rw [e] at this
  exact this
-- left out in this seat: kc3
-- left out in this seat: kc4
-- left out in this seat: kc5
-- left out in this seat: kc6
end
-- left out in this seat: kFirst_any
end Go.Proofs.YtlkimfmilccanaaGreat
/-
  The statements' own helpers: lists of texts and numbers held against one another.
-/
namespace Go.Proofs.YtlkimfmilccanaaGreat
open Go.RowKit Go.Maps Go.WideMaps
set_option linter.unusedVariables false
set_option linter.unusedSimpArgs false
/-- A slice's elements, of one cell each. -/
def RowAt (w : World) (ad : Option Addr) (xs : List Value) : Prop := xs = [] ∨ ∃ b o, ad = some ⟨b, o, none⟩ ∧ b < w.heap.size ∧ ∀ i, i < xs.length → w.cell? ⟨b, o + i, none⟩ = xs[i]?
theorem row_at {w : World} {base e n : Nat} {v : Value} {xs : List Value} (h : w.ownsRow base e 1 v n xs) : ∃ ad cap, v = .slice ad n cap ∧ RowAt w ad xs ∧ xs.length = n ∧ n ≤ maxLen := by
  have hl := h.1
  rw [Nat.mul_one] at hl
  rcases h.2 with ⟨rfl, hn⟩ | ⟨g, cap, cur, rfl, hb, hg, hnc, hcm, rest⟩
  · subst hn
    exact ⟨none, 0, rfl, .inl (List.length_eq_zero_iff.1 hl), hl, Nat.zero_le _⟩
  · refine ⟨_, cap, rfl, .inr ⟨g, 0, rfl, lt_of_some hg, fun i hi => ?_⟩, hl, by omega⟩
    have := World.ownsRow.cells h (g := g) rfl i xs[i] (List.getElem?_eq_getElem hi)
    rw [List.getElem?_eq_getElem hi, ← this]
    congr 1
    unfold Addr.add
    split <;> simp_all
theorem RowAt.same {w w' : World} {ad : Option Addr} {xs : List Value} (h : RowAt w ad xs) {S : Nat → Prop} (t : Turn S w w') (hn : ∀ b o, ad = some ⟨b, o, none⟩ → ¬ S b) : RowAt w' ad xs := by
  rcases h with h | ⟨b, o, ha, hlt, hc⟩
  · exact .inl h
  · refine .inr ⟨b, o, ha, Nat.lt_of_lt_of_le hlt t.size, fun i hi => ?_⟩
    rw [← hc i hi]
    exact World.cell?_of_block (t.block b hlt (hn b o ha))
theorem toList_beq (a b : ByteArray) : (a.toList == b.toList) = (a.data.toList == b.data.toList) := by rw [ByteArray.toList_eq, ByteArray.toList_eq]
theorem take_all_ne {α : Type} [BEq α] [LawfulBEq α] {l : List α} {k : Nat} {x : α} (h : (l.take k).contains x = false) (hk : k < l.length) (hx : (l[k] == x) = false) : (l.take (k + 1)).contains x = false := by
  rw [List.take_succ_eq_append_getElem hk, List.contains_append, h]
  simp only [List.contains_cons, List.contains_nil, Bool.or_false, Bool.false_or]
  rw [← hx]
  exact Bool.eq_iff_iff.2 ⟨fun e => beq_iff_eq.2 (beq_iff_eq.1 e).symm, fun e => beq_iff_eq.2 (beq_iff_eq.1 e).symm⟩
theorem contains_at {α : Type} [BEq α] [LawfulBEq α] {l : List α} {k : Nat} {x : α} (hk : k < l.length) (hx : (l[k] == x) = true) : l.contains x = true := by
  rw [List.contains_iff_mem, ← beq_iff_eq.1 hx]; exact List.getElem_mem hk
set_option maxRecDepth 5000 in
set_option maxRecDepth 5000 in
theorem drewN_below {B : Nat} {w w1 : World} (h : Below B w w1) (n : Nat) : Below B w (w1.drewN n) := ⟨h.os, h.tape, h.output, h.size, h.block⟩
theorem take_eq_succ {α : Type} {a b : List α} {k : Nat} (h : a.take k = b.take k) (ha : k < a.length) (hb : k < b.length) (hx : a[k] = b[k]) : a.take (k + 1) = b.take (k + 1) := by
  rw [List.take_succ_eq_append_getElem ha, List.take_succ_eq_append_getElem hb, h, hx]
-- left out in this seat: sameTexts_any
-- left out in this seat: sameInts_any
end Go.Proofs.YtlkimfmilccanaaGreat
/-
  The statements' own helpers: all, text, step, made.
-/
namespace Go.Proofs.YtlkimfmilccanaaGreat
open Go.RowKit Go.Maps Go.WideMaps
set_option linter.unusedVariables false
set_option linter.unusedSimpArgs false
def AD.all (A : AD) (k : Key) : Key := (A.read k 0 1048576).1
/-- One step of a script. -/
structure OP where
  kind : Int
  two : Bool
  name : ByteArray
  to : ByteArray
  at_ : Int
  n : Int
  text : ByteArray
  ad : Option Addr
  fates : List FT
  cap : Nat
def OP.cs (o : OP) : Array Value := #[.int .i64 o.kind, .bool o.two, .string o.name, .string o.to, .int .i64 o.at_, .int .i64 o.n, .string o.text, .slice o.ad o.fates.length o.cap]
structure OP.Ok (o : OP) : Prop where
  name : o.name.size ≤ maxLen
  to : o.to.size ≤ maxLen
  a0 : -9223372036854775808 ≤ o.at_
  a1 : o.at_ < 9223372036854775808
  n0 : -9223372036854775808 ≤ o.n
  n1 : o.n < 9223372036854775808
  text : o.text.size ≤ 140737488355328
  fates : ∀ x ∈ o.fates, x.Ok
  len : o.fates.length ≤ 9223372036854775807
/-- Where its fates lie. -/
theorem FatesAt.later {B : Nat} {w w' : World} {ad : Option Addr} {ls : List FT} (h : FatesAt w ad ls) (hb : Below B w w') (hB : ls ≠ [] → ∀ b o, ad = some ⟨b, o, none⟩ → b < B) : FatesAt w' ad ls := by
  by_cases he : ls = []
  · exact .inl he
  · exact h.below hb (hB he)
structure OP.Lie (B : Nat) (w : World) (o : OP) : Prop where
  at_ : FatesAt w o.ad o.fates
  lt : o.fates ≠ [] → ∀ b f, o.ad = some ⟨b, f, none⟩ → b < B
theorem OP.Lie.below {B : Nat} {w w' : World} {o : OP} (h : o.Lie B w) (hb : Below B w w') : o.Lie B w' := ⟨h.at_.later hb h.lt, h.lt⟩
def AD.step (A : AD) (o : OP) : Int × AD :=
  if o.kind = 1 then A.write o.name.data.toList o.at_ o.text.data.toList
  else if o.kind = 2 then A.sync o.name.data.toList
  else if o.kind = 3 then A.trunc o.name.data.toList o.n
  else if o.kind = 4 then A.rename o.name.data.toList o.to.data.toList
  else if o.kind = 5 then A.remove o.name.data.toList
  else if o.kind = 7 then (0, A.armed o.n o.at_)
  else if o.kind = 11 then (0, A.fallen o.n)
  else if o.kind = 8 then (0, A.crash (o.fates.map FT.abs))
  else if o.kind = 9 then (0, A.on)
  else (0, A)
theorem set_same {α : Type} {L : List α} {i : Nat} {x : α} (h : L[i]? = some x) : L.set i x = L := by
  obtain ⟨hl, rfl⟩ := List.getElem?_eq_some_iff.1 h
  exact List.set_getElem_self hl
def OpsAt (w : World) (ad : Option Addr) (os : List OP) : Prop := os = [] ∨ ∃ b o, ad = some ⟨b, o, none⟩ ∧ b < w.heap.size ∧ ∀ i (h : i < os.length) j, j < 8 → w.cell? ⟨b, o + i * 8 + j, none⟩ = (os[i].cs)[j]?
/-- A script among the arguments. -/
structure Script (B : Nat) (w : World) (ad : Option Addr) (os : List OP) : Prop where
  at_ : OpsAt w ad os
  lt : os ≠ [] → ∀ b o, ad = some ⟨b, o, none⟩ → b < B
  ok : ∀ o ∈ os, o.Ok
  lie : ∀ o ∈ os, o.Lie B w
  len : os.length ≤ maxLen
theorem Script.below {B : Nat} {w w' : World} {ad : Option Addr} {os : List OP} (h : Script B w ad os) (hb : Below B w w') : Script B w' ad os := by
  refine ⟨?_, h.lt, h.ok, fun o ho => (h.lie o ho).below hb, h.len⟩
  rcases h.at_ with x | ⟨b, o, ha, hlt, hc⟩
  · exact .inl x
  · refine .inr ⟨b, o, ha, Nat.lt_of_lt_of_le hlt hb.size, fun i hi j hj => ?_⟩
    rw [← hc i hi j hj]
    exact World.cell?_of_block (hb.block b (h.lt (fun e => by rw [e] at hi; simp at hi) b o ha))
/-- The cells of one step. -/
theorem Script.cells {B : Nat} {w : World} {ad : Option Addr} {os : List OP} (h : Script B w ad os) {k : Nat} (hk : k < os.length) : ∃ b o, ad = some ⟨b, o, none⟩ ∧ ∀ j, j < 8 → w.cell? ⟨b, o + k * 8 + j, none⟩ = (os[k].cs)[j]? := by
  rcases h.at_ with x | ⟨b, o, ha, hlt, hc⟩
  · rw [x] at hk; simp at hk
  · exact ⟨b, o, ha, fun j hj => hc k hk j hj⟩
def playD (A : AD) (os : List OP) : AD := os.foldl (fun A o => (A.step o).2) A
def madeD (os : List OP) : AD := (((playD (AD.fresh 100000) os).on).armed 0 0).fallen 0
theorem playD_snoc (A : AD) (os : List OP) (k : Nat) (h : k < os.length) : playD A (os.take (k + 1)) = ((playD A (os.take k)).step os[k]).2 := by
  unfold playD
  rw [take_snoc os k h, List.foldl_append]
  rfl
end Go.Proofs.YtlkimfmilccanaaGreat
/-
  The statements' own helper: text.
-/
namespace Go.Proofs.YtlkimfmilccanaaGreat
open Go.RowKit Go.Maps Go.WideMaps
set_option linter.unusedVariables false
set_option linter.unusedSimpArgs false
theorem set_fill (c : UInt8) (n k : Nat) (h : k < n) : (List.replicate k c ++ List.replicate (n - k) (0 : UInt8)).set k c = List.replicate (k + 1) c ++ List.replicate (n - (k + 1)) 0 := by
  obtain ⟨m, rfl⟩ : ∃ m, n = k + 1 + m := ⟨n - (k + 1), by omega⟩
  rw [show k + 1 + m - k = m + 1 by omega, show k + 1 + m - (k + 1) = m by omega, List.set_append_right _ _ (by simp), List.length_replicate, Nat.sub_self, List.replicate_succ, List.set_cons_zero, List.replicate_succ']
  simp
theorem Bytes.stored {w : World} {g n cap : Nat} {l : List UInt8} (h : Bytes w 0 (.slice (some ⟨g, 0, none⟩) n cap) l) (hn : l.length = n) (j : Nat) (c : UInt8) : Bytes (w.setCell ⟨g, j, none⟩ (.int .u8 (c.toNat : Int))) 0 (.slice (some ⟨g, 0, none⟩) n cap) (l.set j c) := by
  subst hn
  have := (World.ownsRow.stored h j (.int .u8 (c.toNat : Int))).1
  unfold Bytes
  rw [List.length_set, List.map_set]
  exact this
-- left out in this seat: text_any
end Go.Proofs.YtlkimfmilccanaaGreat
