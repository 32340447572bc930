import Derived.Test.YtdffmmiegpndkaaGreatDoorHeap
/-
  The statements' own helpers: lists of texts and numbers held against one another.
-/
namespace Go.Proofs.YtdffmmiegpndkaaGreatDoor
open Go.RowKit Go.Maps Go.WideMaps
set_option linter.unusedVariables false
set_option linter.unusedSimpArgs false
/-- A slice's elements, of one cell each. -/
def RowAt (w : World) (ad : Option Addr) (xs : List Value) : Prop := xs = [] ∨ ∃ b o, ad = some ⟨b, o, none⟩ ∧ b < w.heap.size ∧ ∀ i, i < xs.length → w.cell? ⟨b, o + i, none⟩ = xs[i]?
theorem row_at {w : World} {base e n : Nat} {v : Value} {xs : List Value} (h : w.ownsRow base e 1 v n xs) : ∃ ad cap, v = .slice ad n cap ∧ RowAt w ad xs ∧ xs.length = n ∧ n ≤ maxLen := by
  have hl := h.1
  rw [Nat.mul_one] at hl
  rcases h.2 with ⟨rfl, hn⟩ | ⟨g, cap, cur, rfl, hb, hg, hnc, hcm, rest⟩
  · subst hn
    exact ⟨none, 0, rfl, .inl (List.length_eq_zero_iff.1 hl), hl, Nat.zero_le _⟩
  · refine ⟨_, cap, rfl, .inr ⟨g, 0, rfl, lt_of_some hg, fun i hi => ?_⟩, hl, by omega⟩
    have := World.ownsRow.cells h (g := g) rfl i xs[i] (List.getElem?_eq_getElem hi)
    rw [List.getElem?_eq_getElem hi, ← this]
    congr 1
    unfold Addr.add
    split <;> simp_all
theorem RowAt.same {w w' : World} {ad : Option Addr} {xs : List Value} (h : RowAt w ad xs) {S : Nat → Prop} (t : Turn S w w') (hn : ∀ b o, ad = some ⟨b, o, none⟩ → ¬ S b) : RowAt w' ad xs := by
  rcases h with h | ⟨b, o, ha, hlt, hc⟩
  · exact .inl h
  · refine .inr ⟨b, o, ha, Nat.lt_of_lt_of_le hlt t.size, fun i hi => ?_⟩
    rw [← hc i hi]
    exact World.cell?_of_block (t.block b hlt (hn b o ha))
theorem toList_beq (a b : ByteArray) : (a.toList == b.toList) = (a.data.toList == b.data.toList) := by rw [ByteArray.toList_eq, ByteArray.toList_eq]
theorem take_all_ne {α : Type} [BEq α] [LawfulBEq α] {l : List α} {k : Nat} {x : α} (h : (l.take k).contains x = false) (hk : k < l.length) (hx : (l[k] == x) = false) : (l.take (k + 1)).contains x = false := by
  rw [List.take_succ_eq_append_getElem hk, List.contains_append, h]
  simp only [List.contains_cons, List.contains_nil, Bool.or_false, Bool.false_or]
  rw [← hx]
  exact Bool.eq_iff_iff.2 ⟨fun e => beq_iff_eq.2 (beq_iff_eq.1 e).symm, fun e => beq_iff_eq.2 (beq_iff_eq.1 e).symm⟩
theorem contains_at {α : Type} [BEq α] [LawfulBEq α] {l : List α} {k : Nat} {x : α} (hk : k < l.length) (hx : (l[k] == x) = true) : l.contains x = true := by
  rw [List.contains_iff_mem, ← beq_iff_eq.1 hx]; exact List.getElem_mem hk
set_option maxRecDepth 5000 in
set_option maxRecDepth 5000 in
theorem drewN_below {B : Nat} {w w1 : World} (h : Below B w w1) (n : Nat) : Below B w (w1.drewN n) := ⟨h.os, h.tape, h.output, h.size, h.block⟩
theorem take_eq_succ {α : Type} {a b : List α} {k : Nat} (h : a.take k = b.take k) (ha : k < a.length) (hb : k < b.length) (hx : a[k] = b[k]) : a.take (k + 1) = b.take (k + 1) := by
  rw [List.take_succ_eq_append_getElem ha, List.take_succ_eq_append_getElem hb, h, hx]
set_option maxRecDepth 5000 in
theorem sameTexts_any (w : World) (ad1 ad2 : Option Addr) (cap1 cap2 : Nat) (ks ms : List Key) (h : RowAt w ad1 (ks.map encStr)) (hm : RowAt w ad2 (ms.map encStr)) (hl : ks.length ≤ maxLen) (hl2 : ms.length ≤ maxLen) :
    Calls Tryz.prog 16 #[.slice ad1 ks.length cap1, .slice ad2 ms.length cap2] w fun e w' => e = .returned (.bool (ks == ms)) ∧ Below w.heap.size w w' := by
  have HR := hide h
  have HM := hide hm
  unfold maxLen at hl hl2
  clear h hm
  by_cases hne : ks.length = ms.length
  · have dn : (((ks.length : Int) == (ms.length : Int))) = true := beq_iff_eq.2 (by omega)
    have HNE := hide hne
    clear hne
    go_enter Tryz.func16, Tryz.ntmps16
    go_wp2
    go_loopw [5] (fun i wr => ∃ k : Nat, k ≤ ks.length ∧ i = .int .i64 (k : Int) ∧ ks.take k = ms.take k ∧ Below w.heap.size w wr) (fun i _ => ks.length - (intOf i).toNat)
    case atStart => exact ⟨0, by omega, rfl, rfl, Below.refl _ _⟩
    case round =>
      obtain ⟨k, hk, rfl, hno, hbw⟩ := hrel
      have HN := hide hno
      have HB := hide hbw
      clear hno hbw
      by_cases hlt : k < ks.length
      · have hlt2 : k < ms.length := by rw [← HNE.out]; exact hlt
        have dk : decide ((k : Int) < (ks.length : Int)) = true := decide_eq_true (by omega)
        have hk0 : (0 : Int) ≤ (k : Int) := by omega
        have hk1 : (k : Int) < (ks.length : Int) := by omega
        have hk2 : (k : Int) < (ms.length : Int) := by omega
        rcases HR.out with h | ⟨b, o, rfl, hbl, hcs⟩
        · rw [List.map_eq_nil_iff.1 h] at hlt; exact absurd hlt (by simp)
        rcases HM.out with h | ⟨b2, o2, rfl, hbl2, hcs2⟩
        · rw [List.map_eq_nil_iff.1 h] at hlt2; exact absurd hlt2 (by simp)
        have f0 : wr.cell? ⟨b, o + k, none⟩ = some (.string ⟨ks[k].toArray⟩) := by rw [World.cell?_of_block (HB.out.block b hbl), hcs k (by simpa using hlt), List.getElem?_map, List.getElem?_eq_getElem hlt]; rfl
        have f1 : wr.cell? ⟨b2, o2 + k, none⟩ = some (.string ⟨ms[k].toArray⟩) := by rw [World.cell?_of_block (HB.out.block b2 hbl2), hcs2 k (by simpa using hlt2), List.getElem?_map, List.getElem?_eq_getElem hlt2]; rfl
        obtain ⟨x, hx⟩ : ∃ x, ks[k] = x := ⟨_, rfl⟩
        obtain ⟨y, hy⟩ : ∃ y, ms[k] = y := ⟨_, rfl⟩
        rw [hx] at f0
        rw [hy] at f1
        cases hq : (x == y) with
        | true =>
          have HC := hide (take_eq_succ HN.out hlt hlt2 (by rw [hx, hy]; exact beq_iff_eq.1 hq))
          clear hcs hcs2 hx hy
          go_wp2
          go_quiet (fail)
          go_wp2
          go_roundw
          case rel => exact ⟨k + 1, by omega, by go_num, HC.out, drewN_below HB.out _⟩
          case measure => simp [intOf]; omega
        | false =>
          have HC : Hid ((ks == ms) = false) := by
            show _ = _
            rw [beq_eq_false_iff_ne]
            intro e
            subst e
            rw [← hx, ← hy] at hq
            simp at hq
          clear hcs hcs2 hx hy
          go_wp2
          go_quiet (fail)
          go_wp2
          go_ret
          exact ⟨by rw [HC.out]; rfl, drewN_below HB.out _⟩
      · have hkl : k = ks.length := by omega
        subst hkl
        have dk : decide ((ks.length : Int) < (ks.length : Int)) = false := decide_eq_false (by omega)
        have HC : Hid ((ks == ms) = true) := by
          show _ = _
          have := HN.out
          rw [List.take_length, HNE.out, List.take_length] at this
          exact beq_iff_eq.2 this
        go_wp2
        go_ret
        exact ⟨by rw [HC.out]; rfl, HB.out⟩
  · have dn : (((ks.length : Int) == (ms.length : Int))) = false := beq_eq_false_iff_ne.2 (by omega)
    have HC : Hid ((ks == ms) = false) := by
      show _ = _
      rw [beq_eq_false_iff_ne]
      exact fun e => hne (by rw [e])
    clear hne
    go_enter Tryz.func16, Tryz.ntmps16
    go_wp2
    go_ret
    exact ⟨by rw [HC.out]; rfl, Below.refl _ _⟩
-- left out in this seat: sameInts_any
end Go.Proofs.YtdffmmiegpndkaaGreatDoor
/-
  The statements' own helpers: all, text, step, made.
-/
namespace Go.Proofs.YtdffmmiegpndkaaGreatDoor
open Go.RowKit Go.Maps Go.WideMaps
set_option linter.unusedVariables false
set_option linter.unusedSimpArgs false
def AD.all (A : AD) (k : Key) : Key := (A.read k 0 1048576).1
/-- One step of a script. -/
structure OP where
  kind : Int
  two : Bool
  name : ByteArray
  to : ByteArray
  at_ : Int
  n : Int
  text : ByteArray
  ad : Option Addr
  fates : List FT
  cap : Nat
def OP.cs (o : OP) : Array Value := #[.int .i64 o.kind, .bool o.two, .string o.name, .string o.to, .int .i64 o.at_, .int .i64 o.n, .string o.text, .slice o.ad o.fates.length o.cap]
structure OP.Ok (o : OP) : Prop where
  name : o.name.size ≤ maxLen
  to : o.to.size ≤ maxLen
  a0 : -9223372036854775808 ≤ o.at_
  a1 : o.at_ < 9223372036854775808
  n0 : -9223372036854775808 ≤ o.n
  n1 : o.n < 9223372036854775808
  text : o.text.size ≤ 140737488355328
  fates : ∀ x ∈ o.fates, x.Ok
  len : o.fates.length ≤ 9223372036854775807
/-- Where its fates lie. -/
theorem FatesAt.later {B : Nat} {w w' : World} {ad : Option Addr} {ls : List FT} (h : FatesAt w ad ls) (hb : Below B w w') (hB : ls ≠ [] → ∀ b o, ad = some ⟨b, o, none⟩ → b < B) : FatesAt w' ad ls := by
  by_cases he : ls = []
  · exact .inl he
  · exact h.below hb (hB he)
structure OP.Lie (B : Nat) (w : World) (o : OP) : Prop where
  at_ : FatesAt w o.ad o.fates
  lt : o.fates ≠ [] → ∀ b f, o.ad = some ⟨b, f, none⟩ → b < B
theorem OP.Lie.below {B : Nat} {w w' : World} {o : OP} (h : o.Lie B w) (hb : Below B w w') : o.Lie B w' := ⟨h.at_.later hb h.lt, h.lt⟩
def AD.step (A : AD) (o : OP) : Int × AD :=
  if o.kind = 1 then A.write o.name.data.toList o.at_ o.text.data.toList
  else if o.kind = 2 then A.sync o.name.data.toList
  else if o.kind = 3 then A.trunc o.name.data.toList o.n
  else if o.kind = 4 then A.rename o.name.data.toList o.to.data.toList
  else if o.kind = 5 then A.remove o.name.data.toList
  else if o.kind = 7 then (0, A.armed o.n o.at_)
  else if o.kind = 11 then (0, A.fallen o.n)
  else if o.kind = 8 then (0, A.crash (o.fates.map FT.abs))
  else if o.kind = 9 then (0, A.on)
  else (0, A)
theorem set_same {α : Type} {L : List α} {i : Nat} {x : α} (h : L[i]? = some x) : L.set i x = L := by
  obtain ⟨hl, rfl⟩ := List.getElem?_eq_some_iff.1 h
  exact List.set_getElem_self hl
def OpsAt (w : World) (ad : Option Addr) (os : List OP) : Prop := os = [] ∨ ∃ b o, ad = some ⟨b, o, none⟩ ∧ b < w.heap.size ∧ ∀ i (h : i < os.length) j, j < 8 → w.cell? ⟨b, o + i * 8 + j, none⟩ = (os[i].cs)[j]?
/-- A script among the arguments. -/
structure Script (B : Nat) (w : World) (ad : Option Addr) (os : List OP) : Prop where
  at_ : OpsAt w ad os
  lt : os ≠ [] → ∀ b o, ad = some ⟨b, o, none⟩ → b < B
  ok : ∀ o ∈ os, o.Ok
  lie : ∀ o ∈ os, o.Lie B w
  len : os.length ≤ maxLen
theorem Script.below {B : Nat} {w w' : World} {ad : Option Addr} {os : List OP} (h : Script B w ad os) (hb : Below B w w') : Script B w' ad os := by
  refine ⟨?_, h.lt, h.ok, fun o ho => (h.lie o ho).below hb, h.len⟩
  rcases h.at_ with x | ⟨b, o, ha, hlt, hc⟩
  · exact .inl x
  · refine .inr ⟨b, o, ha, Nat.lt_of_lt_of_le hlt hb.size, fun i hi j hj => ?_⟩
    rw [← hc i hi j hj]
    exact World.cell?_of_block (hb.block b (h.lt (fun e => by rw [e] at hi; simp at hi) b o ha))
/-- The cells of one step. -/
theorem Script.cells {B : Nat} {w : World} {ad : Option Addr} {os : List OP} (h : Script B w ad os) {k : Nat} (hk : k < os.length) : ∃ b o, ad = some ⟨b, o, none⟩ ∧ ∀ j, j < 8 → w.cell? ⟨b, o + k * 8 + j, none⟩ = (os[k].cs)[j]? := by
  rcases h.at_ with x | ⟨b, o, ha, hlt, hc⟩
  · rw [x] at hk; simp at hk
  · exact ⟨b, o, ha, fun j hj => hc k hk j hj⟩
def playD (A : AD) (os : List OP) : AD := os.foldl (fun A o => (A.step o).2) A
def madeD (os : List OP) : AD := (((playD (AD.fresh 100000) os).on).armed 0 0).fallen 0
theorem playD_snoc (A : AD) (os : List OP) (k : Nat) (h : k < os.length) : playD A (os.take (k + 1)) = ((playD A (os.take k)).step os[k]).2 := by
  unfold playD
  rw [take_snoc os k h, List.foldl_append]
  rfl
end Go.Proofs.YtdffmmiegpndkaaGreatDoor
/-
  The statements' own helper: text.
-/
namespace Go.Proofs.YtdffmmiegpndkaaGreatDoor
open Go.RowKit Go.Maps Go.WideMaps
set_option linter.unusedVariables false
set_option linter.unusedSimpArgs false
theorem set_fill (c : UInt8) (n k : Nat) (h : k < n) : (List.replicate k c ++ List.replicate (n - k) (0 : UInt8)).set k c = List.replicate (k + 1) c ++ List.replicate (n - (k + 1)) 0 := by
  obtain ⟨m, rfl⟩ : ∃ m, n = k + 1 + m := ⟨n - (k + 1), by omega⟩
  rw [show k + 1 + m - k = m + 1 by omega, show k + 1 + m - (k + 1) = m by omega, List.set_append_right _ _ (by simp), List.length_replicate, Nat.sub_self, List.replicate_succ, List.set_cons_zero, List.replicate_succ']
  simp
theorem Bytes.stored {w : World} {g n cap : Nat} {l : List UInt8} (h : Bytes w 0 (.slice (some ⟨g, 0, none⟩) n cap) l) (hn : l.length = n) (j : Nat) (c : UInt8) : Bytes (w.setCell ⟨g, j, none⟩ (.int .u8 (c.toNat : Int))) 0 (.slice (some ⟨g, 0, none⟩) n cap) (l.set j c) := by
  subst hn
  have := (World.ownsRow.stored h j (.int .u8 (c.toNat : Int))).1
  unfold Bytes
  rw [List.length_set, List.map_set]
  exact this
-- left out in this seat: text_any
end Go.Proofs.YtdffmmiegpndkaaGreatDoor
