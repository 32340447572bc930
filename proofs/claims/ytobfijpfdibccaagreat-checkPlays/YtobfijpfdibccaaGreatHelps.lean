/-
  The statements' own helpers: lists of texts and numbers held against one another.
-/
import Derived.Test.YtobfijpfdibccaaGreatHeap
namespace Go.Proofs.YtobfijpfdibccaaGreat
open Go.RowKit Go.Maps Go.WideMaps
set_option linter.unusedVariables false
set_option linter.unusedSimpArgs false
/-- A slice's elements, of one cell each. -/
def RowAt (w : World) (ad : Option Addr) (xs : List Value) : Prop := xs = [] ∨ ∃ b o, ad = some ⟨b, o, none⟩ ∧ b < w.heap.size ∧ ∀ i, i < xs.length → w.cell? ⟨b, o + i, none⟩ = xs[i]?
theorem row_at {w : World} {base e n : Nat} {v : Value} {xs : List Value} (h : w.ownsRow base e 1 v n xs) : ∃ ad cap, v = .slice ad n cap ∧ RowAt w ad xs ∧ xs.length = n ∧ n ≤ maxLen := by
  have hl := h.1
  rw [Nat.mul_one] at hl
  rcases h.2 with ⟨rfl, hn⟩ | ⟨g, cap, cur, rfl, hb, hg, hnc, hcm, rest⟩
  · subst hn
    exact ⟨none, 0, rfl, .inl (List.length_eq_zero_iff.1 hl), hl, Nat.zero_le _⟩
  · refine ⟨_, cap, rfl, .inr ⟨g, 0, rfl, lt_of_some hg, fun i hi => ?_⟩, hl, by omega⟩
    have := World.ownsRow.cells h (g := g) rfl i xs[i] (List.getElem?_eq_getElem hi)
    rw [List.getElem?_eq_getElem hi, ← this]
    congr 1
    unfold Addr.add
    split <;> simp_all
theorem RowAt.same {w w' : World} {ad : Option Addr} {xs : List Value} (h : RowAt w ad xs) {S : Nat → Prop} (t : Turn S w w') (hn : ∀ b o, ad = some ⟨b, o, none⟩ → ¬ S b) : RowAt w' ad xs := by
  rcases h with h | ⟨b, o, ha, hlt, hc⟩
  · exact .inl h
  · refine .inr ⟨b, o, ha, Nat.lt_of_lt_of_le hlt t.size, fun i hi => ?_⟩
    rw [← hc i hi]
    exact World.cell?_of_block (t.block b hlt (hn b o ha))
theorem toList_beq (a b : ByteArray) : (a.toList == b.toList) = (a.data.toList == b.data.toList) := by rw [ByteArray.toList_eq, ByteArray.toList_eq]
theorem take_all_ne {α : Type} [BEq α] [LawfulBEq α] {l : List α} {k : Nat} {x : α} (h : (l.take k).contains x = false) (hk : k < l.length) (hx : (l[k] == x) = false) : (l.take (k + 1)).contains x = false := by
  rw [List.take_succ_eq_append_getElem hk, List.contains_append, h]
  simp only [List.contains_cons, List.contains_nil, Bool.or_false, Bool.false_or]
  rw [← hx]
  exact Bool.eq_iff_iff.2 ⟨fun e => beq_iff_eq.2 (beq_iff_eq.1 e).symm, fun e => beq_iff_eq.2 (beq_iff_eq.1 e).symm⟩
theorem contains_at {α : Type} [BEq α] [LawfulBEq α] {l : List α} {k : Nat} {x : α} (hk : k < l.length) (hx : (l[k] == x) = true) : l.contains x = true := by
  rw [List.contains_iff_mem, ← beq_iff_eq.1 hx]; exact List.getElem_mem hk
set_option maxRecDepth 5000 in
set_option maxRecDepth 5000 in
theorem drewN_below {B : Nat} {w w1 : World} (h : Below B w w1) (n : Nat) : Below B w (w1.drewN n) := ⟨h.os, h.tape, h.output, h.size, h.block⟩
theorem take_eq_succ {α : Type} {a b : List α} {k : Nat} (h : a.take k = b.take k) (ha : k < a.length) (hb : k < b.length) (hx : a[k] = b[k]) : a.take (k + 1) = b.take (k + 1) := by
  rw [List.take_succ_eq_append_getElem ha, List.take_succ_eq_append_getElem hb, h, hx]
set_option maxRecDepth 5000 in
theorem sameTexts_any (w : World) (ad1 ad2 : Option Addr) (cap1 cap2 : Nat) (ks ms : List Key) (h : RowAt w ad1 (ks.map encStr)) (hm : RowAt w ad2 (ms.map encStr)) (hl : ks.length ≤ maxLen) (hl2 : ms.length ≤ maxLen) :
    Calls Tryz.prog 25 #[.slice ad1 ks.length cap1, .slice ad2 ms.length cap2] w fun e w' => e = .returned (.bool (ks == ms)) ∧ Below w.heap.size w w' := by
  have HR := hide h
  have HM := hide hm
  unfold maxLen at hl hl2
  clear h hm
  by_cases hne : ks.length = ms.length
  · have dn : (((ks.length : Int) == (ms.length : Int))) = true := beq_iff_eq.2 (by omega)
    have HNE := hide hne
    clear hne
    go_enter Tryz.func25, Tryz.ntmps25
    go_wp2
    go_loopw [5] (fun i wr => ∃ k : Nat, k ≤ ks.length ∧ i = .int .i64 (k : Int) ∧ ks.take k = ms.take k ∧ Below w.heap.size w wr) (fun i _ => ks.length - (intOf i).toNat)
    case atStart => exact ⟨0, by omega, rfl, rfl, Below.refl _ _⟩
    case round =>
      obtain ⟨k, hk, rfl, hno, hbw⟩ := hrel
      have HN := hide hno
      have HB := hide hbw
      clear hno hbw
      by_cases hlt : k < ks.length
      · have hlt2 : k < ms.length := by rw [← HNE.out]; exact hlt
        have dk : decide ((k : Int) < (ks.length : Int)) = true := decide_eq_true (by omega)
        have hk0 : (0 : Int) ≤ (k : Int) := by omega
        have hk1 : (k : Int) < (ks.length : Int) := by omega
        have hk2 : (k : Int) < (ms.length : Int) := by omega
        rcases HR.out with h | ⟨b, o, rfl, hbl, hcs⟩
        · rw [List.map_eq_nil_iff.1 h] at hlt; exact absurd hlt (by simp)
        rcases HM.out with h | ⟨b2, o2, rfl, hbl2, hcs2⟩
        · rw [List.map_eq_nil_iff.1 h] at hlt2; exact absurd hlt2 (by simp)
        have f0 : wr.cell? ⟨b, o + k, none⟩ = some (.string ⟨ks[k].toArray⟩) := by rw [World.cell?_of_block (HB.out.block b hbl), hcs k (by simpa using hlt), List.getElem?_map, List.getElem?_eq_getElem hlt]; rfl
        have f1 : wr.cell? ⟨b2, o2 + k, none⟩ = some (.string ⟨ms[k].toArray⟩) := by rw [World.cell?_of_block (HB.out.block b2 hbl2), hcs2 k (by simpa using hlt2), List.getElem?_map, List.getElem?_eq_getElem hlt2]; rfl
        obtain ⟨x, hx⟩ : ∃ x, ks[k] = x := ⟨_, rfl⟩
        obtain ⟨y, hy⟩ : ∃ y, ms[k] = y := ⟨_, rfl⟩
        rw [hx] at f0
        rw [hy] at f1
        cases hq : (x == y) with
        | true =>
          have HC := hide (take_eq_succ HN.out hlt hlt2 (by rw [hx, hy]; exact beq_iff_eq.1 hq))
          clear hcs hcs2 hx hy
          go_wp2
          go_quiet (fail)
          go_wp2
          go_roundw
          case rel => exact ⟨k + 1, by omega, by go_num, HC.out, drewN_below HB.out _⟩
          case measure => simp [intOf]; omega
        | false =>
          have HC : Hid ((ks == ms) = false) := by
            show _ = _
            rw [beq_eq_false_iff_ne]
            intro e
            subst e
            rw [← hx, ← hy] at hq
            simp at hq
          clear hcs hcs2 hx hy
          go_wp2
          go_quiet (fail)
          go_wp2
          go_ret
          exact ⟨by rw [HC.out]; rfl, drewN_below HB.out _⟩
      · have hkl : k = ks.length := by omega
        subst hkl
        have dk : decide ((ks.length : Int) < (ks.length : Int)) = false := decide_eq_false (by omega)
        have HC : Hid ((ks == ms) = true) := by
          show _ = _
          have := HN.out
          rw [List.take_length, HNE.out, List.take_length] at this
          exact beq_iff_eq.2 this
        go_wp2
        go_ret
        exact ⟨by rw [HC.out]; rfl, HB.out⟩
  · have dn : (((ks.length : Int) == (ms.length : Int))) = false := beq_eq_false_iff_ne.2 (by omega)
    have HC : Hid ((ks == ms) = false) := by
      show _ = _
      rw [beq_eq_false_iff_ne]
      exact fun e => hne (by rw [e])
    clear hne
    go_enter Tryz.func25, Tryz.ntmps25
    go_wp2
    go_ret
    exact ⟨by rw [HC.out]; rfl, Below.refl _ _⟩
set_option maxRecDepth 5000 in
theorem sameInts_any (w : World) (ad1 ad2 : Option Addr) (cap1 cap2 : Nat) (ks ms : List Int) (h : RowAt w ad1 (ks.map (Value.int .i64))) (hm : RowAt w ad2 (ms.map (Value.int .i64))) (hl : ks.length ≤ maxLen) (hl2 : ms.length ≤ maxLen) :
    Calls Tryz.prog 33 #[.slice ad1 ks.length cap1, .slice ad2 ms.length cap2] w fun e w' => e = .returned (.bool (ks == ms)) ∧ Below w.heap.size w w' := by
  have HR := hide h
  have HM := hide hm
  unfold maxLen at hl hl2
  clear h hm
  by_cases hne : ks.length = ms.length
  · have dn : (((ks.length : Int) == (ms.length : Int))) = true := beq_iff_eq.2 (by omega)
    have HNE := hide hne
    clear hne
    go_enter Tryz.func33, Tryz.ntmps33
    go_wp2
    go_loopw [5] (fun i wr => ∃ k : Nat, k ≤ ks.length ∧ i = .int .i64 (k : Int) ∧ ks.take k = ms.take k ∧ Below w.heap.size w wr) (fun i _ => ks.length - (intOf i).toNat)
    case atStart => exact ⟨0, by omega, rfl, rfl, Below.refl _ _⟩
    case round =>
      obtain ⟨k, hk, rfl, hno, hbw⟩ := hrel
      have HN := hide hno
      have HB := hide hbw
      clear hno hbw
      by_cases hlt : k < ks.length
      · have hlt2 : k < ms.length := by rw [← HNE.out]; exact hlt
        have dk : decide ((k : Int) < (ks.length : Int)) = true := decide_eq_true (by omega)
        have hk0 : (0 : Int) ≤ (k : Int) := by omega
        have hk1 : (k : Int) < (ks.length : Int) := by omega
        have hk2 : (k : Int) < (ms.length : Int) := by omega
        rcases HR.out with h | ⟨b, o, rfl, hbl, hcs⟩
        · rw [List.map_eq_nil_iff.1 h] at hlt; exact absurd hlt (by simp)
        rcases HM.out with h | ⟨b2, o2, rfl, hbl2, hcs2⟩
        · rw [List.map_eq_nil_iff.1 h] at hlt2; exact absurd hlt2 (by simp)
        have f0 : wr.cell? ⟨b, o + k, none⟩ = some (.int .i64 ks[k]) := by rw [World.cell?_of_block (HB.out.block b hbl), hcs k (by simpa using hlt), List.getElem?_map, List.getElem?_eq_getElem hlt]; rfl
        have f1 : wr.cell? ⟨b2, o2 + k, none⟩ = some (.int .i64 ms[k]) := by rw [World.cell?_of_block (HB.out.block b2 hbl2), hcs2 k (by simpa using hlt2), List.getElem?_map, List.getElem?_eq_getElem hlt2]; rfl
        obtain ⟨x, hx⟩ : ∃ x, ks[k] = x := ⟨_, rfl⟩
        obtain ⟨y, hy⟩ : ∃ y, ms[k] = y := ⟨_, rfl⟩
        rw [hx] at f0
        rw [hy] at f1
        cases hq : (x == y) with
        | true =>
          have HC := hide (take_eq_succ HN.out hlt hlt2 (by rw [hx, hy]; exact beq_iff_eq.1 hq))
          clear hcs hcs2 hx hy
          go_wp2
          go_quiet (fail)
          go_wp2
          go_roundw
          case rel => exact ⟨k + 1, by omega, by go_num, HC.out, drewN_below HB.out _⟩
          case measure => simp [intOf]; omega
        | false =>
          have HC : Hid ((ks == ms) = false) := by
            show _ = _
            rw [beq_eq_false_iff_ne]
            intro e
            subst e
            rw [← hx, ← hy] at hq
            simp at hq
          clear hcs hcs2 hx hy
          go_wp2
          go_quiet (fail)
          go_wp2
          go_ret
          exact ⟨by rw [HC.out]; rfl, drewN_below HB.out _⟩
      · have hkl : k = ks.length := by omega
        subst hkl
        have dk : decide ((ks.length : Int) < (ks.length : Int)) = false := decide_eq_false (by omega)
        have HC : Hid ((ks == ms) = true) := by
          show _ = _
          have := HN.out
          rw [List.take_length, HNE.out, List.take_length] at this
          exact beq_iff_eq.2 this
        go_wp2
        go_ret
        exact ⟨by rw [HC.out]; rfl, HB.out⟩
  · have dn : (((ks.length : Int) == (ms.length : Int))) = false := beq_eq_false_iff_ne.2 (by omega)
    have HC : Hid ((ks == ms) = false) := by
      show _ = _
      rw [beq_eq_false_iff_ne]
      exact fun e => hne (by rw [e])
    clear hne
    go_enter Tryz.func33, Tryz.ntmps33
    go_wp2
    go_ret
    exact ⟨by rw [HC.out]; rfl, Below.refl _ _⟩
end Go.Proofs.YtobfijpfdibccaaGreat
