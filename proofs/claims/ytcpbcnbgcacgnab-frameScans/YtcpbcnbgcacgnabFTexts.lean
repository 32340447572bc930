/-
  Lists of texts and of numbers: in memory, grown by one, held against one another.
-/
import Derived.Test.YtcpbcnbgcacgnabFNext
namespace Go.Proofs.Ytcpbcnbgcacgnab
open Go.RowKit C
set_option linter.unusedVariables false
abbrev Key := List UInt8
def encStr (k : Key) : Value := .string ⟨k.toArray⟩
def encInt (k : Nat) : Value := .int .i64 (k : Int)
theorem lt_of_some {w : World} {b : Nat} {ob : Obj} (h : w.heap[b]? = some ob) : b < w.heap.size := by
  rcases Nat.lt_or_ge b w.heap.size with hl | hl
  · exact hl
  · rw [Array.getElem?_eq_none hl] at h; cases h
/-- A slice's elements, of one cell each. -/
def RowAt (w : World) (ad : Option Addr) (xs : List Value) : Prop := xs = [] ∨ ∃ b o, ad = some ⟨b, o, none⟩ ∧ b < w.heap.size ∧ ∀ i, i < xs.length → w.cell? ⟨b, o + i, none⟩ = xs[i]?
theorem RowAt.below {w w' : World} {ad : Option Addr} {xs : List Value} (h : RowAt w ad xs) (hb : Below w.heap.size w w') : RowAt w' ad xs := by
  rcases h with h | ⟨b, o, ha, hl, hc⟩
  · exact .inl h
  · exact .inr ⟨b, o, ha, Nat.lt_of_lt_of_le hl hb.size, fun i hi => by rw [← hc i hi]; exact World.cell?_of_block (hb.block b hl)⟩
theorem RowAt.take {w : World} {ad : Option Addr} {xs : List Value} (h : RowAt w ad xs) (k : Nat) : RowAt w ad (xs.take k) := by
  rcases h with h | ⟨b, o, ha, hl, hc⟩
  · exact .inl (by rw [h]; simp)
  · refine .inr ⟨b, o, ha, hl, fun i hi => ?_⟩
    rw [List.length_take] at hi
    rw [hc i (by omega), List.getElem?_take_of_lt (by omega)]
theorem own_at {w : World} {base e n : Nat} {v : Value} {xs : List Value} (h : w.ownsRow base e 1 v n xs) : ∃ ad cap, v = .slice ad n cap ∧ RowAt w ad xs ∧ n ≤ cap ∧ cap ≤ maxLen ∧ (∀ b o, ad = some ⟨b, o, none⟩ → base ≤ b) := by
  obtain ⟨hl, ⟨rfl, rfl⟩ | ⟨g, cap, cur, rfl, hb, hg, hnc, hcm, hcs, htake⟩⟩ := h
  · rw [Nat.zero_mul] at hl
    exact ⟨none, 0, rfl, .inl (List.length_eq_zero_iff.1 hl), Nat.le_refl _, Nat.zero_le _, fun b o hx => by cases hx⟩
  · refine ⟨some ⟨g, 0, none⟩, cap, rfl, ?_, hnc, hcm, fun b o hx => by cases hx; exact hb⟩
    refine .inr ⟨g, 0, rfl, lt_of_some hg, fun i hi => ?_⟩
    rw [Nat.zero_add, cell_of_row w g i _ _ (0, 0) hg, ← htake, List.getElem?_take, if_pos (by omega)]
    rw [Array.getElem?_toList]
theorem row_same {w w' : World} {base e size n : Nat} {v : Value} {xs : List Value} (h : w.ownsRow base e size v n xs) (he : ∀ b, v.ownBlock = some b → w'.heap[b]? = w.heap[b]?) : w'.ownsRow base e size v n xs := by
  refine ⟨h.1, ?_⟩
  rcases h.2 with hn | ⟨g, cap, cur, rfl, hb, hg, rest⟩
  · exact .inl hn
  · exact .inr ⟨g, cap, cur, rfl, hb, by rw [he g rfl]; exact hg, rest⟩
theorem row_below {w w' : World} {base e size n : Nat} {v : Value} {xs : List Value} (h : w.ownsRow base e size v n xs) (hb : Below w.heap.size w w') : w'.ownsRow base e size v n xs := row_same h (fun b hx => hb.block b (World.ownsRow.lt h b hx).2)
/-- Another row stands, where one was grown. -/
theorem row_apart {w w' : World} {base e size n : Nat} {v u u' : Value} {xs : List Value} (h : w.ownsRow base e size v n xs) (hM : Mv w u w' u') (ha : ∀ b, v.ownBlock = some b → u.ownBlock ≠ some b) : w'.ownsRow base e size v n xs :=
  row_same h (fun b hx => hM.gr.block b (World.ownsRow.lt h b hx).2 (fun e => ha b hx e.symm))
theorem Mv.below {B : Nat} {w w' : World} {v v' : Value} (h : Mv w v w' v') (hv : ∀ k, v.ownBlock = some k → B ≤ k) (hB : B ≤ w.heap.size) : Below B w w' := grown_below h.gr (fun k hk => hv k hk) hB
theorem info9 : (Try.prog.info? 9).map (fun i => (i.zero, i.size, i.bytes)) = some (some (.string { data := #[] }), 1, 16) := by kernel_rfl
theorem info3 : (Try.prog.info? 3).map (fun i => (i.zero, i.size, i.bytes)) = some (some (.int .i64 0), 1, 8) := by kernel_rfl
/-- append(v, x), one element of one cell, in a region that draws no order. -/
theorem wpList_append_one {ops : Array Oper} {rest : List Oper} {o : Oper} {a : Act} {w w0 : World} {Q : Exit → Act → World → Prop} (hgd : o.guard = none) (s x : Operand) (t e : TypeId) (z : Value) (by_ : Nat)
    (ho : o.op = .call { callee := .builtin .append, args := #[s, x], argTypes := #[t, t] }) (ht : Try.prog.underlying t = some (.slice e)) (hinf : (Try.prog.info? e).map (fun i => (i.zero, i.size, i.bytes)) = some (some z, 1, by_)) (hzc : z.cells.size = 1)
    (B : Nat) (v : Value) (n : Nat) (l : List Value) (X : Value) (hX1 : X.oneCell' = true) (hs : a.eval s = v) (hown : w0.ownsRow B e 1 v n l)
    (hx : a.eval x = .slice (some ⟨w0.heap.size, 0, none⟩) 1 1) (hw : w = w0.alloc (.cells #[X] e)) (hlen : (n + 1) * by_ ≤ 140737488355328) (hb1 : 1 ≤ by_) (hB : B ≤ w0.heap.size)
    (h : ∀ g cap w', w'.ownsRow B e 1 (.slice (some ⟨g, 0, none⟩) (n + 1) cap) (n + 1) (l ++ [X]) → Mv w0 v w' (.slice (some ⟨g, 0, none⟩) (n + 1) cap) → wpList Try.prog ops Q rest (a.put o.dst (.slice (some ⟨g, 0, none⟩) (n + 1) cap)) w') : wpList Try.prog ops Q (o :: rest) a w := by
  subst hw
  have hmx : n + 1 ≤ 140737488355328 := Nat.le_trans (Nat.le_mul_of_pos_right _ hb1) hlen
  obtain ⟨i, hi, hz0, hz1, hz2⟩ := info_parts hinf
  have hown' : (w0.alloc (.cells #[X] e)).ownsRow B e 1 v n l := World.ownsRow.kept hown (grown_alloc w0 _ none) (by cases v.ownBlock <;> simp)
  refine wpList_append_lies (P := Try.prog) _ hgd s x t ho B e i z 1 by_ ht hi hz0 hz1 hz2 hzc (by omega) v n l hs hown' ⟨w0.heap.size, 0, none⟩ 1 1 [X] hx rfl ?_ ?_ (by omega) (by unfold maxLen; omega) hlen (by simp; omega) _ rfl ?_
  · intro j u hu
    exact World.news_of_block (heap_alloc_new w0 _) j u hu
  · intro u hu
    simp at hu; subst hu; exact hX1
  · intro g cap w' h1 h2 h3 h4
    refine h g cap w' h1 ⟨grown_trans (grown_alloc w0 _ v.ownBlock) h2, fun g' hg' => ?_⟩
    have e : g' = g := by simpa [Value.ownBlock] using hg'.symm
    subst e
    rcases h3 with h3 | h3
    · exact .inl h3
    · exact .inr (by simp at h3; omega)
theorem drewN_below {B : Nat} {w w1 : World} (h : Below B w w1) (n : Nat) : Below B w (w1.drewN n) := ⟨h.os, h.tape, h.output, h.size, h.block⟩
theorem take_eq_succ {α : Type} {a b : List α} {k : Nat} (h : a.take k = b.take k) (ha : k < a.length) (hb : k < b.length) (hx : a[k] = b[k]) : a.take (k + 1) = b.take (k + 1) := by
  rw [List.take_succ_eq_append_getElem ha, List.take_succ_eq_append_getElem hb, h, hx]
set_option maxRecDepth 5000 in
theorem same_any (w : World) (ad1 ad2 : Option Addr) (cap1 cap2 : Nat) (ks ms : List Key) (h : RowAt w ad1 (ks.map encStr)) (hm : RowAt w ad2 (ms.map encStr)) (hl : ks.length ≤ maxLen) (hl2 : ms.length ≤ maxLen) :
    Calls Try.prog 7 #[.slice ad1 ks.length cap1, .slice ad2 ms.length cap2] w fun e w' => e = .returned (.bool (ks == ms)) ∧ Below w.heap.size w w' := by
  have HR := hide h
  have HM := hide hm
  unfold maxLen at hl hl2
  clear h hm
  by_cases hne : ks.length = ms.length
  · have dn : (((ks.length : Int) == (ms.length : Int))) = true := beq_iff_eq.2 (by omega)
    have HNE := hide hne
    clear hne
    go_enter Try.func7, Try.ntmps7
    go_wp2
    go_loopw [5] (fun i wr => ∃ k : Nat, k ≤ ks.length ∧ i = .int .i64 (k : Int) ∧ ks.take k = ms.take k ∧ Below w.heap.size w wr) (fun i _ => ks.length - (intOf i).toNat)
    case atStart => exact ⟨0, by omega, rfl, rfl, Below.refl _ _⟩
    case round =>
      obtain ⟨k, hk, rfl, hno, hbw⟩ := hrel
      have HN := hide hno
      have HB := hide hbw
      clear hno hbw
      by_cases hlt : k < ks.length
      · have hlt2 : k < ms.length := by rw [← HNE.out]; exact hlt
        have dk : decide ((k : Int) < (ks.length : Int)) = true := decide_eq_true (by omega)
        have hk0 : (0 : Int) ≤ (k : Int) := by omega
        have hk1 : (k : Int) < (ks.length : Int) := by omega
        have hk2 : (k : Int) < (ms.length : Int) := by omega
        rcases HR.out with h | ⟨b, o, rfl, hbl, hcs⟩
        · rw [List.map_eq_nil_iff.1 h] at hlt; exact absurd hlt (by simp)
        rcases HM.out with h | ⟨b2, o2, rfl, hbl2, hcs2⟩
        · rw [List.map_eq_nil_iff.1 h] at hlt2; exact absurd hlt2 (by simp)
        have f0 : wr.cell? ⟨b, o + k, none⟩ = some (.string ⟨ks[k].toArray⟩) := by rw [World.cell?_of_block (HB.out.block b hbl), hcs k (by simpa using hlt), List.getElem?_map, List.getElem?_eq_getElem hlt]; rfl
        have f1 : wr.cell? ⟨b2, o2 + k, none⟩ = some (.string ⟨ms[k].toArray⟩) := by rw [World.cell?_of_block (HB.out.block b2 hbl2), hcs2 k (by simpa using hlt2), List.getElem?_map, List.getElem?_eq_getElem hlt2]; rfl
        obtain ⟨x, hx⟩ : ∃ x, ks[k] = x := ⟨_, rfl⟩
        obtain ⟨y, hy⟩ : ∃ y, ms[k] = y := ⟨_, rfl⟩
        rw [hx] at f0
        rw [hy] at f1
        cases hq : (x == y) with
        | true =>
          have HC := hide (take_eq_succ HN.out hlt hlt2 (by rw [hx, hy]; exact beq_iff_eq.1 hq))
          clear hcs hcs2 hx hy
          go_wp2
          go_quiet (fail)
          go_wp2
          go_roundw
          case rel => exact ⟨k + 1, by omega, by go_num, HC.out, drewN_below HB.out _⟩
          case measure => simp [intOf]; omega
        | false =>
          have HC : Hid ((ks == ms) = false) := by
            show _ = _
            rw [beq_eq_false_iff_ne]
            intro e
            subst e
            rw [← hx, ← hy] at hq
            simp at hq
          clear hcs hcs2 hx hy
          go_wp2
          go_quiet (fail)
          go_wp2
          go_ret
          exact ⟨by rw [HC.out]; rfl, drewN_below HB.out _⟩
      · have hkl : k = ks.length := by omega
        subst hkl
        have dk : decide ((ks.length : Int) < (ks.length : Int)) = false := decide_eq_false (by omega)
        have HC : Hid ((ks == ms) = true) := by
          show _ = _
          have := HN.out
          rw [List.take_length, HNE.out, List.take_length] at this
          exact beq_iff_eq.2 this
        go_wp2
        go_ret
        exact ⟨by rw [HC.out]; rfl, HB.out⟩
  · have dn : (((ks.length : Int) == (ms.length : Int))) = false := beq_eq_false_iff_ne.2 (by omega)
    have HC : Hid ((ks == ms) = false) := by
      show _ = _
      rw [beq_eq_false_iff_ne]
      exact fun e => hne (by rw [e])
    clear hne
    go_enter Try.func7, Try.ntmps7
    go_wp2
    go_ret
    exact ⟨by rw [HC.out]; rfl, Below.refl _ _⟩
end Go.Proofs.Ytcpbcnbgcacgnab
