/-
  A tale in memory: most, tried.
-/
import Derived.Test.YtlkimfmilccanaaGreatMkWhole
import Derived.Test.YtlkimfmilccanaaGreatMkSafeO
import Derived.Test.YtlkimfmilccanaaGreatRowsOwn
namespace Go.Proofs.YtlkimfmilccanaaGreat
open Go.RowKit Go.Maps Go.WideMaps
set_option linter.unusedVariables false
set_option linter.unusedSimpArgs false
/-- Nothing at all. -/
def Item.void : Item := ⟨fun _ S => ∀ b, ¬ S b, fun w S h b hb => absurd hb (h b), fun w w' S h _ => h⟩
section
variable {B : Nat} {w : World} {L : List Item} {j : Nat}
theorem Lies.voided (h : Lies B w L) (j : Nat) : Lies B w (L.set j .void) := by
  obtain ⟨hb, S, h1, h2, h3⟩ := h
  refine ⟨hb, fun i => if i = j then fun _ => False else S i, fun i it hi => ?_, fun i b hi hS => ?_, fun i k b hi hk hne hS hS2 => ?_⟩
  · by_cases e : i = j
    · subst e
      have hl : i < L.length := by have := (List.getElem?_eq_some_iff.1 hi).1; rw [List.length_set] at this; exact this
      rw [List.getElem?_set_self hl] at hi
      cases hi
      intro b hb
      simp only [if_true] at hb
    · rw [List.getElem?_set_ne (fun x => e x.symm)] at hi
      simp only [if_neg e]
      exact h1 i it hi
  · rw [List.length_set] at hi
    by_cases e : i = j
    · rw [if_pos e] at hS; exact hS.elim
    · rw [if_neg e] at hS; exact h2 i b hi hS
  · rw [List.length_set] at hi hk
    by_cases e : i = j
    · rw [if_pos e] at hS; exact hS.elim
    · rw [if_neg e] at hS
      by_cases e2 : k = j
      · rw [if_pos e2] at hS2; exact hS2.elim
      · rw [if_neg e2] at hS2; exact h3 i k b hi hk hne hS hS2
theorem Lies.swapLast {x : Item} (h : Lies B w (L ++ [x])) (hj : j < L.length) : Lies B w (L.set j x) := by
  refine h.pickL (fun i => if i = j then L.length else i) (fun i it hi => ?_) (fun i k hi hk e => ?_)
  · by_cases e : i = j
    · subst e
      rw [List.getElem?_set_self hj] at hi
      simp only [if_true]
      rw [List.getElem?_append_right (Nat.le_refl _), Nat.sub_self]
      exact hi
    · rw [List.getElem?_set_ne (fun x => e x.symm)] at hi
      simp only [if_neg e]
      rw [List.getElem?_append_left (List.getElem?_eq_some_iff.1 hi).1]
      exact hi
  · rw [List.length_set] at hi hk
    by_cases e1 : i = j <;> by_cases e2 : k = j
    · omega
    · simp only [if_pos e1, if_neg e2] at e; omega
    · simp only [if_neg e1, if_pos e2] at e; omega
    · simp only [if_neg e1, if_neg e2] at e; exact e
theorem Lies.setBlk {g o : Nat} {T : TypeId} {cs : Array Value} (u : Value) (cs' : Array Value) (hcs : cs.setIfInBounds o u = cs') (h : Lies B w L) (hj : L[j]? = some (.block g (.cells cs T (0, 0)))) : Lies B (w.setCell ⟨g, o, none⟩ u) (L.set j (.block g (.cells cs' T (0, 0)))) ∧ Below B w (w.setCell ⟨g, o, none⟩ u) := by
  obtain ⟨S, ⟨hc, hS⟩, hB, _, hk⟩ := h.upd hj
  have e2 : (w.setCell ⟨g, o, none⟩ u).heap[g]? = some (.cells cs' T (0, 0)) := by rw [heap_setCell_same w g o _ T _ hc, hcs]
  have t3 := Turn.setCell w ⟨g, o, none⟩ u
  exact hk _ _ S ⟨e2, hS⟩ ⟨⟨t3.os, t3.tape, t3.output, t3.size, fun b hb hn => t3.block b hb (fun e => hn ((hS b).2 e))⟩, fun b hb => .inl hb⟩
end
/-! ### tales -/
structure TS where
  ac : Int
  tr : List Int
  v : Value
  m : Option (Nat × Int × Nat)
def mkPtr : Option (Nat × Int × Nat) → Value
  | none => .pointer none
  | some x => .pointer (some ⟨x.1, 0, none⟩)
def mkO (p : Nat) (k : ByteArray) : Option (Nat × Int × Nat) → Item
  | none => .void
  | some x => .mkI 91 x.1 p k x.2.1 x.2.2
def TS.M (s : TS) : Option (Int × Nat) := s.m.map (·.2)
def TS.cells (s : TS) : Array Value := #[mkPtr s.m, .int .i64 s.ac, s.v]
def intV (x : Int) : Value := .int .i64 x
def TS.row (s : TS) : Item := .row 2 s.v (s.tr.map intV)
def TS.blk (s : TS) (t : Nat) : Item := .block t (.cells s.cells 55 (0, 0))
section
variable {B : Nat} {w : World} {L : List Item} {a r t : Nat} {s : TS}
theorem tale_row (h : Lies B w L) (hr : L[r]? = some s.row) : ∃ ad cap, s.v = .slice ad s.tr.length cap ∧ s.tr.length ≤ maxLen ∧ ∀ i (hi : i < s.tr.length), ∃ b o, ad = some ⟨b, o, none⟩ ∧ w.cell? ⟨b, o + i, none⟩ = some (.int .i64 s.tr[i]) := by
  obtain ⟨ad, cap, hv, hra, hl, hm⟩ := row_at (h.rowOf hr)
  rw [List.length_map] at hv hm
  refine ⟨ad, cap, hv, hm, fun i hi => ?_⟩
  rcases hra with he | ⟨b, o, ha, hlt, hc⟩
  · rw [List.map_eq_nil_iff.1 he] at hi; simp at hi
  · refine ⟨b, o, ha, ?_⟩
    rw [hc i (by rw [List.length_map]; exact hi), List.getElem?_map, List.getElem?_eq_getElem hi]
    rfl
theorem tale_cells (h : Lies B w L) (ha : L[a]? = some (s.blk t)) : w.cell? ⟨t, 0, none⟩ = some (mkPtr s.m) ∧ w.cell? ⟨t, 1, none⟩ = some (.int .i64 s.ac) ∧ w.cell? ⟨t, 2, none⟩ = some s.v ∧ ∀ i, w.frozen? ⟨t, i, none⟩ = false := by
  have hc := block_at h ha
  refine ⟨?_, ?_, ?_, fun i => frozen_of_row w t i _ _ hc⟩
  · rw [cell_of_row w t 0 _ _ (0, 0) hc]; rfl
  · rw [cell_of_row w t 1 _ _ (0, 0) hc]; rfl
  · rw [cell_of_row w t 2 _ _ (0, 0) hc]; rfl
theorem most_snoc (l : List Int) (i : Nat) (hi : i < l.length) : mostI (l.take (i + 1)) = if l[i] > mostI (l.take i) then l[i] else mostI (l.take i) := by
  unfold mostI
  rw [List.take_succ_eq_append_getElem hi, List.foldl_append]
  rfl
set_option maxRecDepth 5000 in
set_option maxHeartbeats 2000000 in
theorem most_any (h : Lies B w L) (ha : L[a]? = some (s.blk t)) (hr : L[r]? = some s.row) : Calls Tryz.prog 48 #[.pointer (some ⟨t, 0, none⟩)] w fun e w' => e = .returned (.int .i64 (mostI s.tr)) ∧ w' = w := by
  obtain ⟨ad, cap, hv, hm, hcell⟩ := tale_row h hr
  obtain ⟨_, _, c2, _⟩ := tale_cells h ha
  rw [hv] at c2
  obtain ⟨l, hl⟩ : ∃ l, s.tr = l := ⟨_, rfl⟩
  rw [hl] at c2 hm
  have HC : Hid (∀ i (hi : i < l.length), ∃ b o, ad = some ⟨b, o, none⟩ ∧ w.cell? ⟨b, o + i, none⟩ = some (.int .i64 l[i])) := by subst hl; exact hcell
  rw [hl]
  unfold maxLen at hm
  clear hcell h ha hr hv hl
  go_enter Tryz.func48, Tryz.ntmps48
  go_wp2
  go_loopw [3, 4] (fun n i wr => ∃ k : Nat, k ≤ l.length ∧ i = .int .i64 (k : Int) ∧ n = .int .i64 (mostI (l.take k)) ∧ wr = w) (fun _ i _ => l.length - (intOf i).toNat)
  case atStart => exact ⟨0, by omega, rfl, rfl, rfl⟩
  case round =>
    obtain ⟨k, hk, rfl, rfl, rfl⟩ := hrel
    by_cases hlt : k < l.length
    · have dk : decide ((k : Int) < (l.length : Int)) = true := decide_eq_true (by omega)
      have hk0 : (0 : Int) ≤ (k : Int) := by omega
      have hk1 : (k : Int) < (l.length : Int) := by omega
      obtain ⟨b, o, rfl, hc⟩ := HC.out k hlt
      obtain ⟨x, hx⟩ : ∃ x, l[k] = x := ⟨_, rfl⟩
      rw [hx] at hc
      obtain ⟨y, hy⟩ : ∃ y, mostI (l.take k) = y := ⟨_, rfl⟩
      rw [hy]
      have HS := hide (most_snoc l k hlt)
      rw [hx, hy] at HS
      clear hx hy
      by_cases hg : x > y
      · have dg : decide (x > y) = true := decide_eq_true hg
        have dg' : decide (y < x) = true := decide_eq_true hg
        have HE : Hid (mostI (l.take (k + 1)) = x) := by show _ = _; rw [HS.out, if_pos hg]
        clear hg HS
        go_wp2
        go_roundw
        case rel => exact ⟨k + 1, by omega, by go_num, by rw [HE.out], by first | rfl | trivial⟩
        case measure => simp [intOf]; omega
      · have dg : decide (x > y) = false := decide_eq_false hg
        have dg' : decide (y < x) = false := decide_eq_false hg
        have HE : Hid (mostI (l.take (k + 1)) = y) := by show _ = _; rw [HS.out, if_neg hg]
        clear hg HS
        go_wp2
        go_roundw
        case rel => exact ⟨k + 1, by omega, by go_num, by rw [HE.out], by first | rfl | trivial⟩
        case measure => simp [intOf]; omega
    · have hkl : k = l.length := by omega
      subst hkl
      have dk : decide ((l.length : Int) < (l.length : Int)) = false := decide_eq_false (by omega)
      rw [List.take_length]
      go_wp2
      go_ret
      exact ⟨rfl, rfl⟩
def trB (l : List Int) (v : Int) : Bool := decide (v = -1) || l.contains v
theorem trB_iff {l : List Int} {v : Int} : trB l v = true ↔ TR l v := by
  unfold trB TR
  rw [Bool.or_eq_true, decide_eq_true_iff, List.contains_iff_mem]
set_option maxRecDepth 5000 in
set_option maxHeartbeats 2000000 in
theorem tried_any (h : Lies B w L) (ha : L[a]? = some (s.blk t)) (hr : L[r]? = some s.row) (v : Int) : Calls Tryz.prog 51 #[.pointer (some ⟨t, 0, none⟩), .int .i64 v] w fun e w' => e = .returned (.bool (trB s.tr v)) ∧ w' = w := by
  obtain ⟨ad, cap, hv, hm, hcell⟩ := tale_row h hr
  obtain ⟨_, _, c2, _⟩ := tale_cells h ha
  rw [hv] at c2
  obtain ⟨l, hl⟩ : ∃ l, s.tr = l := ⟨_, rfl⟩
  rw [hl] at c2 hm
  have HC : Hid (∀ i (hi : i < l.length), ∃ b o, ad = some ⟨b, o, none⟩ ∧ w.cell? ⟨b, o + i, none⟩ = some (.int .i64 l[i])) := by subst hl; exact hcell
  rw [hl]
  unfold maxLen at hm
  obtain ⟨R, hR⟩ : ∃ R, trB l v = R := ⟨_, rfl⟩
  rw [hR]
  have HR := hide hR
  clear hcell h ha hr hv hl hR
  go_enter Tryz.func51, Tryz.ntmps51
  go_wp2
  go_loopw [5] (fun i wr => ∃ k : Nat, k ≤ l.length ∧ i = .int .i64 (k : Int) ∧ (l.take k).contains v = false ∧ wr = w) (fun i _ => l.length - (intOf i).toNat)
  case atStart => exact ⟨0, by omega, rfl, rfl, rfl⟩
  case round =>
    obtain ⟨k, hk, rfl, hno, rfl⟩ := hrel
    have HN := hide hno
    clear hno
    by_cases hlt : k < l.length
    · have dk : decide ((k : Int) < (l.length : Int)) = true := decide_eq_true (by omega)
      have hk0 : (0 : Int) ≤ (k : Int) := by omega
      have hk1 : (k : Int) < (l.length : Int) := by omega
      obtain ⟨b, o, rfl, hc⟩ := HC.out k hlt
      by_cases he : l[k] = v
      · have HT : Hid (R = true) := by
          show _ = _
          rw [← HR.out]
          unfold trB
          rw [Bool.or_eq_true, List.contains_iff_mem]
          exact .inr (he ▸ List.getElem_mem hlt)
        rw [he] at hc
        have dv : (v == v) = true := by simp
        clear he
        go_wp2
        go_ret
        exact ⟨by rw [HT.out]; rfl, rfl⟩
      · obtain ⟨x, hx⟩ : ∃ x, l[k] = x := ⟨_, rfl⟩
        rw [hx] at hc
        have dv : (x == v) = false := beq_eq_false_iff_ne.2 (by rw [← hx]; exact he)
        have HC2 : Hid ((l.take (k + 1)).contains v = false) := by
          show _ = _
          rw [List.take_succ_eq_append_getElem hlt, ← Bool.not_eq_true, List.contains_iff_mem, List.mem_append]
          rintro (h1 | h1)
          · have := HN.out
            rw [← Bool.not_eq_true, List.contains_iff_mem] at this
            exact this h1
          · simp at h1
            exact he h1.symm
        clear he hx
        go_wp2
        go_roundw
        case rel => exact ⟨k + 1, by omega, by go_num, HC2.out, by first | rfl | trivial⟩
        case measure => simp [intOf]; omega
    · have hkl : k = l.length := by omega
      subst hkl
      have dk : decide ((l.length : Int) < (l.length : Int)) = false := decide_eq_false (by omega)
      obtain ⟨bv, hbv⟩ : ∃ b, (v == -1) = b := ⟨_, rfl⟩
      have HB : Hid (R = bv) := by
        show _ = _
        have := HN.out
        rw [List.take_length] at this
        rw [← HR.out]
        unfold trB
        rw [this, Bool.or_false, ← hbv]
        by_cases e : v = -1
        · rw [e]; rfl
        · rw [decide_eq_false e, beq_eq_false_iff_ne.2 e]
      go_wp2
      go_ret
      exact ⟨by rw [HB.out]; rfl, rfl⟩
end
end Go.Proofs.YtlkimfmilccanaaGreat
