/-
  MARKSAFE, PLAIN (2): Open and Raise keep a file's word.
-/
import Derived.Test.YtlkimfmilccanaaGreatMkSafeM
namespace Go.Proofs.YtlkimfmilccanaaGreat
open Go.RowKit Go.Maps
set_option linter.unusedVariables false
theorem sec0 (l : Key) : sec l 0 = l.take 64 := by unfold sec; rw [Nat.mul_zero, List.drop_zero]
theorem whole_sec (l : Key) (j : Nat) : wholeL (l.drop (64 * j)) = wholeL (sec l j) := by
  unfold sec
  rw [wholeL_take (by omega)]
theorem pickT_sec (l : Key) : pickT l = pickM (wholeL (sec l 0)) (wholeL (sec l 1)) := by
  unfold pickT
  rw [sec0, ← whole_sec l 1]
/-- What is picked of two sectors, one of which is whole. -/
theorem pick_spec {l : Key} {j : Nat} {g : Int} (hj : j ≤ 1) (hw : wholeL (sec l j) = some g) : ∃ v x, pickT l = some (v, x) ∧ x ≤ 1 ∧ g ≤ v ∧ wholeL (sec l (1 - x)) = some v := by
  rw [pickT_sec]
  rcases (by omega : j = 0 ∨ j = 1) with rfl | rfl
  · rw [hw]
    cases h1 : wholeL (sec l 1) with
    | none => exact ⟨g, 1, rfl, by omega, Int.le_refl _, hw⟩
    | some b =>
      by_cases h : g < b
      · exact ⟨b, 0, by show (if g < b then some (b, 0) else some (g, 1)) = _; rw [if_pos h], by omega, by omega, h1⟩
      · exact ⟨g, 1, by show (if g < b then some (b, 0) else some (g, 1)) = _; rw [if_neg h], by omega, Int.le_refl _, hw⟩
  · rw [hw]
    cases h0 : wholeL (sec l 0) with
    | none => exact ⟨g, 0, rfl, by omega, Int.le_refl _, hw⟩
    | some a =>
      by_cases h : a < g
      · exact ⟨g, 0, by show (if a < g then some (g, 0) else some (a, 1)) = _; rw [if_pos h], by omega, Int.le_refl _, hw⟩
      · exact ⟨a, 1, by show (if a < g then some (g, 0) else some (a, 1)) = _; rw [if_neg h], by omega, by omega, h0⟩
/-! ### a slot is written -/
theorem AF.write_slot {F : AF} {x : Nat} {n : Int} : F.write (64 * x) (slotL n) = ⟨F.seen.take (64 * x) ++ slotL n ++ F.seen.drop (64 * x + 64), F.safe, fun s => F.dirty s || (decide (64 * x / 64 ≤ s) && decide (s ≤ (64 * x + 64 - 1) / 64))⟩ := by
  unfold AF.write
  rw [if_neg (fun e => by have := congrArg List.length e; rw [slotL_length] at this; simp at this), slotL_length]
section
variable {F : AF} {x : Nat} {n : Int}
theorem ws_len (hl : F.seen.length = 128) (hx : x ≤ 1) : (F.write (64 * x) (slotL n)).seen.length = 128 := by
  rw [AF.write_slot]
  simp only [List.length_append, List.length_take, List.length_drop, slotL_length, hl]
  omega
theorem ws_same (hl : F.seen.length = 128) (hx : x ≤ 1) : sec (F.write (64 * x) (slotL n)).seen x = slotL n := by
  rw [AF.write_slot]
  unfold sec
  simp only
  have hlt : (F.seen.take (64 * x)).length = 64 * x := by rw [List.length_take, hl]; omega
  rw [List.append_assoc, List.drop_left' hlt, List.take_left' (slotL_length n)]
theorem ws_other (hl : F.seen.length = 128) (hx : x ≤ 1) : sec (F.write (64 * x) (slotL n)).seen (1 - x) = sec F.seen (1 - x) := by
  rw [AF.write_slot]
  unfold sec
  simp only
  rcases (by omega : x = 0 ∨ x = 1) with rfl | rfl
  · simp only [Nat.mul_zero, List.take_zero, List.nil_append, Nat.zero_add]
    rw [show 64 * (1 - 0) = 64 from rfl, List.drop_left' (slotL_length n)]
  · have hlt : (F.seen.take 64).length = 64 := by rw [List.length_take, hl]; rfl
    show ((F.seen.take 64 ++ slotL n ++ F.seen.drop (64 * 1 + 64)).drop (64 * (1 - 1))).take 64 = _
    rw [show 64 * (1 - 1) = 0 from rfl, List.drop_zero, List.drop_zero, List.append_assoc, List.take_left' hlt]
theorem ws_dirty (hx : x ≤ 1) : (F.write (64 * x) (slotL n)).dirty (1 - x) = F.dirty (1 - x) := by
  rw [AF.write_slot]
  show (F.dirty (1 - x) || (decide (64 * x / 64 ≤ 1 - x) && decide (1 - x ≤ (64 * x + 64 - 1) / 64))) = _
  rcases (by omega : x = 0 ∨ x = 1) with rfl | rfl
  · simp
  · simp
theorem ws_safe : (F.write (64 * x) (slotL n)).safe = F.safe := by rw [AF.write_slot]
end
theorem SF.write {F : AF} {ac : Int} {tr : List Int} {j : Nat} {g n : Int} (h : SF F ac tr j g) (hn : numB n = true) : SF (F.write (64 * (1 - j)) (slotL n)) ac (tr ++ [n]) j g := by
  have hj := h.j1
  have e : 1 - (1 - j) = j := by omega
  have o := ws_other (F := F) (x := 1 - j) (n := n) h.len (by omega)
  have d := ws_dirty (F := F) (x := 1 - j) (n := n) (by omega)
  rw [e] at o d
  refine ⟨hj, ws_len h.len (by omega), by rw [ws_safe]; exact h.slen, by rw [d]; exact h.dj, by rw [o]; exact h.wj, by rw [ws_safe]; exact h.sj, h.ga, fun s hs v hv => ?_, fun s hs v hv => ?_⟩
  · by_cases es : s = j
    · subst es
      rw [o] at hv
      exact (h.as_ s hs v hv).app n
    · have es2 : s = 1 - j := by omega
      subst es2
      rw [ws_same h.len (by omega), wholeL_slot hn] at hv
      cases hv
      exact TR.last tr n
  · rw [ws_safe] at hv
    exact (h.af s hs v hv).app n
theorem SF.synced {F : AF} {ac : Int} {tr : List Int} {x : Nat} {v : Int} (hx : x ≤ 1) (hl : F.seen.length = 128) (hw : wholeL (sec F.seen (1 - x)) = some v) (has : ∀ s, s ≤ 1 → ∀ v, wholeL (sec F.seen s) = some v → TR tr v) : SF F.sync v tr (1 - x) v :=
  ⟨by omega, hl, hl, rfl, hw, hw, Int.le_refl _, has, has⟩
/-! ### Raise -/
section
variable {A : AD} {k : Key} {ac : Int} {tr : List Int} {v n : Int} {x : Nat}
theorem fits_ok {F : AF} (hok : A.Ok) (hk : nameOk k = true) (hF : fget A.fs k = some F) (hl : F.seen.length = 128) (hx : x ≤ 1) : A.fits k ((64 * x : Nat) : Int) 64 = 0 := by
  have hsp := hok.space
  have hfl : A.flen k = 128 := by rw [flen_some hF, hl]; rfl
  rw [fits_rest hk (by rw [hfl]; omega), hfl, hF, if_neg (by omega), if_neg (by simp), if_neg (by omega)]
theorem raise_keeps (hok : A.Ok) (hk : nameOk k = true) (h : TI A k ac tr (some (v, x))) (hn : numB n = true) (hv : v < n) :
    ∃ E v' x' A', A.raiseM k v x n = (E, (v', x'), A') ∧ (E ≠ 0 → v' = v ∧ x' = x ∧ E ≠ 1 ∧ E ≠ 190 ∧ TI A' k ac (tr ++ [n]) (some (v, x))) ∧ (E = 0 → v' = n ∧ x' = 1 - x ∧ TI A' k n (tr ++ [n]) (some (n, 1 - x))) ∧ x' ≤ 1 := by
  rcases h with ⟨_, _, h⟩ | ⟨F, j, g, hF, hs, hm⟩
  · cases h
  obtain ⟨rfl, rfl⟩ := hm v x rfl
  have hj := hs.j1
  have hw := hs.write hn
  have hfit := fits_ok (x := 1 - j) hok hk hF hs.len (by omega)
  have hfit' : A.fits k ((64 * (1 - j) : Nat) : Int) ((slotL n).length : Int) = 0 := by rw [slotL_length]; exact hfit
  obtain ⟨E1, A1, h1⟩ : ∃ E a, A.write k ((64 * (1 - j) : Nat) : Int) (slotL n) = (E, a) := ⟨_, _, rfl⟩
  have q1 : (A.write k ((64 * (1 - j) : Nat) : Int) (slotL n)).1 = E1 := by rw [h1]
  have q2 : (A.write k ((64 * (1 - j) : Nat) : Int) (slotL n)).2 = A1 := by rw [h1]
  obtain ⟨E2, A2, h2⟩ : ∃ E a, A1.sync k = (E, a) := ⟨_, _, rfl⟩
  have q3 : (A1.sync k).1 = E2 := by rw [h2]
  have q4 : (A1.sync k).2 = A2 := by rw [h2]
  unfold AD.raiseM
  rw [if_neg (by rw [hn]; simp), if_neg (by omega), h1]
  simp only [h2]
  by_cases e1 : E1 ≠ 0
  · rw [if_pos e1]
    have hne := wr_err (A := A) (d := k) (a := ((64 * (1 - j) : Nat) : Int)) (t := slotL n) (.inl hfit')
    rw [q1] at hne
    have hfs := wr_fail (A := A) (d := k) (a := ((64 * (1 - j) : Nat) : Int)) (t := slotL n) (by rw [q1]; exact e1)
    rw [q2] at hfs
    refine ⟨E1, v, 1 - j, A1, rfl, fun _ => ⟨rfl, rfl, hne.1, hne.2, .inr ⟨F, j, v, by rw [hfs]; exact hF, ⟨hs.j1, hs.len, hs.slen, hs.dj, hs.wj, hs.sj, hs.ga, fun s a b c => (hs.as_ s a b c).app n, fun s a b c => (hs.af s a b c).app n⟩, fun v' x' e => by cases e; exact ⟨rfl, rfl⟩⟩⟩, fun e => absurd e e1, by omega⟩
  rw [if_neg e1]
  have e1' : E1 = 0 := by omega
  have hfs := wr_some (t := slotL n) (a := ((64 * (1 - j) : Nat) : Int)) hF (by rw [q1]; exact e1')
  rw [q2, Int.toNat_natCast] at hfs
  have hF1 : fget A1.fs k = some (F.write (64 * (1 - j)) (slotL n)) := by rw [hfs]; exact fget_fset_same hF
  by_cases e2 : E2 ≠ 0
  · rw [if_pos e2]
    have hne := sy_err (A := A1) (d := k)
    rw [q3] at hne
    have hfs2 := sy_fail (A := A1) (d := k) (by rw [q3]; exact e2)
    rw [q4] at hfs2
    exact ⟨E2, v, 1 - j, A2, rfl, fun _ => ⟨rfl, rfl, hne.1, hne.2, .inr ⟨_, j, v, by rw [hfs2]; exact hF1, hw, fun v' x' e => by cases e; exact ⟨rfl, rfl⟩⟩⟩, fun e => absurd e e2, by omega⟩
  rw [if_neg e2]
  have hF2 := sy_ok hF1 (by rw [q3]; omega)
  rw [q4] at hF2
  refine ⟨0, n, 1 - (1 - j), A2, rfl, fun e => absurd rfl e, fun _ => ⟨rfl, rfl, .inr ⟨_, 1 - j, n, hF2, ?_, fun v' x' e => by cases e; exact ⟨rfl, rfl⟩⟩⟩, by omega⟩
  have := SF.synced (F := F.write (64 * (1 - j)) (slotL n)) (ac := ac) (x := 1 - (1 - j)) (v := n) (tr := tr ++ [n]) (by omega) hw.len (by rw [show 1 - (1 - (1 - j)) = 1 - j by omega, ws_same hs.len (by omega)]; exact wholeL_slot hn) hw.as_
  rw [show 1 - (1 - (1 - j)) = 1 - j by omega] at this
  exact this
theorem raise_get {k' : Key} (h : k' ≠ k) : fget (A.raiseM k v x n).2.2.fs k' = fget A.fs k' := by
  unfold AD.raiseM
  split
  · rfl
  split
  · rfl
  split
  · exact wr_get h
  split
  · show fget ((A.write k ((64 * x : Nat) : Int) (slotL n)).2.sync k).2.fs k' = _
    rw [sy_get h, wr_get h]
  · show fget ((A.write k ((64 * x : Nat) : Int) (slotL n)).2.sync k).2.fs k' = _
    rw [sy_get h, wr_get h]
theorem raise_cap : (A.raiseM k v x n).2.2.cap = A.cap := by
  unfold AD.raiseM
  split
  · rfl
  split
  · rfl
  split
  · exact wr_cap
  split
  · show ((A.write k ((64 * x : Nat) : Int) (slotL n)).2.sync k).2.cap = _
    rw [sy_cap, wr_cap]
  · show ((A.write k ((64 * x : Nat) : Int) (slotL n)).2.sync k).2.cap = _
    rw [sy_cap, wr_cap]
end
end Go.Proofs.YtlkimfmilccanaaGreat
