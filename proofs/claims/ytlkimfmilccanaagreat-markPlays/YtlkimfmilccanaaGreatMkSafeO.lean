/-
  MARKSAFE, PLAIN (3): Open, a loss of power, room, calm.
-/
import Derived.Test.YtlkimfmilccanaaGreatMkSafeN
namespace Go.Proofs.YtlkimfmilccanaaGreat
open Go.RowKit Go.Maps
set_option linter.unusedVariables false
theorem sec_two1 {s : Nat} (h : s ≤ 1) : sec two1 s = slotL (-1) := by
  unfold two1 sec
  rcases (by omega : s = 0 ∨ s = 1) with rfl | rfl
  · rw [Nat.mul_zero, List.drop_zero, List.take_left' (slotL_length _)]
  · rw [Nat.mul_one, List.drop_left' (slotL_length _), List.take_of_length_le (by rw [slotL_length]; exact Nat.le_refl _)]
theorem one_whole : wholeL (slotL (-1)) = some (-1) := wholeL_slot (by decide)
theorem SF.fresh {F : AF} {tr : List Int} (hF : F.seen = two1) : SF F.sync (-1) tr 0 (-1) :=
  SF.synced (ac := -1) (x := 1) (by omega) (by rw [hF, two1_length]) (by rw [hF, sec_two1 (by omega)]; exact one_whole) (fun s hs v hv => by
    rw [hF, sec_two1 hs, one_whole] at hv
    cases hv
    exact .inl rfl)
/-! ### room, step by step -/
section
variable {A : AD} {d k t : Key} {a : Int} {F : AF}
theorem Rm.remove (h : Rm A) : Rm (A.remove d).2 := ⟨by rw [rem_cap]; exact h.cap, fun k' F' hF' => by
  by_cases e : k' = d
  · subst e
    unfold AD.remove at hF'
    split at hF'
    · exact h.fs _ _ hF'
    · split at hF'
      · exact h.fs _ _ hF'
      · simp only at hF'
        rw [fget_fdel_same] at hF'; cases hF'
  · rw [rem_get e] at hF'; exact h.fs _ _ hF'⟩
theorem Rm.writeNew (h : Rm A) (h0 : fget A.fs d = none) (hd : d ∈ fourL) (ht : t.length ≤ 128) : Rm (A.write d 0 t).2 := ⟨by rw [wr_cap]; exact h.cap, fun k' F' hF' => by
  by_cases e : k' = d
  · subst e
    by_cases e0 : (A.write k' 0 t).1 = 0
    · obtain ⟨G, hG, hs⟩ := wr_new h0 e0
      rw [hG] at hF'
      cases hF'
      exact ⟨hd, by rw [hs]; exact ht⟩
    · rw [wr_fail e0] at hF'; exact h.fs _ _ hF'
  · rw [wr_get e] at hF'; exact h.fs _ _ hF'⟩
theorem Rm.writeSlot {x : Nat} {n : Int} (h : Rm A) (h0 : fget A.fs k = some F) (hl : F.seen.length = 128) (hx : x ≤ 1) : Rm (A.write k ((64 * x : Nat) : Int) (slotL n)).2 := ⟨by rw [wr_cap]; exact h.cap, fun k' F' hF' => by
  by_cases e : k' = k
  · subst e
    by_cases e0 : (A.write k' ((64 * x : Nat) : Int) (slotL n)).1 = 0
    · rw [wr_some h0 e0, Int.toNat_natCast, fget_fset_same h0] at hF'
      cases hF'
      exact ⟨(h.fs _ _ h0).1, by rw [ws_len hl hx]; omega⟩
    · rw [wr_fail e0] at hF'; exact h.fs _ _ hF'
  · rw [wr_get e] at hF'; exact h.fs _ _ hF'⟩
theorem Rm.sync (h : Rm A) : Rm (A.sync d).2 := ⟨by rw [sy_cap]; exact h.cap, fun k' F' hF' => by
  by_cases e : k' = d
  · subst e
    by_cases e0 : (A.sync k').1 = 0
    · cases hq : fget A.fs k' with
      | none =>
        unfold AD.sync at e0
        by_cases ho : A.pow.off = true
        · rw [if_pos ho] at e0; simp at e0
        · rw [if_neg ho, hq] at e0; simp at e0
      | some G =>
        rw [sy_ok hq e0] at hF'
        cases hF'
        exact ⟨(h.fs _ _ hq).1, (h.fs _ _ hq).2⟩
    · rw [sy_fail e0] at hF'; exact h.fs _ _ hF'
  · rw [sy_get e] at hF'; exact h.fs _ _ hF'⟩
theorem Rm.rename (h : Rm A) (hk : k ∈ fourL) : Rm (A.rename d k).2 := ⟨by rw [ren_cap]; exact h.cap, fun k' F' hF' => by
  by_cases e0 : (A.rename d k).1 = 0
  · have hfs : ∃ G, fget A.fs d = some G ∧ (A.rename d k).2.fs = fput (fdel A.fs d) k G := by
      unfold AD.rename at e0 ⊢
      by_cases ho : A.pow.off = true
      · rw [if_pos ho] at e0; simp at e0
      rw [if_neg ho] at e0 ⊢
      cases hq : fget A.fs d with
      | none => rw [hq] at e0; simp at e0
      | some G =>
        rw [hq] at e0
        simp only at e0 ⊢
        by_cases hn : nameOk k = false
        · rw [if_pos hn] at e0; simp at e0
        · rw [if_neg hn]; exact ⟨G, rfl, rfl⟩
    obtain ⟨G, hG, e⟩ := hfs
    rw [e] at hF'
    by_cases ek : k' = k
    · subst ek
      rw [fget_fput_same] at hF'
      cases hF'
      exact ⟨hk, (h.fs _ _ hG).2⟩
    · rw [fget_fput_ne ek] at hF'
      by_cases ed : k' = d
      · subst ed; rw [fget_fdel_same] at hF'; cases hF'
      · rw [fget_fdel_ne ed] at hF'; exact h.fs _ _ hF'
  · rw [ren_fail e0] at hF'; exact h.fs _ _ hF'⟩
end
/-! ### calm -/
def Calm (P : AP) : Prop := P.off = false ∧ P.arm = 0 ∧ P.fall = 0
theorem count_calm {P : AP} (h : Calm P) (x : Int) : P.count x = (0, P) := by
  obtain ⟨off, opn, arm, what, fall⟩ := P
  obtain ⟨h1, h2, h3⟩ := h
  simp only at h1 h2 h3
  subst h1 h2 h3
  unfold AP.count AP.fell
  rw [if_neg (by simp), if_neg (by simp)]
  rfl
section
variable {A : AD} {d k t : Key} {a : Int} {F : AF}
theorem wr_calm (hc : Calm A.pow) (hf : A.fits d a t.length = 0) : (A.write d a t).1 = 0 ∧ (A.write d a t).2.pow = A.pow := by
  unfold AD.write
  rw [if_neg (by rw [hc.1]; simp), hf, if_neg (by simp), count_calm hc, if_neg (by simp)]
  cases fget A.fs d <;> exact ⟨rfl, rfl⟩
theorem sy_calm (hc : Calm A.pow) (hF : fget A.fs d = some F) : (A.sync d).1 = 0 ∧ (A.sync d).2.pow = A.pow := by
  unfold AD.sync
  rw [if_neg (by rw [hc.1]; simp), hF]
  simp only
  rw [count_calm hc, if_neg (by simp)]
  exact ⟨rfl, rfl⟩
theorem rem_calm (hc : Calm A.pow) : (A.remove d).1 = 0 ∨ (A.remove d).1 = 5 := by
  unfold AD.remove
  rw [if_neg (by rw [hc.1]; simp)]
  cases fget A.fs d
  · exact .inr rfl
  · exact .inl rfl
theorem ren_calm (hc : Calm A.pow) (hF : fget A.fs d = some F) (hk : nameOk k = true) : (A.rename d k).1 = 0 := by
  unfold AD.rename
  rw [if_neg (by rw [hc.1]; simp), hF]
  simp only
  rw [if_neg (by rw [hk]; simp)]
end
/-! ### Open -/
structure Nm (k : Key) : Prop where
  n1 : nameOk k = true
  n2 : nameOk (k ++ dot) = true
  m1 : k ∈ fourL
  m2 : k ++ dot ∈ fourL
theorem nm_one : Nm oneL := ⟨by decide, by decide, by decide, by decide⟩
theorem nm_two : Nm twoL := ⟨by decide, by decide, by decide, by decide⟩
section
variable {A : AD} {k : Key} {ac : Int} {tr : List Int} {M : Option (Int × Nat)}
theorem fits_new (hok : A.Ok) (hn : Nm k) (hr : Rm A) (h0 : fget A.fs (k ++ dot) = none) : A.fits (k ++ dot) 0 two1.length = 0 := by
  obtain ⟨h1, h2⟩ := hr.few hok
  have hfl := flen_none h0
  rw [two1_length, fits_rest hn.n2 (by rw [hfl]; omega), hfl, if_neg (by omega), if_neg (by omega), if_neg (by rw [hr.cap]; omega)]
/-- What Open tells and leaves. -/
structure OpOk (A : AD) (k : Key) (ac : Int) (tr : List Int) (E : Int) (o : Option (Int × Nat)) (A' : AD) : Prop where
  e1 : E ≠ 1
  e190 : E ≠ 190
  no : o = none → E ≠ 0 ∧ TI A' k ac tr none
  yes : ∀ v x, o = some (v, x) → E = 0 ∧ x ≤ 1 ∧ ac ≤ v ∧ TR tr v ∧ TI A' k v tr (some (v, x))
  rm : Rm A'
  calm : Calm A.pow → E = 0 ∧ A'.pow = A.pow
theorem begin_keeps (hok : A.Ok) (hokr : (A.remove (k ++ dot)).2.Ok) (hn : Nm k) (hr : Rm A) (h : fget A.fs k = none) (hac : ac = -1) : OpOk A k ac tr (begA (A.beginM k)).1 (begA (A.beginM k)).2.1 (begA (A.beginM k)).2.2 := by
  have hnd := ne_dot k
  obtain ⟨E1, A1, h1⟩ : ∃ E a, A.remove (k ++ dot) = (E, a) := ⟨_, _, rfl⟩
  have q1 : (A.remove (k ++ dot)).1 = E1 := by rw [h1]
  have q2 : (A.remove (k ++ dot)).2 = A1 := by rw [h1]
  obtain ⟨E2, A2, h2⟩ : ∃ E a, A1.write (k ++ dot) 0 two1 = (E, a) := ⟨_, _, rfl⟩
  have q3 : (A1.write (k ++ dot) 0 two1).1 = E2 := by rw [h2]
  have q4 : (A1.write (k ++ dot) 0 two1).2 = A2 := by rw [h2]
  obtain ⟨E3, A3, h3⟩ : ∃ E a, A2.sync (k ++ dot) = (E, a) := ⟨_, _, rfl⟩
  have q5 : (A2.sync (k ++ dot)).1 = E3 := by rw [h3]
  have q6 : (A2.sync (k ++ dot)).2 = A3 := by rw [h3]
  obtain ⟨E4, A4, h4⟩ : ∃ E a, A3.rename (k ++ dot) k = (E, a) := ⟨_, _, rfl⟩
  have q7 : (A3.rename (k ++ dot) k).1 = E4 := by rw [h4]
  have q8 : (A3.rename (k ++ dot) k).2 = A4 := by rw [h4]
  rw [q2] at hokr
  have r1 : Rm A1 := by rw [← q2]; exact hr.remove
  have g1 : fget A1.fs k = none := by rw [← q2, rem_get hnd]; exact h
  have p1 : A1.pow = A.pow := by rw [← q2]; exact rem_pow
  unfold AD.beginM
  simp only [h1, h2, h3, h4]
  have c1 : Calm A.pow → E1 = 0 ∨ E1 = 5 := fun hc => by rw [← q1]; exact rem_calm hc
  by_cases b1 : E1 ≠ 0 ∧ E1 ≠ 5
  · rw [if_pos b1]
    have ne := rem_err (A := A) (d := k ++ dot)
    rw [q1] at ne
    unfold begA
    rw [if_neg b1.1]
    exact ⟨ne.1, ne.2, fun _ => ⟨b1.1, .inl ⟨g1, hac, rfl⟩⟩, fun v x e => (by cases e), r1, fun hc => by have := c1 hc; omega⟩
  rw [if_neg b1]
  have z1 : fget A1.fs (k ++ dot) = none := by rw [← q2]; exact rem_gone (by rw [q1]; omega)
  have r2 : Rm A2 := by rw [← q4]; exact r1.writeNew z1 hn.m2 (by rw [two1_length]; exact Nat.le_refl _)
  have g2 : fget A2.fs k = none := by rw [← q4, wr_get hnd]; exact g1
  have c2 : Calm A.pow → E2 = 0 ∧ A2.pow = A.pow := fun hc => by
    have := wr_calm (A := A1) (d := k ++ dot) (a := 0) (t := two1) (by rw [p1]; exact hc) (fits_new hokr hn r1 z1)
    rw [q3, q4, p1] at this
    exact this
  by_cases b2 : E2 ≠ 0
  · rw [if_pos b2]
    have ne := wr_err (A := A1) (d := k ++ dot) (a := 0) (t := two1) (.inl (fits_new hokr hn r1 z1))
    rw [q3] at ne
    unfold begA
    rw [if_neg b2]
    exact ⟨ne.1, ne.2, fun _ => ⟨b2, .inl ⟨g2, hac, rfl⟩⟩, fun v x e => (by cases e), r2, fun hc => absurd (c2 hc).1 b2⟩
  rw [if_neg b2]
  obtain ⟨F, hF, hFs⟩ := wr_new z1 (by rw [q3]; omega)
  rw [q4] at hF
  have r3 : Rm A3 := by rw [← q6]; exact r2.sync
  have g3 : fget A3.fs k = none := by rw [← q6, sy_get hnd]; exact g2
  have c3 : Calm A.pow → E3 = 0 ∧ A3.pow = A.pow := fun hc => by
    have := sy_calm (A := A2) (by rw [(c2 hc).2]; exact hc) hF
    rw [q5, q6, (c2 hc).2] at this
    exact this
  by_cases b3 : E3 ≠ 0
  · rw [if_pos b3]
    have ne := sy_err (A := A2) (d := k ++ dot)
    rw [q5] at ne
    unfold begA
    rw [if_neg b3]
    exact ⟨ne.1, ne.2, fun _ => ⟨b3, .inl ⟨g3, hac, rfl⟩⟩, fun v x e => (by cases e), r3, fun hc => absurd (c3 hc).1 b3⟩
  rw [if_neg b3]
  have hF3 := sy_ok hF (by rw [q5]; omega)
  rw [q6] at hF3
  have r4 : Rm A4 := by rw [← q8]; exact r3.rename hn.m1
  have c4 : Calm A.pow → E4 = 0 ∧ A4.pow = A.pow := fun hc => by
    have e1 := ren_calm (A := A3) (by rw [(c3 hc).2]; exact hc) hF3 hn.n1
    have e2 := ren_pow (A := A3) (d := k ++ dot) (k := k)
    rw [q7] at e1
    rw [q8, (c3 hc).2] at e2
    exact ⟨e1, e2⟩
  unfold begA
  by_cases b4 : E4 = 0
  · rw [if_pos b4]
    have hF4 := ren_ok hF3 (by rw [q7]; exact b4)
    rw [q8] at hF4
    refine ⟨by omega, by omega, fun e => (by cases e), fun v x e => ?_, r4, c4⟩
    cases e
    exact ⟨b4, by omega, by omega, .inl rfl, .inr ⟨_, 0, -1, hF4, SF.fresh hFs, fun v x e => by cases e; exact ⟨rfl, rfl⟩⟩⟩
  · rw [if_neg b4]
    have ne := ren_err (A := A3) (d := k ++ dot) hn.n1
    rw [q7] at ne
    have e := ren_fail (A := A3) (d := k ++ dot) (k := k) (by rw [q7]; exact b4)
    rw [q8] at e
    exact ⟨ne.1, ne.2, fun _ => ⟨b4, .inl ⟨by show fget A4.fs k = none; rw [e]; exact g3, hac, rfl⟩⟩, fun v x e => (by cases e), r4, fun hc => absurd (c4 hc).1 b4⟩
theorem open_keeps (hok : A.Ok) (hokr : (A.remove (k ++ dot)).2.Ok) (hn : Nm k) (hr : Rm A) (h : TI A k ac tr M) : OpOk A k ac tr (A.openM k).1 (A.openM k).2.1 (A.openM k).2.2 := by
  by_cases ho : A.pow.off = true
  · have e : A.openM k = (9, none, A) := by
      unfold AD.openM AD.size
      rw [if_pos ho, if_neg (by decide), if_pos (by decide)]
    rw [e]
    exact ⟨by show (9 : Int) ≠ 1; decide, by show (9 : Int) ≠ 190; decide, fun _ => ⟨by show (9 : Int) ≠ 0; decide, h.noM⟩, fun v x e => (by cases e), hr, fun hc => by rw [hc.1] at ho; cases ho⟩
  rcases h with ⟨h1, h2, _⟩ | ⟨F, j, g, hF, hs, _⟩
  · have e : A.openM k = begA (A.beginM k) := by
      unfold AD.openM AD.size
      rw [if_neg ho, h1]
      simp only
      rw [if_pos trivial]
    rw [e]
    exact begin_keeps hok hokr hn hr h1 h2
  · have hsz : A.size k = (128, 0) := by
      unfold AD.size
      rw [if_neg ho, hF]
      simp only
      rw [hs.len]; rfl
    have hrd : A.read k 0 128 = (F.seen, 0) := by
      unfold AD.read
      rw [if_neg ho, hF]
      simp only
      rw [if_neg (by decide)]
      simp only [Int.toNat_zero, List.drop_zero]
      rw [show (128 : Int).toNat = 128 from rfl, List.take_of_length_le (by rw [hs.len]; exact Nat.le_refl _)]
    obtain ⟨v, x, hp, hx, hgv, hw⟩ := pick_spec hs.j1 hs.wj
    have e : A.openM k = if (A.sync k).1 ≠ 0 then ((A.sync k).1, none, (A.sync k).2) else (0, some (v, x), (A.sync k).2) := by
      unfold AD.openM AD.loadM
      rw [hsz, hrd]
      simp only
      rw [if_neg (by decide), if_neg (by decide), if_neg (by decide), if_neg (by decide), hp]
    rw [e]
    have c : Calm A.pow → (A.sync k).1 = 0 ∧ (A.sync k).2.pow = A.pow := fun hc => sy_calm hc hF
    have r : Rm (A.sync k).2 := hr.sync
    by_cases b : (A.sync k).1 ≠ 0
    · rw [if_pos b]
      have ne := sy_err (A := A) (d := k)
      refine ⟨ne.1, ne.2, fun _ => ⟨b, .inr ⟨F, j, g, by show fget (A.sync k).2.fs k = _; rw [sy_fail b]; exact hF, hs, fun v x e => by cases e⟩⟩, fun v x e => (by cases e), r, fun hc => absurd (c hc).1 b⟩
    · rw [if_neg b]
      have hF2 := sy_ok hF (by omega)
      refine ⟨by show (0 : Int) ≠ 1; decide, by show (0 : Int) ≠ 190; decide, fun e => (by cases e), fun v' x' e => ?_, r, fun hc => ⟨rfl, (c hc).2⟩⟩
      cases e
      have hsf := SF.synced (ac := ac) (tr := tr) hx hs.len hw hs.as_
      exact ⟨rfl, hx, by have := hs.ga; omega, hs.as_ (1 - x) (by omega) v hw, .inr ⟨_, 1 - x, v, hF2, hsf, fun v' x' e => by cases e; exact ⟨rfl, by omega⟩⟩⟩
theorem open_get {k' : Key} (h1 : k' ≠ k) (h2 : k' ≠ k ++ dot) : fget (A.openM k).2.2.fs k' = fget A.fs k' := by
  unfold AD.openM
  split
  · unfold begA AD.beginM
    simp only
    split
    · exact rem_get h2
    split
    · rw [wr_get h2, rem_get h2]
    split
    · rw [sy_get h2, wr_get h2, rem_get h2]
    · rw [ren_get h2 h1, sy_get h2, wr_get h2, rem_get h2]
  split
  · rfl
  split
  · rfl
  unfold AD.loadM
  split
  · rfl
  split
  · rfl
  split
  · exact sy_get h1
  · exact sy_get h1
end
/-! ### a loss of power -/
theorem sec_get (l : Key) (s i : Nat) (hi : i < 64) : (sec l s)[i]? = l[64 * s + i]? := by
  unfold sec
  rw [List.getElem?_take_of_lt hi, List.getElem?_drop]
theorem sec_ext {l m : Key} {s : Nat} (h : ∀ i, i / 64 = s → l[i]? = m[i]?) : sec l s = sec m s := by
  apply List.ext_getElem?
  intro i
  by_cases hi : i < 64
  · rw [sec_get l s i hi, sec_get m s i hi]
    exact h _ (by omega)
  · unfold sec
    rw [List.getElem?_eq_none (by rw [List.length_take]; omega), List.getElem?_eq_none (by rw [List.length_take]; omega)]
theorem left_len {F : AF} (hok : F.Ok) (h1 : F.seen.length = 128) (h2 : F.safe.length = 128) (ft : Nat → Option AFate) : F.len ft = 128 := by
  have := AF.len_le hok ft
  have := AF.len_ge F ft
  omega
theorem left_sec {F : AF} (hok : F.Ok) (h1 : F.seen.length = 128) (h2 : F.safe.length = 128) (ft : Nat → Option AFate) {s : Nat} (hs : F.dirty s = false ∨ ft s = none) : sec (F.left ft) s = sec F.safe s := by
  refine sec_ext (fun i hi => ?_)
  unfold AF.left
  rw [List.getElem?_map, left_len hok h1 h2]
  by_cases hl : i < 128
  · rw [List.getElem?_range hl, List.getElem?_eq_getElem (by omega : i < F.safe.length)]
    have e : F.after ft i = F.safe.getD i 0 := by
      unfold AF.after
      rw [hi]
      rcases hs with h | h
      · rw [if_neg (by rw [h]; simp)]
      · split
        · rw [h]
        · rfl
    rw [Option.map_some, e, List.getD_eq_getElem?_getD, List.getElem?_eq_getElem (by omega : i < F.safe.length)]
    rfl
  · rw [List.getElem?_eq_none (by simp; omega), List.getElem?_eq_none (by omega)]; rfl
theorem SF.crash {F : AF} {ac : Int} {tr : List Int} {j : Nat} {g : Int} (hok : F.Ok) (h : SF F ac tr j g) (ft : Nat → Option AFate) (hnf : ∀ s, s ≤ 1 → ∀ v, wholeL (sec (F.left ft) s) = some v → TR tr v) : SF (F.crash ft) ac tr j g := by
  have e := left_sec hok h.len h.slen ft (.inl h.dj)
  have hl : (F.left ft).length = 128 := by rw [AF.left_length]; exact left_len hok h.len h.slen ft
  have w : wholeL (sec (F.left ft) j) = some g := by rw [e]; exact h.sj
  exact ⟨h.j1, hl, hl, rfl, w, w, h.ga, hnf, hnf⟩
section
variable {A : AD} {k : Key} {ac : Int} {tr : List Int} {M : Option (Int × Nat)}
theorem crash_on_get (l : List AFate) (k : Key) : fget ((A.crash l).on).fs k = fget A.fs k ∨ fget ((A.crash l).on).fs k = (fget A.fs k).map (fun F => F.crash (fateOf l k)) := by
  unfold AD.crash
  by_cases h : A.pow.off = true ∧ A.pow.opn = false
  · rw [if_pos h]
    unfold AD.on
    rw [h.2]
    exact .inl rfl
  · rw [if_neg h]
    exact .inr (kget_map (fun k F => F.crash (fateOf l k)) k A.fs)
theorem crash_on_off (l : List AFate) : ((A.crash l).on).pow.off = false := rfl
theorem crash_on_calm (l : List AFate) (h : ¬ (A.pow.off = true ∧ A.pow.opn = false)) : Calm ((A.crash l).on).pow := by
  unfold AD.crash
  rw [if_neg h]
  exact ⟨rfl, rfl, rfl⟩
theorem Rm.crash (hok : A.Ok) (h : Rm A) (l : List AFate) : Rm (A.crash l).on := by
  refine ⟨?_, fun k F hF => ?_⟩
  · have : ((A.crash l).on).cap = A.cap := by
      unfold AD.crash
      by_cases h : A.pow.off = true ∧ A.pow.opn = false
      · rw [if_pos h]; unfold AD.on; rw [h.2]; rfl
      · rw [if_neg h]; rfl
    rw [this]; exact h.cap
  · rcases crash_on_get (A := A) l k with e | e
    · rw [e] at hF; exact h.fs k F hF
    · rw [e] at hF
      cases hq : fget A.fs k with
      | none => rw [hq] at hF; cases hF
      | some G =>
        rw [hq] at hF
        cases hF
        refine ⟨(h.fs k G hq).1, ?_⟩
        show (G.left _).length ≤ 128
        rw [AF.left_length]
        exact Nat.le_trans (AF.len_le (hok.files _ (fget_mem hq)) _) (h.fs k G hq).2
theorem crash_keeps (hok : A.Ok) (h : TI A k ac tr M) (l : List AFate) (hnf : ∀ F', fget ((A.crash l).on).fs k = some F' → ∀ s, s ≤ 1 → ∀ v, wholeL (sec F'.seen s) = some v → TR tr v) : TI (A.crash l).on k ac tr none := by
  rcases crash_on_get (A := A) l k with e | e
  · exact (h.of e).noM
  · rcases h with ⟨h1, h2, _⟩ | ⟨F, j, g, hF, hs, _⟩
    · rw [h1] at e
      exact .inl ⟨e, h2, rfl⟩
    · rw [hF] at e
      have e' : fget ((A.crash l).on).fs k = some (F.crash (fateOf l k)) := e
      have h9 := hnf _ e'
      exact .inr ⟨_, j, g, e', hs.crash (hok.files _ (fget_mem hF)) (fateOf l k) h9, fun v x e => by cases e⟩
theorem crash0_keeps (hok : A.Ok) (h : TI A k ac tr M) : TI (A.crash []).on k ac tr none := by
  rcases crash_on_get (A := A) [] k with e | e
  · exact (h.of e).noM
  · rcases h with ⟨h1, h2, _⟩ | ⟨F, j, g, hF, hs, _⟩
    · rw [h1] at e
      exact .inl ⟨e, h2, rfl⟩
    · rw [hF] at e
      have e' : fget ((A.crash []).on).fs k = some (F.crash (fateOf [] k)) := e
      refine .inr ⟨_, j, g, e', hs.crash (hok.files _ (fget_mem hF)) (fateOf [] k) (fun s hs1 v hv => ?_), fun v x e => by cases e⟩
      rw [left_sec (hok.files _ (fget_mem hF)) hs.len hs.slen _ (.inr rfl)] at hv
      exact hs.af s hs1 v hv
end
end Go.Proofs.YtlkimfmilccanaaGreat
