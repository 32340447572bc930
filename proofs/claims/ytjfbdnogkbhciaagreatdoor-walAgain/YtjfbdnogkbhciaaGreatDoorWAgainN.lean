import Derived.Test.YtjfbdnogkbhciaaGreatDoorWReset
import Derived.Test.YtjfbdnogkbhciaaGreatDoorWNames
/-
  LOADING A LOG, PLAIN; a part of a row that is only read.
-/
namespace Go.Proofs.YtjfbdnogkbhciaaGreatDoor
open Go.RowKit Go.Maps
set_option linter.unusedVariables false
set_option linter.unusedSimpArgs false
/-- A slice of texts that is only read: its cells lie somewhere in a block of its own. -/
def Item.sub (v : Value) (ks : List Key) : Item :=
  ⟨fun w S => ∃ ad cap, v = .slice ad ks.length cap ∧ RowAt w ad (ks.map encStr) ∧ (ks.length ≤ maxLen ∧ ks.length ≤ cap) ∧ (∀ b o, ks ≠ [] → ad = some ⟨b, o, none⟩ → ∀ q, w.frozen? ⟨b, q, none⟩ = false) ∧ ∀ b, S b ↔ ks ≠ [] ∧ ∃ o, ad = some ⟨b, o, none⟩,
   fun w S ⟨ad, cap, hv, hr, hl, _, hS⟩ b hb => by
    obtain ⟨h1, o, h2⟩ := (hS b).1 hb
    rcases hr with h3 | ⟨b', o', h3, h4, _⟩
    · exact absurd (List.map_eq_nil_iff.1 h3) h1
    · rw [h3] at h2; cases h2; exact h4,
   fun w w' S ⟨ad, cap, hv, hr, hl, hfz, hS⟩ e => by
    refine ⟨ad, cap, hv, ?_, hl, fun b o h1 h2 q => by rw [frozen_of_block (e b ((hS b).2 ⟨h1, o, h2⟩))]; exact hfz b o h1 h2 q, hS⟩
    rcases hr with h3 | ⟨b, o, h3, h4, h5⟩
    · exact .inl h3
    · by_cases h1 : ks = []
      · exact .inl (by rw [h1]; rfl)
      have hb := e b ((hS b).2 ⟨h1, o, h3⟩)
      obtain ⟨ob, hob⟩ : ∃ ob, w.heap[b]? = some ob := ⟨_, Array.getElem?_eq_getElem h4⟩
      exact .inr ⟨b, o, h3, lt_of_some (hb.trans hob), fun k hk => by rw [← h5 k hk]; exact World.cell?_of_block hb⟩⟩
section
variable {B : Nat} {w : World} {L : List Item} {q : Nat}
theorem Lies.subAt {v : Value} {ks : List Key} (h : Lies B w L) (hq : L[q]? = some (.sub v ks)) : ∃ ad cap, v = .slice ad ks.length cap ∧ RowAt w ad (ks.map encStr) ∧ ks.length ≤ maxLen := by
  obtain ⟨S, ⟨ad, cap, hv, hr, hl, _, _⟩, _⟩ := h.get hq
  exact ⟨ad, cap, hv, hr, hl.1⟩
theorem Lies.subCap {ad : Option Addr} {n cap : Nat} {ks : List Key} (h : Lies B w L) (hq : L[q]? = some (.sub (.slice ad n cap) ks)) : n ≤ cap := by
  obtain ⟨S, ⟨ad', cap', hv, hr, hl, _, _⟩, _⟩ := h.get hq
  cases hv
  exact hl.2
/-- What Go's s[k:] tells. -/
def dropAd (ad : Option Addr) (k cap : Nat) : Option Addr := if cap = k then ad else ad.map fun a => ⟨a.block, a.off + k, none⟩
theorem Lies.toSub {v : Value} {xs : List Key} (h : Lies B w L) (hq : L[q]? = some (.row 9 v (xs.map encStr))) (k : Nat) (hk : k ≤ xs.length) : ∃ ad cap, v = .slice ad xs.length cap ∧ xs.length ≤ cap ∧ cap ≤ maxLen ∧ (∀ a, ad = some a → ∃ b, a = ⟨b, 0, none⟩) ∧ (ad = none → cap = 0) ∧ Lies B w (L.set q (.sub (.slice (dropAd ad k cap) (xs.length - k) (cap - k)) (xs.drop k))) := by
  obtain ⟨S, ⟨hrow, hS⟩, hB, _, hu⟩ := h.upd hq
  have hlen := hrow.1
  rw [List.length_map, Nat.mul_one] at hlen
  rcases hrow.2 with ⟨rfl, hn⟩ | ⟨g, cap, cur, rfl, hb, hg, hnc, hcm, hcs, htk⟩
  · rw [List.length_map] at hn
    have hx : xs = [] := List.length_eq_zero_iff.1 hn
    subst hx
    refine ⟨none, 0, rfl, Nat.le_refl _, Nat.zero_le _, fun a ha => (by cases ha), fun _ => rfl, ?_⟩
    refine (hu w _ (fun _ => False) ?_ ⟨Turn.refl _ _, fun b hb => hb.elim⟩).1
    refine ⟨dropAd none k 0, 0 - k, by simp, .inl (by simp), by simp, fun b o h1 => absurd (by simp) h1, fun b => ⟨fun hb => hb.elim, fun hb => hb.1 (by simp)⟩⟩
  · rw [List.length_map] at hnc htk
    refine ⟨some ⟨g, 0, none⟩, cap, by rw [List.length_map], hnc, hcm, fun a ha => ⟨g, by cases ha; rfl⟩, fun ha => (by cases ha), ?_⟩
    refine (hu w _ (fun b => xs.drop k ≠ [] ∧ b = g) ?_ ⟨Turn.refl _ _, fun b hb => .inl ((hS b).2 (by rw [hb.2]; rfl))⟩).1
    have hd : xs.drop k ≠ [] → cap ≠ k := fun hne e => hne (List.drop_eq_nil_of_le (by omega))
    refine ⟨_, cap - k, by rw [List.length_drop], ?_, by rw [List.length_drop]; omega, fun b o h1 h2 q => ?_, fun b => ⟨fun hb => ⟨hb.1, k, ?_⟩, fun hb => ⟨hb.1, ?_⟩⟩⟩
    · by_cases hne : xs.drop k = []
      · exact .inl (by rw [hne]; rfl)
      · refine .inr ⟨g, k, ?_, lt_of_some hg, fun i hi => ?_⟩
        · unfold dropAd; rw [if_neg (hd hne)]; simp
        · rw [List.length_map, List.length_drop] at hi
          rw [cell_of_row w g _ _ _ (0, 0) hg]
          rw [← Array.getElem?_toList, List.map_drop, List.getElem?_drop, ← htk, List.getElem?_take]
          rw [if_pos (by rw [Nat.mul_one]; omega)]
    · unfold dropAd at h2
      rw [if_neg (hd h1)] at h2
      simp at h2
      rw [← h2.1]
      exact frozen_of_row w g q _ _ hg
    · unfold dropAd; rw [if_neg (hd hb.1), hb.2]; simp
    · obtain ⟨h1, o, h2⟩ := hb
      unfold dropAd at h2
      rw [if_neg (hd h1)] at h2
      simp at h2
      exact h2.1.symm
end
theorem rdFin_is (A : AD) (nm : Key) (s : RSt) : ∀ (f k : Nat), ∃ k', k ≤ k' ∧ k' ≤ k + f ∧ (0 < f → k < k') ∧ rdFin A nm s f k = (k', rdK A nm s k')
  | 0, k => ⟨k, Nat.le_refl _, Nat.le_refl _, fun h => by omega, rfl⟩
  | f + 1, k => by
    unfold rdFin
    split
    · exact ⟨k + 1, by omega, by omega, fun _ => by omega, rfl⟩
    · obtain ⟨k', h1, h2, _, h3⟩ := rdFin_is A nm s f (k + 1)
      exact ⟨k', by omega, by omega, fun _ => by omega, h3⟩
theorem numOf_file {f k : Key} {v : Int} (h : numOf f k = some v) : f = fileL k v := by
  unfold numOf at h
  split at h
  · rename_i hp
    split at h
    · split at h
      · rename_i hh
        cases h
        have h3 := hh.2.2
        unfold Lib.hasPrefix at hp
        obtain ⟨t, ht⟩ := List.isPrefixOf_iff_prefix.1 hp
        unfold fileL
        rw [h3, ← ht, List.append_assoc, List.singleton_append]
        congr 2
        rw [show k.length + 1 = (k ++ [46]).length by simp, show k ++ 46 :: t = (k ++ [46]) ++ t by simp, List.drop_left]
      · cases h
    · cases h
  · cases h
def loadA (A : AD) (g : AL) (first : Int) : List Key × Int × AD × AL :=
  let ns := numsL A g.name.data.toList
  if consec ns = false then ([], 60, A, { g with segs := ns.map seg0 })
  else
    let R := rdFin A g.name.data.toList ⟨[], 0, ns.map seg0, false⟩ ns.length 0
    if R.2.torn = true ∧ R.1 < ns.length then ([], 60, A, { g with segs := R.2.segs, next := R.2.next })
    else
      let nx := if R.2.pay = [] then first else R.2.next
      let g3 : AL := { g with segs := R.2.segs, next := nx }
      if first < nx - R.2.pay.length ∨ nx < first then ([], 60, A, g3)
      else
        let T := if R.2.torn = true then A.trunc (fileL g.name.data.toList (R.2.segs.getLastD ⟨0, 0, 0⟩).num) (R.2.segs.getLastD ⟨0, 0, 0⟩).size else (0, A)
        if T.1 ≠ 0 then ([], T.1, T.2, g3)
        else if (T.2.syncs g3.files).1 ≠ 0 then ([], (T.2.syncs g3.files).1, (T.2.syncs g3.files).2, g3)
        else (R.2.pay.drop (first - (nx - R.2.pay.length)).toNat, 0, (T.2.syncs g3.files).2, g3)
end Go.Proofs.YtjfbdnogkbhciaaGreatDoor
/-
  OPEN AND OPEN AGAIN, PLAIN: the second reading of what a cut left.
-/
namespace Go.Proofs.YtjfbdnogkbhciaaGreatDoor
open Go.RowKit Go.Maps
set_option linter.unusedVariables false
theorem firstN_take {t : Key} {m : Nat} (h : 16 ≤ m) : firstN (t.take m) = firstN t := by
  unfold firstN
  by_cases h1 : t.length < 16
  · rw [if_pos h1, if_pos (by rw [List.length_take]; omega)]
  · rw [if_neg h1, if_neg (by rw [List.length_take]; omega)]
    have e : ((t.take m).drop 4).take 8 = (t.drop 4).take 8 := by
      rw [List.drop_take, List.take_take, Nat.min_eq_left (by omega)]
    rw [e]
theorem firstN_nil : firstN [] = -1 := by unfold firstN; rw [if_pos (by simp)]
theorem frames_len : ∀ {ps : List Key} {n : Int}, ps ≠ [] → 16 ≤ (framesL n ps).length
  | p :: ps, n, _ => by
    show 16 ≤ (Fr.frameL n.toNat p ++ framesL (n + 1) ps).length
    rw [List.length_append, Fr.frameL_length]
    have := Fr.room_ge p.length
    unfold Fr.room
    omega
/-- A step of the reading, at a text and at what the cut of it leaves. -/
structure Cut (a b : RSt) : Prop where
  pay : b.pay = a.pay
  torn : b.torn = false
  next : a.pay ≠ [] → b.next = a.next
theorem rdStep_cut {A A' : AD} {nm : Key} {S : RSt} {k : Nat} (h : textOf A' nm (S.segs.getD k ⟨0, 0, 0⟩).num = (textOf A nm (S.segs.getD k ⟨0, 0, 0⟩).num).take ((textOf A nm (S.segs.getD k ⟨0, 0, 0⟩).num).length - (scanA (textOf A nm (S.segs.getD k ⟨0, 0, 0⟩).num) (if S.pay = [] then firstN (textOf A nm (S.segs.getD k ⟨0, 0, 0⟩).num) else S.next)).2.length)) : Cut (rdStep A nm S k) (rdStep A' nm S k) := by
  unfold rdStep
  simp only
  rw [h]
  obtain ⟨t, ht⟩ : ∃ t, textOf A nm (S.segs.getD k ⟨0, 0, 0⟩).num = t := ⟨_, rfl⟩
  rw [ht]
  obtain ⟨nx, hnx⟩ : ∃ x, (if S.pay = [] then firstN t else S.next) = x := ⟨_, rfl⟩
  rw [hnx]
  have hcut := scan_cut t nx
  have hf := scanA_found t nx
  have hle := scan_rest_le t nx
  obtain ⟨r, hr⟩ : ∃ r, scanA t nx = r := ⟨_, rfl⟩
  rw [hr] at hcut hf hle ⊢
  have hs := told_split hf.told
  by_cases hp : S.pay = []
  · rw [if_pos hp] at hnx ⊢
    by_cases h1 : r.1 = []
    · have hr2 : r.2 = t := by rw [h1] at hs; exact hs.symm
      have ht0 : t.take (t.length - r.2.length) = [] := by rw [hr2, Nat.sub_self, List.take_zero]
      rw [ht0, firstN_nil]
      have hz : scanA [] (-1) = ([], []) := scanA_of ⟨rfl, whole_nil _⟩
      rw [hz, h1, hp]
      exact ⟨rfl, rfl, fun h => absurd rfl h⟩
    · have hm : 16 ≤ t.length - r.2.length := by
        have : t.length = (framesL nx r.1).length + r.2.length := by conv => lhs; rw [hs]; rw [List.length_append]
        have := frames_len (n := nx) h1
        omega
      rw [firstN_take hm, hnx, hcut]
      exact ⟨rfl, rfl, fun _ => rfl⟩
  · rw [if_neg hp] at hnx ⊢
    rw [hnx, hcut]
    exact ⟨rfl, rfl, fun _ => rfl⟩
theorem rdFin_end {A : AD} {nm : Key} {s : RSt} : ∀ {f k : Nat}, (rdFin A nm s f k).2.torn = false → rdFin A nm s f k = (k + f, rdK A nm s (k + f)) ∧ ∀ q, k < q → q ≤ k + f → (rdK A nm s q).torn = false
  | 0, k, h => ⟨rfl, fun q h1 h2 => by omega⟩
  | f + 1, k, h => by
    unfold rdFin at h ⊢
    by_cases ht : (rdK A nm s (k + 1)).torn = true
    · rw [if_pos ht] at h; rw [ht] at h; cases h
    · rw [if_neg ht] at h ⊢
      obtain ⟨h1, h2⟩ := rdFin_end h
      refine ⟨by rw [h1, show k + 1 + f = k + (f + 1) by omega], fun q hq1 hq2 => ?_⟩
      by_cases e : q = k + 1
      · rw [e]; simpa using ht
      · exact h2 q (by omega) (by omega)
theorem rdFin_prev {A : AD} {nm : Key} {s : RSt} : ∀ {f k : Nat} (q : Nat), k < q → q < (rdFin A nm s f k).1 → (rdK A nm s q).torn = false
  | 0, k, q, h1, h2 => by have : q < k := h2; omega
  | f + 1, k, q, h1, h2 => by
    unfold rdFin at h2
    by_cases ht : (rdK A nm s (k + 1)).torn = true
    · rw [if_pos ht] at h2; have : q < k + 1 := h2; omega
    · rw [if_neg ht] at h2
      by_cases e : q = k + 1
      · rw [e]; simpa using ht
      · exact rdFin_prev q (by omega) h2
/-- Reading again: the texts are as before, but that of the last is cut where it was torn. -/
theorem rdFin_again {A A' : AD} {nm : Key} {s : RSt} {N : Nat} (hs : s.torn = false) (hgo : ¬ ((rdFin A nm s N 0).2.torn = true ∧ (rdFin A nm s N 0).1 < N))
    (hsame : ∀ q, q < N → ((rdFin A nm s N 0).2.torn = false ∨ q + 1 < N) → textOf A' nm (s.segs.getD q ⟨0, 0, 0⟩).num = textOf A nm (s.segs.getD q ⟨0, 0, 0⟩).num)
    (hcut : ∀ m, N = m + 1 → (rdFin A nm s N 0).2.torn = true → textOf A' nm (s.segs.getD m ⟨0, 0, 0⟩).num = (textOf A nm (s.segs.getD m ⟨0, 0, 0⟩).num).take ((rdK A nm s N).segs.getD m ⟨0, 0, 0⟩).size.toNat) (hlen : s.segs.length = N) :
    (rdFin A' nm s N 0).1 = N ∧ Cut (rdFin A nm s N 0).2 (rdFin A' nm s N 0).2 := by
  cases ht : (rdFin A nm s N 0).2.torn with
  | false =>
    have e := rdFin_congr (A := A) (A' := A') (nm := nm) (s := s) (N := N) (fun q hq => hsame q hq (.inl ht)) N 0 (by omega)
    rw [e]
    obtain ⟨h1, _⟩ := rdFin_end ht
    refine ⟨by rw [h1]; simp, ⟨rfl, ht, fun _ => rfl⟩⟩
  | true =>
    obtain ⟨k', _, hk2, hk3, hk⟩ := rdFin_is A nm s N 0
    have hN : (rdFin A nm s N 0).1 = N := by
      have h1 : ¬ (rdFin A nm s N 0).1 < N := fun h => hgo ⟨ht, h⟩
      rw [hk] at h1 ⊢
      simp only at h1 ⊢
      omega
    have hkN : k' = N := by rw [hk] at hN; exact hN
    subst hkN
    obtain ⟨m, rfl⟩ : ∃ m, k' = m + 1 := by
      cases k' with
      | zero => rw [hk] at ht; rw [show rdK A nm s 0 = s from rfl, hs] at ht; cases ht
      | succ m => exact ⟨m, rfl⟩
    have hc : ∀ q, q ≤ m → rdK A' nm s q = rdK A nm s q := rdK_congr (fun q hq => hsame q (by omega) (.inr (by omega)))
    have hst : rdK A nm s (m + 1) = rdStep A nm (rdK A nm s m) m := rfl
    have hnum := rdK_num A nm s m m
    have hcutm := hcut m rfl ht
    have hsz : ((rdK A nm s (m + 1)).segs.getD m ⟨0, 0, 0⟩).size.toNat = (textOf A nm ((rdK A nm s m).segs.getD m ⟨0, 0, 0⟩).num).length - (scanA (textOf A nm ((rdK A nm s m).segs.getD m ⟨0, 0, 0⟩).num) (if (rdK A nm s m).pay = [] then firstN (textOf A nm ((rdK A nm s m).segs.getD m ⟨0, 0, 0⟩).num) else (rdK A nm s m).next)).2.length := by
      rw [hst]
      unfold rdStep
      simp only
      rw [List.getD_eq_getElem?_getD, List.getElem?_set_self (by rw [rdK_len, hlen]; omega)]
      simp
    have hcu : Cut (rdStep A nm (rdK A nm s m) m) (rdStep A' nm (rdK A nm s m) m) := rdStep_cut (by rw [← hsz, hnum]; exact hcutm)
    have hA' : rdK A' nm s (m + 1) = rdStep A' nm (rdK A nm s m) m := by show rdStep A' nm (rdK A' nm s m) m = _; rw [hc m (Nat.le_refl _)]
    have hall : ∀ q, 0 < q → q ≤ m + 1 → (rdK A' nm s q).torn = false := fun q h0 h1 => by
      by_cases e : q = m + 1
      · rw [e, hA']; exact hcu.torn
      · rw [hc q (by omega)]
        exact rdFin_prev (f := m + 1) (k := 0) q h0 (by rw [hk]; simp only; omega)
    have hR' := rdFin_all hall
    rw [hR', hk]
    refine ⟨rfl, ?_⟩
    simp only
    rw [hA']
    exact hcu
end Go.Proofs.YtjfbdnogkbhciaaGreatDoor
