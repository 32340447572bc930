import Derived.Test.YtdffmmiegpndkaaGreatDoorWReset
import Derived.Test.YtdffmmiegpndkaaGreatDoorWNames
/-
  LOADING A LOG, PLAIN; a part of a row that is only read.
-/
namespace Go.Proofs.YtdffmmiegpndkaaGreatDoor
open Go.RowKit Go.Maps
set_option linter.unusedVariables false
set_option linter.unusedSimpArgs false
/-- A slice of texts that is only read: its cells lie somewhere in a block of its own. -/
def Item.sub (v : Value) (ks : List Key) : Item :=
  ⟨fun w S => ∃ ad cap, v = .slice ad ks.length cap ∧ RowAt w ad (ks.map encStr) ∧ (ks.length ≤ maxLen ∧ ks.length ≤ cap) ∧ (∀ b o, ks ≠ [] → ad = some ⟨b, o, none⟩ → ∀ q, w.frozen? ⟨b, q, none⟩ = false) ∧ ∀ b, S b ↔ ks ≠ [] ∧ ∃ o, ad = some ⟨b, o, none⟩,
   fun w S ⟨ad, cap, hv, hr, hl, _, hS⟩ b hb => by
    obtain ⟨h1, o, h2⟩ := (hS b).1 hb
    rcases hr with h3 | ⟨b', o', h3, h4, _⟩
    · exact absurd (List.map_eq_nil_iff.1 h3) h1
    · rw [h3] at h2; cases h2; exact h4,
   fun w w' S ⟨ad, cap, hv, hr, hl, hfz, hS⟩ e => by
    refine ⟨ad, cap, hv, ?_, hl, fun b o h1 h2 q => by rw [frozen_of_block (e b ((hS b).2 ⟨h1, o, h2⟩))]; exact hfz b o h1 h2 q, hS⟩
    rcases hr with h3 | ⟨b, o, h3, h4, h5⟩
    · exact .inl h3
    · by_cases h1 : ks = []
      · exact .inl (by rw [h1]; rfl)
      have hb := e b ((hS b).2 ⟨h1, o, h3⟩)
      obtain ⟨ob, hob⟩ : ∃ ob, w.heap[b]? = some ob := ⟨_, Array.getElem?_eq_getElem h4⟩
      exact .inr ⟨b, o, h3, lt_of_some (hb.trans hob), fun k hk => by rw [← h5 k hk]; exact World.cell?_of_block hb⟩⟩
section
variable {B : Nat} {w : World} {L : List Item} {q : Nat}
theorem Lies.subAt {v : Value} {ks : List Key} (h : Lies B w L) (hq : L[q]? = some (.sub v ks)) : ∃ ad cap, v = .slice ad ks.length cap ∧ RowAt w ad (ks.map encStr) ∧ ks.length ≤ maxLen := by
  obtain ⟨S, ⟨ad, cap, hv, hr, hl, _, _⟩, _⟩ := h.get hq
  exact ⟨ad, cap, hv, hr, hl.1⟩
theorem Lies.subCap {ad : Option Addr} {n cap : Nat} {ks : List Key} (h : Lies B w L) (hq : L[q]? = some (.sub (.slice ad n cap) ks)) : n ≤ cap := by
  obtain ⟨S, ⟨ad', cap', hv, hr, hl, _, _⟩, _⟩ := h.get hq
  cases hv
  exact hl.2
/-- What Go's s[k:] tells. -/
def dropAd (ad : Option Addr) (k cap : Nat) : Option Addr := if cap = k then ad else ad.map fun a => ⟨a.block, a.off + k, none⟩
theorem Lies.toSub {v : Value} {xs : List Key} (h : Lies B w L) (hq : L[q]? = some (.row 9 v (xs.map encStr))) (k : Nat) (hk : k ≤ xs.length) : ∃ ad cap, v = .slice ad xs.length cap ∧ xs.length ≤ cap ∧ cap ≤ maxLen ∧ (∀ a, ad = some a → ∃ b, a = ⟨b, 0, none⟩) ∧ (ad = none → cap = 0) ∧ Lies B w (L.set q (.sub (.slice (dropAd ad k cap) (xs.length - k) (cap - k)) (xs.drop k))) := by
  obtain ⟨S, ⟨hrow, hS⟩, hB, _, hu⟩ := h.upd hq
  have hlen := hrow.1
  rw [List.length_map, Nat.mul_one] at hlen
  rcases hrow.2 with ⟨rfl, hn⟩ | ⟨g, cap, cur, rfl, hb, hg, hnc, hcm, hcs, htk⟩
  · rw [List.length_map] at hn
    have hx : xs = [] := List.length_eq_zero_iff.1 hn
    subst hx
    refine ⟨none, 0, rfl, Nat.le_refl _, Nat.zero_le _, fun a ha => (by cases ha), fun _ => rfl, ?_⟩
    refine (hu w _ (fun _ => False) ?_ ⟨Turn.refl _ _, fun b hb => hb.elim⟩).1
    refine ⟨dropAd none k 0, 0 - k, by simp, .inl (by simp), by simp, fun b o h1 => absurd (by simp) h1, fun b => ⟨fun hb => hb.elim, fun hb => hb.1 (by simp)⟩⟩
  · rw [List.length_map] at hnc htk
    refine ⟨some ⟨g, 0, none⟩, cap, by rw [List.length_map], hnc, hcm, fun a ha => ⟨g, by cases ha; rfl⟩, fun ha => (by cases ha), ?_⟩
    refine (hu w _ (fun b => xs.drop k ≠ [] ∧ b = g) ?_ ⟨Turn.refl _ _, fun b hb => .inl ((hS b).2 (by rw [hb.2]; rfl))⟩).1
    have hd : xs.drop k ≠ [] → cap ≠ k := fun hne e => hne (List.drop_eq_nil_of_le (by omega))
    refine ⟨_, cap - k, by rw [List.length_drop], ?_, by rw [List.length_drop]; omega, fun b o h1 h2 q => ?_, fun b => ⟨fun hb => ⟨hb.1, k, ?_⟩, fun hb => ⟨hb.1, ?_⟩⟩⟩
    · by_cases hne : xs.drop k = []
      · exact .inl (by rw [hne]; rfl)
      · refine .inr ⟨g, k, ?_, lt_of_some hg, fun i hi => ?_⟩
        · unfold dropAd; rw [if_neg (hd hne)]; simp
        · rw [List.length_map, List.length_drop] at hi
          rw [cell_of_row w g _ _ _ (0, 0) hg]
          rw [← Array.getElem?_toList, List.map_drop, List.getElem?_drop, ← htk, List.getElem?_take]
          rw [if_pos (by rw [Nat.mul_one]; omega)]
    · unfold dropAd at h2
      rw [if_neg (hd h1)] at h2
      simp at h2
      rw [← h2.1]
      exact frozen_of_row w g q _ _ hg
    · unfold dropAd; rw [if_neg (hd hb.1), hb.2]; simp
    · obtain ⟨h1, o, h2⟩ := hb
      unfold dropAd at h2
      rw [if_neg (hd h1)] at h2
      simp at h2
      exact h2.1.symm
end
theorem rdFin_is (A : AD) (nm : Key) (s : RSt) : ∀ (f k : Nat), ∃ k', k ≤ k' ∧ k' ≤ k + f ∧ (0 < f → k < k') ∧ rdFin A nm s f k = (k', rdK A nm s k')
  | 0, k => ⟨k, Nat.le_refl _, Nat.le_refl _, fun h => by omega, rfl⟩
  | f + 1, k => by
    unfold rdFin
    split
    · exact ⟨k + 1, by omega, by omega, fun _ => by omega, rfl⟩
    · obtain ⟨k', h1, h2, _, h3⟩ := rdFin_is A nm s f (k + 1)
      exact ⟨k', by omega, by omega, fun _ => by omega, h3⟩
theorem numOf_file {f k : Key} {v : Int} (h : numOf f k = some v) : f = fileL k v := by
  unfold numOf at h
  split at h
  · rename_i hp
    split at h
    · split at h
      · rename_i hh
        cases h
        have h3 := hh.2.2
        unfold Lib.hasPrefix at hp
        obtain ⟨t, ht⟩ := List.isPrefixOf_iff_prefix.1 hp
        unfold fileL
        rw [h3, ← ht, List.append_assoc, List.singleton_append]
        congr 2
        rw [show k.length + 1 = (k ++ [46]).length by simp, show k ++ 46 :: t = (k ++ [46]) ++ t by simp, List.drop_left]
      · cases h
    · cases h
  · cases h
def loadA (A : AD) (g : AL) (first : Int) : List Key × Int × AD × AL :=
  let ns := numsL A g.name.data.toList
  if consec ns = false then ([], 60, A, { g with segs := ns.map seg0 })
  else
    let R := rdFin A g.name.data.toList ⟨[], 0, ns.map seg0, false⟩ ns.length 0
    if R.2.torn = true ∧ R.1 < ns.length then ([], 60, A, { g with segs := R.2.segs, next := R.2.next })
    else
      let nx := if R.2.pay = [] then first else R.2.next
      let g3 : AL := { g with segs := R.2.segs, next := nx }
      if first < nx - R.2.pay.length ∨ nx < first then ([], 60, A, g3)
      else
        let T := if R.2.torn = true then A.trunc (fileL g.name.data.toList (R.2.segs.getLastD ⟨0, 0, 0⟩).num) (R.2.segs.getLastD ⟨0, 0, 0⟩).size else (0, A)
        if T.1 ≠ 0 then ([], T.1, T.2, g3)
        else if (T.2.syncs g3.files).1 ≠ 0 then ([], (T.2.syncs g3.files).1, (T.2.syncs g3.files).2, g3)
        else (R.2.pay.drop (first - (nx - R.2.pay.length)).toNat, 0, (T.2.syncs g3.files).2, g3)
end Go.Proofs.YtdffmmiegpndkaaGreatDoor
/-
  OPEN AND OPEN AGAIN, PLAIN: the second reading of what a cut left.
-/
namespace Go.Proofs.YtdffmmiegpndkaaGreatDoor
open Go.RowKit Go.Maps
set_option linter.unusedVariables false
theorem firstN_take {t : Key} {m : Nat} (h : 16 ≤ m) : firstN (t.take m) = firstN t := by
  unfold firstN
  by_cases h1 : t.length < 16
  · rw [if_pos h1, if_pos (by rw [List.length_take]; omega)]
  · rw [if_neg h1, if_neg (by rw [List.length_take]; omega)]
    have e : ((t.take m).drop 4).take 8 = (t.drop 4).take 8 := by
      rw [List.drop_take, List.take_take, Nat.min_eq_left (by omega)]
    rw [e]
theorem firstN_nil : firstN [] = -1 := by unfold firstN; rw [if_pos (by simp)]
theorem frames_len : ∀ {ps : List Key} {n : Int}, ps ≠ [] → 16 ≤ (framesL n ps).length
  | p :: ps, n, _ => by
    show 16 ≤ (Fr.frameL n.toNat p ++ framesL (n + 1) ps).length
    rw [List.length_append, Fr.frameL_length]
    have := Fr.room_ge p.length
    unfold Fr.room
    omega
/-- A step of the reading, at a text and at what the cut of it leaves. -/
structure Cut (a b : RSt) : Prop where
  pay : b.pay = a.pay
  torn : b.torn = false
  next : a.pay ≠ [] → b.next = a.next
theorem rdStep_cut {A A' : AD} {nm : Key} {S : RSt} {k : Nat} (h : textOf A' nm (S.segs.getD k ⟨0, 0, 0⟩).num = (textOf A nm (S.segs.getD k ⟨0, 0, 0⟩).num).take ((textOf A nm (S.segs.getD k ⟨0, 0, 0⟩).num).length - (scanA (textOf A nm (S.segs.getD k ⟨0, 0, 0⟩).num) (if S.pay = [] then firstN (textOf A nm (S.segs.getD k ⟨0, 0, 0⟩).num) else S.next)).2.length)) : Cut (rdStep A nm S k) (rdStep A' nm S k) := by
  unfold rdStep
  simp only
  rw [h]
  obtain ⟨t, ht⟩ : ∃ t, textOf A nm (S.segs.getD k ⟨0, 0, 0⟩).num = t := ⟨_, rfl⟩
  rw [ht]
  obtain ⟨nx, hnx⟩ : ∃ x, (if S.pay = [] then firstN t else S.next) = x := ⟨_, rfl⟩
  rw [hnx]
  have hcut := scan_cut t nx
  have hf := scanA_found t nx
  have hle := scan_rest_le t nx
  obtain ⟨r, hr⟩ : ∃ r, scanA t nx = r := ⟨_, rfl⟩
  rw [hr] at hcut hf hle ⊢
  have hs := told_split hf.told
  by_cases hp : S.pay = []
  · rw [if_pos hp] at hnx ⊢
    by_cases h1 : r.1 = []
    · have hr2 : r.2 = t := by rw [h1] at hs; exact hs.symm
      have ht0 : t.take (t.length - r.2.length) = [] := by rw [hr2, Nat.sub_self, List.take_zero]
      rw [ht0, firstN_nil]
      have hz : scanA [] (-1) = ([], []) := scanA_of ⟨rfl, whole_nil _⟩
      rw [hz, h1, hp]
      exact ⟨rfl, rfl, fun h => absurd rfl h⟩
    · have hm : 16 ≤ t.length - r.2.length := by
        have : t.length = (framesL nx r.1).length + r.2.length := by conv => lhs; rw [hs]; rw [List.length_append]
        have := frames_len (n := nx) h1
        omega
      rw [firstN_take hm, hnx, hcut]
      exact ⟨rfl, rfl, fun _ => rfl⟩
  · rw [if_neg hp] at hnx ⊢
    rw [hnx, hcut]
    exact ⟨rfl, rfl, fun _ => rfl⟩
theorem rdFin_end {A : AD} {nm : Key} {s : RSt} : ∀ {f k : Nat}, (rdFin A nm s f k).2.torn = false → rdFin A nm s f k = (k + f, rdK A nm s (k + f)) ∧ ∀ q, k < q → q ≤ k + f → (rdK A nm s q).torn = false
  | 0, k, h => ⟨rfl, fun q h1 h2 => by omega⟩
  | f + 1, k, h => by
    unfold rdFin at h ⊢
    by_cases ht : (rdK A nm s (k + 1)).torn = true
    · rw [if_pos ht] at h; rw [ht] at h; cases h
    · rw [if_neg ht] at h ⊢
      obtain ⟨h1, h2⟩ := rdFin_end h
      refine ⟨by rw [h1, show k + 1 + f = k + (f + 1) by omega], fun q hq1 hq2 => ?_⟩
      by_cases e : q = k + 1
      · rw [e]; simpa using ht
      · exact h2 q (by omega) (by omega)
theorem rdFin_prev {A : AD} {nm : Key} {s : RSt} : ∀ {f k : Nat} (q : Nat), k < q → q < (rdFin A nm s f k).1 → (rdK A nm s q).torn = false
  | 0, k, q, h1, h2 => by have : q < k := h2; omega
  | f + 1, k, q, h1, h2 => by
    unfold rdFin at h2
    by_cases ht : (rdK A nm s (k + 1)).torn = true
    · rw [if_pos ht] at h2; have : q < k + 1 := h2; omega
    · rw [if_neg ht] at h2
      by_cases e : q = k + 1
      · rw [e]; simpa using ht
      · exact rdFin_prev q (by omega) h2
/-- Reading again: the texts are as before, but that of the last is cut where it was torn. -/
theorem rdFin_again {A A' : AD} {nm : Key} {s : RSt} {N : Nat} (hs : s.torn = false) (hgo : ¬ ((rdFin A nm s N 0).2.torn = true ∧ (rdFin A nm s N 0).1 < N))
    (hsame : ∀ q, q < N → ((rdFin A nm s N 0).2.torn = false ∨ q + 1 < N) → textOf A' nm (s.segs.getD q ⟨0, 0, 0⟩).num = textOf A nm (s.segs.getD q ⟨0, 0, 0⟩).num)
    (hcut : ∀ m, N = m + 1 → (rdFin A nm s N 0).2.torn = true → textOf A' nm (s.segs.getD m ⟨0, 0, 0⟩).num = (textOf A nm (s.segs.getD m ⟨0, 0, 0⟩).num).take ((rdK A nm s N).segs.getD m ⟨0, 0, 0⟩).size.toNat) (hlen : s.segs.length = N) :
    (rdFin A' nm s N 0).1 = N ∧ Cut (rdFin A nm s N 0).2 (rdFin A' nm s N 0).2 := by
  cases ht : (rdFin A nm s N 0).2.torn with
  | false =>
    have e := rdFin_congr (A := A) (A' := A') (nm := nm) (s := s) (N := N) (fun q hq => hsame q hq (.inl ht)) N 0 (by omega)
    rw [e]
    obtain ⟨h1, _⟩ := rdFin_end ht
    refine ⟨by rw [h1]; simp, ⟨rfl, ht, fun _ => rfl⟩⟩
  | true =>
    obtain ⟨k', _, hk2, hk3, hk⟩ := rdFin_is A nm s N 0
    have hN : (rdFin A nm s N 0).1 = N := by
      have h1 : ¬ (rdFin A nm s N 0).1 < N := fun h => hgo ⟨ht, h⟩
      rw [hk] at h1 ⊢
      simp only at h1 ⊢
      omega
    have hkN : k' = N := by rw [hk] at hN; exact hN
    subst hkN
    obtain ⟨m, rfl⟩ : ∃ m, k' = m + 1 := by
      cases k' with
      | zero => rw [hk] at ht; rw [show rdK A nm s 0 = s from rfl, hs] at ht; cases ht
      | succ m => exact ⟨m, rfl⟩
    have hc : ∀ q, q ≤ m → rdK A' nm s q = rdK A nm s q := rdK_congr (fun q hq => hsame q (by omega) (.inr (by omega)))
    have hst : rdK A nm s (m + 1) = rdStep A nm (rdK A nm s m) m := rfl
    have hnum := rdK_num A nm s m m
    have hcutm := hcut m rfl ht
    have hsz : ((rdK A nm s (m + 1)).segs.getD m ⟨0, 0, 0⟩).size.toNat = (textOf A nm ((rdK A nm s m).segs.getD m ⟨0, 0, 0⟩).num).length - (scanA (textOf A nm ((rdK A nm s m).segs.getD m ⟨0, 0, 0⟩).num) (if (rdK A nm s m).pay = [] then firstN (textOf A nm ((rdK A nm s m).segs.getD m ⟨0, 0, 0⟩).num) else (rdK A nm s m).next)).2.length := by
      rw [hst]
      unfold rdStep
      simp only
      rw [List.getD_eq_getElem?_getD, List.getElem?_set_self (by rw [rdK_len, hlen]; omega)]
      simp
    have hcu : Cut (rdStep A nm (rdK A nm s m) m) (rdStep A' nm (rdK A nm s m) m) := rdStep_cut (by rw [← hsz, hnum]; exact hcutm)
    have hA' : rdK A' nm s (m + 1) = rdStep A' nm (rdK A nm s m) m := by show rdStep A' nm (rdK A' nm s m) m = _; rw [hc m (Nat.le_refl _)]
    have hall : ∀ q, 0 < q → q ≤ m + 1 → (rdK A' nm s q).torn = false := fun q h0 h1 => by
      by_cases e : q = m + 1
      · rw [e, hA']; exact hcu.torn
      · rw [hc q (by omega)]
        exact rdFin_prev (f := m + 1) (k := 0) q h0 (by rw [hk]; simp only; omega)
    have hR' := rdFin_all hall
    rw [hR', hk]
    refine ⟨rfl, ?_⟩
    simp only
    rw [hA']
    exact hcu
end Go.Proofs.YtdffmmiegpndkaaGreatDoor
/-
  OPEN AND OPEN AGAIN, PLAIN: what Open leaves on a disk that refuses nothing.
-/
namespace Go.Proofs.YtdffmmiegpndkaaGreatDoor
open Go.RowKit Go.Maps
set_option linter.unusedVariables false
def rdOf (A : AD) (nm : Key) : Nat × RSt := rdFin A nm ⟨[], 0, (numsL A nm).map seg0, false⟩ (numsL A nm).length 0
theorem numsL_keys {A A' : AD} {nm : Key} (h : A.pow.off = false) (h' : A'.pow.off = false) (hk : fkeys A'.fs = fkeys A.fs) : numsL A' nm = numsL A nm := by
  unfold numsL foundL
  rw [list_on h, list_on h', hk]
theorem text_seen {A : AD} {nm : Key} {n : Int} {F : AF} (h : A.pow.off = false) (hk : fget A.fs (fileL nm n) = some F) (hF : F.seen.length ≤ 1048576) : textOf A nm n = F.seen := by
  unfold textOf AD.read
  rw [h, hk]
  simp only [Bool.false_eq_true, if_false]
  rw [if_neg (by decide)]
  exact List.take_of_length_le hF
theorem nums_file {A : AD} {nm : Key} {n : Int} (h : A.pow.off = false) (hn : n ∈ numsL A nm) : numOf (fileL nm n) nm = some n ∧ ∃ F, fget A.fs (fileL nm n) = some F := by
  have h1 : n ∈ foundL A nm := (List.mergeSort_perm _ _).mem_iff.1 hn
  obtain ⟨f, hf, hn2⟩ := List.mem_filterMap.1 h1
  have e := numOf_file hn2
  subst e
  refine ⟨hn2, ?_⟩
  rw [list_on h] at hf
  cases hc : fget A.fs (fileL nm n) with
  | some F => exact ⟨F, rfl⟩
  | none =>
    obtain ⟨q, hq, e⟩ := List.mem_map.1 hf
    exact absurd e (fget_none_iff.1 hc q hq)
theorem file_inj {A : AD} {nm : Key} {n m : Int} (h : A.pow.off = false) (hn : n ∈ numsL A nm) (hm : m ∈ numsL A nm) (e : fileL nm n = fileL nm m) : n = m := by
  have h1 := (nums_file h hn).1
  rw [e, (nums_file h hm).1] at h1
  cases h1; rfl
theorem seg0_num (ns : List Int) (q : Nat) : (((ns.map seg0).getD q ⟨0, 0, 0⟩).num) = ns.getD q 0 := by
  rw [List.getD_eq_getElem?_getD, List.getD_eq_getElem?_getD, List.getElem?_map]
  cases ns[q]? <;> rfl
theorem rd_segs {A : AD} {nm : Key} : (rdOf A nm).2.segs.map ASeg.num = numsL A nm ∧ (rdOf A nm).2.segs.length = (numsL A nm).length := by
  obtain ⟨k', _, _, _, hk⟩ := rdFin_is A nm ⟨[], 0, (numsL A nm).map seg0, false⟩ (numsL A nm).length 0
  have hl : (rdOf A nm).2.segs.length = (numsL A nm).length := by
    unfold rdOf; rw [hk]; simp only; rw [rdK_len]; simp
  refine ⟨?_, hl⟩
  apply List.ext_getElem (by simpa using hl)
  intro q h1 h2
  have hn := rdK_num A nm ⟨[], 0, (numsL A nm).map seg0, false⟩ q k'
  rw [List.getElem_map]
  have e : (rdOf A nm).2 = rdK A nm ⟨[], 0, (numsL A nm).map seg0, false⟩ k' := by unfold rdOf; rw [hk]
  have h1' : q < (rdOf A nm).2.segs.length := by simpa using h1
  rw [← e, seg0_num, List.getD_eq_getElem?_getD, List.getD_eq_getElem?_getD, List.getElem?_eq_getElem h1', List.getElem?_eq_getElem h2] at hn
  exact hn
theorem rd_files {A : AD} {nm : Key} (g : AL) (hg : g.name.data.toList = nm) (hs : g.segs = (rdOf A nm).2.segs) : g.files = (numsL A nm).map (fileL nm) := by
  unfold AL.files
  rw [hs, hg, ← rd_segs.1, List.map_map]
  rfl
/-- What Open leaves: all is synced; the texts are as before, the last one's rest is cut off. -/
structure Left (A A9 : AD) (nm : Key) : Prop where
  pow : A9.pow = p0
  cap : A9.cap = A.cap
  keys : fkeys A9.fs = fkeys A.fs
  clean : ∀ n ∈ numsL A nm, ∃ F, fget A9.fs (fileL nm n) = some F ∧ Clean F (textOf A9 nm n)
  same : ∀ n ∈ numsL A nm, ((rdOf A nm).2.torn = false ∨ (numsL A nm).getLast? ≠ some n) → textOf A9 nm n = textOf A nm n
  cut : ∀ s, (rdOf A nm).2.torn = true → (rdOf A nm).2.segs.getLast? = some s → textOf A9 nm s.num = (textOf A nm s.num).take s.size.toNat
theorem sizes_in {A : AD} {nm : Key} {s : ASeg} (ht : (rdOf A nm).2.torn = true) (hgo : ¬ ((rdOf A nm).2.torn = true ∧ (rdOf A nm).1 < (numsL A nm).length)) (hs : (rdOf A nm).2.segs.getLast? = some s) : 0 ≤ s.size ∧ s.size ≤ (textOf A nm s.num).length := by
  obtain ⟨k', _, hk2, _, hk⟩ := rdFin_is A nm ⟨[], 0, (numsL A nm).map seg0, false⟩ (numsL A nm).length 0
  have hR : rdOf A nm = (k', rdK A nm ⟨[], 0, (numsL A nm).map seg0, false⟩ k') := hk
  rw [hR] at ht hgo hs
  simp only at ht hgo hs
  have hkN : k' = (numsL A nm).length := by
    have : ¬ k' < (numsL A nm).length := fun h => hgo ⟨ht, h⟩
    omega
  cases k' with
  | zero => cases ht
  | succ m =>
    have hl : (rdK A nm ⟨[], 0, (numsL A nm).map seg0, false⟩ m).segs.length = m + 1 := by rw [rdK_len]; simp; omega
    have hst : rdK A nm ⟨[], 0, (numsL A nm).map seg0, false⟩ (m + 1) = rdStep A nm (rdK A nm ⟨[], 0, (numsL A nm).map seg0, false⟩ m) m := rfl
    rw [hst] at hs
    unfold rdStep at hs
    simp only at hs
    rw [List.getLast?_eq_getElem?, List.length_set, hl, Nat.add_sub_cancel, List.getElem?_set_self (by omega)] at hs
    cases hs
    simp only
    refine ⟨by omega, ?_⟩
    omega
theorem load_last {A : AD} {nm : Key} (hp : A.pow = p0) (hok : A.Ok) (hgo : ¬ ((rdOf A nm).2.torn = true ∧ (rdOf A nm).1 < (numsL A nm).length)) :
    ∃ A5 A9, (if (rdOf A nm).2.torn = true then A.trunc (fileL nm ((rdOf A nm).2.segs.getLastD ⟨0, 0, 0⟩).num) ((rdOf A nm).2.segs.getLastD ⟨0, 0, 0⟩).size else (0, A)) = (0, A5) ∧ A5.syncs ((numsL A nm).map (fileL nm)) = (0, A9) ∧ Left A A9 nm := by
  have hoff : A.pow.off = false := by rw [hp]; rfl
  have hmost : ∀ k F, fget A.fs k = some F → F.seen.length ≤ 1048576 := fun k F h => (hok.files _ (fget_mem h)).most
  cases ht : (rdOf A nm).2.torn with
  | false =>
    obtain ⟨h1, h2⟩ := syncs_calm (fs := (numsL A nm).map (fileL nm)) hp (fun f hf => by
      obtain ⟨n, hn, rfl⟩ := List.mem_map.1 hf
      exact (nums_file hoff hn).2)
    refine ⟨A, (A.syncs ((numsL A nm).map (fileL nm))).2, by simp, Prod.ext h1 rfl, ⟨h2.pow, h2.cap, h2.keys, fun n hn => ?_, fun n hn _ => ?_, fun s hs => by rw [ht] at hs; cases hs⟩⟩
    · obtain ⟨F, hF⟩ := (nums_file hoff hn).2
      obtain ⟨F', g1, g2, g3, _⟩ := h2.file _ F hF
      refine ⟨F', g1, ?_⟩
      rw [text_seen (by rw [h2.pow]; rfl) g1 (by rw [g2]; exact hmost _ _ hF), g2]
      exact g3 (List.mem_map.2 ⟨n, hn, rfl⟩)
    · obtain ⟨F, hF⟩ := (nums_file hoff hn).2
      obtain ⟨F', g1, g2, g3, _⟩ := h2.file _ F hF
      rw [text_seen (by rw [h2.pow]; rfl) g1 (by rw [g2]; exact hmost _ _ hF), g2, text_seen hoff hF (hmost _ _ hF)]
  | true =>
    have hpos : 0 < (rdOf A nm).2.segs.length := by
      rw [rd_segs.2]
      rcases Nat.eq_zero_or_pos (numsL A nm).length with h0 | h0
      · have : (rdOf A nm).2.torn = false := by unfold rdOf; rw [h0]; rfl
        rw [this] at ht; cases ht
      · exact h0
    obtain ⟨s, hs⟩ : ∃ s, (rdOf A nm).2.segs.getLast? = some s := by
      cases hc : (rdOf A nm).2.segs.getLast? with
      | none => rw [List.getLast?_eq_none_iff] at hc; rw [hc] at hpos; exact absurd hpos (by simp)
      | some s => exact ⟨s, rfl⟩
    have hD : (rdOf A nm).2.segs.getLastD ⟨0, 0, 0⟩ = s := by rw [List.getLastD_eq_getLast?, hs]; rfl
    have hlastn : (numsL A nm).getLast? = some s.num := by rw [← rd_segs.1, List.getLast?_map, hs]; rfl
    have hsn : s.num ∈ numsL A nm := List.mem_of_getLast? hlastn
    obtain ⟨F, hF⟩ := (nums_file hoff hsn).2
    have htx : textOf A nm s.num = F.seen := text_seen hoff hF (hmost _ _ hF)
    have hsz := sizes_in ht hgo hs
    rw [htx] at hsz
    have htr : A.trunc (fileL nm s.num) s.size = (0, { A with fs := fset A.fs (fileL nm s.num) (F.trunc s.size.toNat) }) := by
      unfold AD.trunc
      rw [hoff, hF]
      simp only [Bool.false_eq_true, if_false]
      rw [if_neg (by omega)]
    have hget : ∀ k F1, fget A.fs k = some F1 → fget (fset A.fs (fileL nm s.num) (F.trunc s.size.toNat)) k = some (if k = fileL nm s.num then F.trunc s.size.toNat else F1) := fun k F1 hk => by
      by_cases e : k = fileL nm s.num
      · rw [if_pos e, e]; exact fget_fset_same hF
      · rw [if_neg e, fget_fset_ne e]; exact hk
    obtain ⟨h1, h2⟩ := syncs_calm (fs := (numsL A nm).map (fileL nm)) (A := { A with fs := fset A.fs (fileL nm s.num) (F.trunc s.size.toNat) }) hp (fun f hf => by
      obtain ⟨n, hn, rfl⟩ := List.mem_map.1 hf
      obtain ⟨F1, hF1⟩ := (nums_file hoff hn).2
      exact ⟨_, hget _ F1 hF1⟩)
    have hfin : ∀ n ∈ numsL A nm, ∃ F1 F', fget A.fs (fileL nm n) = some F1 ∧ fget ((⟨A.cap, fset A.fs (fileL nm s.num) (F.trunc s.size.toNat), A.pow⟩ : AD).syncs ((numsL A nm).map (fileL nm))).2.fs (fileL nm n) = some F' ∧ F'.seen = (if n = s.num then F.seen.take s.size.toNat else F1.seen) ∧ Clean F' F'.seen := fun n hn => by
      obtain ⟨F1, hF1⟩ := (nums_file hoff hn).2
      obtain ⟨F', g1, g2, g3, _⟩ := h2.file _ _ (hget _ F1 hF1)
      have hc := g3 (List.mem_map.2 ⟨n, hn, rfl⟩)
      refine ⟨F1, F', hF1, g1, ?_, by rw [g2]; exact hc⟩
      rw [g2]
      by_cases e : n = s.num
      · rw [if_pos (by rw [e]), if_pos e]; rfl
      · rw [if_neg (fun h => e (file_inj hoff hn hsn h)), if_neg e]
    have htext : ∀ n ∈ numsL A nm, textOf ((⟨A.cap, fset A.fs (fileL nm s.num) (F.trunc s.size.toNat), A.pow⟩ : AD).syncs ((numsL A nm).map (fileL nm))).2 nm n = if n = s.num then (textOf A nm n).take s.size.toNat else textOf A nm n := fun n hn => by
      obtain ⟨F1, F', k1, k2, k3, k4⟩ := hfin n hn
      have hm : F'.seen.length ≤ 1048576 := by
        rw [k3]
        split
        · rw [List.length_take]; have := hmost _ _ hF; omega
        · exact hmost _ _ k1
      rw [text_seen (by rw [h2.pow]; rfl) k2 hm, k3, text_seen hoff k1 (hmost _ _ k1)]
      by_cases e : n = s.num
      · rw [if_pos e, if_pos e]
        rw [e, hF] at k1
        cases k1; rfl
      · rw [if_neg e, if_neg e]
    refine ⟨_, _, by rw [if_pos rfl, hD]; exact htr, Prod.ext h1 rfl, ⟨h2.pow, h2.cap, h2.keys.trans fset_keys, fun n hn => ?_, fun n hn hor => ?_, fun s' hs1 hs2 => ?_⟩⟩
    · obtain ⟨F1, F', k1, k2, k3, k4⟩ := hfin n hn
      refine ⟨F', k2, ?_⟩
      have hm : F'.seen.length ≤ 1048576 := by
        rw [k3]
        split
        · rw [List.length_take]; have := hmost _ _ hF; omega
        · exact hmost _ _ k1
      rw [text_seen (by rw [h2.pow]; rfl) k2 hm]
      exact k4
    · have hne : n ≠ s.num := fun e => by
        rcases hor with h | h
        · rw [ht] at h; cases h
        · exact h (by rw [hlastn, e])
      have := htext n hn
      rw [if_neg hne] at this
      exact this
    · rw [hs] at hs2
      cases hs2
      have := htext s.num hsn
      rw [if_pos rfl] at this
      exact this
end Go.Proofs.YtdffmmiegpndkaaGreatDoor
