import Derived.Test.YtjfbdnogkbhciaaGreatDoorWAgainN
/-
  OPEN AND OPEN AGAIN, PLAIN: what Open leaves on a disk that refuses nothing.
-/
namespace Go.Proofs.YtjfbdnogkbhciaaGreatDoor
open Go.RowKit Go.Maps
set_option linter.unusedVariables false
def rdOf (A : AD) (nm : Key) : Nat × RSt := rdFin A nm ⟨[], 0, (numsL A nm).map seg0, false⟩ (numsL A nm).length 0
theorem numsL_keys {A A' : AD} {nm : Key} (h : A.pow.off = false) (h' : A'.pow.off = false) (hk : fkeys A'.fs = fkeys A.fs) : numsL A' nm = numsL A nm := by
  unfold numsL foundL
  rw [list_on h, list_on h', hk]
theorem text_seen {A : AD} {nm : Key} {n : Int} {F : AF} (h : A.pow.off = false) (hk : fget A.fs (fileL nm n) = some F) (hF : F.seen.length ≤ 1048576) : textOf A nm n = F.seen := by
  unfold textOf AD.read
  rw [h, hk]
  simp only [Bool.false_eq_true, if_false]
  rw [if_neg (by decide)]
  exact List.take_of_length_le hF
theorem nums_file {A : AD} {nm : Key} {n : Int} (h : A.pow.off = false) (hn : n ∈ numsL A nm) : numOf (fileL nm n) nm = some n ∧ ∃ F, fget A.fs (fileL nm n) = some F := by
  have h1 : n ∈ foundL A nm := (List.mergeSort_perm _ _).mem_iff.1 hn
  obtain ⟨f, hf, hn2⟩ := List.mem_filterMap.1 h1
  have e := numOf_file hn2
  subst e
  refine ⟨hn2, ?_⟩
  rw [list_on h] at hf
  cases hc : fget A.fs (fileL nm n) with
  | some F => exact ⟨F, rfl⟩
  | none =>
    obtain ⟨q, hq, e⟩ := List.mem_map.1 hf
    exact absurd e (fget_none_iff.1 hc q hq)
theorem file_inj {A : AD} {nm : Key} {n m : Int} (h : A.pow.off = false) (hn : n ∈ numsL A nm) (hm : m ∈ numsL A nm) (e : fileL nm n = fileL nm m) : n = m := by
  have h1 := (nums_file h hn).1
  rw [e, (nums_file h hm).1] at h1
  cases h1; rfl
theorem seg0_num (ns : List Int) (q : Nat) : (((ns.map seg0).getD q ⟨0, 0, 0⟩).num) = ns.getD q 0 := by
  rw [List.getD_eq_getElem?_getD, List.getD_eq_getElem?_getD, List.getElem?_map]
  cases ns[q]? <;> rfl
theorem rd_segs {A : AD} {nm : Key} : (rdOf A nm).2.segs.map ASeg.num = numsL A nm ∧ (rdOf A nm).2.segs.length = (numsL A nm).length := by
  obtain ⟨k', _, _, _, hk⟩ := rdFin_is A nm ⟨[], 0, (numsL A nm).map seg0, false⟩ (numsL A nm).length 0
  have hl : (rdOf A nm).2.segs.length = (numsL A nm).length := by
    unfold rdOf; rw [hk]; simp only; rw [rdK_len]; simp
  refine ⟨?_, hl⟩
  apply List.ext_getElem (by simpa using hl)
  intro q h1 h2
  have hn := rdK_num A nm ⟨[], 0, (numsL A nm).map seg0, false⟩ q k'
  rw [List.getElem_map]
  have e : (rdOf A nm).2 = rdK A nm ⟨[], 0, (numsL A nm).map seg0, false⟩ k' := by unfold rdOf; rw [hk]
  have h1' : q < (rdOf A nm).2.segs.length := by simpa using h1
  rw [← e, seg0_num, List.getD_eq_getElem?_getD, List.getD_eq_getElem?_getD, List.getElem?_eq_getElem h1', List.getElem?_eq_getElem h2] at hn
  exact hn
theorem rd_files {A : AD} {nm : Key} (g : AL) (hg : g.name.data.toList = nm) (hs : g.segs = (rdOf A nm).2.segs) : g.files = (numsL A nm).map (fileL nm) := by
  unfold AL.files
  rw [hs, hg, ← rd_segs.1, List.map_map]
  rfl
/-- What Open leaves: all is synced; the texts are as before, the last one's rest is cut off. -/
structure Left (A A9 : AD) (nm : Key) : Prop where
  pow : A9.pow = p0
  cap : A9.cap = A.cap
  keys : fkeys A9.fs = fkeys A.fs
  clean : ∀ n ∈ numsL A nm, ∃ F, fget A9.fs (fileL nm n) = some F ∧ Clean F (textOf A9 nm n)
  same : ∀ n ∈ numsL A nm, ((rdOf A nm).2.torn = false ∨ (numsL A nm).getLast? ≠ some n) → textOf A9 nm n = textOf A nm n
  cut : ∀ s, (rdOf A nm).2.torn = true → (rdOf A nm).2.segs.getLast? = some s → textOf A9 nm s.num = (textOf A nm s.num).take s.size.toNat
theorem sizes_in {A : AD} {nm : Key} {s : ASeg} (ht : (rdOf A nm).2.torn = true) (hgo : ¬ ((rdOf A nm).2.torn = true ∧ (rdOf A nm).1 < (numsL A nm).length)) (hs : (rdOf A nm).2.segs.getLast? = some s) : 0 ≤ s.size ∧ s.size ≤ (textOf A nm s.num).length := by
  obtain ⟨k', _, hk2, _, hk⟩ := rdFin_is A nm ⟨[], 0, (numsL A nm).map seg0, false⟩ (numsL A nm).length 0
  have hR : rdOf A nm = (k', rdK A nm ⟨[], 0, (numsL A nm).map seg0, false⟩ k') := hk
  rw [hR] at ht hgo hs
  simp only at ht hgo hs
  have hkN : k' = (numsL A nm).length := by
    have : ¬ k' < (numsL A nm).length := fun h => hgo ⟨ht, h⟩
    omega
  cases k' with
  | zero => cases ht
  | succ m =>
    have hl : (rdK A nm ⟨[], 0, (numsL A nm).map seg0, false⟩ m).segs.length = m + 1 := by rw [rdK_len]; simp; omega
    have hst : rdK A nm ⟨[], 0, (numsL A nm).map seg0, false⟩ (m + 1) = rdStep A nm (rdK A nm ⟨[], 0, (numsL A nm).map seg0, false⟩ m) m := rfl
    rw [hst] at hs
    unfold rdStep at hs
    simp only at hs
    rw [List.getLast?_eq_getElem?, List.length_set, hl, Nat.add_sub_cancel, List.getElem?_set_self (by omega)] at hs
    cases hs
    simp only
    refine ⟨by omega, ?_⟩
    omega
theorem load_last {A : AD} {nm : Key} (hp : A.pow = p0) (hok : A.Ok) (hgo : ¬ ((rdOf A nm).2.torn = true ∧ (rdOf A nm).1 < (numsL A nm).length)) :
    ∃ A5 A9, (if (rdOf A nm).2.torn = true then A.trunc (fileL nm ((rdOf A nm).2.segs.getLastD ⟨0, 0, 0⟩).num) ((rdOf A nm).2.segs.getLastD ⟨0, 0, 0⟩).size else (0, A)) = (0, A5) ∧ A5.syncs ((numsL A nm).map (fileL nm)) = (0, A9) ∧ Left A A9 nm := by
  have hoff : A.pow.off = false := by rw [hp]; rfl
  have hmost : ∀ k F, fget A.fs k = some F → F.seen.length ≤ 1048576 := fun k F h => (hok.files _ (fget_mem h)).most
  cases ht : (rdOf A nm).2.torn with
  | false =>
    obtain ⟨h1, h2⟩ := syncs_calm (fs := (numsL A nm).map (fileL nm)) hp (fun f hf => by
      obtain ⟨n, hn, rfl⟩ := List.mem_map.1 hf
      exact (nums_file hoff hn).2)
    refine ⟨A, (A.syncs ((numsL A nm).map (fileL nm))).2, by simp, Prod.ext h1 rfl, ⟨h2.pow, h2.cap, h2.keys, fun n hn => ?_, fun n hn _ => ?_, fun s hs => by rw [ht] at hs; cases hs⟩⟩
    · obtain ⟨F, hF⟩ := (nums_file hoff hn).2
      obtain ⟨F', g1, g2, g3, _⟩ := h2.file _ F hF
      refine ⟨F', g1, ?_⟩
      rw [text_seen (by rw [h2.pow]; rfl) g1 (by rw [g2]; exact hmost _ _ hF), g2]
      exact g3 (List.mem_map.2 ⟨n, hn, rfl⟩)
    · obtain ⟨F, hF⟩ := (nums_file hoff hn).2
      obtain ⟨F', g1, g2, g3, _⟩ := h2.file _ F hF
      rw [text_seen (by rw [h2.pow]; rfl) g1 (by rw [g2]; exact hmost _ _ hF), g2, text_seen hoff hF (hmost _ _ hF)]
  | true =>
    have hpos : 0 < (rdOf A nm).2.segs.length := by
      rw [rd_segs.2]
      rcases Nat.eq_zero_or_pos (numsL A nm).length with h0 | h0
      · have : (rdOf A nm).2.torn = false := by unfold rdOf; rw [h0]; rfl
        rw [this] at ht; cases ht
      · exact h0
    obtain ⟨s, hs⟩ : ∃ s, (rdOf A nm).2.segs.getLast? = some s := by
      cases hc : (rdOf A nm).2.segs.getLast? with
      | none => rw [List.getLast?_eq_none_iff] at hc; rw [hc] at hpos; exact absurd hpos (by simp)
      | some s => exact ⟨s, rfl⟩
    have hD : (rdOf A nm).2.segs.getLastD ⟨0, 0, 0⟩ = s := by rw [List.getLastD_eq_getLast?, hs]; rfl
    have hlastn : (numsL A nm).getLast? = some s.num := by rw [← rd_segs.1, List.getLast?_map, hs]; rfl
    have hsn : s.num ∈ numsL A nm := List.mem_of_getLast? hlastn
    obtain ⟨F, hF⟩ := (nums_file hoff hsn).2
    have htx : textOf A nm s.num = F.seen := text_seen hoff hF (hmost _ _ hF)
    have hsz := sizes_in ht hgo hs
    rw [htx] at hsz
    have htr : A.trunc (fileL nm s.num) s.size = (0, { A with fs := fset A.fs (fileL nm s.num) (F.trunc s.size.toNat) }) := by
      unfold AD.trunc
      rw [hoff, hF]
      simp only [Bool.false_eq_true, if_false]
      rw [if_neg (by omega)]
    have hget : ∀ k F1, fget A.fs k = some F1 → fget (fset A.fs (fileL nm s.num) (F.trunc s.size.toNat)) k = some (if k = fileL nm s.num then F.trunc s.size.toNat else F1) := fun k F1 hk => by
      by_cases e : k = fileL nm s.num
      · rw [if_pos e, e]; exact fget_fset_same hF
      · rw [if_neg e, fget_fset_ne e]; exact hk
    obtain ⟨h1, h2⟩ := syncs_calm (fs := (numsL A nm).map (fileL nm)) (A := { A with fs := fset A.fs (fileL nm s.num) (F.trunc s.size.toNat) }) hp (fun f hf => by
      obtain ⟨n, hn, rfl⟩ := List.mem_map.1 hf
      obtain ⟨F1, hF1⟩ := (nums_file hoff hn).2
      exact ⟨_, hget _ F1 hF1⟩)
    have hfin : ∀ n ∈ numsL A nm, ∃ F1 F', fget A.fs (fileL nm n) = some F1 ∧ fget ((⟨A.cap, fset A.fs (fileL nm s.num) (F.trunc s.size.toNat), A.pow⟩ : AD).syncs ((numsL A nm).map (fileL nm))).2.fs (fileL nm n) = some F' ∧ F'.seen = (if n = s.num then F.seen.take s.size.toNat else F1.seen) ∧ Clean F' F'.seen := fun n hn => by
      obtain ⟨F1, hF1⟩ := (nums_file hoff hn).2
      obtain ⟨F', g1, g2, g3, _⟩ := h2.file _ _ (hget _ F1 hF1)
      have hc := g3 (List.mem_map.2 ⟨n, hn, rfl⟩)
      refine ⟨F1, F', hF1, g1, ?_, by rw [g2]; exact hc⟩
      rw [g2]
      by_cases e : n = s.num
      · rw [if_pos (by rw [e]), if_pos e]; rfl
      · rw [if_neg (fun h => e (file_inj hoff hn hsn h)), if_neg e]
    have htext : ∀ n ∈ numsL A nm, textOf ((⟨A.cap, fset A.fs (fileL nm s.num) (F.trunc s.size.toNat), A.pow⟩ : AD).syncs ((numsL A nm).map (fileL nm))).2 nm n = if n = s.num then (textOf A nm n).take s.size.toNat else textOf A nm n := fun n hn => by
      obtain ⟨F1, F', k1, k2, k3, k4⟩ := hfin n hn
      have hm : F'.seen.length ≤ 1048576 := by
        rw [k3]
        split
        · rw [List.length_take]; have := hmost _ _ hF; omega
        · exact hmost _ _ k1
      rw [text_seen (by rw [h2.pow]; rfl) k2 hm, k3, text_seen hoff k1 (hmost _ _ k1)]
      by_cases e : n = s.num
      · rw [if_pos e, if_pos e]
        rw [e, hF] at k1
        cases k1; rfl
      · rw [if_neg e, if_neg e]
    refine ⟨_, _, by rw [if_pos rfl, hD]; exact htr, Prod.ext h1 rfl, ⟨h2.pow, h2.cap, h2.keys.trans fset_keys, fun n hn => ?_, fun n hn hor => ?_, fun s' hs1 hs2 => ?_⟩⟩
    · obtain ⟨F1, F', k1, k2, k3, k4⟩ := hfin n hn
      refine ⟨F', k2, ?_⟩
      have hm : F'.seen.length ≤ 1048576 := by
        rw [k3]
        split
        · rw [List.length_take]; have := hmost _ _ hF; omega
        · exact hmost _ _ k1
      rw [text_seen (by rw [h2.pow]; rfl) k2 hm]
      exact k4
    · have hne : n ≠ s.num := fun e => by
        rcases hor with h | h
        · rw [ht] at h; cases h
        · exact h (by rw [hlastn, e])
      have := htext n hn
      rw [if_neg hne] at this
      exact this
    · rw [hs] at hs2
      cases hs2
      have := htext s.num hsn
      rw [if_pos rfl] at this
      exact this
end Go.Proofs.YtjfbdnogkbhciaaGreatDoor
/-
  OPEN AND OPEN AGAIN, PLAIN: a tidy log stays as it is.
-/
namespace Go.Proofs.YtjfbdnogkbhciaaGreatDoor
open Go.RowKit Go.Maps
set_option linter.unusedVariables false
theorem consec_get {ns : List Int} (h : consec ns = true) {q : Nat} (hq : q < ns.length) : ns.getD q 0 = ns.getD 0 0 + (q : Int) := by
  unfold consec at h
  have := List.all_eq_true.1 h q (List.mem_range.2 hq)
  simpa using this
/-- Two disks of whose log the same is read. -/
structure Alike (A A' : AD) (nm : Key) : Prop where
  pow : A'.pow = p0
  keys : fkeys A'.fs = fkeys A.fs
  text : ∀ n ∈ numsL A nm, textOf A' nm n = textOf A nm n
theorem Alike.nums {A A' : AD} {nm : Key} (hp : A.pow = p0) (h : Alike A A' nm) : numsL A' nm = numsL A nm := numsL_keys (by rw [hp]; rfl) (by rw [h.pow]; rfl) h.keys
theorem Alike.rd {A A' : AD} {nm : Key} (hp : A.pow = p0) (h : Alike A A' nm) : rdOf A' nm = rdOf A nm := by
  unfold rdOf
  rw [h.nums hp]
  refine rdFin_congr (N := (numsL A nm).length) (fun q hq => ?_) _ _ (by omega)
  show textOf A' nm (((numsL A nm).map seg0).getD q ⟨0, 0, 0⟩).num = textOf A nm (((numsL A nm).map seg0).getD q ⟨0, 0, 0⟩).num
  rw [seg0_num]
  refine h.text _ ?_
  rw [List.getD_eq_getElem?_getD, List.getElem?_eq_getElem hq]
  exact List.getElem_mem hq
theorem Alike.trans {A A' A'' : AD} {nm : Key} (hp : A.pow = p0) (h : Alike A A' nm) (k : Alike A' A'' nm) : Alike A A'' nm :=
  ⟨k.pow, k.keys.trans h.keys, fun n hn => (k.text n (by rw [h.nums hp]; exact hn)).trans (h.text n hn)⟩
structure Tidy (A : AD) (nm : Key) : Prop where
  pow : A.pow = p0
  con : consec (numsL A nm) = true
  torn : (rdOf A nm).2.torn = false
  clean : ∀ n ∈ numsL A nm, ∃ F, fget A.fs (fileL nm n) = some F ∧ Clean F (textOf A nm n)
theorem Tidy.crash {A : AD} {nm : Key} (h : Tidy A nm) (hok : A.Ok) (ls : List AFate) : Tidy (A.crash ls).on nm ∧ Alike A (A.crash ls).on nm := by
  obtain ⟨h1, h2, h3, h4⟩ := crash_on h.pow ls
  have hoff : A.pow.off = false := by rw [h.pow]; rfl
  have hoff' : (A.crash ls).on.pow.off = false := by rw [h1]; rfl
  have hnew : ∀ n ∈ numsL A nm, ∃ F, fget (A.crash ls).on.fs (fileL nm n) = some F ∧ Clean F (textOf A nm n) ∧ textOf (A.crash ls).on nm n = textOf A nm n := fun n hn => by
    obtain ⟨F, hF, hc⟩ := h.clean n hn
    have h5 := h4 _ F hF
    have hc' := hc.crash (fateOf ls (fileL nm n))
    refine ⟨_, h5, hc', ?_⟩
    rw [text_seen hoff' h5 (by rw [hc'.seen, ← hc.seen]; exact (hok.files _ (fget_mem hF)).most), hc'.seen]
  have ha : Alike A (A.crash ls).on nm := ⟨h1, h3, fun n hn => by obtain ⟨F, _, _, ht⟩ := hnew n hn; exact ht⟩
  refine ⟨⟨h1, by rw [ha.nums h.pow]; exact h.con, by rw [ha.rd h.pow]; exact h.torn, fun n hn => ?_⟩, ha⟩
  rw [ha.nums h.pow] at hn
  obtain ⟨F, k1, k2, k3⟩ := hnew n hn
  exact ⟨F, k1, by rw [k3]; exact k2⟩
/-- What Open leaves is tidy, and read as before. -/
theorem Left.tidy {A A9 : AD} {nm : Key} (hp : A.pow = p0) (hco : consec (numsL A nm) = true) (hgo : ¬ ((rdOf A nm).2.torn = true ∧ (rdOf A nm).1 < (numsL A nm).length)) (h : Left A A9 nm) : Tidy A9 nm ∧ Cut (rdOf A nm).2 (rdOf A9 nm).2 ∧ numsL A9 nm = numsL A nm ∧ (rdOf A9 nm).1 = (numsL A nm).length := by
  have hoff : A.pow.off = false := by rw [hp]; rfl
  have hns : numsL A9 nm = numsL A nm := numsL_keys hoff (by rw [h.pow]; rfl) h.keys
  have hmem : ∀ q, q < (numsL A nm).length → (numsL A nm).getD q 0 ∈ numsL A nm := fun q hq => by
    rw [List.getD_eq_getElem?_getD, List.getElem?_eq_getElem hq]; exact List.getElem_mem hq
  have key := rdFin_again (A := A) (A' := A9) (nm := nm) (s := ⟨[], 0, (numsL A nm).map seg0, false⟩) (N := (numsL A nm).length) rfl hgo
    (fun q hq hor => by
      show textOf A9 nm (((numsL A nm).map seg0).getD q ⟨0, 0, 0⟩).num = textOf A nm (((numsL A nm).map seg0).getD q ⟨0, 0, 0⟩).num
      rw [seg0_num]
      refine h.same _ (hmem q hq) ?_
      rcases hor with ho | ho
      · exact .inl ho
      · refine .inr (fun e => ?_)
        rw [List.getLast?_eq_getElem?] at e
        have e2 := consec_get hco hq
        have e3 := consec_get hco (q := (numsL A nm).length - 1) (by omega)
        rw [List.getD_eq_getElem?_getD, e] at e3
        simp only [Option.getD_some] at e3
        omega)
    (fun m hm ht => by
      show textOf A9 nm (((numsL A nm).map seg0).getD m ⟨0, 0, 0⟩).num = (textOf A nm (((numsL A nm).map seg0).getD m ⟨0, 0, 0⟩).num).take _
      rw [seg0_num]
      obtain ⟨k', _, hk2, _, hk⟩ := rdFin_is A nm ⟨[], 0, (numsL A nm).map seg0, false⟩ (numsL A nm).length 0
      have hR : rdOf A nm = (k', rdK A nm ⟨[], 0, (numsL A nm).map seg0, false⟩ k') := hk
      have hkN : k' = (numsL A nm).length := by
        have h1 : ¬ k' < (numsL A nm).length := fun h1 => hgo ⟨ht, by rw [hR]; exact h1⟩
        omega
      rw [hkN] at hR
      have hl := rd_segs (A := A) (nm := nm)
      have hsl : (rdOf A nm).2.segs.getLast? = some ((rdOf A nm).2.segs.getD m ⟨0, 0, 0⟩) := by
        rw [List.getLast?_eq_getElem?, hl.2, hm, Nat.add_sub_cancel, List.getD_eq_getElem?_getD, List.getElem?_eq_getElem (by rw [hl.2]; omega)]; rfl
      have hcut := h.cut _ ht hsl
      have hnum : ((rdOf A nm).2.segs.getD m ⟨0, 0, 0⟩).num = (numsL A nm).getD m 0 := by
        rw [← hl.1, List.getD_eq_getElem?_getD, List.getD_eq_getElem?_getD, List.getElem?_map, List.getElem?_eq_getElem (by rw [hl.2]; omega)]; rfl
      rw [hnum] at hcut
      rw [hcut, hR])
    (by simp)
  have hrd : rdOf A9 nm = rdFin A9 nm ⟨[], 0, (numsL A nm).map seg0, false⟩ (numsL A nm).length 0 := by unfold rdOf; rw [hns]
  rw [← hrd] at key
  refine ⟨⟨h.pow, by rw [hns]; exact hco, key.2.torn, fun n hn => ?_⟩, key.2, hns, key.1⟩
  rw [hns] at hn
  exact h.clean n hn
/-- What load answers where nothing is refused. -/
def goA (nm : ByteArray) (sz first : Int) (R : RSt) (A A9 : AD) : List Key × Int × AD × AL :=
  let nx := if R.pay = [] then first else R.next
  if first < nx - R.pay.length ∨ nx < first then ([], 60, A, ⟨nm, sz, R.segs, nx, false⟩)
  else (R.pay.drop (first - (nx - R.pay.length)).toNat, 0, A9, ⟨nm, sz, R.segs, nx, false⟩)
theorem load_calm {A A5 A9 : AD} {nm : ByteArray} {R : Nat × RSt} (sz first : Int) (hR : rdOf A nm.data.toList = R) (hco : consec (numsL A nm.data.toList) = true) (hgo : ¬ (R.2.torn = true ∧ R.1 < (numsL A nm.data.toList).length))
    (hT : (if R.2.torn = true then A.trunc (fileL nm.data.toList (R.2.segs.getLastD ⟨0, 0, 0⟩).num) (R.2.segs.getLastD ⟨0, 0, 0⟩).size else (0, A)) = (0, A5)) (hS : A5.syncs ((numsL A nm.data.toList).map (fileL nm.data.toList)) = (0, A9)) :
    loadA A ⟨nm, sz, [], 0, false⟩ first = goA nm sz first R.2 A A9 := by
  have hR' : rdFin A nm.data.toList ⟨[], 0, (numsL A nm.data.toList).map seg0, false⟩ (numsL A nm.data.toList).length 0 = R := hR
  have hfiles : ∀ nx, AL.files ⟨nm, sz, R.2.segs, nx, false⟩ = (numsL A nm.data.toList).map (fileL nm.data.toList) := fun nx => rd_files (A := A) _ rfl (by show R.2.segs = _; rw [hR])
  unfold loadA goA
  simp only
  rw [if_neg (by rw [hco]; decide), hR', if_neg hgo]
  generalize (if R.2.pay = [] then first else R.2.next) = nx
  by_cases hb : first < nx - (R.2.pay.length : Int) ∨ nx < first
  · rw [if_pos hb, if_pos hb]
  · rw [if_neg hb, if_neg hb, hT]
    simp only
    rw [hfiles nx, hS]
    simp
/-- Loading a tidy log. -/
theorem Tidy.load {A : AD} {nm : ByteArray} (h : Tidy A nm.data.toList) (hok : A.Ok) (sz first : Int) : ∃ A', Tidy A' nm.data.toList ∧ Alike A A' nm.data.toList ∧ loadA A ⟨nm, sz, [], 0, false⟩ first = goA nm sz first (rdOf A nm.data.toList).2 A A' := by
  have hgo : ¬ ((rdOf A nm.data.toList).2.torn = true ∧ (rdOf A nm.data.toList).1 < (numsL A nm.data.toList).length) := fun hc => by rw [h.torn] at hc; cases hc.1
  obtain ⟨A5, A9, hT, hS, hL⟩ := load_last h.pow hok hgo
  have ha : Alike A A9 nm.data.toList := ⟨hL.pow, hL.keys, fun n hn => hL.same n hn (.inl h.torn)⟩
  obtain ⟨ht, _, _, _⟩ := hL.tidy h.pow h.con hgo
  exact ⟨A9, ht, ha, load_calm sz first rfl h.con hgo hT hS⟩
/-- Loading any log, where nothing is refused: if it goes, what it leaves is tidy, and read as before. -/
theorem load_tidy {A : AD} {nm : ByteArray} (hp : A.pow = p0) (hok : A.Ok) (sz first : Int) (hz : (loadA A ⟨nm, sz, [], 0, false⟩ first).2.1 = 0) :
    ∃ A9, loadA A ⟨nm, sz, [], 0, false⟩ first = goA nm sz first (rdOf A nm.data.toList).2 A A9 ∧ Tidy A9 nm.data.toList ∧ Cut (rdOf A nm.data.toList).2 (rdOf A9 nm.data.toList).2 ∧ numsL A9 nm.data.toList = numsL A nm.data.toList := by
  have hco : consec (numsL A nm.data.toList) = true := by
    cases hc : consec (numsL A nm.data.toList) with
    | true => rfl
    | false =>
      unfold loadA at hz
      simp only at hz
      rw [if_pos hc] at hz
      cases hz
  have hgo : ¬ ((rdOf A nm.data.toList).2.torn = true ∧ (rdOf A nm.data.toList).1 < (numsL A nm.data.toList).length) := fun hc => by
    have hR' : rdFin A nm.data.toList ⟨[], 0, (numsL A nm.data.toList).map seg0, false⟩ (numsL A nm.data.toList).length 0 = rdOf A nm.data.toList := rfl
    unfold loadA at hz
    simp only at hz
    rw [if_neg (by rw [hco]; decide), hR', if_pos hc] at hz
    cases hz
  obtain ⟨A5, A9, hT, hS, hL⟩ := load_last hp hok hgo
  obtain ⟨ht, hc, hn, _⟩ := hL.tidy hp hco hgo
  exact ⟨A9, load_calm sz first rfl hco hgo hT hS, ht, hc, hn⟩
end Go.Proofs.YtjfbdnogkbhciaaGreatDoor
