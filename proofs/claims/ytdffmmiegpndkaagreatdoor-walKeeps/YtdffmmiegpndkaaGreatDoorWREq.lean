import Derived.Test.YtdffmmiegpndkaaGreatDoorWAgainP
import Derived.Test.YtdffmmiegpndkaaGreatDoorWApp
import Derived.Test.YtdffmmiegpndkaaGreatDoorWReset
/-
  OPEN AND OPEN AGAIN, PLAIN: a tidy log stays as it is.
-/
namespace Go.Proofs.YtdffmmiegpndkaaGreatDoor
open Go.RowKit Go.Maps
set_option linter.unusedVariables false
theorem consec_get {ns : List Int} (h : consec ns = true) {q : Nat} (hq : q < ns.length) : ns.getD q 0 = ns.getD 0 0 + (q : Int) := by
  unfold consec at h
  have := List.all_eq_true.1 h q (List.mem_range.2 hq)
  simpa using this
/-- Two disks of whose log the same is read. -/
structure Alike (A A' : AD) (nm : Key) : Prop where
  pow : A'.pow = p0
  keys : fkeys A'.fs = fkeys A.fs
  text : ∀ n ∈ numsL A nm, textOf A' nm n = textOf A nm n
theorem Alike.nums {A A' : AD} {nm : Key} (hp : A.pow = p0) (h : Alike A A' nm) : numsL A' nm = numsL A nm := numsL_keys (by rw [hp]; rfl) (by rw [h.pow]; rfl) h.keys
theorem Alike.rd {A A' : AD} {nm : Key} (hp : A.pow = p0) (h : Alike A A' nm) : rdOf A' nm = rdOf A nm := by
  unfold rdOf
  rw [h.nums hp]
  refine rdFin_congr (N := (numsL A nm).length) (fun q hq => ?_) _ _ (by omega)
  show textOf A' nm (((numsL A nm).map seg0).getD q ⟨0, 0, 0⟩).num = textOf A nm (((numsL A nm).map seg0).getD q ⟨0, 0, 0⟩).num
  rw [seg0_num]
  refine h.text _ ?_
  rw [List.getD_eq_getElem?_getD, List.getElem?_eq_getElem hq]
  exact List.getElem_mem hq
theorem Alike.trans {A A' A'' : AD} {nm : Key} (hp : A.pow = p0) (h : Alike A A' nm) (k : Alike A' A'' nm) : Alike A A'' nm :=
  ⟨k.pow, k.keys.trans h.keys, fun n hn => (k.text n (by rw [h.nums hp]; exact hn)).trans (h.text n hn)⟩
structure Tidy (A : AD) (nm : Key) : Prop where
  pow : A.pow = p0
  con : consec (numsL A nm) = true
  torn : (rdOf A nm).2.torn = false
  clean : ∀ n ∈ numsL A nm, ∃ F, fget A.fs (fileL nm n) = some F ∧ Clean F (textOf A nm n)
theorem Tidy.crash {A : AD} {nm : Key} (h : Tidy A nm) (hok : A.Ok) (ls : List AFate) : Tidy (A.crash ls).on nm ∧ Alike A (A.crash ls).on nm := by
  obtain ⟨h1, h2, h3, h4⟩ := crash_on h.pow ls
  have hoff : A.pow.off = false := by rw [h.pow]; rfl
  have hoff' : (A.crash ls).on.pow.off = false := by rw [h1]; rfl
  have hnew : ∀ n ∈ numsL A nm, ∃ F, fget (A.crash ls).on.fs (fileL nm n) = some F ∧ Clean F (textOf A nm n) ∧ textOf (A.crash ls).on nm n = textOf A nm n := fun n hn => by
    obtain ⟨F, hF, hc⟩ := h.clean n hn
    have h5 := h4 _ F hF
    have hc' := hc.crash (fateOf ls (fileL nm n))
    refine ⟨_, h5, hc', ?_⟩
    rw [text_seen hoff' h5 (by rw [hc'.seen, ← hc.seen]; exact (hok.files _ (fget_mem hF)).most), hc'.seen]
  have ha : Alike A (A.crash ls).on nm := ⟨h1, h3, fun n hn => by obtain ⟨F, _, _, ht⟩ := hnew n hn; exact ht⟩
  refine ⟨⟨h1, by rw [ha.nums h.pow]; exact h.con, by rw [ha.rd h.pow]; exact h.torn, fun n hn => ?_⟩, ha⟩
  rw [ha.nums h.pow] at hn
  obtain ⟨F, k1, k2, k3⟩ := hnew n hn
  exact ⟨F, k1, by rw [k3]; exact k2⟩
/-- What Open leaves is tidy, and read as before. -/
theorem Left.tidy {A A9 : AD} {nm : Key} (hp : A.pow = p0) (hco : consec (numsL A nm) = true) (hgo : ¬ ((rdOf A nm).2.torn = true ∧ (rdOf A nm).1 < (numsL A nm).length)) (h : Left A A9 nm) : Tidy A9 nm ∧ Cut (rdOf A nm).2 (rdOf A9 nm).2 ∧ numsL A9 nm = numsL A nm ∧ (rdOf A9 nm).1 = (numsL A nm).length := by
  have hoff : A.pow.off = false := by rw [hp]; rfl
  have hns : numsL A9 nm = numsL A nm := numsL_keys hoff (by rw [h.pow]; rfl) h.keys
  have hmem : ∀ q, q < (numsL A nm).length → (numsL A nm).getD q 0 ∈ numsL A nm := fun q hq => by
    rw [List.getD_eq_getElem?_getD, List.getElem?_eq_getElem hq]; exact List.getElem_mem hq
  have key := rdFin_again (A := A) (A' := A9) (nm := nm) (s := ⟨[], 0, (numsL A nm).map seg0, false⟩) (N := (numsL A nm).length) rfl hgo
    (fun q hq hor => by
      show textOf A9 nm (((numsL A nm).map seg0).getD q ⟨0, 0, 0⟩).num = textOf A nm (((numsL A nm).map seg0).getD q ⟨0, 0, 0⟩).num
      rw [seg0_num]
      refine h.same _ (hmem q hq) ?_
      rcases hor with ho | ho
      · exact .inl ho
      · refine .inr (fun e => ?_)
        rw [List.getLast?_eq_getElem?] at e
        have e2 := consec_get hco hq
        have e3 := consec_get hco (q := (numsL A nm).length - 1) (by omega)
        rw [List.getD_eq_getElem?_getD, e] at e3
        simp only [Option.getD_some] at e3
        omega)
    (fun m hm ht => by
      show textOf A9 nm (((numsL A nm).map seg0).getD m ⟨0, 0, 0⟩).num = (textOf A nm (((numsL A nm).map seg0).getD m ⟨0, 0, 0⟩).num).take _
      rw [seg0_num]
      obtain ⟨k', _, hk2, _, hk⟩ := rdFin_is A nm ⟨[], 0, (numsL A nm).map seg0, false⟩ (numsL A nm).length 0
      have hR : rdOf A nm = (k', rdK A nm ⟨[], 0, (numsL A nm).map seg0, false⟩ k') := hk
      have hkN : k' = (numsL A nm).length := by
        have h1 : ¬ k' < (numsL A nm).length := fun h1 => hgo ⟨ht, by rw [hR]; exact h1⟩
        omega
      rw [hkN] at hR
      have hl := rd_segs (A := A) (nm := nm)
      have hsl : (rdOf A nm).2.segs.getLast? = some ((rdOf A nm).2.segs.getD m ⟨0, 0, 0⟩) := by
        rw [List.getLast?_eq_getElem?, hl.2, hm, Nat.add_sub_cancel, List.getD_eq_getElem?_getD, List.getElem?_eq_getElem (by rw [hl.2]; omega)]; rfl
      have hcut := h.cut _ ht hsl
      have hnum : ((rdOf A nm).2.segs.getD m ⟨0, 0, 0⟩).num = (numsL A nm).getD m 0 := by
        rw [← hl.1, List.getD_eq_getElem?_getD, List.getD_eq_getElem?_getD, List.getElem?_map, List.getElem?_eq_getElem (by rw [hl.2]; omega)]; rfl
      rw [hnum] at hcut
      rw [hcut, hR])
    (by simp)
  have hrd : rdOf A9 nm = rdFin A9 nm ⟨[], 0, (numsL A nm).map seg0, false⟩ (numsL A nm).length 0 := by unfold rdOf; rw [hns]
  rw [← hrd] at key
  refine ⟨⟨h.pow, by rw [hns]; exact hco, key.2.torn, fun n hn => ?_⟩, key.2, hns, key.1⟩
  rw [hns] at hn
  exact h.clean n hn
/-- What load answers where nothing is refused. -/
def goA (nm : ByteArray) (sz first : Int) (R : RSt) (A A9 : AD) : List Key × Int × AD × AL :=
  let nx := if R.pay = [] then first else R.next
  if first < nx - R.pay.length ∨ nx < first then ([], 60, A, ⟨nm, sz, R.segs, nx, false⟩)
  else (R.pay.drop (first - (nx - R.pay.length)).toNat, 0, A9, ⟨nm, sz, R.segs, nx, false⟩)
theorem load_calm {A A5 A9 : AD} {nm : ByteArray} {R : Nat × RSt} (sz first : Int) (hR : rdOf A nm.data.toList = R) (hco : consec (numsL A nm.data.toList) = true) (hgo : ¬ (R.2.torn = true ∧ R.1 < (numsL A nm.data.toList).length))
    (hT : (if R.2.torn = true then A.trunc (fileL nm.data.toList (R.2.segs.getLastD ⟨0, 0, 0⟩).num) (R.2.segs.getLastD ⟨0, 0, 0⟩).size else (0, A)) = (0, A5)) (hS : A5.syncs ((numsL A nm.data.toList).map (fileL nm.data.toList)) = (0, A9)) :
    loadA A ⟨nm, sz, [], 0, false⟩ first = goA nm sz first R.2 A A9 := by
  have hR' : rdFin A nm.data.toList ⟨[], 0, (numsL A nm.data.toList).map seg0, false⟩ (numsL A nm.data.toList).length 0 = R := hR
  have hfiles : ∀ nx, AL.files ⟨nm, sz, R.2.segs, nx, false⟩ = (numsL A nm.data.toList).map (fileL nm.data.toList) := fun nx => rd_files (A := A) _ rfl (by show R.2.segs = _; rw [hR])
  unfold loadA goA
  simp only
  rw [if_neg (by rw [hco]; decide), hR', if_neg hgo]
  generalize (if R.2.pay = [] then first else R.2.next) = nx
  by_cases hb : first < nx - (R.2.pay.length : Int) ∨ nx < first
  · rw [if_pos hb, if_pos hb]
  · rw [if_neg hb, if_neg hb, hT]
    simp only
    rw [hfiles nx, hS]
    simp
/-- Loading a tidy log. -/
theorem Tidy.load {A : AD} {nm : ByteArray} (h : Tidy A nm.data.toList) (hok : A.Ok) (sz first : Int) : ∃ A', Tidy A' nm.data.toList ∧ Alike A A' nm.data.toList ∧ loadA A ⟨nm, sz, [], 0, false⟩ first = goA nm sz first (rdOf A nm.data.toList).2 A A' := by
  have hgo : ¬ ((rdOf A nm.data.toList).2.torn = true ∧ (rdOf A nm.data.toList).1 < (numsL A nm.data.toList).length) := fun hc => by rw [h.torn] at hc; cases hc.1
  obtain ⟨A5, A9, hT, hS, hL⟩ := load_last h.pow hok hgo
  have ha : Alike A A9 nm.data.toList := ⟨hL.pow, hL.keys, fun n hn => hL.same n hn (.inl h.torn)⟩
  obtain ⟨ht, _, _, _⟩ := hL.tidy h.pow h.con hgo
  exact ⟨A9, ht, ha, load_calm sz first rfl h.con hgo hT hS⟩
/-- Loading any log, where nothing is refused: if it goes, what it leaves is tidy, and read as before. -/
theorem load_tidy {A : AD} {nm : ByteArray} (hp : A.pow = p0) (hok : A.Ok) (sz first : Int) (hz : (loadA A ⟨nm, sz, [], 0, false⟩ first).2.1 = 0) :
    ∃ A9, loadA A ⟨nm, sz, [], 0, false⟩ first = goA nm sz first (rdOf A nm.data.toList).2 A A9 ∧ Tidy A9 nm.data.toList ∧ Cut (rdOf A nm.data.toList).2 (rdOf A9 nm.data.toList).2 ∧ numsL A9 nm.data.toList = numsL A nm.data.toList := by
  have hco : consec (numsL A nm.data.toList) = true := by
    cases hc : consec (numsL A nm.data.toList) with
    | true => rfl
    | false =>
      unfold loadA at hz
      simp only at hz
      rw [if_pos hc] at hz
      cases hz
  have hgo : ¬ ((rdOf A nm.data.toList).2.torn = true ∧ (rdOf A nm.data.toList).1 < (numsL A nm.data.toList).length) := fun hc => by
    have hR' : rdFin A nm.data.toList ⟨[], 0, (numsL A nm.data.toList).map seg0, false⟩ (numsL A nm.data.toList).length 0 = rdOf A nm.data.toList := rfl
    unfold loadA at hz
    simp only at hz
    rw [if_neg (by rw [hco]; decide), hR', if_pos hc] at hz
    cases hz
  obtain ⟨A5, A9, hT, hS, hL⟩ := load_last hp hok hgo
  obtain ⟨ht, hc, hn, _⟩ := hL.tidy hp hco hgo
  exact ⟨A9, load_calm sz first rfl hco hgo hT hS, ht, hc, hn⟩
end Go.Proofs.YtdffmmiegpndkaaGreatDoor
/-
  A LOG OF THE CODE'S AND ONE OF THE DOCUMENT'S: alike but for the number behind the last frame of a segment that has none. Append and Reset answer alike of both.
-/
namespace Go.Proofs.YtdffmmiegpndkaaGreatDoor
open Go.RowKit
set_option linter.unusedVariables false
def SegEq (s s' : ASeg) : Prop := s.num = s'.num ∧ s.size = s'.size ∧ (s.size ≠ 0 → s.fin = s'.fin)
theorem SegEq.refl (s : ASeg) : SegEq s s := ⟨rfl, rfl, fun _ => rfl⟩
inductive SegsEq : List ASeg → List ASeg → Prop where
  | nil : SegsEq [] []
  | cons {s s' : ASeg} {l l' : List ASeg} : SegEq s s' → SegsEq l l' → SegsEq (s :: l) (s' :: l')
theorem SegsEq.refl : ∀ l : List ASeg, SegsEq l l
  | [] => .nil
  | s :: l => .cons (SegEq.refl s) (SegsEq.refl l)
theorem SegsEq.len {l l' : List ASeg} (h : SegsEq l l') : l.length = l'.length := by
  induction h with
  | nil => rfl
  | cons _ _ ih => simp [ih]
theorem SegsEq.nums {l l' : List ASeg} (h : SegsEq l l') : l.map ASeg.num = l'.map ASeg.num := by
  induction h with
  | nil => rfl
  | cons h1 _ ih => rw [List.map_cons, List.map_cons, ih, h1.1]
theorem SegsEq.snoc {l l' : List ASeg} {s s' : ASeg} (h : SegsEq l l') (hs : SegEq s s') : SegsEq (l ++ [s]) (l' ++ [s']) := by
  induction h with
  | nil => exact .cons hs .nil
  | cons h1 _ ih => exact .cons h1 ih
theorem SegsEq.last {l l' : List ASeg} (h : SegsEq l l') : (l.getLast? = none ∧ l'.getLast? = none) ∨ ∃ s s', l.getLast? = some s ∧ l'.getLast? = some s' ∧ SegEq s s' := by
  induction h with
  | nil => exact .inl ⟨rfl, rfl⟩
  | @cons s s' t t' h1 h2 ih =>
    right
    rcases ih with ⟨e1, e2⟩ | ⟨a, b, e1, e2, hab⟩
    · rw [List.getLast?_eq_none_iff] at e1 e2
      subst e1 e2
      exact ⟨s, s', rfl, rfl, h1⟩
    · refine ⟨a, b, ?_, ?_, hab⟩
      · rw [List.getLast?_cons, e1]; rfl
      · rw [List.getLast?_cons, e2]; rfl
theorem SegsEq.set {l l' : List ASeg} (h : SegsEq l l') (x : ASeg) : ∀ i, SegsEq (l.set i x) (l'.set i x) := by
  induction h with
  | nil => intro i; exact .nil
  | cons h1 h2 ih =>
    intro i
    cases i with
    | zero => exact .cons (SegEq.refl x) h2
    | succ i => exact .cons h1 (ih i)
theorem SegsEq.setR {l l' : List ASeg} {x y : ASeg} (h : SegsEq l l') (hxy : SegEq x y) : ∀ i, SegsEq (l.set i x) (l'.set i y) := by
  induction h with
  | nil => intro i; exact .nil
  | cons h1 h2 ih =>
    intro i
    cases i with
    | zero => exact .cons hxy h2
    | succ i => exact .cons h1 (ih i)
structure LogEq (g g' : AL) : Prop where
  name : g.name = g'.name
  room : g.room = g'.room
  next : g.next = g'.next
  dead : g.dead = g'.dead
  segs : SegsEq g.segs g'.segs
theorem LogEq.files {g g' : AL} (h : LogEq g g') : g.files = g'.files := by
  unfold AL.files
  have e := h.segs.nums
  rw [show (fun s : ASeg => fileL g.name.data.toList s.num) = (fileL g.name.data.toList) ∘ ASeg.num from rfl, show (fun s : ASeg => fileL g'.name.data.toList s.num) = (fileL g'.name.data.toList) ∘ ASeg.num from rfl, ← List.map_map, ← List.map_map, e, h.name]
theorem place_eq {g g' : AL} (h : LogEq g g') (n : Int) : SegEq (placeA g n).1 (placeA g' n).1 ∧ (placeA g n).2 = (placeA g' n).2 := by
  unfold placeA
  rcases h.segs.last with ⟨e1, e2⟩ | ⟨s, s', e1, e2, hs⟩
  · rw [e1, e2]; exact ⟨SegEq.refl _, rfl⟩
  · rw [e1, e2]
    simp only
    rw [← h.room, ← hs.2.1]
    split
    · rw [hs.1]; exact ⟨SegEq.refl _, rfl⟩
    · exact ⟨hs, rfl⟩
theorem lay_eq {g g' : AL} (h : LogEq g g') (A : AD) {s s' : ASeg} (hs : SegEq s s') (f : Bool) (t : Key) : layA A g s f t = layA A g' s' f t := by
  unfold layA backA
  rw [h.name, h.dead, hs.1, hs.2.1]
theorem app_eq {g g' : AL} (h : LogEq g g') (A : AD) (t : ByteArray) : (appA A g t).1 = (appA A g' t).1 ∧ (appA A g t).2.1 = (appA A g' t).2.1 ∧ LogEq (appA A g t).2.2 (appA A g' t).2.2 := by
  unfold appA
  rw [← h.dead, ← h.next]
  by_cases h1 : g.dead = true
  · rw [if_pos h1, if_pos h1]; exact ⟨rfl, rfl, h⟩
  rw [if_neg h1, if_neg h1]
  by_cases h2 : Fr.frameE g.next t ≠ 0
  · rw [if_pos h2, if_pos h2]; exact ⟨rfl, rfl, h⟩
  rw [if_neg h2, if_neg h2]
  obtain ⟨p1, p2⟩ := place_eq h (Fr.frameS g.next t).size
  simp only
  rw [← p2, ← p1.1, ← lay_eq h A p1]
  by_cases h3 : 1152921504606846976 ≤ g.next ∨ 9999999 < (placeA g (Fr.frameS g.next t).size).1.num
  · rw [if_pos h3, if_pos h3]; exact ⟨rfl, rfl, h⟩
  rw [if_neg h3, if_neg h3]
  by_cases h4 : (layA A g (placeA g (Fr.frameS g.next t).size).1 (placeA g (Fr.frameS g.next t).size).2 (Fr.frameS g.next t).data.toList).1 ≠ 0
  · rw [if_pos h4, if_pos h4]; exact ⟨rfl, rfl, ⟨h.name, h.room, rfl, rfl, h.segs⟩⟩
  rw [if_neg h4, if_neg h4]
  refine ⟨rfl, rfl, ⟨h.name, h.room, rfl, rfl, ?_⟩⟩
  show SegsEq (keepA _ _ _) (keepA _ _ _)
  unfold keepA
  rw [← p1.2.1]
  split
  · exact h.segs.snoc (SegEq.refl _)
  · rw [← h.segs.len]; exact h.segs.set _ _
theorem below_eq {s s' : ASeg} (h : SegEq s s') (n : Int) : belowA s n = belowA s' n := by
  unfold belowA
  rw [← h.2.1]
  by_cases h0 : s.size = 0
  · rw [h0]; rfl
  · rw [h.2.2 h0]
theorem resetL_eq {l l' : List ASeg} (h : SegsEq l l') (nm : Key) (n : Int) : ∀ A, (resetL nm n A l).1 = (resetL nm n A l').1 ∧ (resetL nm n A l).2.1 = (resetL nm n A l').2.1 ∧ SegsEq (resetL nm n A l).2.2.1 (resetL nm n A l').2.2.1 ∧ (resetL nm n A l).2.2.2 = (resetL nm n A l').2.2.2 := by
  induction h with
  | nil => intro A; exact ⟨rfl, rfl, .nil, rfl⟩
  | @cons s s' t t' h1 h2 ih =>
    intro A
    unfold resetL
    rw [← below_eq h1, ← h1.1]
    split
    · split
      · exact ⟨rfl, rfl, .cons h1 h2, rfl⟩
      · exact ih _
    · exact ⟨rfl, rfl, .cons h1 h2, rfl⟩
theorem reset_eq {g g' : AL} (h : LogEq g g') (A : AD) (n : Int) : (resetA A g n).1 = (resetA A g' n).1 ∧ (resetA A g n).2.1 = (resetA A g' n).2.1 ∧ LogEq (resetA A g n).2.2 (resetA A g' n).2.2 := by
  unfold resetA
  rw [← h.dead, ← h.next]
  by_cases h1 : g.dead = true
  · rw [if_pos h1, if_pos h1]; exact ⟨rfl, rfl, h⟩
  rw [if_neg h1, if_neg h1]
  by_cases h2 : n < 0 ∨ g.next < n
  · rw [if_pos h2, if_pos h2]; exact ⟨rfl, rfl, h⟩
  rw [if_neg h2, if_neg h2]
  obtain ⟨r1, r2, r3, r4⟩ := resetL_eq h.segs g.name.data.toList n A
  simp only
  rw [← h.name]
  exact ⟨r1, r2, ⟨rfl, h.room, rfl, r4, r3⟩⟩
end Go.Proofs.YtdffmmiegpndkaaGreatDoor
