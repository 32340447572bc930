import Derived.Test.YtdffmmiegpndkaaGreatDoorWLoad
import Derived.Test.YtdffmmiegpndkaaGreatDoorWREq
import Derived.Test.YtdffmmiegpndkaaGreatDoorWFile
import Derived.Lib.Atoi
/-
  Open (printed by gen_open.py).
-/
namespace Go.Proofs.YtdffmmiegpndkaaGreatDoor
open Go.RowKit Go.Maps
set_option linter.unusedVariables false
set_option linter.unusedSimpArgs false
structure ROpen where
  log : Option AL
  pay : List Key
  err : Int
  disk : AD
def openA (A : AD) (nm : ByteArray) (sz first : Int) : ROpen :=
  if lnameOk nm.data.toList = false ∨ sz < 64 ∨ 1048576 < sz ∨ first < 0 ∨ 1152921504606846976 < first then ⟨none, [], 1, A⟩
  else if A.pow.off = true then ⟨none, [], 9, A⟩
  else
    let Z := loadA A ⟨nm, sz, [], 0, false⟩ first
    if Z.2.1 ≠ 0 then ⟨none, [], Z.2.1, Z.2.2.1⟩ else ⟨some Z.2.2.2, Z.1, 0, Z.2.2.1⟩
def OpenPost (B : Nat) (w : World) (L : List Item) (i p : Nat) (R : ROpen) (e : Ending) (w' : World) : Prop :=
  (match R.log with
    | none => e = .returned (.tuple #[.pointer none, .slice none 0 0, .int .i64 R.err]) ∧ Lies B w' (L.set i (.disk p R.disk))
    | some g => ∃ l v, e = .returned (.tuple #[.pointer (some ⟨l, 0, none⟩), v, .int .i64 0]) ∧ Lies B w' (L.set i (.disk p R.disk) ++ [.log l p g, .sub v R.pay])) ∧ Below B w w'
section
variable {B : Nat} {w : World} {L : List Item} {i j l p : Nat} {A : AD} {g : AL}
theorem Lies.toLog {q : Nat} {nm : ByteArray} {sz : Int} (h : Lies B w L) (hq : L[q]? = some (.block l (.cells #[.pointer (some ⟨p, 0, none⟩), .string nm, .int .i64 sz, .slice none 0 0, .int .i64 0, .bool false] 57 (0, 0)))) : Lies B w (L.set q (.log l p ⟨nm, sz, [], 0, false⟩)) := by
  obtain ⟨S, ⟨hb, hS⟩, hB, _, hu⟩ := h.upd hq
  refine (hu w (.log l p ⟨nm, sz, [], 0, false⟩) S ⟨.slice none 0 0, none, ⟨hb, SegRow.nil w, by simp⟩, fun b => ?_⟩ ⟨Turn.refl _ _, fun b hb => .inl hb⟩).1
  rw [hS b]
  unfold logFoot
  simp
set_option maxRecDepth 100000 in
set_option maxHeartbeats 8000000 in
theorem open_any (h : Lies B w L) (hi : L[i]? = some (.disk p A)) (he : Env B w) (nm : ByteArray) (hn : nm.size ≤ 140737488355328) (sz first : Int) (hs : -9223372036854775808 ≤ sz ∧ sz ≤ 9223372036854775807) (hf : -9223372036854775808 ≤ first ∧ first ≤ 9223372036854775807) (R : ROpen) (hR : openA A nm sz first = R) :
    Calls Tryz.prog 6 #[.pointer (some ⟨p, 0, none⟩), .string nm, .int .i64 sz, .int .i64 first] w fun e w' => OpenPost B w L i p R e w' := by
  have hK : Lies B w (L.set i (.disk p A)) := by rw [hset_keep hi]; exact h
  have HBAD : Hid (∀ (W : World) (c : Int) (A' : AD), R = ⟨none, [], c, A'⟩ → Lies B W (L.set i (.disk p A')) → Below B w W → OpenPost B w L i p R (.returned (.tuple #[.pointer none, .slice none 0 0, .int .i64 c])) W) := fun W c A' hr hl hb => by
    rw [hr]; exact ⟨⟨rfl, hl⟩, hb⟩
  have hnc := fun W => wName_any nm W
  have HN := hide hnc
  have HENV0 := hide he
  cases hb1 : lnameOk nm.data.toList with
  | false =>
    rw [hb1] at HN
    have HRR : Hid (R = ⟨none, [], 1, A⟩) := by show _ = _; rw [← hR]; unfold openA; rw [if_pos (.inl hb1)]
    have HK := hide hK
    clear h hR hK hnc HENV0
    go_enter Tryz.func6, Tryz.ntmps6
    go_wp2_with fail
    refine (HN.out _).mono ?_
    rintro e w1 ⟨rfl, rfl⟩
    go_wp2
    go_ret3
    exact HBAD.out _ _ _ HRR.out HK.out (Below.refl _ _)
  | true =>
    rw [hb1] at HN
    by_cases hb2 : sz < 64
    · have k2 : decide (sz < 64) = true := decide_eq_true hb2
      have HRR : Hid (R = ⟨none, [], 1, A⟩) := by show _ = _; rw [← hR]; unfold openA; rw [if_pos (.inr (.inl hb2))]
      have HK := hide hK
      clear h hR hK hnc HENV0
      go_enter Tryz.func6, Tryz.ntmps6
      go_wp2_with fail
      refine (HN.out _).mono ?_
      rintro e w1 ⟨rfl, rfl⟩
      go_wp2
      go_ret3
      exact HBAD.out _ _ _ HRR.out HK.out (Below.refl _ _)
    have k2 : decide (sz < 64) = false := decide_eq_false hb2
    by_cases hb3 : 1048576 < sz
    · have k3 : decide (1048576 < sz) = true := decide_eq_true hb3
      have HRR : Hid (R = ⟨none, [], 1, A⟩) := by show _ = _; rw [← hR]; unfold openA; rw [if_pos (.inr (.inr (.inl hb3)))]
      have HK := hide hK
      clear h hR hK hnc HENV0
      go_enter Tryz.func6, Tryz.ntmps6
      go_wp2_with fail
      refine (HN.out _).mono ?_
      rintro e w1 ⟨rfl, rfl⟩
      go_wp2
      go_ret3
      exact HBAD.out _ _ _ HRR.out HK.out (Below.refl _ _)
    have k3 : decide (1048576 < sz) = false := decide_eq_false hb3
    by_cases hb4 : first < 0
    · have k4 : decide (first < 0) = true := decide_eq_true hb4
      have HRR : Hid (R = ⟨none, [], 1, A⟩) := by show _ = _; rw [← hR]; unfold openA; rw [if_pos (.inr (.inr (.inr (.inl hb4))))]
      have HK := hide hK
      clear h hR hK hnc HENV0
      go_enter Tryz.func6, Tryz.ntmps6
      go_wp2_with fail
      refine (HN.out _).mono ?_
      rintro e w1 ⟨rfl, rfl⟩
      go_wp2
      go_ret3
      exact HBAD.out _ _ _ HRR.out HK.out (Below.refl _ _)
    have k4 : decide (first < 0) = false := decide_eq_false hb4
    by_cases hb5 : 1152921504606846976 < first
    · have k5 : decide (1152921504606846976 < first) = true := decide_eq_true hb5
      have HRR : Hid (R = ⟨none, [], 1, A⟩) := by show _ = _; rw [← hR]; unfold openA; rw [if_pos (.inr (.inr (.inr (.inr hb5))))]
      have HK := hide hK
      clear h hR hK hnc HENV0
      go_enter Tryz.func6, Tryz.ntmps6
      go_wp2_with fail
      refine (HN.out _).mono ?_
      rintro e w1 ⟨rfl, rfl⟩
      go_wp2
      go_ret3
      exact HBAD.out _ _ _ HRR.out HK.out (Below.refl _ _)
    have k5 : decide (1152921504606846976 < first) = false := decide_eq_false hb5
    have hall : ¬ (lnameOk nm.data.toList = false ∨ sz < 64 ∨ 1048576 < sz ∨ first < 0 ∨ 1152921504606846976 < first) := by
      rintro (hc | hc | hc | hc | hc)
      · rw [hb1] at hc; cases hc
      · exact hb2 hc
      · exact hb3 hc
      · exact hb4 hc
      · exact hb5 hc
    have hno : nm.size ≤ 24 := by
      have h2 := hb1
      unfold lnameOk at h2
      simp only [Bool.and_eq_true, decide_eq_true_eq] at h2
      rw [str_len] at h2
      exact h2.1.2
    have hof := s_off h hi
    have HOF := hide hof
    cases hb6 : A.pow.off with
    | true =>
      rw [hb6] at HOF
      have HRR : Hid (R = ⟨none, [], 9, A⟩) := by show _ = _; rw [← hR]; unfold openA; rw [if_neg hall, if_pos hb6]
      have HK := hide hK
      clear h hR hK hnc hof HENV0 hall hb6
      go_enter Tryz.func6, Tryz.ntmps6
      go_wp2_with fail
      refine (HN.out _).mono ?_
      rintro e w1 ⟨rfl, rfl⟩
      go_wp2_with fail
      refine (HOF.out).mono ?_
      rintro e w1 ⟨rfl, rfl⟩
      go_wp2
      go_ret3
      exact HBAD.out _ _ _ HRR.out HK.out (Below.refl _ _)
    | false =>
      rw [hb6] at HOF
      obtain ⟨Z, hZ⟩ : ∃ x, loadA A ⟨nm, sz, [], 0, false⟩ first = x := ⟨_, rfl⟩
      have HRZ : Hid (R = if Z.2.1 ≠ 0 then ⟨none, [], Z.2.1, Z.2.2.1⟩ else ⟨some Z.2.2.2, Z.1, 0, Z.2.2.1⟩) := by show _ = _; rw [← hR]; unfold openA; rw [if_neg hall, if_neg (by rw [hb6]; decide)]; simp only; rw [hZ]
      have HZ := hide hZ
      have HL := hide h
      have HI := hide hi
      have HNO := hide hno
      have HB6 := hide hb6
      have HFF : Hid (0 ≤ first ∧ first ≤ 1152921504606846976) := ⟨by omega, by omega⟩
      have HCL := hide (fun W => clone_any nm W (by omega))
      clear h hR hK hnc hof hall hb6 hZ hi hno
      go_enter Tryz.func6, Tryz.ntmps6
      go_wp2_with fail
      refine (HN.out _).mono ?_
      rintro e w1 ⟨rfl, rfl⟩
      go_wp2_with fail
      refine (HOF.out).mono ?_
      rintro e w1 ⟨rfl, rfl⟩
      go_wp2_with fail
      refine (HCL.out _).mono ?_
      rintro e W1 ⟨rfl, hb1⟩
      have hl1 := HL.out.below hb1
      have hbb1 := hb1.mono HL.out.base
      obtain ⟨l, hl⟩ : ∃ x, W1.heap.size = x := ⟨_, rfl⟩
      obtain ⟨W2, hW2⟩ : ∃ x, W1.alloc (.cells #[.pointer (some ⟨p, 0, none⟩), .string nm, .int .i64 sz, .slice none 0 0, .int .i64 0, .bool false] 57) = x := ⟨_, rfl⟩
      obtain ⟨hl2, hb2⟩ := hl1.newCells #[.pointer (some ⟨p, 0, none⟩), .string nm, .int .i64 sz, .slice none 0 0, .int .i64 0, .bool false] 57
      rw [hW2, hl] at hl2
      rw [hW2] at hb2
      have hl3 := hl2.toLog (q := L.length + 0) (by rw [get_tail]; rfl)
      rw [List.set_append_right _ _ (by omega), Nat.add_sub_cancel_left] at hl3
      change Lies B W2 (L ++ [.log l p ⟨nm, sz, [], 0, false⟩]) at hl3
      have hil := (List.getElem?_eq_some_iff.1 HI.out).1
      have hld := load_any hl3 (get_head HI.out) (j := L.length + 0) (by rw [get_tail]; rfl) (by omega) (HENV0.out.below (hbb1.trans hb2)) rfl rfl HNO.out HB6.out first HFF.out Z HZ.out
      rw [hset_app _ hil, Nat.add_zero, List.set_append_right _ _ (by rw [List.length_set]; omega), List.length_set, Nat.sub_self] at hld
      change Calls Tryz.prog 21 _ _ fun e w' => ∃ v, e = .returned (.tuple #[v, .int .i64 Z.2.1]) ∧ (Z.2.1 ≠ 0 → v = .slice none 0 0) ∧ Lies B w' ((L.set i (.disk p Z.2.2.1) ++ [.log l p Z.2.2.2]) ++ [.sub v Z.1]) ∧ Below B W2 w' at hld
      have HLD := hide hld
      have HBB2 := hide (hbb1.trans hb2)
      obtain ⟨E, hE⟩ : ∃ x, Z.2.1 = x := ⟨_, rfl⟩
      rw [hE] at HLD HRZ
      clear hl1 hb1 hbb1 hl2 hb2 hl3 hil hld hE HL
      go_wp2_with fail
      refine (HLD.out).mono ?_
      rintro e W3 ⟨v, rfl, hvn, hl4, hb4⟩
      have hbb4 := HBB2.out.trans hb4
      by_cases hE0 : E = 0
      · subst hE0
        have HRR : Hid (R = ⟨some Z.2.2.2, Z.1, 0, Z.2.2.1⟩) := by show _ = _; rw [HRZ.out, if_neg (by simp)]
        have HL4 := hide hl4
        have HB4 := hide hbb4
        clear hl4 hb4 hbb4 hvn
        go_wp2
        go_ret3
        rw [HRR.out]
        refine ⟨⟨l, v, rfl, ?_⟩, HB4.out⟩
        have := HL4.out
        rw [List.append_assoc] at this
        exact this
      · have HRR : Hid (R = ⟨none, [], E, Z.2.2.1⟩) := by show _ = _; rw [HRZ.out, if_pos hE0]
        have q1 : (E != 0) = true := by simpa using hE0
        have hd := hl4.drop.drop
        have HL4 := hide hd
        have HB4 := hide hbb4
        clear hl4 hb4 hbb4 hvn hd
        go_wp2
        go_ret3
        exact HBAD.out _ _ _ HRR.out HL4.out HB4.out
end
end Go.Proofs.YtdffmmiegpndkaaGreatDoor
/-
  OPEN AND OPEN AGAIN, PLAIN: the four Opens of the statement.
-/
namespace Go.Proofs.YtdffmmiegpndkaaGreatDoor
open Go.RowKit Go.Maps
set_option linter.unusedVariables false
theorem pay_nil {A : AD} {nm : Key} {s : RSt} (h0 : s.pay = []) : ∀ {k : Nat}, (∀ q, 0 < q → q ≤ k → (rdK A nm s q).torn = false) → ((rdK A nm s k).pay = [] ↔ ∀ q, q < k → textOf A nm (s.segs.getD q ⟨0, 0, 0⟩).num = [])
  | 0, _ => ⟨fun _ q hq => by omega, fun _ => h0⟩
  | k + 1, ht => by
    have ih := pay_nil h0 (k := k) (fun q h1 h2 => ht q h1 (by omega))
    have hst : rdK A nm s (k + 1) = rdStep A nm (rdK A nm s k) k := rfl
    have htk := ht (k + 1) (by omega) (Nat.le_refl _)
    have hnum := rdK_num A nm s k k
    rw [hst] at htk ⊢
    unfold rdStep at htk ⊢
    simp only at htk ⊢
    rw [hnum] at htk ⊢
    obtain ⟨t, htt⟩ : ∃ t, textOf A nm (s.segs.getD k ⟨0, 0, 0⟩).num = t := ⟨_, rfl⟩
    rw [htt] at htk ⊢
    generalize (if (rdK A nm s k).pay = [] then firstN t else (rdK A nm s k).next) = nx at htk ⊢
    have hf := scanA_found t nx
    obtain ⟨r, hr⟩ : ∃ r, scanA t nx = r := ⟨_, rfl⟩
    rw [hr] at hf htk ⊢
    have hr2 : r.2 = [] := by simpa using htk
    have hs := told_split hf.told
    rw [hr2, List.append_nil] at hs
    rw [List.append_eq_nil_iff, ih]
    constructor
    · rintro ⟨h1, h2⟩ q hq
      by_cases e : q = k
      · rw [e, htt, hs, h2]; rfl
      · exact h1 q (by omega)
    · intro h1
      refine ⟨fun q hq => h1 q (by omega), ?_⟩
      have := h1 k (by omega)
      rw [htt] at this
      cases hr1 : r.1 with
      | nil => rfl
      | cons p ps =>
        have hl := frames_len (ps := r.1) (n := nx) (by rw [hr1]; simp)
        rw [← hs, this] at hl
        simp at hl
theorem Tidy.pay {A : AD} {nm : Key} (h : Tidy A nm) : (rdOf A nm).2.pay = [] ↔ ∀ n ∈ numsL A nm, textOf A nm n = [] := by
  obtain ⟨h1, h2⟩ := rdFin_end (A := A) (nm := nm) (s := ⟨[], 0, (numsL A nm).map seg0, false⟩) (f := (numsL A nm).length) (k := 0) h.torn
  have hR : rdOf A nm = (0 + (numsL A nm).length, rdK A nm ⟨[], 0, (numsL A nm).map seg0, false⟩ (0 + (numsL A nm).length)) := h1
  rw [hR]
  simp only
  rw [Nat.zero_add, pay_nil rfl (fun q a b => h2 q a (by omega))]
  constructor
  · intro hq n hn
    obtain ⟨q, hq1, hq2⟩ := List.getElem_of_mem hn
    have := hq q hq1
    change textOf A nm (((numsL A nm).map seg0).getD q ⟨0, 0, 0⟩).num = [] at this
    rw [seg0_num, List.getD_eq_getElem?_getD, List.getElem?_eq_getElem hq1] at this
    rw [← hq2]; exact this
  · intro hn q hq
    show textOf A nm (((numsL A nm).map seg0).getD q ⟨0, 0, 0⟩).num = []
    rw [seg0_num]
    refine hn _ ?_
    rw [List.getD_eq_getElem?_getD, List.getElem?_eq_getElem hq]
    exact List.getElem_mem hq
/-- Open's arguments are good. -/
def argsOk (nm : ByteArray) (sz first : Int) : Prop := ¬ (lnameOk nm.data.toList = false ∨ sz < 64 ∨ 1048576 < sz ∨ first < 0 ∨ 1152921504606846976 < first)
theorem open_calm {A : AD} {nm : ByteArray} {sz first : Int} (hp : A.pow = p0) (ha : argsOk nm sz first) : openA A nm sz first = (let Z := loadA A ⟨nm, sz, [], 0, false⟩ first; if Z.2.1 ≠ 0 then ⟨none, [], Z.2.1, Z.2.2.1⟩ else ⟨some Z.2.2.2, Z.1, 0, Z.2.2.1⟩) := by
  unfold openA
  rw [if_neg ha, if_neg (by rw [hp]; decide)]
theorem rd_range {A : AD} {nm : Key} (hok : A.Ok) : (rdOf A nm).2.pay.length ≤ 300000 := by
  obtain ⟨k', _, hk2, _, hk⟩ := rdFin_is A nm ⟨[], 0, (numsL A nm).map seg0, false⟩ (numsL A nm).length 0
  have h1 := (rdK_range A nm ⟨[], 0, (numsL A nm).map seg0, false⟩ rfl rfl k').2
  have h2 : (numsL A nm).length ≤ 16 := by rw [numsL_length]; exact found_few hok nm
  have hR : (rdOf A nm).2 = rdK A nm ⟨[], 0, (numsL A nm).map seg0, false⟩ k' := by unfold rdOf; rw [hk]
  rw [hR]
  omega
/-- The first Open: what is told, and what it leaves. -/
theorem open_first {A : AD} {nm : ByteArray} {sz first : Int} (hp : A.pow = p0) (hok : A.Ok) (he : (openA A nm sz first).err = 0) :
    ∃ A9 nx R, argsOk nm sz first ∧ openA A nm sz first = ⟨some ⟨nm, sz, R.segs, nx, false⟩, R.pay.drop (first - (nx - R.pay.length)).toNat, 0, A9⟩ ∧ R.segs.map ASeg.num = numsL A nm.data.toList ∧ nx = (if R.pay = [] then first else R.next) ∧ nx - R.pay.length ≤ first ∧ first ≤ nx ∧ Tidy A9 nm.data.toList ∧ Cut R (rdOf A9 nm.data.toList).2 ∧ numsL A9 nm.data.toList = numsL A nm.data.toList ∧ R.pay.length ≤ 300000 := by
  have ha : argsOk nm sz first := fun hc => by
    unfold openA at he; rw [if_pos hc] at he; cases he
  rw [open_calm hp ha] at he ⊢
  simp only at he ⊢
  have hz : (loadA A ⟨nm, sz, [], 0, false⟩ first).2.1 = 0 := by
    by_cases hc : (loadA A ⟨nm, sz, [], 0, false⟩ first).2.1 = 0
    · exact hc
    · rw [if_pos hc] at he; exact absurd he hc
  obtain ⟨A9, hl, ht, hc, hn⟩ := load_tidy hp hok sz first hz
  rw [hl] at hz ⊢
  unfold goA at hz ⊢
  simp only at hz ⊢
  obtain ⟨nx, hnx⟩ : ∃ x, (if (rdOf A nm.data.toList).2.pay = [] then first else (rdOf A nm.data.toList).2.next) = x := ⟨_, rfl⟩
  rw [hnx] at hz ⊢
  by_cases hb : first < nx - ((rdOf A nm.data.toList).2.pay.length : Int) ∨ nx < first
  · rw [if_pos hb] at hz; cases hz
  · rw [if_neg hb]
    exact ⟨A9, nx, (rdOf A nm.data.toList).2, ha, by simp, rd_segs.1, hnx.symm, by omega, by omega, ht, hc, hn, rd_range hok⟩
/-- Open on a tidy log. -/
theorem open_tidy {A : AD} {nm : ByteArray} {sz first : Int} (h : Tidy A nm.data.toList) (hok : A.Ok) (ha : argsOk nm sz first) {R : RSt} (hR : (rdOf A nm.data.toList).2 = R) {nx : Int} (hnx : nx = if R.pay = [] then first else R.next) :
    (nx - R.pay.length ≤ first ∧ first ≤ nx → ∃ A', openA A nm sz first = ⟨some ⟨nm, sz, R.segs, nx, false⟩, R.pay.drop (first - (nx - R.pay.length)).toNat, 0, A'⟩ ∧ Tidy A' nm.data.toList ∧ Alike A A' nm.data.toList) ∧
    (¬ (nx - R.pay.length ≤ first ∧ first ≤ nx) → openA A nm sz first = ⟨none, [], 60, A⟩) := by
  obtain ⟨A', ht, hal, hl⟩ := h.load hok sz first
  rw [open_calm h.pow ha]
  simp only
  rw [hl, hR]
  unfold goA
  simp only
  rw [← hnx]
  constructor
  · intro hr
    have hb : ¬ (first < nx - (R.pay.length : Int) ∨ nx < first) := by omega
    rw [if_neg hb]
    exact ⟨A', by simp, ht, hal⟩
  · intro hr
    have hb : first < nx - (R.pay.length : Int) ∨ nx < first := by omega
    rw [if_pos hb]
    simp
/-- Open again, and with a greater first number. -/
theorem again_open {A : AD} {nm : ByteArray} {sz first nx : Int} {R : RSt} (hT : Tidy A nm.data.toList) (hok : A.Ok) (hc : Cut R (rdOf A nm.data.toList).2) (hnx : nx = if R.pay = [] then first else R.next) (h1 : nx - R.pay.length ≤ first) (h2 : first ≤ nx) (by_ : Int) (hb0 : 0 ≤ by_) (hb1 : by_ ≤ nx - first) (ha : argsOk nm sz (first + by_)) :
    ∃ A' segs, openA A nm sz (first + by_) = ⟨some ⟨nm, sz, segs, nx, false⟩, (R.pay.drop (first - (nx - R.pay.length)).toNat).drop by_.toNat, 0, A'⟩ ∧ segs.map ASeg.num = numsL A nm.data.toList ∧ Tidy A' nm.data.toList ∧ Alike A A' nm.data.toList := by
  have hnx' : nx = if (rdOf A nm.data.toList).2.pay = [] then first + by_ else (rdOf A nm.data.toList).2.next := by
    rw [hc.pay]
    by_cases hp : R.pay = []
    · rw [if_pos hp] at hnx ⊢
      omega
    · rw [if_neg hp] at hnx ⊢
      rw [hc.next hp]; exact hnx
  obtain ⟨hgood, _⟩ := open_tidy (sz := sz) hT hok ha rfl hnx'
  rw [hc.pay] at hgood
  obtain ⟨A', h3, h4, h5⟩ := hgood (by omega)
  refine ⟨A', _, ?_, rd_segs.1, h4, h5⟩
  rw [h3, List.drop_drop, show (first + by_ - (nx - (R.pay.length : Int))).toNat = (first - (nx - (R.pay.length : Int))).toNat + by_.toNat by omega]
/-- Open behind the next number. -/
theorem again_over {A : AD} {nm : ByteArray} {sz first nx : Int} {R : RSt} (hT : Tidy A nm.data.toList) (hok : A.Ok) (hc : Cut R (rdOf A nm.data.toList).2) (hnx : nx = if R.pay = [] then first else R.next) (h2 : first ≤ nx) (ha : argsOk nm sz first) :
    (openA A nm sz (nx + 1)).err ≠ 0 ↔ (R.pay ≠ [] ∨ 1152921504606846976 ≤ nx) := by
  by_cases hbig : 1152921504606846976 ≤ nx
  · have : openA A nm sz (nx + 1) = ⟨none, [], 1, A⟩ := by unfold openA; rw [if_pos (.inr (.inr (.inr (.inr (by omega)))))]
    rw [this]
    simp [hbig]
  · have ha' : argsOk nm sz (nx + 1) := by
      unfold argsOk at ha ⊢
      rintro (h | h | h | h | h)
      · exact ha (.inl h)
      · exact ha (.inr (.inl h))
      · exact ha (.inr (.inr (.inl h)))
      · exact ha (.inr (.inr (.inr (.inl (by omega)))))
      · omega
    by_cases hp : R.pay = []
    · obtain ⟨hgood, _⟩ := open_tidy (sz := sz) (first := nx + 1) (nx := nx + 1) hT hok ha' rfl (by rw [hc.pay, if_pos hp])
      rw [hc.pay, hp] at hgood
      obtain ⟨A', h3, _⟩ := hgood ⟨by simp, by omega⟩
      rw [h3]
      simp [hp, hbig]
    · rw [if_neg hp] at hnx
      obtain ⟨_, hbad⟩ := open_tidy (sz := sz) (first := nx + 1) (nx := nx) hT hok ha' rfl (by rw [hc.pay, if_neg hp, hc.next hp]; exact hnx)
      rw [hbad (by omega)]
      simp [hp]
end Go.Proofs.YtdffmmiegpndkaaGreatDoor
/-
  first(), PLAIN: what the document gives, reckoned.
-/
namespace Go.Proofs.YtdffmmiegpndkaaGreatDoor
open Go.RowKit Go.Maps
set_option linter.unusedVariables false
/-- load, with the segments' numbers given. -/
def loadN (ns : List Int) (A : AD) (g : AL) (first : Int) : List Key × Int × AD × AL :=
  if consec ns = false then ([], 60, A, { g with segs := ns.map seg0 })
  else
    let R := rdFin A g.name.data.toList ⟨[], 0, ns.map seg0, false⟩ ns.length 0
    if R.2.torn = true ∧ R.1 < ns.length then ([], 60, A, { g with segs := R.2.segs, next := R.2.next })
    else
      let nx := if R.2.pay = [] then first else R.2.next
      let g3 : AL := { g with segs := R.2.segs, next := nx }
      if first < nx - R.2.pay.length ∨ nx < first then ([], 60, A, g3)
      else
        let T := if R.2.torn = true then A.trunc (fileL g.name.data.toList (R.2.segs.getLastD ⟨0, 0, 0⟩).num) (R.2.segs.getLastD ⟨0, 0, 0⟩).size else (0, A)
        if T.1 ≠ 0 then ([], T.1, T.2, g3)
        else if (T.2.syncs g3.files).1 ≠ 0 then ([], (T.2.syncs g3.files).1, (T.2.syncs g3.files).2, g3)
        else (R.2.pay.drop (first - (nx - R.2.pay.length)).toNat, 0, (T.2.syncs g3.files).2, g3)
theorem loadA_N (A : AD) (g : AL) (first : Int) : loadA A g first = loadN (numsL A g.name.data.toList) A g first := rfl
theorem sortN_sorted {ns : List Int} (h : ns.Pairwise (· ≤ ·)) : sortN ns = ns := by
  unfold sortN
  exact List.mergeSort_of_pairwise (h.imp (fun h => decide_eq_true h))
def nmLog : ByteArray := ⟨#[108, 111, 103]⟩
def fA0 : AD := ⟨100000, [], p0⟩
def fg1 : AL := ⟨nmLog, 64, [], 0, false⟩
def fR1 : Int × AD × AL := appA fA0 fg1 ⟨#[97]⟩
def fR2 : Int × AD × AL := appA (fR1.2.1.fallen 2) fR1.2.2 ⟨#[98]⟩
def fA3 : AD := (fR2.2.1.crash []).on
def fR4 : List Key × Int × AD × AL := loadN [0, 1] fA3 fg1 0
def fR5 : Int × AD × AL := appA fR4.2.2.1 fR4.2.2.2 ⟨#[99]⟩
def fR6 : List Key × Int × AD × AL := loadN [0, 1] fR5.2.1 fg1 1
set_option maxRecDepth 100000 in
theorem f_err : fR1.1 = 0 ∧ fR2.1 = 9 ∧ fR4.2.1 = 0 ∧ fR5.1 = 0 ∧ fR6.2.1 = 0 := by decide +kernel
set_option maxRecDepth 100000 in
theorem f_pay : fR4.1 = [[97]] ∧ fR6.1 = [[99]] ∧ fR4.2.2.2.next = 1 := by decide +kernel
set_option maxRecDepth 100000 in
theorem f_names : fR5.2.2.files = [[108, 111, 103, 46, 48], [108, 111, 103, 46, 49]] := by decide +kernel
set_option maxRecDepth 100000 in
theorem f_found : foundL fA3 nmLog.data.toList = [0, 1] ∧ foundL fR5.2.1 nmLog.data.toList = [0, 1] := by decide +kernel
set_option maxRecDepth 100000 in
theorem f_off : fA3.pow.off = false ∧ fR5.2.1.pow.off = false := by decide +kernel
theorem f_nums3 : numsL fA3 nmLog.data.toList = [0, 1] := by unfold numsL; rw [f_found.1]; exact sortN_sorted (by decide)
theorem f_nums5 : numsL fR5.2.1 nmLog.data.toList = [0, 1] := by unfold numsL; rw [f_found.2]; exact sortN_sorted (by decide)
set_option maxRecDepth 100000 in
theorem f_args : ¬ (lnameOk nmLog.data.toList = false ∨ (64 : Int) < 64 ∨ (1048576 : Int) < 64 ∨ (0 : Int) < 0 ∨ (1152921504606846976 : Int) < 0) := by decide +kernel
set_option maxRecDepth 100000 in
theorem f_args1 : ¬ (lnameOk nmLog.data.toList = false ∨ (64 : Int) < 64 ∨ (1048576 : Int) < 64 ∨ (1 : Int) < 0 ∨ (1152921504606846976 : Int) < 1) := by decide +kernel
theorem f_open1 : openA fA0 nmLog 64 0 = ⟨some fg1, [], 0, fA0⟩ := by
  have h0 : numsL fA0 nmLog.data.toList = [] := by
    have : foundL fA0 nmLog.data.toList = [] := rfl
    unfold numsL; rw [this]; exact sortN_sorted (by simp)
  unfold openA
  rw [if_neg f_args, if_neg (by decide), loadA_N]
  show (let Z := loadN (numsL fA0 nmLog.data.toList) fA0 ⟨nmLog, 64, [], 0, false⟩ 0; if Z.2.1 ≠ 0 then (⟨none, [], Z.2.1, Z.2.2.1⟩ : ROpen) else ⟨some Z.2.2.2, Z.1, 0, Z.2.2.1⟩) = _
  rw [h0]
  rfl
theorem f_open3 : openA fA3 nmLog 64 0 = ⟨some fR4.2.2.2, [[97]], 0, fR4.2.2.1⟩ := by
  have hz : loadN [0, 1] fA3 ⟨nmLog, 64, [], 0, false⟩ 0 = fR4 := rfl
  unfold openA
  rw [if_neg f_args, if_neg (by rw [f_off.1]; decide), loadA_N]
  show (let Z := loadN (numsL fA3 nmLog.data.toList) fA3 ⟨nmLog, 64, [], 0, false⟩ 0; if Z.2.1 ≠ 0 then (⟨none, [], Z.2.1, Z.2.2.1⟩ : ROpen) else ⟨some Z.2.2.2, Z.1, 0, Z.2.2.1⟩) = _
  rw [f_nums3, hz]
  simp only
  rw [if_neg (by rw [f_err.2.2.1]; simp), f_pay.1]
theorem f_open5 : openA fR5.2.1 nmLog 64 1 = ⟨some fR6.2.2.2, [[99]], 0, fR6.2.2.1⟩ := by
  have hz : loadN [0, 1] fR5.2.1 ⟨nmLog, 64, [], 0, false⟩ 1 = fR6 := rfl
  unfold openA
  rw [if_neg f_args1, if_neg (by rw [f_off.2]; decide), loadA_N]
  show (let Z := loadN (numsL fR5.2.1 nmLog.data.toList) fR5.2.1 ⟨nmLog, 64, [], 0, false⟩ 1; if Z.2.1 ≠ 0 then (⟨none, [], Z.2.1, Z.2.2.1⟩ : ROpen) else ⟨some Z.2.2.2, Z.1, 0, Z.2.2.1⟩) = _
  rw [f_nums5, hz]
  simp only
  rw [if_neg (by rw [f_err.2.2.2.2]; simp), f_pay.2.1]
/-- A log's bounds, as one that is decided. -/
def AL.fitB (g : AL) : Bool := decide (g.name.size ≤ 24) && g.segs.all (fun s => decide (0 ≤ s.size) && decide (s.size ≤ 1048576) && decide (0 ≤ s.num) && decide (s.num ≤ 9999999)) && decide (g.segs.length ≤ 10000000) && decide (-1 ≤ g.next) && decide (g.next ≤ 1152921504606846976 + 1000000)
theorem AL.fit_of {g : AL} (h : g.fitB = true) : g.Fit := by
  unfold AL.fitB at h
  simp only [Bool.and_eq_true, decide_eq_true_eq, List.all_eq_true] at h
  exact ⟨h.1.1.1.1, fun s hs => ⟨⟨(h.1.1.1.2 s hs).1.1.1, (h.1.1.1.2 s hs).1.1.2⟩, (h.1.1.1.2 s hs).1.2, (h.1.1.1.2 s hs).2⟩, h.1.1.2, h.1.2, h.2⟩
set_option maxRecDepth 100000 in
theorem f_fits : fg1.fitB = true ∧ fR1.2.2.fitB = true ∧ fR4.2.2.2.fitB = true ∧ fR5.2.2.fitB = true := by decide +kernel
end Go.Proofs.YtdffmmiegpndkaaGreatDoor
/-
  The number of a file's name (numOf), told by what it is.
-/
namespace Go.Proofs.YtdffmmiegpndkaaGreatDoor
open Go.RowKit Go.Maps
set_option linter.unusedVariables false
theorem decFrom_snoc (b : UInt8) : ∀ (l : List UInt8) (acc : Nat), Lib.decFrom acc (l ++ [b]) = (Lib.decFrom acc l).bind (fun m => (Lib.digitVal b).map (fun d => m * 10 + d))
  | [], acc => by
    simp only [List.nil_append, Lib.decFrom]
    cases Lib.digitVal b <;> rfl
  | a :: t, acc => by
    simp only [List.cons_append, Lib.decFrom]
    cases Lib.digitVal a with
    | none => rfl
    | some d => exact decFrom_snoc b t _
theorem digitVal_of {d : Nat} (h : d < 10) : Lib.digitVal (UInt8.ofNat (48 + d)) = some d := by
  unfold Lib.digitVal
  have e : (UInt8.ofNat (48 + d)).toNat = 48 + d := by
    rw [UInt8.toNat_ofNat']; omega
  rw [e, if_pos (by omega)]
  congr 1; omega
theorem decFrom_digits (n : Nat) : Lib.decFrom 0 (Lib.decDigits n) = some n := by
  induction n using Nat.strongRecOn with
  | _ n ih =>
    rw [Lib.decDigits]
    split
    · rename_i h
      rw [show [UInt8.ofNat (48 + n)] = [] ++ [UInt8.ofNat (48 + n)] from rfl, decFrom_snoc, digitVal_of h]
      simp [Lib.decFrom]
    · rename_i h
      rw [decFrom_snoc, ih (n / 10) (by omega), digitVal_of (by omega)]
      simp only [Option.bind_some, Option.map_some, Option.some.injEq]
      omega
theorem digits_ne (n : Nat) : Lib.decDigits n ≠ [] := by
  rw [Lib.decDigits]
  split <;> simp
theorem decFrom_le : ∀ (l : List UInt8) (acc m : Nat), Lib.decFrom acc l = some m → acc ≤ m
  | [], acc, m, h => by simp only [Lib.decFrom, Option.some.injEq] at h; omega
  | a :: t, acc, m, h => by
    simp only [Lib.decFrom] at h
    cases ha : Lib.digitVal a with
    | none => simp [ha] at h
    | some d => simp only [ha] at h; have := decFrom_le t _ m h; omega
theorem parse_of : ∀ (l : List UInt8) (acc m : Nat), Lib.decFrom acc l = some m → m < 9223372036854775808 → Lib.parseUint10 acc l = .ok m
  | [], acc, m, h, hm => by simp only [Lib.decFrom, Option.some.injEq] at h; rw [h]; rfl
  | a :: t, acc, m, h, hm => by
    simp only [Lib.decFrom] at h
    cases ha : Lib.digitVal a with
    | none => simp [ha] at h
    | some d =>
      simp only [ha] at h
      have hl := decFrom_le t _ m h
      unfold Lib.digitVal at ha
      split at ha
      · rename_i hd
        simp only [Option.some.injEq] at ha
        unfold Lib.parseUint10
        rw [if_pos hd, ha, if_neg (by omega), if_neg (by omega)]
        exact parse_of t _ m h hm
      · cases ha
theorem atoi_of {l : List UInt8} {m : Nat} (hne : l ≠ []) (h : Lib.decFrom 0 l = some m) (hm : m < 9223372036854775808) : Lib.atoiAll l = .ok (m : Int) := by
  cases l with
  | nil => exact absurd rfl hne
  | cons c r =>
    have hp := parse_of _ 0 m h hm
    have hd : 48 ≤ c.toNat ∧ c.toNat ≤ 57 := by
      simp only [Lib.decFrom] at h
      unfold Lib.digitVal at h
      split at h
      · rename_i d hd
        split at hd
        · assumption
        · cases hd
      · cases h
    have h1 : ¬ (c.toNat = 43 ∨ c.toNat = 45) := by omega
    have h2 : ¬ c.toNat = 45 := by omega
    have h3 : ¬ 9223372036854775808 ≤ m := by omega
    unfold Lib.atoiAll
    simp only [h1, if_false, Lib.parseMag, hp, reduceCtorEq]
    simp [h2, h3]
theorem itoa_nat (n : Nat) : Lib.itoa (n : Int) = Lib.decDigits n := by
  unfold Lib.itoa
  rw [if_neg (by omega)]
  rfl
theorem numOf_iff (f k : Key) (v : Int) : numOf f k = some v ↔ Lib.hasPrefix f (k ++ [46]) = true ∧ 0 ≤ v ∧ v ≤ 9999999 ∧ Lib.itoa v = f.drop (k.length + 1) := by
  unfold numOf
  constructor
  · intro h
    split at h
    · rename_i hp
      split at h
      · split at h
        · rename_i hc; cases h; exact ⟨hp, hc⟩
        · cases h
      · cases h
    · cases h
  · rintro ⟨hp, h0, h1, h2⟩
    obtain ⟨n, rfl⟩ : ∃ n : Nat, v = n := ⟨v.toNat, by omega⟩
    rw [if_pos hp, ← h2, itoa_nat, atoi_of (digits_ne n) (decFrom_digits n) (by omega)]
    show (if _ then _ else _) = _
    rw [itoa_nat, if_pos ⟨h0, h1, rfl⟩]
end Go.Proofs.YtdffmmiegpndkaaGreatDoor
