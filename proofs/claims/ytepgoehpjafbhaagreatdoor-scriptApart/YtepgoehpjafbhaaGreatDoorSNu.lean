/-
  script's reader: numbers and names into a cell.
-/
import Derived.Test.YtepgoehpjafbhaaGreatDoorSNm
import Derived.Lib.AtoiErrMem
namespace Go.Proofs.YtepgoehpjafbhaaGreatDoor
open Go.RowKit S
set_option linter.unusedVariables false
set_option linter.unusedSimpArgs false
/-- What of the library's variables is used (E: what strconv's two errors hold is known: wanted only where a word is no number): they lie below B; what strconv.FormatInt tells of a number is F's. -/
structure Env (E : Prop) (B : Nat) (F : Int → List UInt8) (w : World) : Prop where
  mx : ∃ m, w.cell? ⟨0, 0, none⟩ = some (.int .i64 m)
  es : E → ∃ ev, w.cell? ⟨6, 0, none⟩ = some ev ∧ (ev = .nilIface ∨ ∃ te pe, ev = .iface te pe)
  er : E → ∃ ev, w.cell? ⟨7, 0, none⟩ = some ev ∧ (ev = .nilIface ∨ ∃ te pe, ev = .iface te pe)
  hB : 8 ≤ B
  fmt : ∀ n : Int, -9223372036854775808 ≤ n → n ≤ 9223372036854775807 → ∀ w', Below B w w' → Calls Tryz.prog 106 #[.int .i64 n, .int .i64 10] w' fun e w'' => e = .returned (.string (bs (F n))) ∧ Below w'.heap.size w' w''
theorem Env.below {E : Prop} {B : Nat} {F : Int → List UInt8} {w w' : World} (h : Env E B F w) (k : Below B w w') : Env E B F w' := by
  obtain ⟨m, hm⟩ := h.mx
  have hb := h.hB
  refine ⟨⟨m, ?_⟩, fun he => ?_, fun he => ?_, hb, fun n a b w'' k' => h.fmt n a b w'' (k.trans k')⟩
  · rw [k.cell (show 0 < B by omega)]; exact hm
  · obtain ⟨v1, h1, h1'⟩ := h.es he
    exact ⟨v1, by rw [k.cell (show 6 < B by omega)]; exact h1, h1'⟩
  · obtain ⟨v2, h2, h2'⟩ := h.er he
    exact ⟨v2, by rw [k.cell (show 7 < B by omega)]; exact h2, h2'⟩
/-- A word's number. -/
def numA (F : Int → List UInt8) (wd : List UInt8) : Option Int := match Lib.parseIntB 64 wd with
  | .ok v => if F v = wd then some v else none
  | _ => none
def numberA (F : Int → List UInt8) (l : List UInt8) : Option (Int × List UInt8) := (nextW l).bind fun x => (numA F x.1).map fun v => (v, x.2)
/-- The word that comes is a number. -/
def numT (l : List UInt8) : Prop := ∀ x, nextW l = some x → ∃ v, Lib.parseIntB 64 x.1 = .ok v
theorem parse_rng (l : List UInt8) (v : Int) (h : Lib.parseIntB 64 l = .ok v) : -9223372036854775808 ≤ v ∧ v ≤ 9223372036854775807 := by
  unfold Lib.parseIntB at h
  split at h
  · cases h
  · dsimp only at h
    split at h
    · cases h
    · cases h
    · split at h
      · cases h
      · split at h
        · cases h
        · injection h with h
          subst h
          rename_i h1 h2
          split <;> rename_i h3 <;> simp [h3] at h1 h2 <;> omega
/-- ParseInt's answer. -/
theorem parse_any {E : Prop} {B : Nat} {F : Int → List UInt8} (wd : List UInt8) (w : World) (hE : Env E B F w) (hl : wd.length ≤ 70000) (hg : E ∨ ∃ v, Lib.parseIntB 64 wd = .ok v) :
    Calls Tryz.prog 135 #[.string (bs wd), .int .i64 10, .int .i64 64] w fun e w' => Below w.heap.size w w' ∧
      ((∃ v, Lib.parseIntB 64 wd = .ok v ∧ e = .returned (.tuple #[.int .i64 v, .nilIface])) ∨ ((∀ v, Lib.parseIntB 64 wd ≠ .ok v) ∧ ∃ x t p, e = .returned (.tuple #[.int .i64 x, .iface t p]))) := by
  have hs : (bs wd).size ≤ 70000 := by rw [bs_size]; exact hl
  cases hp : Lib.parseIntB 64 wd with
  | ok v =>
    refine (Any.strconv_ParseInt_10_at64_ok Tryz.laysParseInt (bs wd) (by omega) v hp w).mono ?_
    rintro e w' ⟨rfl, rfl | ⟨t, rfl⟩⟩
    · exact ⟨Below.refl _ _, .inl ⟨v, rfl, rfl⟩⟩
    · exact ⟨Lib.bytesWorld_below _ _ _, .inl ⟨v, rfl, rfl⟩⟩
  | «syntax» =>
    obtain ⟨ev, h1, h2⟩ := hE.es (hg.elim id fun ⟨v, hv⟩ => by rw [hp] at hv; cases hv)
    refine (Any.strconv_ParseInt_10_at64_syntax Tryz.laysParseInt (bs wd) (by omega) hp ev w h1 h2).mono ?_
    rintro e w' ⟨N, rfl, _, _, hb⟩
    exact ⟨hb, .inr ⟨fun v h => by (cases h), _, _, _, rfl⟩⟩
  | range =>
    obtain ⟨ev, h1, h2⟩ := hE.er (hg.elim id fun ⟨v, hv⟩ => by rw [hp] at hv; cases hv)
    refine (Any.strconv_ParseInt_10_at64_range Tryz.laysParseInt (bs wd) (by omega) hp ev w h1 h2).mono ?_
    rintro e w' ⟨N, rfl, _, _, hb⟩
    exact ⟨hb, .inr ⟨fun v h => by (cases h), _, _, _, rfl⟩⟩
theorem Kp.left {b c : Nat} {w w' : World} (h : Kp b b w w') : Kp b c w w' := ⟨h.os, h.tape, h.output, h.size, fun k hk hb _ => h.block k hk hb hb⟩
set_option maxRecDepth 100000 in
set_option maxHeartbeats 800000 in
theorem number_any {E : Prop} {B : Nat} {F : Int → List UInt8} (b c off m : Nat) (t : TypeId) (f : Nat → Value) (l : List UInt8) (w : World) (hE : Env E B F w) (hB : B ≤ w.heap.size) (hb : B ≤ b) (hc : B ≤ c)
    (hR : Rd w b l) (hC : Has w c t f m) (ho : off < m) (hbc : c ≠ b) (hl : l.length ≤ 70000) (hg : E ∨ numT l) :
    Calls Tryz.prog 128 #[.pointer (some ⟨b, 0, none⟩), .pointer (some ⟨c, off, none⟩)] w fun e w' => Kp b c w w' ∧
      ((∃ v r, numberA F l = some (v, r) ∧ e = .returned (.tuple #[]) ∧ Rd w' b r ∧ Has w' c t (upd f off (.int .i64 v)) m) ∨ (numberA F l = none ∧ Bad e)) := by
  cases hn : nextW l with
  | none =>
    go_enter Tryz.func128, Tryz.ntmps128
    go_wp2_with fail
    refine (nextWord_no b l _ hR hn).mono ?_
    rintro e w1 ⟨rfl, k1⟩
    go_wp2
    exact ⟨rfl, k1.left, .inr ⟨by unfold numberA; rw [hn]; rfl, rfl⟩⟩
  | some x =>
    obtain ⟨wd, r⟩ := x
    have hwl : wd.length ≤ 70000 := by
      cases l with
      | nil => cases hn
      | cons c0 t0 =>
        rw [nextW_cons] at hn
        split at hn
        · injection hn with hn
          injection hn with h1 h2
          have := word_len t0
          rw [h1] at this
          rw [List.length_cons] at hl
          omega
        · cases hn
    have HN := hide hn
    have HG := hide (hg.imp id fun h => h (wd, r) hn)
    clear hn hg
    go_enter Tryz.func128, Tryz.ntmps128
    go_wp2_with fail
    refine (nextWord_yes b l wd r _ hR hl HN.out).mono ?_
    rintro e w1 ⟨rfl, hR1, k1⟩
    have b1 : Below B w w1 := k1.below hB hb hb
    have HE1 := hide (hE.below b1)
    have HC1 := hide (k1.has hC hbc hbc)
    have HK1 := hide k1
    have HR1 := hide hR1
    clear k1 hR1 hC hR
    go_wp2_with fail
    refine (parse_any wd _ HE1.out hwl HG.out).mono ?_
    rintro e w2 ⟨b2, hcase⟩
    have hB1 : B ≤ w1.heap.size := Nat.le_trans hB HK1.out.size
    have HE2 := hide (HE1.out.below (b2.mono hB1))
    have HC2 := hide (HC1.out.below b2 HC1.out.lt)
    have HR2 : Hid (Rd w2 b r) := hide (Has.below HR1.out b2 (Has.lt HR1.out))
    have HK2 : Hid (Kp b c w w2) := hide (HK1.out.left.trans (Kp.of b2))
    clear b2
    rcases hcase with ⟨v, hv, rfl⟩ | ⟨hv, x, ty, p, rfl⟩
    · have HV := hide hv
      have hrg := parse_rng wd v hv
      clear hv
      go_wp2_with fail
      refine (HE2.out.fmt v hrg.1 hrg.2 _ (Below.refl _ _)).mono ?_
      rintro e w3 ⟨rfl, b3⟩
      have HC3 := hide (HC2.out.below b3 HC2.out.lt)
      have HR3 : Hid (Rd w3 b r) := hide (Has.below HR2.out b3 (Has.lt HR2.out))
      have HK3 : Hid (Kp b c w w3) := hide (HK2.out.trans (Kp.of b3))
      clear b3
      by_cases hF : F v = wd
      · have he : ((bs (F v)).toList == (bs wd).toList) = true := by rw [bs_list, bs_list, hF]; exact beq_self_eq_true _
        have HA : Hid (numberA F l = some (v, r)) := hide (by unfold numberA numA; rw [HN.out]; show Option.map _ (match Lib.parseIntB 64 wd with | .ok v => if F v = wd then some v else none | _ => none) = _; rw [HV.out]; show Option.map _ (if F v = wd then some v else none) = _; rw [if_pos hF]; rfl)
        have c3 := HC3.out.cell off ho
        have f3 := HC3.out.frozen off
        have H4 := hide (HC3.out.set off (.int .i64 v))
        have HR4 : Hid (Rd (w3.setCell ⟨c, off, none⟩ (.int .i64 v)) b r) := hide (Has.other HR3.out _ _ (fun e => hbc e.symm))
        have HK4 : Hid (Kp b c w (w3.setCell ⟨c, off, none⟩ (.int .i64 v))) := hide (HK3.out.trans (Kp.set _ _ _ (.inr rfl)))
        clear hF
        go_wp2_with fail
        refine (require_yes _).mono ?_
        rintro e w4 ⟨rfl, rfl⟩
        go_wp2
        go_end0
        exact ⟨HK4.out, .inl ⟨v, r, HA.out, rfl, HR4.out, H4.out⟩⟩
      · have he : ((bs (F v)).toList == (bs wd).toList) = false := by rw [bs_list, bs_list]; exact beq_eq_false_iff_ne.2 hF
        have HA : Hid (numberA F l = none) := hide (by unfold numberA numA; rw [HN.out]; show Option.map _ (match Lib.parseIntB 64 wd with | .ok v => if F v = wd then some v else none | _ => none) = _; rw [HV.out]; show Option.map _ (if F v = wd then some v else none) = _; rw [if_neg hF]; rfl)
        clear hF
        go_wp2_with fail
        refine (require_no _).mono ?_
        rintro e w4 ⟨rfl, rfl⟩
        go_wp2
        exact ⟨rfl, HK3.out, .inr ⟨HA.out, rfl⟩⟩
    · have HA : Hid (numberA F l = none) := hide (by
        unfold numberA numA
        rw [HN.out]
        show Option.map _ (match Lib.parseIntB 64 wd with | .ok v => if F v = wd then some v else none | _ => none) = _
        cases hp : Lib.parseIntB 64 wd with
        | ok v => exact absurd hp (hv v)
        | _ => rfl)
      clear hv
      go_wp2_with fail
      refine (require_no _).mono ?_
      rintro e w3 ⟨rfl, rfl⟩
      go_wp2
      exact ⟨rfl, HK2.out, .inr ⟨HA.out, rfl⟩⟩
end Go.Proofs.YtepgoehpjafbhaaGreatDoor
