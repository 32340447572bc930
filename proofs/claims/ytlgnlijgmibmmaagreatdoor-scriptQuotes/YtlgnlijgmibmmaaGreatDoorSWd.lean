/-
  script's reader: words, kinds by their names, digits.
-/
import Derived.Test.YtlgnlijgmibmmaaGreatDoorSRd
import Derived.Test.YtlgnlijgmibmmaaGreatDoorShelf
namespace Go.Proofs.YtlgnlijgmibmmaaGreatDoor
open Go.RowKit S
set_option linter.unusedVariables false
set_option linter.unusedSimpArgs false
def nb (c : UInt8) : Bool := c != 32
def wordOf (l : List UInt8) : List UInt8 := l.takeWhile nb
def restOf (l : List UInt8) : List UInt8 := l.dropWhile nb
theorem word_index : ∀ l : List UInt8, (Lib.indexByte l 32 = -1 ∧ wordOf l = l) ∨ (Lib.indexByte l 32 = ((wordOf l).length : Int) ∧ wordOf l = l.take (wordOf l).length ∧ (wordOf l).length ≤ l.length)
  | [] => .inl ⟨rfl, rfl⟩
  | c :: l => by
    unfold Lib.indexByte wordOf
    by_cases h : c = 32
    · subst h
      refine .inr ⟨?_, ?_, ?_⟩ <;> simp [nb]
    · have h1 : (c == 32) = false := beq_eq_false_iff_ne.2 h
      have h2 : nb c = true := by simp [nb, bne, h1]
      rw [h1, List.takeWhile_cons_of_pos h2]
      rcases word_index l with ⟨a, b⟩ | ⟨a, b, d⟩
      · refine .inl ⟨?_, ?_⟩
        · rw [a]; rfl
        · unfold wordOf at b; rw [b]
      · refine .inr ⟨?_, ?_, ?_⟩
        · rw [a]
          unfold wordOf
          have e : (((List.takeWhile nb l).length : Int) == -1) = false := by rw [beq_eq_false_iff_ne]; omega
          rw [e, List.length_cons]
          simp
        · unfold wordOf at b
          rw [List.length_cons, List.take_succ_cons, ← b]
        · unfold wordOf at d
          rw [List.length_cons, List.length_cons]; omega
theorem rest_drop : ∀ l : List UInt8, l.drop (wordOf l).length = restOf l
  | [] => rfl
  | c :: l => by
    unfold wordOf restOf
    by_cases h : nb c = true
    · rw [List.takeWhile_cons_of_pos h, List.dropWhile_cons_of_pos h, List.length_cons, List.drop_succ_cons]
      exact rest_drop l
    · rw [List.takeWhile_cons_of_neg h, List.dropWhile_cons_of_neg h]; rfl
theorem word_rest (l : List UInt8) : wordOf l ++ restOf l = l := List.takeWhile_append_dropWhile
theorem rest_len (l : List UInt8) : (restOf l).length ≤ l.length := by have := congrArg List.length (word_rest l); rw [List.length_append] at this; omega
theorem word_len (l : List UInt8) : (wordOf l).length ≤ l.length := by have := congrArg List.length (word_rest l); rw [List.length_append] at this; omega
theorem indexB_any (l : List UInt8) (c : UInt8) (w : World) : Calls Tryz.prog 139 #[.string (bs l), .int .u8 (c.toNat : Int)] w fun e w' => e = .returned (.int .i64 (Lib.indexByte l c)) ∧ w' = w := by
  have h := Any.strings_IndexByte Tryz.laysIndexByte (bs l) (c.toNat : Int) w
  have e : ((c.toNat : Int)).toNat.toUInt8 = c := by rw [Int.toNat_natCast]; exact UInt8.ofNat_toNat
  rw [e] at h
  exact h
set_option maxRecDepth 100000 in
theorem word_any (b : Nat) (l : List UInt8) (w : World) (h : Rd w b l) (hl : l.length ≤ 70000) : Calls Tryz.prog 133 #[.pointer (some ⟨b, 0, none⟩)] w fun e w' => e = .returned (.string (bs (wordOf l))) ∧ w' = w.setCell ⟨b, 0, none⟩ (.string (bs (restOf l))) := by
  have c0 := h.cell 0 (by omega)
  have f0 := h.frozen 0
  have hz := bs_size l
  have hw := word_len l
  go_enter Tryz.func133, Tryz.ntmps133
  go_wp2_with fail
  refine (indexB_any l 32 _).mono ?_
  rintro e w1 ⟨rfl, rfl⟩
  rcases word_index l with ⟨a, d⟩ | ⟨a, d, d2⟩
  · rw [a]
    have e1 : ByteArray.empty = bs (restOf l) := by
      rw [← rest_drop, d, List.drop_length]; rfl
    go_wp2
    go_ret
    rw [d]
    exact ⟨rfl, rfl⟩
  · rw [a]
    have e0 : (bs l).extract 0 (wordOf l).length = bs (wordOf l) := by
      rw [bs_extract, ← d]; rfl
    have e1 : (bs l).extract (wordOf l).length l.length = bs (restOf l) := by
      rw [bs_extract, List.take_length, rest_drop]
    have hz2 := bs_size (wordOf l)
    have hn : ¬ ((wordOf l).length : Int) < 0 := by omega
    clear d
    go_wp2
    go_ret
    exact ⟨rfl, rfl⟩
/-- The next word, if a blank stands ahead of it. -/
def nextW : List UInt8 → Option (List UInt8 × List UInt8)
  | [] => none
  | c :: t => if c = 32 then some (wordOf t, restOf t) else none
theorem nextW_cons (c : UInt8) (t : List UInt8) : nextW (c :: t) = if c = 32 then some (wordOf t, restOf t) else none := rfl
theorem nextWord_no (b : Nat) (l : List UInt8) (w : World) (h : Rd w b l) (hn : nextW l = none) : Calls Tryz.prog 131 #[.pointer (some ⟨b, 0, none⟩)] w fun e w' => Bad e ∧ Kp b b w w' := by
  have hs : ∀ t, l ≠ 32 :: t := by
    rintro t rfl
    rw [nextW_cons, if_pos rfl] at hn
    cases hn
  go_enter Tryz.func131, Tryz.ntmps131
  go_wp2_with fail
  refine (blank_no b l _ h hs).mono ?_
  rintro e w1 ⟨rfl, k1⟩
  go_wp2
  exact ⟨rfl, rfl, k1⟩
theorem nextWord_yes (b : Nat) (l wd r : List UInt8) (w : World) (h : Rd w b l) (hl : l.length ≤ 70000) (hn : nextW l = some (wd, r)) : Calls Tryz.prog 131 #[.pointer (some ⟨b, 0, none⟩)] w fun e w' => e = .returned (.string (bs wd)) ∧ Rd w' b r ∧ Kp b b w w' := by
  obtain ⟨t, rfl, hwd, hr⟩ : ∃ t, l = 32 :: t ∧ wordOf t = wd ∧ restOf t = r := by
    cases l with
    | nil => cases hn
    | cons c t =>
      rw [nextW_cons] at hn
      split at hn
      · rename_i hc
        subst hc
        cases hn
        exact ⟨t, rfl, rfl, rfl⟩
      · cases hn
  have h1 := h.set t
  have h2 := h1.set (restOf t)
  have k : Kp b b w ((w.setCell ⟨b, 0, none⟩ (.string (bs t))).setCell ⟨b, 0, none⟩ (.string (bs (restOf t)))) := (Kp.set w ⟨b, 0, none⟩ (.string (bs t)) (.inl rfl)).trans (Kp.set _ ⟨b, 0, none⟩ _ (.inl rfl))
  go_enter Tryz.func131, Tryz.ntmps131
  go_wp2_with fail
  refine (blank_yes b t _ h).mono ?_
  rintro e w1 ⟨rfl, rfl⟩
  go_wp2_with fail
  refine (word_any b t _ h1 (by rw [List.length_cons] at hl; omega)).mono ?_
  rintro e w1 ⟨rfl, rfl⟩
  go_wp2
  go_ret
  rw [hr] at h2 k
  exact ⟨rfl, h2, k⟩
end Go.Proofs.YtlgnlijgmibmmaaGreatDoor
