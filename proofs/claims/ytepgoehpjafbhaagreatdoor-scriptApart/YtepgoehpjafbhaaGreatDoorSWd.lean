import Derived.Test.YtepgoehpjafbhaaGreatDoorLast
import Derived.Recover
import Derived.Test.YtepgoehpjafbhaaGreatDoorShelf
/-
  script's reader: a panic of one's own, the next byte, a blank.
-/
namespace Go.Proofs.YtepgoehpjafbhaaGreatDoor
open Go.RowKit S
set_option linter.unusedVariables false
set_option linter.unusedSimpArgs false
/-- The panic that tells that something isn't a line's. -/
def noV : Value := .iface 103 (.agg #[])
def Bad (e : Ending) : Prop := e = .panicked [{ v := noV, recovered := false }]
/-- A text of bytes. -/
def bs (l : List UInt8) : ByteArray := ⟨l.toArray⟩
theorem bs_size (l : List UInt8) : (bs l).size = l.length := by show (List.toArray l).size = _; rw [List.size_toArray]
theorem bs_extract (l : List UInt8) (i j : Nat) : (bs l).extract i j = bs ((l.take j).drop i) := by
  apply ByteArray.ext
  apply Array.ext'
  rw [ByteArray.data_extract]
  show (Array.extract l.toArray i j).toList = _
  rw [Array.toList_extract]
  show List.extract l i j = _
  rw [List.extract_eq_take_drop]
  show _ = (l.take j).drop i
  rw [List.drop_take]
theorem bs_tail (c : UInt8) (s : List UInt8) : (bs (c :: s)).extract 1 (bs (c :: s)).size = bs s := by
  rw [bs_extract, bs_size, List.take_length]; rfl
theorem bs_list (l : List UInt8) : (bs l).toList = l := by rw [ByteArray.toList_eq]; rfl
theorem emp_nil : (bs []).toList.isEmpty = true := by rw [bs_list]; rfl
theorem emp_cons (c : UInt8) (s : List UInt8) : (bs (c :: s)).toList.isEmpty = false := by rw [bs_list]; rfl
theorem require_yes (w : World) : Calls Tryz.prog 51 #[.bool true] w fun e w' => e = .returned (.tuple #[]) ∧ w' = w := by
  go_enter Tryz.func51, Tryz.ntmps51
  go_wp2
  go_end0
  exact ⟨rfl, rfl⟩
theorem require_no (w : World) : Calls Tryz.prog 51 #[.bool false] w fun e w' => Bad e ∧ w' = w := by
  go_enter Tryz.func51, Tryz.ntmps51
  go_wp2
  exact ⟨rfl, rfl, rfl⟩
/-- A reader in block b, with what is left. -/
def Rd (w : World) (b : Nat) (s : List UInt8) : Prop := Has w b 108 (fun _ => .string (bs s)) 1
/-- All blocks but b and c stay. -/
structure Kp (b c : Nat) (w w' : World) : Prop where
  os : w'.os = w.os
  tape : w'.tape = w.tape
  output : w'.output = w.output
  size : w.heap.size ≤ w'.heap.size
  block : ∀ k, k < w.heap.size → k ≠ b → k ≠ c → w'.heap[k]? = w.heap[k]?
theorem Kp.refl (b c : Nat) (w : World) : Kp b c w w := ⟨rfl, rfl, rfl, Nat.le_refl _, fun _ _ _ _ => rfl⟩
theorem Kp.trans {b c : Nat} {w w1 w2 : World} (h : Kp b c w w1) (k : Kp b c w1 w2) : Kp b c w w2 :=
  ⟨k.os.trans h.os, k.tape.trans h.tape, k.output.trans h.output, Nat.le_trans h.size k.size, fun i hi hb hc => (k.block i (Nat.lt_of_lt_of_le hi h.size) hb hc).trans (h.block i hi hb hc)⟩
theorem Kp.of {b c : Nat} {w w' : World} (h : Below w.heap.size w w') : Kp b c w w' :=
  ⟨h.os, h.tape, h.output, h.size, fun k hk _ _ => h.block k hk⟩
theorem Kp.below {b c B : Nat} {w w' : World} (h : Kp b c w w') (hB : B ≤ w.heap.size) (hb : B ≤ b) (hc : B ≤ c) : Below B w w' :=
  ⟨h.os, h.tape, h.output, h.size, fun k hk => h.block k (Nat.lt_of_lt_of_le hk hB) (by omega) (by omega)⟩
theorem Kp.set {b c : Nat} (w : World) (p : Addr) (v : Value) (h : p.block = b ∨ p.block = c) : Kp b c w (w.setCell p v) :=
  ⟨rfl, rfl, rfl, by simp [World.setCell], fun k hk hb hc => heap_setCell_other w p k v (by rcases h with h | h <;> omega)⟩
theorem Kp.has {b c g m : Nat} {w w' : World} {t : TypeId} {f : Nat → Value} (h : Kp b c w w') (k : Has w g t f m) (hb : g ≠ b) (hc : g ≠ c) : Has w' g t f m := by
  have hl := k.lt
  unfold Has at k ⊢
  rw [h.block g hl hb hc]
  exact k
theorem Rd.set {w : World} {b : Nat} {s : List UInt8} (h : Rd w b s) (t : List UInt8) : Rd (w.setCell ⟨b, 0, none⟩ (.string (bs t))) b t := by
  refine Has.congr (Has.set h 0 _) _ fun i hi => ?_
  obtain rfl : i = 0 := by omega
  rfl
theorem u8_of_int (c d : UInt8) (h : (c.toNat : Int) = (d.toNat : Int)) : c = d := UInt8.toNat_inj.1 (by omega)
theorem next_none (b : Nat) (w : World) (h : Rd w b []) : Calls Tryz.prog 136 #[.pointer (some ⟨b, 0, none⟩)] w fun e w' => Bad e ∧ w' = w := by
  have c0 := h.cell 0 (by omega)
  go_enter Tryz.func136, Tryz.ntmps136
  go_wp2_with fail
  rw [emp_nil]
  refine (require_no _).mono ?_
  rintro e w1 ⟨rfl, rfl⟩
  go_wp2
  exact ⟨rfl, rfl, rfl⟩
theorem next_some (b : Nat) (c : UInt8) (s : List UInt8) (w : World) (h : Rd w b (c :: s)) : Calls Tryz.prog 136 #[.pointer (some ⟨b, 0, none⟩)] w fun e w' => e = .returned (.int .u8 (c.toNat : Int)) ∧ w' = w.setCell ⟨b, 0, none⟩ (.string (bs s)) := by
  have c0 := h.cell 0 (by omega)
  have f0 := h.frozen 0
  have hz : 0 < (bs (c :: s)).size := by rw [bs_size]; simp
  go_enter Tryz.func136, Tryz.ntmps136
  go_wp2_with fail
  rw [emp_cons]
  refine (require_yes _).mono ?_
  rintro e w1 ⟨rfl, rfl⟩
  go_wp2
  rw [bs_tail]
  go_ret
  exact ⟨rfl, rfl⟩
theorem blank_no (b : Nat) (s : List UInt8) (w : World) (h : Rd w b s) (hs : ∀ t, s ≠ 32 :: t) : Calls Tryz.prog 123 #[.pointer (some ⟨b, 0, none⟩)] w fun e w' => Bad e ∧ Kp b b w w' := by
  go_enter Tryz.func123, Tryz.ntmps123
  go_wp2_with fail
  cases s with
  | nil =>
    refine (next_none b _ h).mono ?_
    rintro e w1 ⟨rfl, rfl⟩
    go_wp2
    exact ⟨rfl, rfl, Kp.refl _ _ _⟩
  | cons c s =>
    refine (next_some b c s _ h).mono ?_
    rintro e w1 ⟨rfl, rfl⟩
    have hc : ((c.toNat : Int) == 32) = false := by
      rw [beq_eq_false_iff_ne]
      intro e
      exact hs s (by rw [u8_of_int c 32 e])
    go_wp2_with fail
    refine (require_no _).mono ?_
    rintro e w2 ⟨rfl, rfl⟩
    go_wp2
    exact ⟨rfl, rfl, Kp.set _ _ _ (.inl rfl)⟩
theorem blank_yes (b : Nat) (s : List UInt8) (w : World) (h : Rd w b (32 :: s)) : Calls Tryz.prog 123 #[.pointer (some ⟨b, 0, none⟩)] w fun e w' => e = .returned (.tuple #[]) ∧ w' = w.setCell ⟨b, 0, none⟩ (.string (bs s)) := by
  go_enter Tryz.func123, Tryz.ntmps123
  go_wp2_with fail
  refine (next_some b 32 s _ h).mono ?_
  rintro e w1 ⟨rfl, rfl⟩
  go_wp2_with fail
  refine (require_yes _).mono ?_
  rintro e w2 ⟨rfl, rfl⟩
  go_wp2
  go_end0
  exact ⟨rfl, rfl⟩
end Go.Proofs.YtepgoehpjafbhaaGreatDoor
/-
  script's reader: words, kinds by their names, digits.
-/
namespace Go.Proofs.YtepgoehpjafbhaaGreatDoor
open Go.RowKit S
set_option linter.unusedVariables false
set_option linter.unusedSimpArgs false
def nb (c : UInt8) : Bool := c != 32
def wordOf (l : List UInt8) : List UInt8 := l.takeWhile nb
def restOf (l : List UInt8) : List UInt8 := l.dropWhile nb
theorem word_index : ∀ l : List UInt8, (Lib.indexByte l 32 = -1 ∧ wordOf l = l) ∨ (Lib.indexByte l 32 = ((wordOf l).length : Int) ∧ wordOf l = l.take (wordOf l).length ∧ (wordOf l).length ≤ l.length)
  | [] => .inl ⟨rfl, rfl⟩
  | c :: l => by
    unfold Lib.indexByte wordOf
    by_cases h : c = 32
    · subst h
      refine .inr ⟨?_, ?_, ?_⟩ <;> simp [nb]
    · have h1 : (c == 32) = false := beq_eq_false_iff_ne.2 h
      have h2 : nb c = true := by simp [nb, bne, h1]
      rw [h1, List.takeWhile_cons_of_pos h2]
      rcases word_index l with ⟨a, b⟩ | ⟨a, b, d⟩
      · refine .inl ⟨?_, ?_⟩
        · rw [a]; rfl
        · unfold wordOf at b; rw [b]
      · refine .inr ⟨?_, ?_, ?_⟩
        · rw [a]
          unfold wordOf
          have e : (((List.takeWhile nb l).length : Int) == -1) = false := by rw [beq_eq_false_iff_ne]; omega
          rw [e, List.length_cons]
          simp
        · unfold wordOf at b
          rw [List.length_cons, List.take_succ_cons, ← b]
        · unfold wordOf at d
          rw [List.length_cons, List.length_cons]; omega
theorem rest_drop : ∀ l : List UInt8, l.drop (wordOf l).length = restOf l
  | [] => rfl
  | c :: l => by
    unfold wordOf restOf
    by_cases h : nb c = true
    · rw [List.takeWhile_cons_of_pos h, List.dropWhile_cons_of_pos h, List.length_cons, List.drop_succ_cons]
      exact rest_drop l
    · rw [List.takeWhile_cons_of_neg h, List.dropWhile_cons_of_neg h]; rfl
theorem word_rest (l : List UInt8) : wordOf l ++ restOf l = l := List.takeWhile_append_dropWhile
theorem rest_len (l : List UInt8) : (restOf l).length ≤ l.length := by have := congrArg List.length (word_rest l); rw [List.length_append] at this; omega
theorem word_len (l : List UInt8) : (wordOf l).length ≤ l.length := by have := congrArg List.length (word_rest l); rw [List.length_append] at this; omega
theorem indexB_any (l : List UInt8) (c : UInt8) (w : World) : Calls Tryz.prog 139 #[.string (bs l), .int .u8 (c.toNat : Int)] w fun e w' => e = .returned (.int .i64 (Lib.indexByte l c)) ∧ w' = w := by
  have h := Any.strings_IndexByte Tryz.laysIndexByte (bs l) (c.toNat : Int) w
  have e : ((c.toNat : Int)).toNat.toUInt8 = c := by rw [Int.toNat_natCast]; exact UInt8.ofNat_toNat
  rw [e] at h
  exact h
set_option maxRecDepth 100000 in
theorem word_any (b : Nat) (l : List UInt8) (w : World) (h : Rd w b l) (hl : l.length ≤ 70000) : Calls Tryz.prog 133 #[.pointer (some ⟨b, 0, none⟩)] w fun e w' => e = .returned (.string (bs (wordOf l))) ∧ w' = w.setCell ⟨b, 0, none⟩ (.string (bs (restOf l))) := by
  have c0 := h.cell 0 (by omega)
  have f0 := h.frozen 0
  have hz := bs_size l
  have hw := word_len l
  go_enter Tryz.func133, Tryz.ntmps133
  go_wp2_with fail
  refine (indexB_any l 32 _).mono ?_
  rintro e w1 ⟨rfl, rfl⟩
  rcases word_index l with ⟨a, d⟩ | ⟨a, d, d2⟩
  · rw [a]
    have e1 : ByteArray.empty = bs (restOf l) := by
      rw [← rest_drop, d, List.drop_length]; rfl
    go_wp2
    go_ret
    rw [d]
    exact ⟨rfl, rfl⟩
  · rw [a]
    have e0 : (bs l).extract 0 (wordOf l).length = bs (wordOf l) := by
      rw [bs_extract, ← d]; rfl
    have e1 : (bs l).extract (wordOf l).length l.length = bs (restOf l) := by
      rw [bs_extract, List.take_length, rest_drop]
    have hz2 := bs_size (wordOf l)
    have hn : ¬ ((wordOf l).length : Int) < 0 := by omega
    clear d
    go_wp2
    go_ret
    exact ⟨rfl, rfl⟩
/-- The next word, if a blank stands ahead of it. -/
def nextW : List UInt8 → Option (List UInt8 × List UInt8)
  | [] => none
  | c :: t => if c = 32 then some (wordOf t, restOf t) else none
theorem nextW_cons (c : UInt8) (t : List UInt8) : nextW (c :: t) = if c = 32 then some (wordOf t, restOf t) else none := rfl
theorem nextWord_no (b : Nat) (l : List UInt8) (w : World) (h : Rd w b l) (hn : nextW l = none) : Calls Tryz.prog 131 #[.pointer (some ⟨b, 0, none⟩)] w fun e w' => Bad e ∧ Kp b b w w' := by
  have hs : ∀ t, l ≠ 32 :: t := by
    rintro t rfl
    rw [nextW_cons, if_pos rfl] at hn
    cases hn
  go_enter Tryz.func131, Tryz.ntmps131
  go_wp2_with fail
  refine (blank_no b l _ h hs).mono ?_
  rintro e w1 ⟨rfl, k1⟩
  go_wp2
  exact ⟨rfl, rfl, k1⟩
theorem nextWord_yes (b : Nat) (l wd r : List UInt8) (w : World) (h : Rd w b l) (hl : l.length ≤ 70000) (hn : nextW l = some (wd, r)) : Calls Tryz.prog 131 #[.pointer (some ⟨b, 0, none⟩)] w fun e w' => e = .returned (.string (bs wd)) ∧ Rd w' b r ∧ Kp b b w w' := by
  obtain ⟨t, rfl, hwd, hr⟩ : ∃ t, l = 32 :: t ∧ wordOf t = wd ∧ restOf t = r := by
    cases l with
    | nil => cases hn
    | cons c t =>
      rw [nextW_cons] at hn
      split at hn
      · rename_i hc
        subst hc
        cases hn
        exact ⟨t, rfl, rfl, rfl⟩
      · cases hn
  have h1 := h.set t
  have h2 := h1.set (restOf t)
  have k : Kp b b w ((w.setCell ⟨b, 0, none⟩ (.string (bs t))).setCell ⟨b, 0, none⟩ (.string (bs (restOf t)))) := (Kp.set w ⟨b, 0, none⟩ (.string (bs t)) (.inl rfl)).trans (Kp.set _ ⟨b, 0, none⟩ _ (.inl rfl))
  go_enter Tryz.func131, Tryz.ntmps131
  go_wp2_with fail
  refine (blank_yes b t _ h).mono ?_
  rintro e w1 ⟨rfl, rfl⟩
  go_wp2_with fail
  refine (word_any b t _ h1 (by rw [List.length_cons] at hl; omega)).mono ?_
  rintro e w1 ⟨rfl, rfl⟩
  go_wp2
  go_ret
  rw [hr] at h2 k
  exact ⟨rfl, h2, k⟩
end Go.Proofs.YtepgoehpjafbhaaGreatDoor
