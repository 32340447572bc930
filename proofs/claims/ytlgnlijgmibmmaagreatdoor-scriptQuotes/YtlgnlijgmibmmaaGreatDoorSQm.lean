/-
  ScriptQuotes: what Parse tells of a line with a quoted text.
-/
import Derived.Test.YtlgnlijgmibmmaaGreatDoorSPa
import Derived.Test.YtlgnlijgmibmmaaGreatDoorSQo
import Derived.Test.YtlgnlijgmibmmaaGreatDoorSFi
namespace Go.Proofs.YtlgnlijgmibmmaaGreatDoor
open Go.RowKit S
set_option linter.unusedVariables false
set_option linter.unusedSimpArgs false
/-- The longest way. -/
def hx (c : UInt8) : List UInt8 := [92, 120, hexd (c.toNat / 16), hexd (c.toNat % 16)]
theorem hx_val : ∀ c : UInt8, 0 ≤ valA (hexd (c.toNat / 16)) ∧ 0 ≤ valA (hexd (c.toNat % 16)) ∧ byteA (hexd (c.toNat / 16)) (hexd (c.toNat % 16)) = c := by
  have h : ∀ i : Fin 256, 0 ≤ valA (hexd ((UInt8.ofNat i.val).toNat / 16)) ∧ 0 ≤ valA (hexd ((UInt8.ofNat i.val).toNat % 16)) ∧ byteA (hexd ((UInt8.ofNat i.val).toNat / 16)) (hexd ((UInt8.ofNat i.val).toNat % 16)) = UInt8.ofNat i.val := by decide +kernel
  intro c
  have := h ⟨c.toNat, c.toNat_lt⟩
  simpa using this
def preQ (c : List UInt8) (x : Option (List UInt8 × List UInt8)) : Option (List UInt8 × List UInt8) := x.map fun y => (c ++ y.1, y.2)
theorem preQ_nil (x : Option (List UInt8 × List UInt8)) : preQ [] x = x := by cases x <;> rfl
theorem preQ_cons (c : UInt8) (s : List UInt8) (x : Option (List UInt8 × List UInt8)) : preQ [c] (preQ s x) = preQ (c :: s) x := by cases x <;> rfl
theorem qL_hx (n : Nat) (c : UInt8) (t : List UInt8) : qL (n + 1) (hx c ++ t) = preQ [c] (qL n t) := by
  obtain ⟨h1, h2, h3⟩ := hx_val c
  show qL (n + 1) (92 :: 120 :: hexd (c.toNat / 16) :: hexd (c.toNat % 16) :: t) = _
  rw [qL_cons, if_neg (by decide), if_pos (by decide), if_pos rfl, escA_cons, if_pos rfl, escX_two, if_pos ⟨h1, h2⟩, h3]
  rfl
theorem qL_qb (n : Nat) (c : UInt8) (t : List UInt8) : qL (n + 1) (qb c ++ t) = preQ [c] (qL n t) := by
  unfold qb
  by_cases h : isPl c = true
  · rw [if_pos h]
    by_cases h2 : c = 34 ∨ c = 92
    · rw [if_pos h2]
      show qL (n + 1) (92 :: c :: t) = _
      rw [qL_cons, if_neg (by decide), if_pos (by decide), if_pos rfl, escA_cons, if_neg (by rcases h2 with rfl | rfl <;> decide), if_pos h2]
      rfl
    · rw [if_neg h2]
      show qL (n + 1) (c :: t) = _
      rw [qL_cons, if_neg (fun e => h2 (.inl e)), if_pos h, if_neg (fun e => h2 (.inr e))]
      rfl
  · rw [if_neg h]
    exact qL_hx n c t
theorem qL_hxs (n : Nat) (t : List UInt8) : ∀ s : List UInt8, qL (n + s.length) (s.flatMap hx ++ t) = preQ s (qL n t)
  | [] => by rw [preQ_nil]; rfl
  | c :: s => by
    rw [List.flatMap_cons, List.length_cons, ← Nat.add_assoc, List.append_assoc, qL_hx, qL_hxs n t s, preQ_cons]
theorem qL_qbs (n : Nat) (t : List UInt8) : ∀ s : List UInt8, qL (n + s.length) (s.flatMap qb ++ t) = preQ s (qL n t)
  | [] => by rw [preQ_nil]; rfl
  | c :: s => by
    rw [List.flatMap_cons, List.length_cons, ← Nat.add_assoc, List.append_assoc, qL_qb, qL_qbs n t s, preQ_cons]
theorem hxs_len : ∀ s : List UInt8, (s.flatMap hx).length = 4 * s.length
  | [] => rfl
  | c :: s => by rw [List.flatMap_cons, List.length_append, List.length_cons, hxs_len s]; show 4 + _ = _; omega
theorem qbs_ge : ∀ s : List UInt8, s.length ≤ (s.flatMap qb).length
  | [] => Nat.le_refl _
  | c :: s => by
    have := qbs_ge s
    have h1 : 1 ≤ (qb c).length := by unfold qb; split <;> (try split) <;> simp
    rw [List.flatMap_cons, List.length_append, List.length_cons]; omega
theorem qL_end (n : Nat) : qL (n + 1) [34] = some ([], []) := by rw [qL_cons, if_pos rfl]
/-- Bytes that a quoted text may have. -/
def plainL (l : List UInt8) : Prop := ∀ c ∈ l, isPl c = true
theorem qb_plain : ∀ c : UInt8, plainL (qb c) := by
  have h : ∀ i : Fin 256, (qb (UInt8.ofNat i.val)).all isPl = true := by decide +kernel
  intro c x hx
  have := h ⟨c.toNat, c.toNat_lt⟩
  simp only [UInt8.ofNat_toNat] at this
  exact List.all_eq_true.1 this x hx
theorem hx_plain : ∀ c : UInt8, plainL (hx c) := by
  have h : ∀ i : Fin 256, (hx (UInt8.ofNat i.val)).all isPl = true := by decide +kernel
  intro c x hx'
  have := h ⟨c.toNat, c.toNat_lt⟩
  simp only [UInt8.ofNat_toNat] at this
  exact List.all_eq_true.1 this x hx'
theorem plain_flat {g : UInt8 → List UInt8} (hg : ∀ c, plainL (g c)) (s : List UInt8) : plainL (s.flatMap g) := fun x hx => by
  obtain ⟨c, _, h⟩ := List.mem_flatMap.1 hx
  exact hg c x h
theorem plain_app {a b : List UInt8} (h : plainL a) (k : plainL b) : plainL (a ++ b) := fun x hx => (List.mem_append.1 hx).elim (h x) (k x)
theorem plain_quote (s : List UInt8) : plainL (quoteB s) := by
  unfold quoteB
  intro x hx
  rcases List.mem_append.1 hx with h | h
  · rcases List.mem_cons.1 h with rfl | h
    · rfl
    · exact plain_flat qb_plain s x h
  · rcases List.mem_singleton.1 h with rfl
    rfl
theorem lines_one : ∀ l : List UInt8, 10 ∉ l → linesL l = [l]
  | [], _ => rfl
  | c :: t, h => by
    rw [linesL_cons, if_neg (fun e => h (by rw [e]; exact List.mem_cons_self)), lines_one t (fun e => h (List.mem_cons_of_mem _ e))]
    rfl
theorem tooL_one (l : List UInt8) (h : 10 ∉ l) (hl : l.length ≤ 4096) : tooL l = false := by
  have h1 : l.count 10 = 0 := List.count_eq_zero.2 h
  have h2 : lcA l ≤ 1024 := by unfold lcA; rw [h1]; split <;> omega
  unfold tooL
  rw [lines_one l h]
  show (decide (65536 < l.length) || (decide (1024 < lcA l) || decide (4096 < max 0 l.length))) = false
  rw [decide_eq_false (by omega), decide_eq_false (by omega), decide_eq_false (by omega)]
  rfl
/-- "step 5 take " -/
def pre5 : List UInt8 := [115, 116, 101, 112, 32, 53, 32, 116, 97, 107, 101, 32]
def cmd5 (s : List UInt8) : Nat → Value := upd (upd (upd (upd (upd zC 0 (.int .i64 2)) 133 (.int .i64 1)) 134 (.int .i64 5)) 135 (.int .i64 8)) 172 (.string (bs s))
theorem word5 (t : List UInt8) : wordOf (pre5 ++ t) = [115, 116, 101, 112] := rfl
theorem rest5 (t : List UInt8) : restOf (pre5 ++ t) = 32 :: 53 :: 32 :: 116 :: 97 :: 107 :: 101 :: 32 :: t := rfl
theorem num5 (F : Int → List UInt8) (hF : F 5 = [53]) (t : List UInt8) : numberA F (32 :: 53 :: 32 :: t) = some (5, 32 :: t) := by
  have h : Lib.parseIntB 64 [53] = .ok 5 := by kernel_rfl
  show Option.map _ (match Lib.parseIntB 64 [53] with | .ok v => if F v = [53] then some v else none | _ => none) = _
  rw [h]
  show Option.map _ (if F 5 = [53] then some 5 else none) = _
  rw [if_pos hF]
  rfl
theorem name5 (t : List UInt8) : nameA stepN (32 :: 116 :: 97 :: 107 :: 101 :: 32 :: t) = some (8, 32 :: t) := by
  have h : kindB stepN [116, 97, 107, 101] = true := by kernel_rfl
  have h2 : Lib.idxOfS stepN (bs [116, 97, 107, 101]) = 8 := by kernel_rfl
  show (if kindB stepN [116, 97, 107, 101] then some (Lib.idxOfS stepN (bs [116, 97, 107, 101]), 32 :: t) else none) = _
  rw [h, h2]
  rfl
theorem line5 (F : Int → List UInt8) (hF : F 5 = [53]) (t : List UInt8) : lineA F (pre5 ++ 34 :: t) = match qL (t.length + 1) t with
    | some (s, []) => some (cmd5 s, [])
    | _ => none := by
  have h1 : kindB moveN [115, 116, 101, 112] = true := by kernel_rfl
  have h2 : Lib.idxOfS moveN (bs [115, 116, 101, 112]) = 1 := by kernel_rfl
  unfold lineA commandP headA
  rw [word5, rest5, if_pos h1, h2]
  show Option.bind (bodyP F 2 1 (upd (upd zC 0 (.int .i64 2)) 133 (.int .i64 1)) _) _ = _
  unfold bodyP
  rw [if_neg (by decide), if_pos rfl]
  unfold moveP
  rw [if_pos rfl, num5 F hF]
  show Option.bind (stepP F _ (32 :: 116 :: 97 :: 107 :: 101 :: 32 :: 34 :: t)) _ = _
  unfold stepP
  rw [name5]
  simp only [Option.bind_some, show ((8 : Int) = 1) = False by simp, show ((8 : Int) = 2) = False by simp, show ((8 : Int) = 3) = False by simp, if_false, if_true, quotedA_two, and_self]
  cases h : qL (t.length + 1) t with
  | none => rfl
  | some y =>
    obtain ⟨s, r⟩ := y
    cases r with
    | nil => rfl
    | cons c r => rfl
theorem read5 (F : Int → List UInt8) (hF : F 5 = [53]) (t : List UInt8) (h10 : 10 ∉ t) (hl : t.length ≤ 4000) : parseA F (pre5 ++ 34 :: t) = match qL (t.length + 1) t with
    | some (s, []) => ([(cmd5 s, [])], 0)
    | _ => ([], 250) := by
  have h : 10 ∉ pre5 ++ 34 :: t := by
    intro e
    rcases List.mem_append.1 e with e | e
    · revert e; decide
    · rcases List.mem_cons.1 e with e | e
      · revert e; decide
      · exact h10 e
  unfold parseA
  rw [tooL_one _ h (by simp [pre5]; omega), lines_one _ h, if_neg (by decide), readA_cons, if_neg (by show ¬ (false = true); decide), line5 F hF]
  cases h : qL (t.length + 1) t with
  | none => rfl
  | some y =>
    obtain ⟨s, r⟩ := y
    cases r with
    | nil => rfl
    | cons c r => rfl
theorem no10 {l : List UInt8} (h : plainL l) : 10 ∉ l := fun e => by have := h 10 e; revert this; decide
/-- Quote's text is read as the text. -/
theorem read_quote (F : Int → List UInt8) (hF : F 5 = [53]) (s : List UInt8) (hs : s.length ≤ 900) : parseA F (pre5 ++ quoteB s) = ([(cmd5 s, [])], 0) := by
  have h1 := qf_len s
  have h2 := qbs_ge s
  have e : quoteB s = 34 :: (s.flatMap qb ++ [34]) := rfl
  rw [e, read5 F hF _ (no10 (plain_app (plain_flat qb_plain s) (fun x hx => by rcases List.mem_singleton.1 hx with rfl; rfl))) (by rw [List.length_append, List.length_singleton]; omega)]
  rw [show (s.flatMap qb ++ [34] : List UInt8).length + 1 = ((s.flatMap qb).length - s.length + 1 + 1) + s.length from (by rw [List.length_append, List.length_singleton]; omega), qL_qbs, qL_end]
  show (match (some (s ++ [], []) : Option (List UInt8 × List UInt8)) with | some (s, []) => ([(cmd5 s, [])], 0) | _ => (([], 250) : List Cd × Int)) = _
  rw [List.append_nil]
def longB (s : List UInt8) : List UInt8 := 34 :: (s.flatMap hx ++ [34])
theorem long_len (s : List UInt8) : (longB s).length = 4 * s.length + 2 := by unfold longB; rw [List.length_cons, List.length_append, hxs_len]; rfl
theorem read_long (F : Int → List UInt8) (hF : F 5 = [53]) (s : List UInt8) (hs : s.length ≤ 900) : parseA F (pre5 ++ longB s) = ([(cmd5 s, [])], 0) := by
  have h1 := hxs_len s
  unfold longB
  rw [read5 F hF _ (no10 (plain_app (plain_flat hx_plain s) (fun x hx => by rcases List.mem_singleton.1 hx with rfl; rfl))) (by rw [List.length_append, List.length_singleton]; omega)]
  rw [show (s.flatMap hx ++ [34] : List UInt8).length + 1 = ((s.flatMap hx).length - s.length + 1 + 1) + s.length from (by rw [List.length_append, List.length_singleton]; omega), qL_hxs, qL_end]
  show (match (some (s ++ [], []) : Option (List UInt8 × List UInt8)) with | some (s, []) => ([(cmd5 s, [])], 0) | _ => (([], 250) : List Cd × Int)) = _
  rw [List.append_nil]
/-- What stands in quotes otherwise is refused: behind j escapes there is something that is none. -/
theorem read_bad (F : Int → List UInt8) (hF : F 5 = [53]) (a t : List UInt8) (ha : a.length ≤ 900) (ht : t.length ≤ 400 ∨ a.length * 4 + t.length ≤ 4000) (h10 : 10 ∉ t) (hb : ∀ n, qL n t = none) : parseA F (pre5 ++ 34 :: (a.flatMap hx ++ t)) = ([], 250) := by
  have h1 := hxs_len a
  rw [read5 F hF _ (fun e => (List.mem_append.1 e).elim (no10 (plain_flat hx_plain a)) h10) (by rw [List.length_append]; omega)]
  rw [show (a.flatMap hx ++ t).length + 1 = ((a.flatMap hx).length - a.length + t.length + 1) + a.length from (by rw [List.length_append]; omega), qL_hxs, hb]
  rfl
theorem bad_byte (c : UInt8) (t : List UInt8) (h : isPl c = false) : ∀ n, qL n (c :: t) = none
  | 0 => rfl
  | n + 1 => by
    rw [qL_cons, if_neg (fun e => by rw [e] at h; revert h; decide), if_neg (by rw [h]; decide)]
theorem bad_end : ∀ n, qL n [] = none := qL_nil
theorem bad_q (t : List UInt8) : ∀ n, qL n (92 :: 113 :: t) = none
  | 0 => rfl
  | n + 1 => by
    rw [qL_cons, if_neg (by decide), if_pos (by decide), if_pos rfl, escA_cons, if_neg (by decide), if_neg (by decide)]
    rfl
theorem bad_A (t : List UInt8) : ∀ n, qL n (92 :: 120 :: 65 :: 48 :: t) = none
  | 0 => rfl
  | n + 1 => by
    rw [qL_cons, if_neg (by decide), if_pos (by decide), if_pos rfl, escA_cons, if_pos rfl, escX_two, if_neg (by decide)]
    rfl
theorem lineT_5 (F : Int → List UInt8) (t : List UInt8) : lineT F (pre5 ++ t) := by
  have h1 : kindB moveN [115, 116, 101, 112] = true := by kernel_rfl
  have h2 : Lib.idxOfS moveN (bs [115, 116, 101, 112]) = 1 := by kernel_rfl
  intro f1 hf
  unfold headA at hf
  rw [word5, if_pos h1, h2] at hf
  cases hf
  rw [rest5]
  refine ⟨fun e => absurd e (by decide), fun _ => ⟨fun _ => ⟨fun x hx => ?_, fun y hy => ?_⟩, fun e => absurd e (by decide)⟩, fun e => absurd e (by decide)⟩
  · have e : nextW (32 :: 53 :: 32 :: 116 :: 97 :: 107 :: 101 :: 32 :: t) = some ([53], 32 :: 116 :: 97 :: 107 :: 101 :: 32 :: t) := rfl
    rw [e] at hx
    cases hx
    exact ⟨5, by kernel_rfl⟩
  · have e : y.2 = 32 :: 116 :: 97 :: 107 :: 101 :: 32 :: t := by
      change Option.map _ (numA F [53]) = _ at hy
      cases h : numA F [53] with
      | none => rw [h] at hy; cases hy
      | some v => rw [h] at hy; cases hy; rfl
    rw [e]
    intro x1 hx1
    rw [name5] at hx1
    cases hx1
    intro e
    exact absurd (show (8 : Int) = 1 ∨ (8 : Int) = 2 ∨ (8 : Int) = 3 ∨ (8 : Int) = 10 ∨ (8 : Int) = 11 ∨ (8 : Int) = 12 from e) (by decide)
theorem textT_5 (F : Int → List UInt8) (t : List UInt8) (h10 : 10 ∉ t) : ∀ x ∈ linesL (pre5 ++ t), noth x = false → lineT F x := by
  have h : 10 ∉ pre5 ++ t := by
    intro e
    rcases List.mem_append.1 e with e | e
    · revert e; decide
    · exact h10 e
  rw [lines_one _ h]
  intro x hx _
  rcases List.mem_singleton.1 hx with rfl
  exact lineT_5 F t
end Go.Proofs.YtlgnlijgmibmmaaGreatDoor
