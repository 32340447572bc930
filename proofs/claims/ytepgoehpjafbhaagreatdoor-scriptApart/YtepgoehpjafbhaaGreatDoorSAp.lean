/-
  ScriptApart: what is read of the text of two crashes.
-/
import Derived.Test.YtepgoehpjafbhaaGreatDoorSAm
namespace Go.Proofs.YtepgoehpjafbhaaGreatDoor
open Go.RowKit S
set_option linter.unusedVariables false
set_option linter.unusedSimpArgs false
theorem word_of (a b : List UInt8) (h : ∀ c ∈ a, nb c = true) : wordOf (a ++ 32 :: b) = a ∧ restOf (a ++ 32 :: b) = 32 :: b := by
  unfold wordOf restOf
  have e : nb 32 = false := rfl
  refine ⟨?_, ?_⟩
  · rw [List.takeWhile_append_of_pos h, List.takeWhile_cons_of_neg (by rw [e]; decide), List.append_nil]
  · rw [List.dropWhile_append_of_pos h, List.dropWhile_cons_of_neg (by rw [e]; decide)]
/-- A digit is a number that is told so. -/
theorem dig_num : ∀ i : Nat, i < 10 → Lib.parseIntB 64 [UInt8.ofNat (48 + i)] = .ok (i : Int) := by
  intro i h
  rcases (by omega : i = 0 ∨ i = 1 ∨ i = 2 ∨ i = 3 ∨ i = 4 ∨ i = 5 ∨ i = 6 ∨ i = 7 ∨ i = 8 ∨ i = 9) with rfl | rfl | rfl | rfl | rfl | rfl | rfl | rfl | rfl | rfl <;> kernel_rfl
theorem dig_nb (i : Nat) (h : i < 10) : ∀ c ∈ [UInt8.ofNat (48 + i)], nb c = true := by
  have : ∀ k : Fin 10, nb (UInt8.ofNat (48 + k.val)) = true := by decide +kernel
  intro c hc
  rcases List.mem_singleton.1 hc with rfl
  exact this ⟨i, h⟩
theorem numA_dig {F : Int → List UInt8} (hF : Sm F) (i : Nat) (h : i < 10) : numA F [UInt8.ofNat (48 + i)] = some (i : Int) := by
  unfold numA
  rw [dig_num i h]
  show (if F (i : Int) = _ then some (i : Int) else none) = _
  rw [if_pos (dig_len hF i h)]
theorem number_dig {F : Int → List UInt8} (hF : Sm F) (i : Nat) (h : i < 10) (b : List UInt8) : numberA F (32 :: (F (i : Int) ++ 32 :: b)) = some ((i : Int), 32 :: b) ∧ numT (32 :: (F (i : Int) ++ 32 :: b)) := by
  obtain ⟨h1, h2⟩ := word_of _ b (dig_nb i h)
  rw [dig_len hF i h]
  have e : nextW (32 :: ([UInt8.ofNat (48 + i)] ++ 32 :: b)) = some ([UInt8.ofNat (48 + i)], 32 :: b) := by rw [nextW_cons, if_pos rfl, h1, h2]
  refine ⟨?_, numT_of e (dig_num i h)⟩
  unfold numberA
  rw [e]
  show Option.map _ (numA F _) = _
  rw [numA_dig hF i h]
  rfl
theorem quoted_of (t r : List UInt8) : quotedA (32 :: (quoteB t ++ r)) = some (t, r) := by
  have e : (32 :: (quoteB t ++ r) : List UInt8) = 32 :: 34 :: (t.flatMap qb ++ (34 :: r)) := by unfold quoteB; simp
  have hg := qbs_ge t
  rw [e, quotedA_two, if_pos ⟨rfl, rfl⟩]
  rw [show (t.flatMap qb ++ (34 :: r) : List UInt8).length + 1 = ((t.flatMap qb).length - t.length + r.length + 1 + 1) + t.length from (by rw [List.length_append, List.length_cons]; omega), qL_qbs, qL_cons, if_pos rfl]
  show some (t ++ [], r) = _
  rw [List.append_nil]
theorem name_of (zs : List ByteArray) (a b : List UInt8) (k : Int) (h : ∀ c ∈ a, nb c = true) (h1 : kindB zs a = true) (h2 : Lib.idxOfS zs (bs a) = k) : nameA zs (32 :: (a ++ 32 :: b)) = some (k, 32 :: b) := by
  obtain ⟨e1, e2⟩ := word_of a b h
  unfold nameA
  rw [nextW_cons, if_pos rfl, e1, e2]
  show (if kindB zs a then some (Lib.idxOfS zs (bs a), 32 :: b) else none) = _
  rw [if_pos h1, h2]
theorem fateP_A {F : Int → List UInt8} (hF : Sm F) (t r : List UInt8) (i : Nat) (hi : i < 10) : fateP F zF (ftX F t i ++ r) = some (ftA t i, r) ∧ fateT F (ftX F t i ++ r) := by
  have e : ftX F t i ++ r = 32 :: (repB ++ 32 :: (quoteB t ++ 32 :: (F (i : Int) ++ 32 :: (quoteB t ++ r)))) := by unfold ftX; simp
  have hn := name_of fateN repB (quoteB t ++ 32 :: (F (i : Int) ++ 32 :: (quoteB t ++ r))) 2 (by decide) (by kernel_rfl) (by kernel_rfl)
  obtain ⟨h3, h4⟩ := number_dig hF i hi (quoteB t ++ r)
  rw [e]
  refine ⟨?_, fun x1 hx1 x2 hx2 => ?_⟩
  · unfold fateP
    rw [hn]
    show (quotedA (32 :: (quoteB t ++ 32 :: (F (i : Int) ++ 32 :: (quoteB t ++ r))))).bind _ = _
    rw [quoted_of]
    show (numberA F (32 :: (F (i : Int) ++ 32 :: (quoteB t ++ r)))).bind _ = _
    rw [h3]
    rw [Option.bind_some]
    refine (if_pos (show ((2 : Int) = 2) from rfl)).trans ?_
    show (quotedA (32 :: (quoteB t ++ r))).bind _ = _
    rw [quoted_of]
    rfl
  · rw [hn] at hx1
    cases hx1
    rw [quoted_of] at hx2
    cases hx2
    exact ⟨h4, fun _ _ => trivial⟩
theorem fatesA_A {F : Int → List UInt8} (hF : Sm F) (t : List UInt8) : ∀ m i n, i + m ≤ 10 → m ≤ n → fatesA F n (ftsX F t i m) = some (ftsA t i m) ∧ fatesT F n (ftsX F t i m)
  | 0, i, n, _, _ => by
    show fatesA F n [] = some [] ∧ fatesT F n []
    exact ⟨fatesA_nil F n, by cases n <;> exact trivial⟩
  | m + 1, i, 0, _, h => by omega
  | m + 1, i, n + 1, hi, h => by
    obtain ⟨h1, h2⟩ := fateP_A hF t (ftsX F t (i + 1) m) i (by omega)
    obtain ⟨h3, h4⟩ := fatesA_A hF t m (i + 1) n (by omega) (by omega)
    have e : ftsX F t i (m + 1) = ftX F t i ++ ftsX F t (i + 1) m := rfl
    have e2 : ftX F t i ++ ftsX F t (i + 1) m = 32 :: ((repB ++ 32 :: (quoteB t ++ 32 :: (F (i : Int) ++ 32 :: quoteB t))) ++ ftsX F t (i + 1) m) := by unfold ftX; simp
    rw [e]
    refine ⟨?_, ?_⟩
    · rw [e2, fatesA_cons, ← e2, h1]
      show Option.map _ (fatesA F n (ftsX F t (i + 1) m)) = _
      rw [h3]
      rfl
    · rw [e2]
      show fateT F _ ∧ ∀ x, fateP F zF _ = some x → fatesT F n x.2
      rw [← e2]
      refine ⟨h2, fun x hx => ?_⟩
      rw [h1] at hx
      cases hx
      exact h4
theorem line_A {F : Int → List UInt8} (hF : Sm F) (t : List UInt8) (s m : Nat) (hs : s < 10) (hm : m ≤ 5) : lineA F (lineX F t s (m + 1)) = some (cmdS s, ftsA t 0 (m + 1)) ∧ lineT F (lineX F t s (m + 1)) := by
  have h1 : kindB moveN [115, 116, 101, 112] = true := by kernel_rfl
  have h2 : Lib.idxOfS moveN (bs [115, 116, 101, 112]) = 1 := by kernel_rfl
  obtain ⟨Y, hY⟩ : ∃ Y, ftsX F t 0 (m + 1) = 32 :: Y := ⟨_, rfl⟩
  have hlen : m + 1 ≤ (32 :: Y : List UInt8).length := by
    have : ∀ m i, m ≤ (ftsX F t i m).length := by
      intro m
      induction m with
      | zero => intro i; exact Nat.zero_le _
      | succ m ih =>
        intro i
        have := ih (i + 1)
        have e : ftsX F t i (m + 1) = ftX F t i ++ ftsX F t (i + 1) m := rfl
        have e2 : 1 ≤ (ftX F t i).length := by unfold ftX; simp
        rw [e, List.length_append]
        omega
    have := this (m + 1) 0
    rw [hY] at this
    exact this
  obtain ⟨hf1, hf2⟩ := fatesA_A hF t (m + 1) 0 (32 :: Y : List UInt8).length (by omega) hlen
  rw [hY] at hf1 hf2
  have e0 : lineX F t s (m + 1) = [115, 116, 101, 112] ++ 32 :: (F (s : Int) ++ 32 :: ([99, 114, 97, 115, 104] ++ 32 :: ([51] ++ 32 :: Y))) := by unfold lineX; rw [hY]
  obtain ⟨w1, w2⟩ := word_of [115, 116, 101, 112] (F (s : Int) ++ 32 :: ([99, 114, 97, 115, 104] ++ 32 :: ([51] ++ 32 :: Y))) (by decide)
  obtain ⟨n1, n2⟩ := number_dig hF s hs ([99, 114, 97, 115, 104] ++ 32 :: ([51] ++ 32 :: Y))
  have hc := name_of stepN [99, 114, 97, 115, 104] ([51] ++ 32 :: Y) 12 (by decide) (by kernel_rfl) (by kernel_rfl)
  obtain ⟨n3, n4⟩ := number_dig hF 3 (by omega) Y
  rw [dig_len hF 3 (by omega)] at n3 n4
  refine ⟨?_, ?_⟩
  · unfold lineA commandP headA
    rw [e0, w1, w2, if_pos h1, h2]
    show Option.bind (bodyP F 2 1 (upd (upd zC 0 (.int .i64 2)) 133 (.int .i64 1)) _) _ = _
    unfold bodyP
    rw [if_neg (by decide), if_pos rfl]
    unfold moveP
    rw [if_pos rfl, n1]
    show Option.bind (stepP F _ (32 :: ([99, 114, 97, 115, 104] ++ 32 :: ([51] ++ 32 :: Y)))) _ = _
    unfold stepP
    rw [hc]
    simp only [Option.bind_some, show ((12 : Int) = 1) = False by simp, show ((12 : Int) = 2) = False by simp, show ((12 : Int) = 3) = False by simp, show ((12 : Int) = 8) = False by simp, show ((12 : Int) = 10 ∨ (12 : Int) = 11) = False by simp, if_false, if_true]
    have n3' : numberA F (32 :: ([51] ++ 32 :: Y)) = some (3, 32 :: Y) := n3
    rw [n3']
    show Option.bind (Option.bind (fatesA F (32 :: Y : List UInt8).length (32 :: Y)) _) _ = _
    rw [hf1]
    rfl
  · intro f1 hf
    unfold headA at hf
    rw [e0, w1, if_pos h1, h2] at hf
    cases hf
    rw [e0, w2]
    refine ⟨fun e => absurd e (by decide), fun _ => ⟨fun _ => ⟨n2, fun y hy => ?_⟩, fun e => absurd e (by decide)⟩, fun e => absurd e (by decide)⟩
    rw [n1] at hy
    cases hy
    intro x1 hx1
    have hc' : nameA stepN (32 :: ([99, 114, 97, 115, 104] ++ 32 :: ([51] ++ 32 :: Y))) = some (12, 32 :: ([51] ++ 32 :: Y)) := hc
    rw [hc'] at hx1
    cases hx1
    intro _
    refine ⟨n4, fun y hy _ => ?_⟩
    have n3' : numberA F (32 :: ([51] ++ 32 :: Y)) = some (3, 32 :: Y) := n3
    have hy' : numberA F (32 :: ([51] ++ 32 :: Y)) = some y := hy
    rw [n3'] at hy'
    cases hy'
    exact hf2
end Go.Proofs.YtepgoehpjafbhaaGreatDoor
