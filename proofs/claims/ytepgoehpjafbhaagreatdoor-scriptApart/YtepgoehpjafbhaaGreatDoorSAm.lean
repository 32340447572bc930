/-
  ScriptApart: what is printed of two crashes with a few fates, and what is read of that.
-/
import Derived.Test.YtepgoehpjafbhaaGreatDoorSHe
namespace Go.Proofs.YtepgoehpjafbhaaGreatDoor
open Go.RowKit S
set_option linter.unusedVariables false
set_option linter.unusedSimpArgs false
theorem addW_short {t s : List UInt8} (h : t.length + s.length ≤ 65536) : addW s (t, false) = (t ++ s, false) := by
  have e : fitB t s.length false = false := by unfold fitB; rw [Bool.false_or]; exact decide_eq_false (by omega)
  unfold addW addT
  simp only [e]
  rfl
theorem wordW_short {t s : List UInt8} (h : t.length + 1 + s.length ≤ 65536) : wordW s (t, false) = (t ++ 32 :: s, false) := by
  unfold wordW
  rw [addW_short (by simp; omega), addW_short (by simp; omega), List.append_assoc]
  rfl
theorem quoW_short {t s : List UInt8} (h : t.length + 1 + (quoteB s).length ≤ 65536) (h2 : s.length ≤ (quoteB s).length) : quoW s (t, false) = (t ++ 32 :: quoteB s, false) := by
  have e : fitB t s.length false = false := by unfold fitB; rw [Bool.false_or]; exact decide_eq_false (by omega)
  unfold quoW
  simp only [e]
  exact wordW_short h
theorem quote_ge (s : List UInt8) : s.length ≤ (quoteB s).length := by
  have := qbs_ge s
  unfold quoteB
  rw [List.length_append, List.length_cons]
  omega
/-- The fate i of ScriptApart. -/
def ftA (t : List UInt8) (i : Nat) : Nat → Value := upd (upd (upd (upd zF 2 (.int .i64 2)) 0 (.string (bs t))) 1 (.int .i64 (i : Int))) 3 (.string (bs t))
def repB : List UInt8 := [114, 101, 112, 108, 97, 99, 101]
/-- Its text, a blank ahead. -/
def ftX (F : Int → List UInt8) (t : List UInt8) (i : Nat) : List UInt8 := 32 :: (repB ++ 32 :: (quoteB t ++ 32 :: (F (i : Int) ++ 32 :: quoteB t)))
theorem dig_len {F : Int → List UInt8} (hF : Sm F) (i : Nat) (h : i < 10) : F (i : Int) = [UInt8.ofNat (48 + i)] := by
  have : ∀ k : Fin 10, Lib.decDigits k.val = [UInt8.ofNat (48 + k.val)] := by decide +kernel
  rw [hF i (by omega)]
  exact this ⟨i, h⟩
theorem quote_le (t : List UInt8) (h : t.length ≤ 60) : (quoteB t).length ≤ 242 := by
  have := qf_len t
  unfold quoteB
  rw [List.length_append, List.length_cons, List.length_singleton]
  omega
theorem ftX_len {F : Int → List UInt8} (hF : Sm F) (t : List UInt8) (h : t.length ≤ 60) (i : Nat) (hi : i < 10) : (ftX F t i).length ≤ 496 := by
  have := quote_le t h
  unfold ftX
  rw [dig_len hF i hi]
  simp only [List.length_cons, List.length_append, repB, List.length_nil]
  omega
theorem fateW_A {F : Int → List UInt8} (hF : Sm F) (t x : List UInt8) (h : t.length ≤ 60) (i : Nat) (hi : i < 10) (hx : x.length ≤ 10000) : fateW F (ftA t i) (x, false) = some (x ++ ftX F t i, false) := by
  have hq := quote_le t h
  have hg := quote_ge t
  have h2 : nmK fateN (kd (ftA t i 2)) = some repB := by
    show nmK fateN 2 = _
    kernel_rfl
  have k1 : kd (ftA t i 1) = (i : Int) := rfl
  have k2 : kd (ftA t i 2) = 2 := rfl
  have k3 : sbv (ftA t i 0) = t := rfl
  have k4 : sbv (ftA t i 3) = t := rfl
  unfold fateW
  rw [h2, k1, k2, k3, k4]
  show some (if (2 : Int) = 2 then _ else _) = _
  rw [if_pos rfl, dig_len hF i hi, wordW_short (by show _ + 1 + 7 ≤ _; omega)]
  rw [quoW_short (by simp only [List.length_append, List.length_cons, repB, List.length_nil]; omega) hg]
  rw [wordW_short (by simp only [List.length_append, List.length_cons, repB, List.length_nil]; omega)]
  rw [quoW_short (by simp only [List.length_append, List.length_cons, repB, List.length_nil]; omega) hg]
  unfold ftX
  rw [dig_len hF i hi]
  simp
/-- m fates from i on, and their text. -/
def ftsA (t : List UInt8) : Nat → Nat → List (Nat → Value)
  | _, 0 => []
  | i, m + 1 => ftA t i :: ftsA t (i + 1) m
def ftsX (F : Int → List UInt8) (t : List UInt8) : Nat → Nat → List UInt8
  | _, 0 => []
  | i, m + 1 => ftX F t i ++ ftsX F t (i + 1) m
theorem ftsX_len {F : Int → List UInt8} (hF : Sm F) (t : List UInt8) (h : t.length ≤ 60) : ∀ m i, i + m ≤ 10 → (ftsX F t i m).length ≤ 496 * m
  | 0, _, _ => by simp [ftsX]
  | m + 1, i, hi => by
    have h1 := ftX_len hF t h i (by omega)
    have h2 := ftsX_len hF t h m (i + 1) (by omega)
    unfold ftsX
    rw [List.length_append]
    omega
theorem fatesW_A {F : Int → List UInt8} (hF : Sm F) (t : List UInt8) (h : t.length ≤ 60) : ∀ m i (x : List UInt8), i + m ≤ 10 → x.length + 496 * m ≤ 10000 → fatesW F (ftsA t i m) (x, false) = some (x ++ ftsX F t i m, false)
  | 0, i, x, _, _ => by
    show some (x, false) = _
    unfold ftsX
    rw [List.append_nil]
  | m + 1, i, x, hi, hx => by
    have h1 := ftX_len hF t h i (by omega)
    have e : ftsA t i (m + 1) = ftA t i :: ftsA t (i + 1) m := rfl
    rw [e, fatesW_cons, fateW_A hF t x h i (by omega) (by omega)]
    show fatesW F (ftsA t (i + 1) m) (x ++ ftX F t i, false) = _
    rw [fatesW_A hF t h m (i + 1) _ (by omega) (by rw [List.length_append]; omega), List.append_assoc]
    rfl
theorem ftsA_len (t : List UInt8) : ∀ m i, (ftsA t i m).length = m
  | 0, _ => rfl
  | m + 1, i => by show (ftsA t (i + 1) m).length + 1 = _; rw [ftsA_len t m (i + 1)]
theorem ftsA_get (t : List UInt8) : ∀ m i j, j < m → (ftsA t i m)[j]? = some (ftA t (i + j))
  | 0, _, _, h => by omega
  | m + 1, i, 0, _ => rfl
  | m + 1, i, j + 1, h => by
    show (ftsA t (i + 1) m)[j]? = _
    rw [ftsA_get t m (i + 1) j (by omega), show i + 1 + j = i + (j + 1) by omega]
theorem ftsA_push (t : List UInt8) : ∀ m i, ftsA t i (m + 1) = ftsA t i m ++ [ftA t (i + m)]
  | 0, i => rfl
  | m + 1, i => by
    show ftA t i :: ftsA t (i + 1) (m + 1) = ftA t i :: ftsA t (i + 1) m ++ [ftA t (i + (m + 1))]
    rw [ftsA_push t m (i + 1), show i + 1 + m = i + (m + 1) by omega]
    rfl
/-- A crash of a side. -/
def cmdS (s : Nat) : Nat → Value := upd (upd (upd (upd (upd zC 0 (.int .i64 2)) 133 (.int .i64 1)) 134 (.int .i64 (s : Int))) 135 (.int .i64 12)) 138 (.int .i64 3)
def lineX (F : Int → List UInt8) (t : List UInt8) (s m : Nat) : List UInt8 := [115, 116, 101, 112] ++ 32 :: (F (s : Int) ++ 32 :: ([99, 114, 97, 115, 104] ++ 32 :: ([51] ++ ftsX F t 0 m)))
theorem lineX_len {F : Int → List UInt8} (hF : Sm F) (t : List UInt8) (h : t.length ≤ 60) (s m : Nat) (hs : s < 10) (hm : m ≤ 5) : (lineX F t s m).length ≤ 2500 := by
  have h1 := ftsX_len hF t h m 0 (by omega)
  unfold lineX
  rw [dig_len hF s hs]
  simp only [List.length_append, List.length_cons, List.length_nil]
  omega
theorem commandW_A {F : Int → List UInt8} (hF : Sm F) (t x : List UInt8) (h : t.length ≤ 60) (s m : Nat) (v : Value) (hs : s < 10) (hm : m ≤ 5) (hx : x.length ≤ 5000) : commandW F (upd (cmdS s) 173 v) (ftsA t 0 m) (x, false) = some (x ++ lineX F t s m, false) := by
  have h0 : headW (upd (cmdS s) 173 v) = some [115, 116, 101, 112] := by
    show (if (2 : Int) = 2 then nmK moveN 1 else nmK commN 2) = _
    kernel_rfl
  have h1 : nmK stepN (kd (upd (cmdS s) 173 v 135)) = some [99, 114, 97, 115, 104] := by
    show nmK stepN 12 = _
    kernel_rfl
  have k0 : kd (upd (cmdS s) 173 v 0) = 2 := rfl
  have k1 : kd (upd (cmdS s) 173 v 133) = 1 := rfl
  have k2 : kd (upd (cmdS s) 173 v 134) = (s : Int) := rfl
  have k3 : kd (upd (cmdS s) 173 v 135) = 12 := rfl
  have k4 : kd (upd (cmdS s) 173 v 138) = ((3 : Nat) : Int) := rfl
  have hfl := ftsX_len hF t h m 0 (by omega)
  unfold commandW moveW stepW
  rw [h0, h1, k0, k1, k2, k3, k4]
  simp only [Option.bind_some, show ((2 : Int) = 1) = False by simp, show ((12 : Int) = 1) = False by simp, show ((12 : Int) = 2) = False by simp, show ((12 : Int) = 3) = False by simp, show ((12 : Int) = 8) = False by simp, show ((12 : Int) = 10 ∨ (12 : Int) = 11) = False by simp, if_false, if_true]
  rw [dig_len hF s hs, dig_len hF 3 (by omega), addW_short (by simp only [List.length_cons, List.length_nil]; omega)]
  rw [wordW_short (by simp only [List.length_append, List.length_cons, List.length_nil]; omega)]
  rw [wordW_short (by simp only [List.length_append, List.length_cons, List.length_nil]; omega)]
  rw [wordW_short (by simp only [List.length_append, List.length_cons, List.length_nil]; omega)]
  rw [fatesW_A hF t h m 0 _ (by omega) (by simp only [List.length_append, List.length_cons, List.length_nil]; omega)]
  unfold lineX
  rw [dig_len hF s hs]
  simp
end Go.Proofs.YtepgoehpjafbhaaGreatDoor
