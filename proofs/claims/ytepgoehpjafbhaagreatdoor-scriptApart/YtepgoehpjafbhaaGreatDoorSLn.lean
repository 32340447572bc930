/-
  script: a text's lines; is it too long?
-/
import Derived.Test.YtepgoehpjafbhaaGreatDoorSSd
import Derived.Lib.SplitLaws
import Derived.Lib.CountLaws
namespace Go.Proofs.YtepgoehpjafbhaaGreatDoor
open Go.RowKit S
set_option linter.unusedVariables false
set_option linter.unusedSimpArgs false
def pushL (c : UInt8) : List (List UInt8) → List (List UInt8)
  | [] => [[c]]
  | x :: xs => (c :: x) :: xs
/-- What stands between the bytes 10. -/
def linesL : List UInt8 → List (List UInt8)
  | [] => [[]]
  | c :: t => if c = 10 then [] :: linesL t else pushL c (linesL t)
theorem linesL_cons (c : UInt8) (t : List UInt8) : linesL (c :: t) = if c = 10 then [] :: linesL t else pushL c (linesL t) := rfl
theorem lines_cases : ∀ l : List UInt8, (Lib.indexByte l 10 = -1 ∧ linesL l = [l]) ∨ ∃ a b, l = a ++ 10 :: b ∧ Lib.indexByte l 10 = (a.length : Int) ∧ linesL l = a :: linesL b
  | [] => .inl ⟨rfl, rfl⟩
  | c :: t => by
    rw [linesL_cons]
    unfold Lib.indexByte
    by_cases h : c = 10
    · subst h
      exact .inr ⟨[], t, rfl, rfl, rfl⟩
    · have h1 : (c == 10) = false := beq_eq_false_iff_ne.2 h
      rw [h1, if_neg h]
      rcases lines_cases t with ⟨a, d⟩ | ⟨a, d, e1, e2, e3⟩
      · refine .inl ⟨?_, ?_⟩
        · rw [a]; rfl
        · rw [d]; rfl
      · refine .inr ⟨c :: a, d, by rw [e1]; rfl, ?_, ?_⟩
        · rw [e2]
          have e : ((a.length : Int) == -1) = false := by rw [beq_eq_false_iff_ne]; omega
          rw [e, List.length_cons]
          simp
        · rw [e3]; rfl
theorem indexB_10 (l : List UInt8) : Lib.indexB (bs l) ⟨#[10]⟩ = Lib.indexByte l 10 := Lib.index_one l 10
theorem split_lines : ∀ (n : Nat) (l : List UInt8), l.length ≤ n → Lib.countB (bs l) ⟨#[10]⟩ + 1 = (linesL l).length ∧ Lib.splitB ⟨#[10]⟩ 0 (Lib.countB (bs l) ⟨#[10]⟩) (bs l) = (linesL l).map bs := by
  intro n
  induction n with
  | zero =>
    intro l hl
    have : l = [] := List.length_eq_zero_iff.1 (by omega)
    subst this
    have hm : Lib.indexB (bs []) ⟨#[10]⟩ = -1 := indexB_10 []
    rw [Lib.countB_miss _ _ hm]
    exact ⟨rfl, rfl⟩
  | succ n ih =>
    intro l hl
    rcases lines_cases l with ⟨a, d⟩ | ⟨a, d, e1, e2, e3⟩
    · have hm : Lib.indexB (bs l) ⟨#[10]⟩ = -1 := by rw [indexB_10, a]
      rw [Lib.countB_miss _ _ hm, Lib.splitB_miss _ _ _ _ hm, d]
      exact ⟨rfl, rfl⟩
    · have hm : Lib.indexB (bs l) ⟨#[10]⟩ = (a.length : Int) := by rw [indexB_10, e2]
      have hx : (bs l).extract (a.length + 1) (bs l).size = bs d := by
        rw [bs_extract, bs_size, List.take_length, e1, List.drop_append, List.drop_of_length_le (by omega), Nat.add_sub_cancel_left]
        rfl
      have h0 : (bs l).extract 0 (a.length + 0) = bs a := by
        rw [bs_extract, e1, Nat.add_zero, List.take_left]
        rfl
      have hc := Lib.countB_hit (bs l) ⟨#[10]⟩ a.length (by decide) hm
      change Lib.countB (bs l) ⟨#[10]⟩ = 1 + Lib.countB ((bs l).extract (a.length + 1) (bs l).size) ⟨#[10]⟩ at hc
      rw [hx] at hc
      obtain ⟨i1, i2⟩ := ih d (by have := congrArg List.length e1; simp at this; omega)
      refine ⟨by rw [hc, e3, List.length_cons]; omega, ?_⟩
      rw [hc, Nat.add_comm 1, Lib.splitB_hit _ _ _ _ _ hm, e3, List.map_cons, h0]
      change _ :: Lib.splitB ⟨#[10]⟩ 0 _ ((bs l).extract (a.length + 1) (bs l).size) = _
      rw [hx, i2]
theorem split_any {E : Prop} {B : Nat} {F : Int → List UInt8} (l : List UInt8) (w : World) (hE : Env E B F w) (hl : l.length ≤ 70000) :
    Calls Tryz.prog 38 #[.string (bs l), .string ⟨#[10]⟩] w fun e w' => e = .returned (.slice (some ⟨w.heap.size, 0, none⟩) (linesL l).length (linesL l).length) ∧ w' = w.alloc (.cells (nmC ((linesL l).map bs)) 9) := by
  obtain ⟨m, hm⟩ := hE.mx
  obtain ⟨h1, h2⟩ := split_lines l.length l (Nat.le_refl _)
  have h := Any.strings_Split Tryz.laysSplit (by kernel_rfl) (bs l) ⟨#[10]⟩ m w (by rw [bs_size]; omega) hm (by decide)
  rw [h2, h1] at h
  exact h
theorem Nm.len {w : World} {b : Nat} {zs : List ByteArray} (h : Nm w b zs) (j : Nat) (x : ByteArray) (hj : zs[j]? = some x) : w.cell? ⟨b, j, none⟩ = some (.string x) := by
  have hl : j < zs.length := (List.getElem?_eq_some_iff.1 hj).1
  have := h j hl
  rw [Nat.zero_add, List.getD_eq_getElem?_getD, hj] at this
  exact this
theorem Nm.below {w w' : World} {b B : Nat} {zs : List ByteArray} (h : Nm w b zs) (k : Below B w w') (hb : b < B) : Nm w' b zs := fun j hj => (k.cell (p := ⟨b, 0 + j, none⟩) hb).trans (h j hj)
def mostL (ls : List (List UInt8)) : Nat := ls.foldl (fun m x => max m x.length) 0
theorem mostL_snoc (ls : List (List UInt8)) (x : List UInt8) : mostL (ls ++ [x]) = max (mostL ls) x.length := by unfold mostL; rw [List.foldl_append]; rfl
theorem lines_len : ∀ l : List UInt8, (linesL l).length ≤ l.length + 1
  | [] => Nat.le_refl _
  | c :: t => by
    rw [linesL_cons]
    have := lines_len t
    split
    · simp; omega
    · cases h : linesL t with
      | nil => simp [pushL]
      | cons x xs => rw [h] at this; simp [pushL] at this ⊢; omega
theorem line_mem : ∀ (l x : List UInt8), x ∈ linesL l → x.length ≤ l.length
  | [], x, h => by simp [linesL] at h; subst h; simp
  | c :: t, x, h => by
    rw [linesL_cons] at h
    split at h
    · rcases List.mem_cons.1 h with rfl | h
      · simp
      · have := line_mem t x h; simp; omega
    · cases hq : linesL t with
      | nil => rw [hq] at h; simp [pushL] at h; subst h; simp
      | cons y ys =>
        rw [hq] at h
        rcases List.mem_cons.1 h with rfl | h
        · have := line_mem t y (by rw [hq]; simp); simp; omega
        · have := line_mem t x (by rw [hq]; exact List.mem_cons_of_mem _ h); simp; omega
theorem mostL_le {ls : List (List UInt8)} {n : Nat} (h : ∀ x ∈ ls, x.length ≤ n) : mostL ls ≤ n := by
  have : ∀ (ls : List (List UInt8)) (m : Nat), m ≤ n → (∀ x ∈ ls, x.length ≤ n) → ls.foldl (fun m x => max m x.length) m ≤ n := by
    intro ls
    induction ls with
    | nil => intro m hm _; exact hm
    | cons x xs ih => intro m hm hx; exact ih _ (by have := hx x (by simp); show max m x.length ≤ n; omega) (fun y hy => hx y (by simp [hy]))
  exact this ls 0 (Nat.zero_le _) h
set_option maxRecDepth 100000 in
set_option maxHeartbeats 800000 in
theorem longest_any {E : Prop} {B : Nat} {F : Int → List UInt8} (l : List UInt8) (w : World) (hE : Env E B F w) (hl : l.length ≤ 70000) :
    Calls Tryz.prog 35 #[.string (bs l)] w fun e w' => e = .returned (.int .i64 (mostL (linesL l) : Nat)) ∧ Below w.heap.size w w' := by
  have hLn := lines_len l
  have hmem := line_mem l
  obtain ⟨L, hL⟩ : ∃ L, linesL l = L := ⟨_, rfl⟩
  obtain ⟨w1, hw1⟩ : ∃ x, w.alloc (.cells (nmC (L.map bs)) 9) = x := ⟨_, rfl⟩
  have hq := split_any l w hE hl
  rw [hL] at hq hLn hmem ⊢
  rw [hw1] at hq
  have HN1 : Hid (Nm w1 w.heap.size (L.map bs)) := hide (by rw [← hw1]; exact Nm.new w _)
  have HB1 : Hid (Below w.heap.size w w1) := hide (by rw [← hw1]; exact (Below.refl _ w).alloc (Nat.le_refl _) _)
  have Hmem := hide hmem
  clear hL hw1 hmem
  go_enter Tryz.func35, Tryz.ntmps35
  go_wp2_with fail
  refine hq.mono ?_
  rintro e w2 ⟨rfl, rfl⟩
  go_wp2
  go_loopw [3, 9] (fun m i wr => ∃ k : Nat, k ≤ L.length ∧ i = .int .i64 k ∧ m = .int .i64 (mostL (L.take k) : Nat) ∧ wr = w2) (fun _ i _ => L.length - (Lib.intOf i).toNat)
  case atStart => exact ⟨0, by omega, rfl, rfl, rfl⟩
  case round =>
    obtain ⟨k, hk, rfl, rfl, rfl⟩ := hrel
    by_cases hlt : k < L.length
    · have hd : decide ((k : Int) < (L.length : Int)) = true := decide_eq_true (by omega)
      have hx : L[k]? = some L[k] := List.getElem?_eq_getElem hlt
      have c1 := HN1.out.len k (bs L[k]) (by rw [List.getElem?_map, hx]; rfl)
      have hz := bs_size L[k]
      have hzl := Hmem.out L[k] (List.getElem_mem hlt)
      have HM : Hid (mostL (L.take (k + 1)) = max (mostL (L.take k)) L[k].length) := hide (by rw [List.take_add_one, hx, Option.toList_some, mostL_snoc])
      generalize L[k] = xk at c1 hz hzl HM
      generalize mostL (L.take k) = mk at HM ⊢
      clear hx
      go_wp2
      refine ⟨⟨k + 1, by omega, by go_num, ?_, trivial⟩, ?_⟩
      · rw [HM.out]
        congr 1
        omega
      · simp [Lib.intOf]; omega
    · have hke : k = L.length := by omega
      have HM : Hid (mostL (L.take k) = mostL L) := hide (by rw [hke, List.take_length])
      have hd : decide ((k : Int) < (L.length : Int)) = false := decide_eq_false (by omega)
      clear hke
      go_wp2
      go_ret
      rw [HM.out]
      exact ⟨rfl, HB1.out⟩
def lcA (l : List UInt8) : Nat := l.count 10 + (if !l.isEmpty && !Lib.hasSuffix l [10] then 1 else 0)
theorem lc_len (l : List UInt8) : lcA l ≤ l.length + 1 := by
  unfold lcA
  have := List.count_le_length (l := l) (a := (10 : UInt8))
  split <;> omega
theorem count_any (l : List UInt8) (w : World) : Calls Tryz.prog 48 #[.string (bs l), .string ⟨#[10]⟩] w fun e w' => e = .returned (.int .i64 (l.count 10 : Nat)) ∧ w' = w :=
  Any.strings_Count_one Tryz.laysCount (bs l) 10 w
theorem suffix_any (l : List UInt8) (w : World) (hl : l.length ≤ 70000) : Calls Tryz.prog 49 #[.string (bs l), .string ⟨#[10]⟩] w fun e w' => e = .returned (.bool (Lib.hasSuffix l [10])) ∧ w' = w :=
  Any.strings_HasSuffix Tryz.laysHasSuffix (bs l) ⟨#[10]⟩ w (by rw [bs_size]; omega)
set_option maxRecDepth 100000 in
theorem lineCount_any (l : List UInt8) (w : World) (hl : l.length ≤ 70000) : Calls Tryz.prog 34 #[.string (bs l)] w fun e w' => e = .returned (.int .i64 (lcA l : Nat)) ∧ w' = w := by
  obtain ⟨R, hR⟩ : ∃ R, lcA l = R := ⟨_, rfl⟩
  rw [hR]
  have hcl := List.count_le_length (l := l) (a := (10 : UInt8))
  have HR : Hid (R = l.count 10 + (if !l.isEmpty && !Lib.hasSuffix l [10] then 1 else 0)) := hide hR.symm
  have hq := count_any l w
  have hs := suffix_any l w hl
  clear hR
  generalize l.count 10 = cn at hcl HR hq
  generalize Lib.hasSuffix l [10] = sf at HR hs
  go_enter Tryz.func34, Tryz.ntmps34
  go_wp2_with fail
  refine hq.mono ?_
  rintro e w1 ⟨rfl, rfl⟩
  cases l with
  | nil =>
    have he := emp_nil
    have HR2 : Hid (R = cn) := hide (by rw [HR.out]; rfl)
    go_wp2
    go_ret
    rw [HR2.out]
    exact ⟨rfl, rfl⟩
  | cons c t =>
    have he := emp_cons c t
    go_wp2_with fail
    refine hs.mono ?_
    rintro e w2 ⟨rfl, rfl⟩
    cases sf with
    | true =>
      have HR2 : Hid (R = cn) := hide (by rw [HR.out]; rfl)
      go_wp2
      go_ret
      rw [HR2.out]
      exact ⟨rfl, rfl⟩
    | false =>
      have HR2 : Hid (R = cn + 1) := hide (by rw [HR.out]; rfl)
      go_wp2
      go_ret
      rw [HR2.out]
      exact ⟨rfl, rfl⟩
def tooL (l : List UInt8) : Bool := decide (65536 < l.length) || (decide (1024 < lcA l) || decide (4096 < mostL (linesL l)))
set_option maxRecDepth 100000 in
theorem tooLong_any {E : Prop} {B : Nat} {F : Int → List UInt8} (l : List UInt8) (w : World) (hE : Env E B F w) (hl : l.length ≤ 65536) :
    Calls Tryz.prog 24 #[.string (bs l)] w fun e w' => e = .returned (.bool (tooL l)) ∧ Below w.heap.size w w' := by
  have hz := bs_size l
  have hd : decide ((65536 : Int) < (l.length : Int)) = false := decide_eq_false (by omega)
  have hq := lineCount_any l w (by omega)
  have hm := longest_any l w hE (by omega)
  have hlc := lc_len l
  have hmo := mostL_le (line_mem l)
  obtain ⟨R, hR⟩ : ∃ R, tooL l = R := ⟨_, rfl⟩
  rw [hR]
  have HR : Hid (R = (decide (1024 < lcA l) || decide (4096 < mostL (linesL l)))) := hide (by rw [← hR]; unfold tooL; rw [decide_eq_false (by omega), Bool.false_or])
  clear hR
  generalize lcA l = lc at hq hlc HR
  generalize mostL (linesL l) = mo at hm hmo HR
  go_enter Tryz.func24, Tryz.ntmps24
  go_wp2_with fail
  refine hq.mono ?_
  rintro e w1 ⟨rfl, rfl⟩
  by_cases h1 : 1024 < lc
  · have hd1 : decide ((1024 : Int) < (lc : Int)) = true := decide_eq_true (by omega)
    have HR2 : Hid (R = true) := hide (by rw [HR.out, decide_eq_true h1]; rfl)
    go_wp2
    go_ret
    rw [HR2.out]
    exact ⟨rfl, Below.refl _ _⟩
  · have hd1 : decide ((1024 : Int) < (lc : Int)) = false := decide_eq_false (by omega)
    have HR2 : Hid (R = decide ((4096 : Int) < (mo : Int))) := hide (by rw [HR.out, decide_eq_false h1, Bool.false_or]; exact decide_eq_decide.2 (by omega))
    go_wp2_with fail
    refine hm.mono ?_
    rintro e w2 ⟨rfl, hb2⟩
    go_wp2
    go_ret
    rw [HR2.out]
    exact ⟨rfl, hb2⟩
end Go.Proofs.YtepgoehpjafbhaaGreatDoor
