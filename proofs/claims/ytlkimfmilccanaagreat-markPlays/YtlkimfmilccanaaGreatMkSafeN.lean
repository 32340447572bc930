import Derived.Test.YtlkimfmilccanaaGreatKLoad
import Derived.Test.YtlkimfmilccanaaGreatKRef2
/-
  A MARK'S SLOTS, PLAIN: their bytes, what is whole, which slot is next; Open and Raise on the disk in plain words. Nothing of the program's calls.
-/
namespace Go.Proofs.YtlkimfmilccanaaGreat
open Go.RowKit
set_option linter.unusedVariables false
set_option linter.unusedSimpArgs false
/-- The number's 64 bits. -/
def bits64 (v : Int) : Nat := (v % 18446744073709551616).toNat
/-- The number that 64 bits are. -/
def sgn64 (n : Nat) : Int := IntKind.i64.wrap (n : Int)
def crcN (t : Key) : Nat := (Fr.C.on 0#32 t).toNat
def slotH (v : Int) : Key := Fr.nb (bits64 v) 8 ++ Fr.nb (crcN (Fr.nb (bits64 v) 8)) 4
def slotL (v : Int) : Key := slotH v ++ List.replicate 52 0
def numB (v : Int) : Bool := decide (-1 ≤ v) && decide (v ≤ 281474976710655)
def valL (t : Key) : Int := sgn64 (Fr.be (t.take 8))
def wholeL (t : Key) : Option Int := if numB (valL t) = true ∧ t.take 12 = slotH (valL t) then some (valL t) else none
theorem numB_iff {v : Int} : numB v = true ↔ -1 ≤ v ∧ v ≤ 281474976710655 := by
  unfold numB
  rw [Bool.and_eq_true, decide_eq_true_iff, decide_eq_true_iff]
theorem slotH_length (v : Int) : (slotH v).length = 12 := by
  unfold slotH
  rw [List.length_append, Fr.nb_length, Fr.nb_length]
theorem slotL_length (v : Int) : (slotL v).length = 64 := by
  unfold slotL
  rw [List.length_append, slotH_length, List.length_replicate]
theorem slotL_take (v : Int) : (slotL v).take 12 = slotH v := by
  unfold slotL
  rw [List.take_left' (slotH_length v)]
theorem slotH_take (v : Int) : (slotH v).take 8 = Fr.nb (bits64 v) 8 := by
  unfold slotH
  rw [List.take_left' (Fr.nb_length _ _)]
theorem sgn_bits {v : Int} (h : -9223372036854775808 ≤ v ∧ v < 9223372036854775808) : sgn64 (bits64 v) = v := by
  unfold sgn64 bits64
  rw [IntKind.wrap_i64]
  omega
theorem bits_lt (v : Int) : bits64 v < 256 ^ 8 := by unfold bits64; omega
theorem sgn_wf (n : Nat) : -9223372036854775808 ≤ sgn64 n ∧ sgn64 n < 9223372036854775808 := by
  unfold sgn64
  rw [IntKind.wrap_i64]
  omega
theorem bits_sgn {n : Nat} (h : n < 256 ^ 8) : bits64 (sgn64 n) = n := by
  unfold sgn64 bits64
  rw [IntKind.wrap_i64]
  omega
theorem valL_of {t : Key} {v : Int} (h : t.take 12 = slotH v) (hv : -9223372036854775808 ≤ v ∧ v < 9223372036854775808) : valL t = v := by
  unfold valL
  have : t.take 8 = (t.take 12).take 8 := by rw [List.take_take]; rfl
  rw [this, h, slotH_take, Fr.be_nb, Nat.mod_eq_of_lt (bits_lt v), sgn_bits hv]
theorem wholeL_of {t : Key} {v : Int} (h : t.take 12 = slotH v) (hv : numB v = true) : wholeL t = some v := by
  have hb := numB_iff.1 hv
  have e := valL_of h (by omega)
  unfold wholeL
  rw [e, if_pos ⟨hv, h⟩]
theorem wholeL_slot {v : Int} (hv : numB v = true) : wholeL (slotL v) = some v := wholeL_of (slotL_take v) hv
theorem wholeL_some {t : Key} {v : Int} (h : wholeL t = some v) : numB v = true ∧ t.take 12 = slotH v := by
  unfold wholeL at h
  split at h
  · rename_i hc
    cases h
    exact hc
  · cases h
theorem wholeL_take {t : Key} {n : Nat} (h : 12 ≤ n) : wholeL (t.take n) = wholeL t := by
  have e8 : (t.take n).take 8 = t.take 8 := by rw [List.take_take, Nat.min_eq_left (by omega)]
  have e12 : (t.take n).take 12 = t.take 12 := by rw [List.take_take, Nat.min_eq_left (by omega)]
  unfold wholeL valL
  rw [e8, e12]
/-- The value and the slot that is written next. -/
def pickM : Option Int → Option Int → Option (Int × Nat)
  | none, none => none
  | some x, none => some (x, 1)
  | none, some y => some (y, 0)
  | some x, some y => if x < y then some (y, 0) else some (x, 1)
/-! ### what the calls answer -/
def two1 : Key := slotL (-1) ++ slotL (-1)
theorem two1_length : two1.length = 128 := by unfold two1; rw [List.length_append, slotL_length]
def AD.beginM (A : AD) (k : Key) : Int × AD :=
  if (A.remove (k ++ dot)).1 ≠ 0 ∧ (A.remove (k ++ dot)).1 ≠ 5 then A.remove (k ++ dot)
  else if ((A.remove (k ++ dot)).2.write (k ++ dot) 0 two1).1 ≠ 0 then (A.remove (k ++ dot)).2.write (k ++ dot) 0 two1
  else if (((A.remove (k ++ dot)).2.write (k ++ dot) 0 two1).2.sync (k ++ dot)).1 ≠ 0 then ((A.remove (k ++ dot)).2.write (k ++ dot) 0 two1).2.sync (k ++ dot)
  else (((A.remove (k ++ dot)).2.write (k ++ dot) 0 two1).2.sync (k ++ dot)).2.rename (k ++ dot) k
abbrev MAns := Int × Option (Int × Nat) × AD
def pickT (t : Key) : Option (Int × Nat) := pickM (wholeL (t.take 64)) (wholeL (t.drop 64))
def AD.loadM (A : AD) (k : Key) : MAns :=
  if (A.read k 0 128).2 ≠ 0 then ((A.read k 0 128).2, none, A)
  else match pickT (A.read k 0 128).1 with
    | none => (190, none, A)
    | some m => if (A.sync k).1 ≠ 0 then ((A.sync k).1, none, (A.sync k).2) else (0, some m, (A.sync k).2)
def begA (r : Int × AD) : MAns := (r.1, if r.1 = 0 then some (-1, 1) else none, r.2)
def AD.openM (A : AD) (k : Key) : MAns :=
  if (A.size k).2 = 5 then begA (A.beginM k)
  else if (A.size k).2 ≠ 0 then ((A.size k).2, none, A)
  else if (A.size k).1 ≠ 128 then (190, none, A)
  else A.loadM k
def AD.raiseM (A : AD) (k : Key) (v : Int) (x : Nat) (n : Int) : Int × (Int × Nat) × AD :=
  if numB n = false then (1, (v, x), A)
  else if n ≤ v then (0, (v, x), A)
  else if (A.write k ((64 * x : Nat) : Int) (slotL n)).1 ≠ 0 then ((A.write k ((64 * x : Nat) : Int) (slotL n)).1, (v, x), (A.write k ((64 * x : Nat) : Int) (slotL n)).2)
  else if ((A.write k ((64 * x : Nat) : Int) (slotL n)).2.sync k).1 ≠ 0 then (((A.write k ((64 * x : Nat) : Int) (slotL n)).2.sync k).1, (v, x), ((A.write k ((64 * x : Nat) : Int) (slotL n)).2.sync k).2)
  else (0, (n, 1 - x), ((A.write k ((64 * x : Nat) : Int) (slotL n)).2.sync k).2)
end Go.Proofs.YtlkimfmilccanaaGreat
/-
  MARKSAFE, PLAIN: what a file holds between the steps; Open, Raise, a loss of power. Nothing of the program's calls.
-/
namespace Go.Proofs.YtlkimfmilccanaaGreat
open Go.RowKit Go.Maps
set_option linter.unusedVariables false
def sec (l : Key) (j : Nat) : Key := (l.drop (64 * j)).take 64
/-- A number that was tried, or -1. -/
def TR (tr : List Int) (v : Int) : Prop := v = -1 ∨ v ∈ tr
theorem TR.app {tr : List Int} {v : Int} (h : TR tr v) (n : Int) : TR (tr ++ [n]) v := by
  rcases h with h | h
  · exact .inl h
  · exact .inr (List.mem_append_left _ h)
theorem TR.last (tr : List Int) (n : Int) : TR (tr ++ [n]) n := .inr (by simp)
def mostI (tr : List Int) : Int := tr.foldl (fun m x => if x > m then x else m) (-1)
theorem fold_most (tr : List Int) (m : Int) : m ≤ tr.foldl (fun m x => if x > m then x else m) m ∧ ∀ x ∈ tr, x ≤ tr.foldl (fun m x => if x > m then x else m) m := by
  induction tr generalizing m with
  | nil => exact ⟨Int.le_refl _, by simp⟩
  | cons a r ih =>
    rw [List.foldl_cons]
    by_cases h : a > m
    · rw [if_pos h]
      obtain ⟨h1, h2⟩ := ih a
      refine ⟨by omega, fun x hx => ?_⟩
      rcases List.mem_cons.1 hx with rfl | hx
      · exact h1
      · exact h2 x hx
    · rw [if_neg h]
      obtain ⟨h1, h2⟩ := ih m
      refine ⟨h1, fun x hx => ?_⟩
      rcases List.mem_cons.1 hx with rfl | hx
      · omega
      · exact h2 x hx
theorem TR.most {tr : List Int} {v : Int} (h : TR tr v) : v ≤ mostI tr := by
  obtain ⟨h1, h2⟩ := fold_most tr (-1)
  rcases h with rfl | h
  · exact h1
  · exact h2 v h
structure SF (F : AF) (ac : Int) (tr : List Int) (j : Nat) (g : Int) : Prop where
  j1 : j ≤ 1
  len : F.seen.length = 128
  slen : F.safe.length = 128
  dj : F.dirty j = false
  wj : wholeL (sec F.seen j) = some g
  sj : wholeL (sec F.safe j) = some g
  ga : ac ≤ g
  as_ : ∀ s, s ≤ 1 → ∀ v, wholeL (sec F.seen s) = some v → TR tr v
  af : ∀ s, s ≤ 1 → ∀ v, wholeL (sec F.safe s) = some v → TR tr v
def TI (A : AD) (k : Key) (ac : Int) (tr : List Int) (M : Option (Int × Nat)) : Prop :=
  (fget A.fs k = none ∧ ac = -1 ∧ M = none) ∨ ∃ F j g, fget A.fs k = some F ∧ SF F ac tr j g ∧ ∀ v x, M = some (v, x) → v = g ∧ x = 1 - j
theorem TI.of {A A' : AD} {k : Key} {ac : Int} {tr : List Int} {M : Option (Int × Nat)} (h : TI A k ac tr M) (e : fget A'.fs k = fget A.fs k) : TI A' k ac tr M := by
  rcases h with ⟨h1, h2⟩ | ⟨F, j, g, h1, h2⟩
  · exact .inl ⟨e.trans h1, h2⟩
  · exact .inr ⟨F, j, g, e.trans h1, h2⟩
theorem TI.noM {A : AD} {k : Key} {ac : Int} {tr : List Int} {M : Option (Int × Nat)} (h : TI A k ac tr M) : TI A k ac tr none := by
  rcases h with ⟨h1, h2, _⟩ | ⟨F, j, g, h1, h2, _⟩
  · exact .inl ⟨h1, h2, rfl⟩
  · exact .inr ⟨F, j, g, h1, h2, fun v x h => by cases h⟩
/-! ### the calls' errors -/
theorem count_cases (P : AP) (x : Int) : (P.count x).1 = 9 ∨ (P.count x).1 = 40 ∨ (P.count x).1 = 0 := by
  unfold AP.count
  split
  · exact .inl rfl
  split
  · show (if P.arm = 1 then (40 : Int) else 0) = 9 ∨ _
    split
    · exact .inr (.inl rfl)
    · exact .inr (.inr rfl)
  · exact .inr (.inr rfl)
section
variable {A : AD} {d k k' t : Key} {a : Int} {F : AF}
theorem wr_fail (h : (A.write d a t).1 ≠ 0) : (A.write d a t).2.fs = A.fs := by
  unfold AD.write at h ⊢
  by_cases ho : A.pow.off = true
  · rw [if_pos ho]
  rw [if_neg ho] at h ⊢
  by_cases hf : A.fits d a t.length ≠ 0
  · rw [if_pos hf]
  rw [if_neg hf] at h ⊢
  by_cases hc : (A.pow.count 1).1 ≠ 0
  · rw [if_pos hc]
  rw [if_neg hc] at h
  cases hq : fget A.fs d with
  | none => rw [hq] at h; exact absurd rfl h
  | some F => rw [hq] at h; exact absurd rfl h
theorem wr_some (h0 : fget A.fs d = some F) (h : (A.write d a t).1 = 0) : (A.write d a t).2.fs = fset A.fs d (F.write a.toNat t) := by
  unfold AD.write at h ⊢
  by_cases ho : A.pow.off = true
  · rw [if_pos ho] at h; simp at h
  rw [if_neg ho] at h ⊢
  by_cases hf : A.fits d a t.length ≠ 0
  · rw [if_pos hf] at h; exact absurd h hf
  rw [if_neg hf] at h ⊢
  by_cases hc : (A.pow.count 1).1 ≠ 0
  · rw [if_pos hc] at h; exact absurd h hc
  rw [if_neg hc, h0]
theorem wr_err (hf : A.fits d a t.length = 0 ∨ A.fits d a t.length = 6 ∨ A.fits d a t.length = 41) : (A.write d a t).1 ≠ 1 ∧ (A.write d a t).1 ≠ 190 := by
  unfold AD.write
  by_cases ho : A.pow.off = true
  · rw [if_pos ho]; exact ⟨by show (9 : Int) ≠ 1; decide, by show (9 : Int) ≠ 190; decide⟩
  rw [if_neg ho]
  by_cases hf2 : A.fits d a t.length ≠ 0
  · rw [if_pos hf2]
    show A.fits d a t.length ≠ 1 ∧ A.fits d a t.length ≠ 190
    omega
  rw [if_neg hf2]
  by_cases hc : (A.pow.count 1).1 ≠ 0
  · rw [if_pos hc]
    show (A.pow.count 1).1 ≠ 1 ∧ (A.pow.count 1).1 ≠ 190
    have := count_cases A.pow 1
    omega
  rw [if_neg hc]
  cases fget A.fs d <;> exact ⟨by show (0 : Int) ≠ 1; decide, by show (0 : Int) ≠ 190; decide⟩
theorem sy_fail (h : (A.sync d).1 ≠ 0) : (A.sync d).2.fs = A.fs := by
  unfold AD.sync at h ⊢
  by_cases ho : A.pow.off = true
  · rw [if_pos ho]
  rw [if_neg ho] at h ⊢
  cases hq : fget A.fs d with
  | none => rfl
  | some F =>
    rw [hq] at h
    simp only at h ⊢
    by_cases hc : (A.pow.count 2).1 ≠ 0
    · rw [if_pos hc]
    · rw [if_neg hc] at h; exact absurd rfl h
theorem sy_err : (A.sync d).1 ≠ 1 ∧ (A.sync d).1 ≠ 190 := by
  unfold AD.sync
  by_cases ho : A.pow.off = true
  · rw [if_pos ho]; exact ⟨by show (9 : Int) ≠ 1; decide, by show (9 : Int) ≠ 190; decide⟩
  rw [if_neg ho]
  cases hq : fget A.fs d with
  | none => exact ⟨by show (5 : Int) ≠ 1; decide, by show (5 : Int) ≠ 190; decide⟩
  | some F =>
    simp only
    by_cases hc : (A.pow.count 2).1 ≠ 0
    · rw [if_pos hc]
      show (A.pow.count 2).1 ≠ 1 ∧ (A.pow.count 2).1 ≠ 190
      have := count_cases A.pow 2
      omega
    · rw [if_neg hc]; exact ⟨by show (0 : Int) ≠ 1; decide, by show (0 : Int) ≠ 190; decide⟩
theorem rem_err : (A.remove d).1 ≠ 1 ∧ (A.remove d).1 ≠ 190 := by
  unfold AD.remove
  by_cases ho : A.pow.off = true
  · rw [if_pos ho]; exact ⟨by show (9 : Int) ≠ 1; decide, by show (9 : Int) ≠ 190; decide⟩
  rw [if_neg ho]
  cases hq : fget A.fs d <;> exact ⟨by simp, by simp⟩
theorem ren_err (hk : nameOk k = true) : (A.rename d k).1 ≠ 1 ∧ (A.rename d k).1 ≠ 190 := by
  unfold AD.rename
  by_cases ho : A.pow.off = true
  · rw [if_pos ho]; exact ⟨by show (9 : Int) ≠ 1; decide, by show (9 : Int) ≠ 190; decide⟩
  rw [if_neg ho]
  cases hq : fget A.fs d with
  | none => exact ⟨by simp, by simp⟩
  | some F =>
    simp only
    rw [if_neg (by rw [hk]; simp)]
    exact ⟨by simp, by simp⟩
/-! ### room -/
theorem wr_cap : (A.write d a t).2.cap = A.cap := by
  unfold AD.write
  split
  · rfl
  split
  · rfl
  split
  · rfl
  split <;> rfl
theorem sy_cap : (A.sync d).2.cap = A.cap := by
  unfold AD.sync
  split
  · rfl
  split
  · rfl
  split <;> rfl
theorem rem_cap : (A.remove d).2.cap = A.cap := by
  unfold AD.remove
  split
  · rfl
  split <;> rfl
theorem ren_cap : (A.rename d k).2.cap = A.cap := by
  unfold AD.rename
  split
  · rfl
  split
  · rfl
  split <;> rfl
end
def oneL : Key := [111, 110, 101]
def twoL : Key := [116, 119, 111]
def fourL : List Key := [oneL, twoL, oneL ++ dot, twoL ++ dot]
structure Rm (A : AD) : Prop where
  cap : A.cap = 1000
  fs : ∀ k F, fget A.fs k = some F → k ∈ fourL ∧ F.seen.length ≤ 128
theorem pig (fs : FList) (m : List Key) (hp : fs.Pairwise (fun p q => p.1 ≠ q.1)) (h : ∀ q ∈ fs, q.1 ∈ m ∧ q.2.seen.length ≤ 128) : fs.length ≤ m.length ∧ fused fs ≤ 128 * m.length := by
  induction fs generalizing m with
  | nil => exact ⟨Nat.zero_le _, by simp [fused]⟩
  | cons a r ih =>
    obtain ⟨h1, h2⟩ := List.pairwise_cons.1 hp
    obtain ⟨ha, hl⟩ := h a (by simp)
    obtain ⟨i1, i2⟩ := ih (m.erase a.1) h2 (fun q hq => ⟨(List.mem_erase_of_ne (fun e => h1 q hq e.symm)).2 (h q (by simp [hq])).1, (h q (by simp [hq])).2⟩)
    have hm : 0 < m.length := List.length_pos_of_mem ha
    rw [List.length_erase_of_mem ha] at i1 i2
    rw [fused_cons, List.length_cons]
    omega
theorem Rm.few {A : AD} (h : Rm A) (hok : A.Ok) : A.fs.length ≤ 4 ∧ fused A.fs ≤ 512 := by
  have := pig A.fs fourL (apart_of hok.sorted) (fun q hq => h.fs q.1 q.2 (mem_fget (apart_of hok.sorted) hq))
  exact this
end Go.Proofs.YtlkimfmilccanaaGreat
/-
  MARKSAFE, PLAIN (2): Open and Raise keep a file's word.
-/
namespace Go.Proofs.YtlkimfmilccanaaGreat
open Go.RowKit Go.Maps
set_option linter.unusedVariables false
theorem sec0 (l : Key) : sec l 0 = l.take 64 := by unfold sec; rw [Nat.mul_zero, List.drop_zero]
theorem whole_sec (l : Key) (j : Nat) : wholeL (l.drop (64 * j)) = wholeL (sec l j) := by
  unfold sec
  rw [wholeL_take (by omega)]
theorem pickT_sec (l : Key) : pickT l = pickM (wholeL (sec l 0)) (wholeL (sec l 1)) := by
  unfold pickT
  rw [sec0, ← whole_sec l 1]
/-- What is picked of two sectors, one of which is whole. -/
theorem pick_spec {l : Key} {j : Nat} {g : Int} (hj : j ≤ 1) (hw : wholeL (sec l j) = some g) : ∃ v x, pickT l = some (v, x) ∧ x ≤ 1 ∧ g ≤ v ∧ wholeL (sec l (1 - x)) = some v := by
  rw [pickT_sec]
  rcases (by omega : j = 0 ∨ j = 1) with rfl | rfl
  · rw [hw]
    cases h1 : wholeL (sec l 1) with
    | none => exact ⟨g, 1, rfl, by omega, Int.le_refl _, hw⟩
    | some b =>
      by_cases h : g < b
      · exact ⟨b, 0, by show (if g < b then some (b, 0) else some (g, 1)) = _; rw [if_pos h], by omega, by omega, h1⟩
      · exact ⟨g, 1, by show (if g < b then some (b, 0) else some (g, 1)) = _; rw [if_neg h], by omega, Int.le_refl _, hw⟩
  · rw [hw]
    cases h0 : wholeL (sec l 0) with
    | none => exact ⟨g, 0, rfl, by omega, Int.le_refl _, hw⟩
    | some a =>
      by_cases h : a < g
      · exact ⟨g, 0, by show (if a < g then some (g, 0) else some (a, 1)) = _; rw [if_pos h], by omega, Int.le_refl _, hw⟩
      · exact ⟨a, 1, by show (if a < g then some (g, 0) else some (a, 1)) = _; rw [if_neg h], by omega, by omega, h0⟩
/-! ### a slot is written -/
theorem AF.write_slot {F : AF} {x : Nat} {n : Int} : F.write (64 * x) (slotL n) = ⟨F.seen.take (64 * x) ++ slotL n ++ F.seen.drop (64 * x + 64), F.safe, fun s => F.dirty s || (decide (64 * x / 64 ≤ s) && decide (s ≤ (64 * x + 64 - 1) / 64))⟩ := by
  unfold AF.write
  rw [if_neg (fun e => by have := congrArg List.length e; rw [slotL_length] at this; simp at this), slotL_length]
section
variable {F : AF} {x : Nat} {n : Int}
theorem ws_len (hl : F.seen.length = 128) (hx : x ≤ 1) : (F.write (64 * x) (slotL n)).seen.length = 128 := by
  rw [AF.write_slot]
  simp only [List.length_append, List.length_take, List.length_drop, slotL_length, hl]
  omega
theorem ws_same (hl : F.seen.length = 128) (hx : x ≤ 1) : sec (F.write (64 * x) (slotL n)).seen x = slotL n := by
  rw [AF.write_slot]
  unfold sec
  simp only
  have hlt : (F.seen.take (64 * x)).length = 64 * x := by rw [List.length_take, hl]; omega
  rw [List.append_assoc, List.drop_left' hlt, List.take_left' (slotL_length n)]
theorem ws_other (hl : F.seen.length = 128) (hx : x ≤ 1) : sec (F.write (64 * x) (slotL n)).seen (1 - x) = sec F.seen (1 - x) := by
  rw [AF.write_slot]
  unfold sec
  simp only
  rcases (by omega : x = 0 ∨ x = 1) with rfl | rfl
  · simp only [Nat.mul_zero, List.take_zero, List.nil_append, Nat.zero_add]
    rw [show 64 * (1 - 0) = 64 from rfl, List.drop_left' (slotL_length n)]
  · have hlt : (F.seen.take 64).length = 64 := by rw [List.length_take, hl]; rfl
    show ((F.seen.take 64 ++ slotL n ++ F.seen.drop (64 * 1 + 64)).drop (64 * (1 - 1))).take 64 = _
    rw [show 64 * (1 - 1) = 0 from rfl, List.drop_zero, List.drop_zero, List.append_assoc, List.take_left' hlt]
theorem ws_dirty (hx : x ≤ 1) : (F.write (64 * x) (slotL n)).dirty (1 - x) = F.dirty (1 - x) := by
  rw [AF.write_slot]
  show (F.dirty (1 - x) || (decide (64 * x / 64 ≤ 1 - x) && decide (1 - x ≤ (64 * x + 64 - 1) / 64))) = _
  rcases (by omega : x = 0 ∨ x = 1) with rfl | rfl
  · simp
  · simp
theorem ws_safe : (F.write (64 * x) (slotL n)).safe = F.safe := by rw [AF.write_slot]
end
theorem SF.write {F : AF} {ac : Int} {tr : List Int} {j : Nat} {g n : Int} (h : SF F ac tr j g) (hn : numB n = true) : SF (F.write (64 * (1 - j)) (slotL n)) ac (tr ++ [n]) j g := by
  have hj := h.j1
  have e : 1 - (1 - j) = j := by omega
  have o := ws_other (F := F) (x := 1 - j) (n := n) h.len (by omega)
  have d := ws_dirty (F := F) (x := 1 - j) (n := n) (by omega)
  rw [e] at o d
  refine ⟨hj, ws_len h.len (by omega), by rw [ws_safe]; exact h.slen, by rw [d]; exact h.dj, by rw [o]; exact h.wj, by rw [ws_safe]; exact h.sj, h.ga, fun s hs v hv => ?_, fun s hs v hv => ?_⟩
  · by_cases es : s = j
    · subst es
      rw [o] at hv
      exact (h.as_ s hs v hv).app n
    · have es2 : s = 1 - j := by omega
      subst es2
      rw [ws_same h.len (by omega), wholeL_slot hn] at hv
      cases hv
      exact TR.last tr n
  · rw [ws_safe] at hv
    exact (h.af s hs v hv).app n
theorem SF.synced {F : AF} {ac : Int} {tr : List Int} {x : Nat} {v : Int} (hx : x ≤ 1) (hl : F.seen.length = 128) (hw : wholeL (sec F.seen (1 - x)) = some v) (has : ∀ s, s ≤ 1 → ∀ v, wholeL (sec F.seen s) = some v → TR tr v) : SF F.sync v tr (1 - x) v :=
  ⟨by omega, hl, hl, rfl, hw, hw, Int.le_refl _, has, has⟩
/-! ### Raise -/
section
variable {A : AD} {k : Key} {ac : Int} {tr : List Int} {v n : Int} {x : Nat}
theorem fits_ok {F : AF} (hok : A.Ok) (hk : nameOk k = true) (hF : fget A.fs k = some F) (hl : F.seen.length = 128) (hx : x ≤ 1) : A.fits k ((64 * x : Nat) : Int) 64 = 0 := by
  have hsp := hok.space
  have hfl : A.flen k = 128 := by rw [flen_some hF, hl]; rfl
  rw [fits_rest hk (by rw [hfl]; omega), hfl, hF, if_neg (by omega), if_neg (by simp), if_neg (by omega)]
theorem raise_keeps (hok : A.Ok) (hk : nameOk k = true) (h : TI A k ac tr (some (v, x))) (hn : numB n = true) (hv : v < n) :
    ∃ E v' x' A', A.raiseM k v x n = (E, (v', x'), A') ∧ (E ≠ 0 → v' = v ∧ x' = x ∧ E ≠ 1 ∧ E ≠ 190 ∧ TI A' k ac (tr ++ [n]) (some (v, x))) ∧ (E = 0 → v' = n ∧ x' = 1 - x ∧ TI A' k n (tr ++ [n]) (some (n, 1 - x))) ∧ x' ≤ 1 := by
  rcases h with ⟨_, _, h⟩ | ⟨F, j, g, hF, hs, hm⟩
  · cases h
  obtain ⟨rfl, rfl⟩ := hm v x rfl
  have hj := hs.j1
  have hw := hs.write hn
  have hfit := fits_ok (x := 1 - j) hok hk hF hs.len (by omega)
  have hfit' : A.fits k ((64 * (1 - j) : Nat) : Int) ((slotL n).length : Int) = 0 := by rw [slotL_length]; exact hfit
  obtain ⟨E1, A1, h1⟩ : ∃ E a, A.write k ((64 * (1 - j) : Nat) : Int) (slotL n) = (E, a) := ⟨_, _, rfl⟩
  have q1 : (A.write k ((64 * (1 - j) : Nat) : Int) (slotL n)).1 = E1 := by rw [h1]
  have q2 : (A.write k ((64 * (1 - j) : Nat) : Int) (slotL n)).2 = A1 := by rw [h1]
  obtain ⟨E2, A2, h2⟩ : ∃ E a, A1.sync k = (E, a) := ⟨_, _, rfl⟩
  have q3 : (A1.sync k).1 = E2 := by rw [h2]
  have q4 : (A1.sync k).2 = A2 := by rw [h2]
  unfold AD.raiseM
  rw [if_neg (by rw [hn]; simp), if_neg (by omega), h1]
  simp only [h2]
  by_cases e1 : E1 ≠ 0
  · rw [if_pos e1]
    have hne := wr_err (A := A) (d := k) (a := ((64 * (1 - j) : Nat) : Int)) (t := slotL n) (.inl hfit')
    rw [q1] at hne
    have hfs := wr_fail (A := A) (d := k) (a := ((64 * (1 - j) : Nat) : Int)) (t := slotL n) (by rw [q1]; exact e1)
    rw [q2] at hfs
    refine ⟨E1, v, 1 - j, A1, rfl, fun _ => ⟨rfl, rfl, hne.1, hne.2, .inr ⟨F, j, v, by rw [hfs]; exact hF, ⟨hs.j1, hs.len, hs.slen, hs.dj, hs.wj, hs.sj, hs.ga, fun s a b c => (hs.as_ s a b c).app n, fun s a b c => (hs.af s a b c).app n⟩, fun v' x' e => by cases e; exact ⟨rfl, rfl⟩⟩⟩, fun e => absurd e e1, by omega⟩
  rw [if_neg e1]
  have e1' : E1 = 0 := by omega
  have hfs := wr_some (t := slotL n) (a := ((64 * (1 - j) : Nat) : Int)) hF (by rw [q1]; exact e1')
  rw [q2, Int.toNat_natCast] at hfs
  have hF1 : fget A1.fs k = some (F.write (64 * (1 - j)) (slotL n)) := by rw [hfs]; exact fget_fset_same hF
  by_cases e2 : E2 ≠ 0
  · rw [if_pos e2]
    have hne := sy_err (A := A1) (d := k)
    rw [q3] at hne
    have hfs2 := sy_fail (A := A1) (d := k) (by rw [q3]; exact e2)
    rw [q4] at hfs2
    exact ⟨E2, v, 1 - j, A2, rfl, fun _ => ⟨rfl, rfl, hne.1, hne.2, .inr ⟨_, j, v, by rw [hfs2]; exact hF1, hw, fun v' x' e => by cases e; exact ⟨rfl, rfl⟩⟩⟩, fun e => absurd e e2, by omega⟩
  rw [if_neg e2]
  have hF2 := sy_ok hF1 (by rw [q3]; omega)
  rw [q4] at hF2
  refine ⟨0, n, 1 - (1 - j), A2, rfl, fun e => absurd rfl e, fun _ => ⟨rfl, rfl, .inr ⟨_, 1 - j, n, hF2, ?_, fun v' x' e => by cases e; exact ⟨rfl, rfl⟩⟩⟩, by omega⟩
  have := SF.synced (F := F.write (64 * (1 - j)) (slotL n)) (ac := ac) (x := 1 - (1 - j)) (v := n) (tr := tr ++ [n]) (by omega) hw.len (by rw [show 1 - (1 - (1 - j)) = 1 - j by omega, ws_same hs.len (by omega)]; exact wholeL_slot hn) hw.as_
  rw [show 1 - (1 - (1 - j)) = 1 - j by omega] at this
  exact this
theorem raise_get {k' : Key} (h : k' ≠ k) : fget (A.raiseM k v x n).2.2.fs k' = fget A.fs k' := by
  unfold AD.raiseM
  split
  · rfl
  split
  · rfl
  split
  · exact wr_get h
  split
  · show fget ((A.write k ((64 * x : Nat) : Int) (slotL n)).2.sync k).2.fs k' = _
    rw [sy_get h, wr_get h]
  · show fget ((A.write k ((64 * x : Nat) : Int) (slotL n)).2.sync k).2.fs k' = _
    rw [sy_get h, wr_get h]
theorem raise_cap : (A.raiseM k v x n).2.2.cap = A.cap := by
  unfold AD.raiseM
  split
  · rfl
  split
  · rfl
  split
  · exact wr_cap
  split
  · show ((A.write k ((64 * x : Nat) : Int) (slotL n)).2.sync k).2.cap = _
    rw [sy_cap, wr_cap]
  · show ((A.write k ((64 * x : Nat) : Int) (slotL n)).2.sync k).2.cap = _
    rw [sy_cap, wr_cap]
end
end Go.Proofs.YtlkimfmilccanaaGreat
