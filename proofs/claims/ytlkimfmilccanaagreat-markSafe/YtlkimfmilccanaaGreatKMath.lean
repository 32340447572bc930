/-
  A PAYLOAD'S BYTES IN A FILE, PLAIN: what is whole; one byte turned, one more, fewer. Saving and loading on the disk in plain words. Nothing of the program's calls.
-/
import Derived.Test.YtlkimfmilccanaaGreatFMath
import Derived.Test.YtlkimfmilccanaaGreatFWrite
namespace Go.Proofs.YtlkimfmilccanaaGreat
open Go.RowKit
set_option linter.unusedVariables false
def psum (p : Key) : Nat := (Fr.C.on 0#32 (Fr.nb p.length 4 ++ p)).toNat
def pbytes (p : Key) : Key := Fr.nb p.length 4 ++ (Fr.nb (psum p) 4 ++ p)
def wholeP (t : Key) : Option Key := if 8 ≤ t.length ∧ t.length - 8 ≤ 1048448 ∧ pbytes (t.drop 8) = t then some (t.drop 8) else none
theorem psum_lt (p : Key) : psum p < 256 ^ 4 := (Fr.C.on 0#32 (Fr.nb p.length 4 ++ p)).isLt
theorem pbytes_length (p : Key) : (pbytes p).length = p.length + 8 := by
  unfold pbytes
  rw [List.length_append, List.length_append, Fr.nb_length, Fr.nb_length]; omega
theorem pbytes_drop (p : Key) : (pbytes p).drop 8 = p := by
  unfold pbytes
  rw [show 8 = 4 + 4 from rfl, ← List.drop_drop, List.drop_left' (Fr.nb_length _ _), List.drop_left' (Fr.nb_length _ _)]
theorem pbytes_take (p : Key) : (pbytes p).take 4 = Fr.nb p.length 4 := by
  unfold pbytes
  rw [List.take_left' (Fr.nb_length _ _)]
theorem pbytes_mid (p : Key) : ((pbytes p).drop 4).take 4 = Fr.nb (psum p) 4 := by
  unfold pbytes
  rw [List.drop_left' (Fr.nb_length _ _), List.take_left' (Fr.nb_length _ _)]
theorem wholeP_some {t p : Key} (h : wholeP t = some p) : pbytes p = t ∧ p.length ≤ 1048448 := by
  unfold wholeP at h
  split at h
  · rename_i hc
    cases h
    exact ⟨hc.2.2, by rw [List.length_drop]; exact hc.2.1⟩
  · cases h
theorem wholeP_bytes {p : Key} (h : p.length ≤ 1048448) : wholeP (pbytes p) = some p := by
  unfold wholeP
  rw [pbytes_drop, pbytes_length, if_pos ⟨by omega, by omega, rfl⟩]
theorem wholeP_none {t : Key} (h : ∀ p, p.length ≤ 1048448 → pbytes p ≠ t) : wholeP t = none := by
  cases hw : wholeP t with
  | none => rfl
  | some p => exact absurd (wholeP_some hw).1 (h p (wholeP_some hw).2)
theorem short_none {t : Key} (h : t.length < 8) : wholeP t = none := wholeP_none fun p hp e => by
  have := congrArg List.length e
  rw [pbytes_length] at this
  omega
/-- The same first four bytes, another length. -/
theorem other_len {p t : Key} (hp : p.length ≤ 1048448) (h4 : t.take 4 = (pbytes p).take 4) (hl : t.length ≠ p.length + 8) : wholeP t = none := wholeP_none fun q hq e => by
  rw [← e, pbytes_take, pbytes_take] at h4
  have := Fr.nb_inj h4 (by omega) (by omega)
  rw [← e, pbytes_length] at hl
  omega
theorem more_none {p r : Key} (hp : p.length ≤ 1048448) (hr : r ≠ []) : wholeP (pbytes p ++ r) = none := by
  have hl := pbytes_length p
  refine other_len hp (List.take_append_of_le_length (by omega)) ?_
  rw [List.length_append]
  have : r.length ≠ 0 := fun e => hr (List.length_eq_zero_iff.1 e)
  omega
theorem fewer_none {p : Key} (hp : p.length ≤ 1048448) {k : Nat} (hk : k < p.length + 8) : wholeP ((pbytes p).take k) = none := by
  have hl := pbytes_length p
  by_cases h8 : k < 8
  · exact short_none (by rw [List.length_take]; omega)
  · refine other_len hp (by rw [List.take_take]; congr 1; omega) (by rw [List.length_take]; omega)
theorem self_cut {α : Type} (l : List α) (k : Nat) (h : k < l.length) : l = l.take k ++ [l[k]] ++ l.drop (k + 1) := by
  have : l.set k l[k] = l := by simp
  conv => lhs; rw [← this]
  rw [List.set_eq_take_append_cons_drop, if_pos h]; simp
theorem turned_none {p : Key} (hp : p.length ≤ 1048448) {j : Nat} (hj : j < (pbytes p).length) {x : UInt8} (hx : x ≠ (pbytes p)[j]) : wholeP ((pbytes p).set j x) = none := wholeP_none fun q hq e => by
  have hl := pbytes_length p
  have hlen : q.length = p.length := by
    have := congrArg List.length e
    rw [pbytes_length, List.length_set, pbytes_length] at this
    omega
  have hat : (pbytes q)[j]? = some x := by rw [e, List.getElem?_set_self hj]
  have hpj : (pbytes p)[j]? = some (pbytes p)[j] := List.getElem?_eq_getElem hj
  have hne : pbytes q ≠ pbytes p := fun e2 => by
    rw [e2, hpj] at hat
    exact hx (Option.some.inj hat).symm
  have h4 : (pbytes q).take 4 = (pbytes p).take 4 := by rw [pbytes_take, pbytes_take, hlen]
  by_cases h1 : j < 4
  · have a := congrArg (fun l => l[j]?) h4
    simp only [List.getElem?_take, if_pos h1] at a
    rw [hat, hpj] at a
    exact hx (Option.some.inj a)
  by_cases h2 : j < 8
  · apply hne
    have : q = p := by
      have := congrArg (List.drop 8) e
      rw [pbytes_drop, List.drop_set, if_pos h2, pbytes_drop] at this
      exact this
    rw [this]
  have hqp : q = p.set (j - 8) x := by
    have := congrArg (List.drop 8) e
    rw [pbytes_drop, List.drop_set, if_neg h2, pbytes_drop] at this
    exact this
  have hj8 : j - 8 < p.length := by omega
  have hsum : psum q = psum p := by
    have : ((pbytes q).drop 4).take 4 = (((pbytes p).set j x).drop 4).take 4 := by rw [e]
    rw [pbytes_mid, List.drop_set, if_neg h1, List.take_set, List.set_eq_of_length_le (by rw [List.length_take]; omega), pbytes_mid] at this
    exact Fr.nb_inj this (psum_lt _) (psum_lt _)
  have hon : Fr.C.on 0#32 (Fr.nb p.length 4 ++ q) = Fr.C.on 0#32 (Fr.nb p.length 4 ++ p) := by
    have h := BitVec.eq_of_toNat_eq hsum
    rw [hlen] at h
    exact h
  have c1 := self_cut p (j - 8) hj8
  have c2 : q = p.take (j - 8) ++ [x] ++ p.drop (j - 8 + 1) := by
    rw [hqp, List.set_eq_take_append_cons_drop, if_pos hj8]; simp
  have t1 : (Fr.nb p.length 4 ++ p.take (j - 8)) ++ [x] ++ p.drop (j - 8 + 1) = Fr.nb p.length 4 ++ q := by
    rw [c2]; simp only [List.append_assoc]
  have t2 : (Fr.nb p.length 4 ++ p.take (j - 8)) ++ [p[j - 8]] ++ p.drop (j - 8 + 1) = Fr.nb p.length 4 ++ p := by
    have h := congrArg (fun z => Fr.nb p.length 4 ++ z) c1
    simp only [List.append_assoc] at h ⊢
    exact h.symm
  have := Fr.C.tells (Fr.nb p.length 4 ++ p.take (j - 8)) [x] [p[j - 8]] (p.drop (j - 8 + 1)) rfl (by show 1 ≤ 4; decide) (by rw [t1, t2]; exact hon)
  apply hne
  have hxx : x = p[j - 8] := by simpa using this
  rw [show q = p by rw [c2, hxx]; exact c1.symm]
/-! ### what the calls answer -/
def knameOk (k : Key) : Bool := decide (1 ≤ k.length) && decide (k.length ≤ 28) && k.all chOk
def dot : Key := [46, 116, 109, 112]
def AD.lay (A : AD) (d t : Key) : Int × AD :=
  if (A.remove d).1 ≠ 0 ∧ (A.remove d).1 ≠ 5 then A.remove d
  else if ((A.remove d).2.write d 0 t).1 ≠ 0 then (A.remove d).2.write d 0 t
  else if (((A.remove d).2.write d 0 t).2.sync d).1 ≠ 0 then ((((A.remove d).2.write d 0 t).2.sync d).1, ((((A.remove d).2.write d 0 t).2.sync d).2.remove d).2)
  else (0, (((A.remove d).2.write d 0 t).2.sync d).2)
def AD.save (A : AD) (k p : Key) : Int × AD :=
  if knameOk k = false then (1, A)
  else if 1048448 < p.length then (3, A)
  else if (A.lay (k ++ dot) (pbytes p)).1 ≠ 0 then A.lay (k ++ dot) (pbytes p)
  else (A.lay (k ++ dot) (pbytes p)).2.rename (k ++ dot) k
def AD.load (A : AD) (k : Key) : Key × Int :=
  if knameOk k = false then ([], 1)
  else if (A.read k 0 1048576).2 ≠ 0 then ([], (A.read k 0 1048576).2)
  else match wholeP (A.read k 0 1048576).1 with
    | some p => (p, 0)
    | none => ([], 70)
end Go.Proofs.YtlkimfmilccanaaGreat
