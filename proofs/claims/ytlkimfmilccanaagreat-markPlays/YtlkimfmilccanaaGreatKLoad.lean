import Derived.Test.YtlkimfmilccanaaGreatFMath
import Derived.Test.YtlkimfmilccanaaGreatFWrite
import Derived.Test.YtlkimfmilccanaaGreatCurLay
import Derived.Laws.Concat
import Derived.Test.YtlkimfmilccanaaGreatHeap
/-
  A PAYLOAD'S BYTES IN A FILE, PLAIN: what is whole; one byte turned, one more, fewer. Saving and loading on the disk in plain words. Nothing of the program's calls.
-/
namespace Go.Proofs.YtlkimfmilccanaaGreat
open Go.RowKit
set_option linter.unusedVariables false
def psum (p : Key) : Nat := (Fr.C.on 0#32 (Fr.nb p.length 4 ++ p)).toNat
def pbytes (p : Key) : Key := Fr.nb p.length 4 ++ (Fr.nb (psum p) 4 ++ p)
def wholeP (t : Key) : Option Key := if 8 ≤ t.length ∧ t.length - 8 ≤ 1048448 ∧ pbytes (t.drop 8) = t then some (t.drop 8) else none
theorem psum_lt (p : Key) : psum p < 256 ^ 4 := (Fr.C.on 0#32 (Fr.nb p.length 4 ++ p)).isLt
theorem pbytes_length (p : Key) : (pbytes p).length = p.length + 8 := by
  unfold pbytes
  rw [List.length_append, List.length_append, Fr.nb_length, Fr.nb_length]; omega
theorem pbytes_drop (p : Key) : (pbytes p).drop 8 = p := by
  unfold pbytes
  rw [show 8 = 4 + 4 from rfl, ← List.drop_drop, List.drop_left' (Fr.nb_length _ _), List.drop_left' (Fr.nb_length _ _)]
theorem pbytes_take (p : Key) : (pbytes p).take 4 = Fr.nb p.length 4 := by
  unfold pbytes
  rw [List.take_left' (Fr.nb_length _ _)]
theorem pbytes_mid (p : Key) : ((pbytes p).drop 4).take 4 = Fr.nb (psum p) 4 := by
  unfold pbytes
  rw [List.drop_left' (Fr.nb_length _ _), List.take_left' (Fr.nb_length _ _)]
theorem wholeP_some {t p : Key} (h : wholeP t = some p) : pbytes p = t ∧ p.length ≤ 1048448 := by
  unfold wholeP at h
  split at h
  · rename_i hc
    cases h
    exact ⟨hc.2.2, by rw [List.length_drop]; exact hc.2.1⟩
  · cases h
theorem wholeP_bytes {p : Key} (h : p.length ≤ 1048448) : wholeP (pbytes p) = some p := by
  unfold wholeP
  rw [pbytes_drop, pbytes_length, if_pos ⟨by omega, by omega, rfl⟩]
theorem wholeP_none {t : Key} (h : ∀ p, p.length ≤ 1048448 → pbytes p ≠ t) : wholeP t = none := by
  cases hw : wholeP t with
  | none => rfl
  | some p => exact absurd (wholeP_some hw).1 (h p (wholeP_some hw).2)
theorem short_none {t : Key} (h : t.length < 8) : wholeP t = none := wholeP_none fun p hp e => by
  have := congrArg List.length e
  rw [pbytes_length] at this
  omega
/-- The same first four bytes, another length. -/
theorem other_len {p t : Key} (hp : p.length ≤ 1048448) (h4 : t.take 4 = (pbytes p).take 4) (hl : t.length ≠ p.length + 8) : wholeP t = none := wholeP_none fun q hq e => by
  rw [← e, pbytes_take, pbytes_take] at h4
  have := Fr.nb_inj h4 (by omega) (by omega)
  rw [← e, pbytes_length] at hl
  omega
theorem more_none {p r : Key} (hp : p.length ≤ 1048448) (hr : r ≠ []) : wholeP (pbytes p ++ r) = none := by
  have hl := pbytes_length p
  refine other_len hp (List.take_append_of_le_length (by omega)) ?_
  rw [List.length_append]
  have : r.length ≠ 0 := fun e => hr (List.length_eq_zero_iff.1 e)
  omega
theorem fewer_none {p : Key} (hp : p.length ≤ 1048448) {k : Nat} (hk : k < p.length + 8) : wholeP ((pbytes p).take k) = none := by
  have hl := pbytes_length p
  by_cases h8 : k < 8
  · exact short_none (by rw [List.length_take]; omega)
  · refine other_len hp (by rw [List.take_take]; congr 1; omega) (by rw [List.length_take]; omega)
theorem self_cut {α : Type} (l : List α) (k : Nat) (h : k < l.length) : l = l.take k ++ [l[k]] ++ l.drop (k + 1) := by
  have : l.set k l[k] = l := by simp
  conv => lhs; rw [← this]
  rw [List.set_eq_take_append_cons_drop, if_pos h]; simp
theorem turned_none {p : Key} (hp : p.length ≤ 1048448) {j : Nat} (hj : j < (pbytes p).length) {x : UInt8} (hx : x ≠ (pbytes p)[j]) : wholeP ((pbytes p).set j x) = none := wholeP_none fun q hq e => by
  have hl := pbytes_length p
  have hlen : q.length = p.length := by
    have := congrArg List.length e
    rw [pbytes_length, List.length_set, pbytes_length] at this
    omega
  have hat : (pbytes q)[j]? = some x := by rw [e, List.getElem?_set_self hj]
  have hpj : (pbytes p)[j]? = some (pbytes p)[j] := List.getElem?_eq_getElem hj
  have hne : pbytes q ≠ pbytes p := fun e2 => by
    rw [e2, hpj] at hat
    exact hx (Option.some.inj hat).symm
  have h4 : (pbytes q).take 4 = (pbytes p).take 4 := by rw [pbytes_take, pbytes_take, hlen]
  by_cases h1 : j < 4
  · have a := congrArg (fun l => l[j]?) h4
    simp only [List.getElem?_take, if_pos h1] at a
    rw [hat, hpj] at a
    exact hx (Option.some.inj a)
  by_cases h2 : j < 8
  · apply hne
    have : q = p := by
      have := congrArg (List.drop 8) e
      rw [pbytes_drop, List.drop_set, if_pos h2, pbytes_drop] at this
      exact this
    rw [this]
  have hqp : q = p.set (j - 8) x := by
    have := congrArg (List.drop 8) e
    rw [pbytes_drop, List.drop_set, if_neg h2, pbytes_drop] at this
    exact this
  have hj8 : j - 8 < p.length := by omega
  have hsum : psum q = psum p := by
    have : ((pbytes q).drop 4).take 4 = (((pbytes p).set j x).drop 4).take 4 := by rw [e]
    rw [pbytes_mid, List.drop_set, if_neg h1, List.take_set, List.set_eq_of_length_le (by rw [List.length_take]; omega), pbytes_mid] at this
    exact Fr.nb_inj this (psum_lt _) (psum_lt _)
  have hon : Fr.C.on 0#32 (Fr.nb p.length 4 ++ q) = Fr.C.on 0#32 (Fr.nb p.length 4 ++ p) := by
    have h := BitVec.eq_of_toNat_eq hsum
    rw [hlen] at h
    exact h
  have c1 := self_cut p (j - 8) hj8
  have c2 : q = p.take (j - 8) ++ [x] ++ p.drop (j - 8 + 1) := by
    rw [hqp, List.set_eq_take_append_cons_drop, if_pos hj8]; simp
  have t1 : (Fr.nb p.length 4 ++ p.take (j - 8)) ++ [x] ++ p.drop (j - 8 + 1) = Fr.nb p.length 4 ++ q := by
    rw [c2]; simp only [List.append_assoc]
  have t2 : (Fr.nb p.length 4 ++ p.take (j - 8)) ++ [p[j - 8]] ++ p.drop (j - 8 + 1) = Fr.nb p.length 4 ++ p := by
    have h := congrArg (fun z => Fr.nb p.length 4 ++ z) c1
    simp only [List.append_assoc] at h ⊢
    exact h.symm
  have := Fr.C.tells (Fr.nb p.length 4 ++ p.take (j - 8)) [x] [p[j - 8]] (p.drop (j - 8 + 1)) rfl (by show 1 ≤ 4; decide) (by rw [t1, t2]; exact hon)
  apply hne
  have hxx : x = p[j - 8] := by simpa using this
  rw [show q = p by rw [c2, hxx]; exact c1.symm]
/-! ### what the calls answer -/
def knameOk (k : Key) : Bool := decide (1 ≤ k.length) && decide (k.length ≤ 28) && k.all chOk
def dot : Key := [46, 116, 109, 112]
def AD.lay (A : AD) (d t : Key) : Int × AD :=
  if (A.remove d).1 ≠ 0 ∧ (A.remove d).1 ≠ 5 then A.remove d
  else if ((A.remove d).2.write d 0 t).1 ≠ 0 then (A.remove d).2.write d 0 t
  else if (((A.remove d).2.write d 0 t).2.sync d).1 ≠ 0 then ((((A.remove d).2.write d 0 t).2.sync d).1, ((((A.remove d).2.write d 0 t).2.sync d).2.remove d).2)
  else (0, (((A.remove d).2.write d 0 t).2.sync d).2)
def AD.save (A : AD) (k p : Key) : Int × AD :=
  if knameOk k = false then (1, A)
  else if 1048448 < p.length then (3, A)
  else if (A.lay (k ++ dot) (pbytes p)).1 ≠ 0 then A.lay (k ++ dot) (pbytes p)
  else (A.lay (k ++ dot) (pbytes p)).2.rename (k ++ dot) k
def AD.load (A : AD) (k : Key) : Key × Int :=
  if knameOk k = false then ([], 1)
  else if (A.read k 0 1048576).2 ≠ 0 then ([], (A.read k 0 1048576).2)
  else match wholeP (A.read k 0 1048576).1 with
    | some p => (p, 0)
    | none => ([], 70)
end Go.Proofs.YtlkimfmilccanaaGreat
/-
  A checkpoint's name.
-/
namespace Go.Proofs.YtlkimfmilccanaaGreat
open Go.RowKit Go.Maps
theorem knameOk_eq (l : Key) : knameOk l = (decide (1 ≤ l.length) && decide (l.length ≤ 28) && l.all chOk) := rfl
-- left out in this seat: kName_any
end Go.Proofs.YtlkimfmilccanaaGreat
/-
  A payload's bytes: four, sumOf, bytesOf, payloadOf.
-/
namespace Go.Proofs.YtlkimfmilccanaaGreat
open Go.RowKit Go.Maps
set_option linter.unusedVariables false
theorem k8_digit (x j m : Nat) (hm : 8 * (4 - 1 - j) = m) : IntKind.u8.wrap ((x : Int) / (2 : Int) ^ m) = ((Fr.digit x 4 j).toNat : Int) := by
  unfold Fr.digit
  rw [hm, Fr.toNat_ofNat8]
  have e : (x : Int) / (2 : Int) ^ m = ((x / 2 ^ m : Nat) : Int) := by simp
  rw [e]
  simp [IntKind.wrap, IntKind.bits, IntKind.signed]
theorem kconv_u8 (Z : Int) (w : World) : (convert 88 5 (.int .u32 Z)).run Tryz.prog w = .ok (.int .u8 (IntKind.u8.wrap Z)) w := by
  have h := run_convert_int (P := Tryz.prog) (w := w) 88 5 .u32 Z (by kernel_rfl) (by kernel_rfl)
  rw [show Tryz.prog.intKind 5 = .u8 by kernel_rfl] at h
  exact h
theorem kconv_u32 (n : Nat) (hn : n < 4294967296) (w : World) : (convert 3 88 (.int .i64 (n : Int))).run Tryz.prog w = .ok (.int .u32 (n : Int)) w := by
  have h := run_convert_int (P := Tryz.prog) (w := w) 3 88 .i64 (n : Int) (by kernel_rfl) (by kernel_rfl)
  rw [show Tryz.prog.intKind 88 = .u32 by kernel_rfl] at h
  rw [h, show IntKind.u32.wrap (n : Int) = (n : Int) by simp [IntKind.wrap, IntKind.bits, IntKind.signed]; omega]
def B4 (x : Nat) : ByteArray := ⟨(Fr.nb x 4).toArray⟩
theorem B4_list (x : Nat) : (B4 x).data.toList = Fr.nb x 4 := rfl
theorem B4_size (x : Nat) : (B4 x).size = 4 := by rw [← str_len, B4_list, Fr.nb_length]
theorem Bytes.made (w : World) (l : List UInt8) (hl : l.length ≤ maxLen) : Bytes (w.alloc (.cells (l.map byteV).toArray 5)) 0 (.slice (some ⟨w.heap.size, 0, none⟩) l.length l.length) l := by
  unfold Bytes
  refine ⟨by simp, .inr ⟨w.heap.size, _, _, rfl, Nat.zero_le _, heap_alloc_new w _, Nat.le_refl _, hl, by simp, by simp only [Nat.mul_one]; exact List.take_of_length_le (by simp)⟩⟩
theorem conv_made (w : World) (l : List UInt8) (hl : l.length ≤ maxLen) : (convert 42 9 (.slice (some ⟨w.heap.size, 0, none⟩) l.length l.length)).run Tryz.prog (w.alloc (.cells (l.map byteV).toArray 5)) = .ok (.string ⟨l.toArray⟩) (w.alloc (.cells (l.map byteV).toArray 5)) := by
  have h := Bytes.made w l hl
  rw [run_conv_piece _ h (Piece.whole h) (by omega)]
  simp
theorem nb4 (x : Nat) : Fr.nb x 4 = [Fr.digit x 4 0, Fr.digit x 4 1, Fr.digit x 4 2, Fr.digit x 4 3] := rfl
-- left out in this seat: four_any
-- left out in this seat: sumOf_any
theorem run_slice_str_to (w : World) (s : ByteArray) (i : Nat) (hi : i ≤ s.size) : (Instr.slice 9 (.string s) none (some (.int .i64 (i : Int))) none).run Tryz.prog w = .ok (.string (s.extract 0 i)) w := by
  simp [Instr.slice, run_underlying Tryz.underlying9, go_sem, hi]
theorem run_slice_str_mid (w : World) (s : ByteArray) (i j : Nat) (hj : j ≤ s.size) (hij : i ≤ j) : (Instr.slice 9 (.string s) (some (.int .i64 (i : Int))) (some (.int .i64 (j : Int))) none).run Tryz.prog w = .ok (.string (s.extract i j)) w := by
  simp [Instr.slice, run_underlying Tryz.underlying9, go_sem, hj, hij]
end Go.Proofs.YtlkimfmilccanaaGreat
/-
  bytesOf, payloadOf.
-/
namespace Go.Proofs.YtlkimfmilccanaaGreat
open Go.RowKit Go.Maps
set_option linter.unusedVariables false
theorem k_drewN (w : World) (n : Nat) : Below w.heap.size w (w.drewN n) := ⟨rfl, rfl, rfl, Nat.le_refl _, fun _ _ => rfl⟩
theorem k_num : Nonempty Fr.C.Num := ⟨⟨fun b => (b.toNat : Int), fun _ => rfl⟩⟩
theorem k_app (a b : ByteArray) : (a ++ b).data.toList = a.data.toList ++ b.data.toList := by simp
theorem k_ext {a b : ByteArray} (h : a.data.toList = b.data.toList) : a = b := by
  apply ByteArray.ext
  exact Array.toList_inj.1 h
theorem k_add (w : World) (a b c : ByteArray) (hc : a ++ b = c) (h : a.size + b.size ≤ 1000000000) : (Op.stringOp .add a b).run Tryz.prog w = .ok (.string c) w := by
  rw [← hc]; exact run_string_add_sum w a b (by omega)
-- left out in this seat: bytesOf_any
theorem wholeP_iff {t : Key} (h8 : 8 ≤ t.length) (hm : t.length - 8 ≤ 1048448) : wholeP t = (if t.take 4 = Fr.nb (t.drop 8).length 4 ∧ (t.drop 4).take 4 = Fr.nb (psum (t.drop 8)) 4 then some (t.drop 8) else none) := by
  have e : t = t.take 4 ++ ((t.drop 4).take 4 ++ t.drop 8) := by
    conv => lhs; rw [← List.take_append_drop 4 t, ← List.take_append_drop 4 (t.drop 4), List.drop_drop]
  have hi : pbytes (t.drop 8) = t ↔ (t.take 4 = Fr.nb (t.drop 8).length 4 ∧ (t.drop 4).take 4 = Fr.nb (psum (t.drop 8)) 4) := by
    constructor
    · intro h
      have h1 := pbytes_take (t.drop 8)
      have h2 := pbytes_mid (t.drop 8)
      rw [h] at h1 h2
      exact ⟨h1, h2⟩
    · rintro ⟨h1, h2⟩
      unfold pbytes
      rw [← h1, ← h2]
      exact e.symm
  unfold wholeP
  by_cases hc : t.take 4 = Fr.nb (t.drop 8).length 4 ∧ (t.drop 4).take 4 = Fr.nb (psum (t.drop 8)) 4
  · rw [if_pos hc, if_pos ⟨h8, hm, hi.2 hc⟩]
  · rw [if_neg hc, if_neg (fun h => hc (hi.1 h.2.2))]
theorem k_extract (s : ByteArray) (i j : Nat) (hij : i ≤ j) : (s.extract i j).data.toList = (s.data.toList.drop i).take (j - i) := by
  rw [ByteArray.data_extract, Array.toList_extract, List.extract_eq_take_drop]
theorem k_beq (a b : ByteArray) : (a.toList == b.toList) = decide (a = b) := by
  rw [ByteArray.toList_eq, ByteArray.toList_eq]
  by_cases h : a = b
  · rw [h, decide_eq_true rfl]; simp
  · rw [decide_eq_false h]
    exact beq_eq_false_iff_ne.2 (fun e => h (k_ext e))
-- left out in this seat: payloadOf_any
end Go.Proofs.YtlkimfmilccanaaGreat
/-
  lay, Save, Load.
-/
namespace Go.Proofs.YtlkimfmilccanaaGreat
open Go.RowKit Go.Maps Go.WideMaps
set_option linter.unusedVariables false
theorem kget {α : Type} {L : List α} {i : Nat} {x : α} (h : L[i]? = some x) (y : α) : (L.set i y)[i]? = some y := List.getElem?_set_self (List.getElem?_eq_some_iff.1 h).1
section
variable {B : Nat} {w : World} {L : List Item} {i p : Nat} {A : AD}
-- left out in this seat: lay_any
end
end Go.Proofs.YtlkimfmilccanaaGreat
/-
  Save, Load.
-/
namespace Go.Proofs.YtlkimfmilccanaaGreat
open Go.RowKit Go.Maps Go.WideMaps
set_option linter.unusedVariables false
theorem kset_same {α : Type} {L : List α} {i : Nat} {x : α} (h : L[i]? = some x) : L.set i x = L := by
  apply List.ext_getElem?
  intro j
  by_cases e : i = j
  · subst e; rw [kget h, h]
  · rw [List.getElem?_set_ne e]
theorem kname_size {k : ByteArray} (h : knameOk k.data.toList = true) : k.size ≤ 28 := by
  rw [knameOk_eq, Bool.and_eq_true, Bool.and_eq_true, decide_eq_true_iff, decide_eq_true_iff, str_len] at h
  exact h.1.2
section
variable {B : Nat} {w : World} {L : List Item} {i p : Nat} {A : AD}
-- left out in this seat: save_any
-- left out in this seat: load_any
end
end Go.Proofs.YtlkimfmilccanaaGreat
