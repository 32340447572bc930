/-
  One file and what is done to it: the disk of CheckBack's walk.
-/
import Derived.Test.YtobfijpfdibccaaKKeep
import Derived.Test.YtobfijpfdibccaaKFirst
namespace Go.Proofs.Ytobfijpfdibccaa
open Go.RowKit Go.Maps Go.WideMaps
set_option linter.unusedVariables false
/-- The file c shows l; the power is there and nothing is armed; there are at most m files. -/
structure KB (A : AD) (l : Key) (m : Nat) : Prop where
  cap : A.cap = 16777216
  pow : A.pow = kP0
  get : ∃ F, fget A.fs [99] = some F ∧ F.seen = l
  len : A.fs.length ≤ m
theorem fused_few : ∀ fs : FList, (∀ p ∈ fs, p.2.seen.length ≤ 1048576) → fused fs ≤ fs.length * 1048576
  | [], _ => by simp [fused]
  | p :: r, h => by
    rw [fused_cons, List.length_cons]
    have := fused_few r (fun q hq => h q (by simp [hq]))
    have := h p (by simp)
    omega
theorem name99 : nameOk [99] = true := by decide
theorem kname99 : knameOk [99] = true := by decide
section
variable {A : AD} {l : Key} {m : Nat}
theorem KB.fits (h : KB A l m) (hok : A.Ok) (hm : m ≤ 4) {a : Nat} {n : Nat} (ha : a ≤ l.length) (hl : l.length ≤ 1048576) (hn : a + n ≤ 1048576) : A.fits [99] (a : Int) (n : Int) = 0 := by
  obtain ⟨F, hF, hs⟩ := h.get
  have hfl : A.flen [99] = (l.length : Int) := by unfold AD.flen; rw [hF, ← hs]
  have hu := fused_few A.fs (fun p hp => (hok.files p hp).most)
  have hlen := h.len
  have h3 : (fused A.fs : Int) ≤ 4 * 1048576 := by omega
  unfold AD.fits
  rw [hfl, h.cap, if_neg (by rw [name99]; simp; omega), if_neg (by omega), if_neg (by rw [hF]; simp), if_neg (by omega)]
theorem KB.write (h : KB A l m) (hok : A.Ok) (hm : m ≤ 4) {a : Nat} {t : Key} (ha : a ≤ l.length) (hl : l.length ≤ 1048576) (hn : a + t.length ≤ 1048576) (ht : t ≠ []) : KB (A.write [99] (a : Int) t).2 (l.take a ++ t ++ l.drop (a + t.length)) m := by
  have hf := h.fits hok hm ha hl hn
  obtain ⟨F, hF, hs⟩ := h.get
  have e : A.write [99] (a : Int) t = (0, ⟨A.cap, fset A.fs [99] (F.write a t), kP0⟩) := by
    unfold AD.write
    rw [if_neg (by rw [h.pow]; simp [kP0]), hf, if_neg (by decide), h.pow, kcount, if_neg (by decide), hF]
    rfl
  rw [e]
  refine ⟨h.cap, rfl, ⟨_, fget_fset_same hF, ?_⟩, by show (fset _ _ _).length ≤ _; rw [fset_length]; exact h.len⟩
  unfold AF.write
  rw [if_neg ht, hs]
theorem KB.other (h : KB A l m) {d t : Key} (hd : [99] ≠ d) : KB (A.write d 0 t).2 l (m + 1) := by
  obtain ⟨F, hF, hs⟩ := h.get
  have hc : A.pow.count 1 = (0, kP0) := by rw [h.pow]; exact kcount 1
  refine ⟨?_, ?_, ⟨F, (wr_get hd).trans hF, hs⟩, ?_⟩
  · unfold AD.write
    split
    · exact h.cap
    split
    · exact h.cap
    split
    · exact h.cap
    split <;> exact h.cap
  · unfold AD.write
    rw [hc]
    split
    · exact h.pow
    split
    · exact h.pow
    split
    · rfl
    split <;> rfl
  · have hl := h.len
    unfold AD.write
    split
    · show A.fs.length ≤ _; omega
    split
    · show A.fs.length ≤ _; omega
    split
    · show A.fs.length ≤ _; omega
    split
    · show (fset _ _ _).length ≤ _; rw [fset_length]; omega
    · show (fput _ _ _).length ≤ _
      refine Nat.le_trans fput_length ?_
      omega
theorem KB.trunc (h : KB A l m) {n : Nat} (hn : n ≤ l.length) : KB (A.trunc [99] (n : Int)).2 (l.take n) m := by
  obtain ⟨F, hF, hs⟩ := h.get
  have e : A.trunc [99] (n : Int) = (0, { A with fs := fset A.fs [99] (F.trunc n) }) := by
    unfold AD.trunc
    rw [if_neg (by rw [h.pow]; simp [kP0]), hF]
    simp only
    rw [if_neg (by rw [hs]; omega)]
    rfl
  rw [e]
  refine ⟨h.cap, h.pow, ⟨_, fget_fset_same hF, ?_⟩, by show (fset _ _ _).length ≤ _; rw [fset_length]; exact h.len⟩
  unfold AF.trunc
  rw [hs]
theorem KB.load (h : KB A l m) (hl : l.length ≤ 1048576) : A.load [99] = (match wholeP l with | some p => (p, 0) | none => ([], 70)) := by
  obtain ⟨F, hF, hs⟩ := h.get
  have hr : A.read [99] 0 1048576 = (l, 0) := by
    unfold AD.read
    rw [if_neg (by rw [h.pow]; simp [kP0]), hF]
    simp only
    rw [if_neg (by decide)]
    simp only [Int.toNat_zero, List.drop_zero]
    rw [hs, show (1048576 : Int).toNat = 1048576 from rfl, List.take_of_length_le hl]
  unfold AD.load
  rw [if_neg (by rw [kname99]; simp), hr, if_neg (by simp)]
  rfl
theorem KB.read (h : KB A l m) {j : Nat} (hj : j < l.length) : A.read [99] (j : Int) 1 = ([l[j]], 0) := by
  obtain ⟨F, hF, hs⟩ := h.get
  unfold AD.read
  rw [if_neg (by rw [h.pow]; simp [kP0]), hF]
  simp only
  rw [if_neg (by omega), hs]
  have : (l.drop (j : Int).toNat).take (1 : Int).toNat = [l[j]] := by
    rw [Int.toNat_natCast, show (1 : Int).toNat = 1 from rfl, List.drop_eq_getElem_cons hj]
    rfl
  rw [this]
end
/-! ### the calls -/
section
variable {B : Nat} {w : World} {p : Nat} {A : AD} {l : Key} {m : Nat}
theorem kb_write (h : Lies B w [.disk p A]) (hk : KB A l m) (hm : m ≤ 4) (a : Nat) (t : ByteArray) (ha : a ≤ l.length) (hl : l.length ≤ 1048576) (hn : a + t.size ≤ 1048576) (ht : 0 < t.size) (X : Int) (hX : X = (a : Int)) :
    Calls Try.prog 18 #[.pointer (some ⟨p, 0, none⟩), .string ⟨#[99]⟩, .int .i64 X, .string t] w fun e w' => (∃ x, e = .returned (.int .i64 x)) ∧ ∃ A', KB A' (l.take a ++ t.data.toList ++ l.drop (a + t.size)) m ∧ Lies B w' [.disk p A'] ∧ Below B w w' := by
  subst hX
  refine (s_write (i := 0) h rfl ⟨#[99]⟩ (by decide) (a : Int) (by omega) t (by omega)).mono ?_
  rintro e w' ⟨he, h1, hb⟩
  have := hk.write (h.ok (i := 0) rfl) hm (a := a) (t := t.data.toList) ha hl (by rw [str_len]; exact hn) (fun e => by rw [← str_len, e] at ht; simp at ht)
  rw [str_len] at this
  exact ⟨⟨_, he⟩, _, this, h1, hb⟩
theorem kb_tmp (h : Lies B w [.disk p A]) (hk : KB A l m) (t : ByteArray) (ht : t.size ≤ 140737488355328) :
    Calls Try.prog 18 #[.pointer (some ⟨p, 0, none⟩), .string ⟨#[99, 46, 116, 109, 112]⟩, .int .i64 0, .string t] w fun e w' => (∃ x, e = .returned (.int .i64 x)) ∧ ∃ A', KB A' l (m + 1) ∧ Lies B w' [.disk p A'] ∧ Below B w w' := by
  refine (s_write (i := 0) h rfl ⟨#[99, 46, 116, 109, 112]⟩ (by decide) 0 (by omega) t ht).mono ?_
  rintro e w' ⟨he, h1, hb⟩
  exact ⟨⟨_, he⟩, _, hk.other (d := [99, 46, 116, 109, 112]) (by decide), h1, hb⟩
theorem kb_trunc (h : Lies B w [.disk p A]) (hk : KB A l m) (n : Nat) (hn : n ≤ l.length) (X : Int) (hX : X = (n : Int)) :
    Calls Try.prog 19 #[.pointer (some ⟨p, 0, none⟩), .string ⟨#[99]⟩, .int .i64 X] w fun e w' => (∃ x, e = .returned (.int .i64 x)) ∧ ∃ A', KB A' (l.take n) m ∧ Lies B w' [.disk p A'] ∧ Below B w w' := by
  subst hX
  refine (s_trunc (i := 0) h rfl ⟨#[99]⟩ (by decide) (n : Int)).mono ?_
  rintro e w' ⟨he, h1, hb⟩
  exact ⟨⟨_, he⟩, _, hk.trunc hn, h1, hb⟩
theorem kb_good (h : Lies B w [.disk p A]) (q : ByteArray) (hk : KB A (pbytes q.data.toList) m) (hq : q.size ≤ 1048448) :
    Calls Try.prog 15 #[.pointer (some ⟨p, 0, none⟩), .string ⟨#[99]⟩] w fun e w' => e = .returned (.tuple #[.string q, .int .i64 0]) ∧ Lies B w' [.disk p A] ∧ Below B w w' := by
  have := load_any (i := 0) h rfl ⟨#[99]⟩
  have e : A.load (⟨#[99]⟩ : ByteArray).data.toList = (q.data.toList, 0) := by
    have := hk.load (by rw [pbytes_length, str_len]; omega)
    rw [wholeP_bytes (by rw [str_len]; exact hq)] at this
    exact this
  rw [e] at this
  exact this
theorem kb_bad (h : Lies B w [.disk p A]) (hk : KB A l m) (hl : l.length ≤ 1048576) (hn : wholeP l = none) :
    Calls Try.prog 15 #[.pointer (some ⟨p, 0, none⟩), .string ⟨#[99]⟩] w fun e w' => (∃ s, e = .returned (.tuple #[.string s, .int .i64 70])) ∧ Lies B w' [.disk p A] ∧ Below B w w' := by
  have := load_any (i := 0) h rfl ⟨#[99]⟩
  have e : A.load (⟨#[99]⟩ : ByteArray).data.toList = ([], 70) := by
    have := hk.load hl
    rw [hn] at this
    exact this
  rw [e] at this
  exact this.mono (fun e w' ⟨a, b⟩ => ⟨⟨_, a⟩, b⟩)
theorem kb_read (h : Lies B w [.disk p A]) (hk : KB A l m) {j : Nat} (hj : j < l.length) (X : Int) (hX : X = (j : Int)) :
    Calls Try.prog 17 #[.pointer (some ⟨p, 0, none⟩), .string ⟨#[99]⟩, .int .i64 X, .int .i64 1] w fun e w' => e = .returned (.tuple #[.string ⟨#[l[j]]⟩, .int .i64 0]) ∧ Lies B w' [.disk p A] ∧ Below B w w' := by
  subst hX
  have := s_read (i := 0) h rfl ⟨#[99]⟩ (by decide) (j : Int) 1
  have e : A.read (⟨#[99]⟩ : ByteArray).data.toList (j : Int) 1 = ([l[j]], 0) := hk.read hj
  rw [e] at this
  exact this
end
end Go.Proofs.Ytobfijpfdibccaa
