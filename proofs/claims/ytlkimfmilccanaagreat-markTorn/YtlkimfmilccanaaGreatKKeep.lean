/-
  SAVING, PLAIN: what a Save leaves of the files; what a Load tells behind it, and behind a loss of power.
-/
import Derived.Test.YtlkimfmilccanaaGreatKLoad
namespace Go.Proofs.YtlkimfmilccanaaGreat
open Go.RowKit Go.Maps
set_option linter.unusedVariables false
section
variable {A : AD} {d k k' t : Key} {a : Int} {F : AF}
theorem rem_get (h : k' ≠ d) : fget (A.remove d).2.fs k' = fget A.fs k' := by
  unfold AD.remove
  split
  · rfl
  · split
    · rfl
    · exact fget_fdel_ne h
theorem rem_pow : (A.remove d).2.pow = A.pow := by
  unfold AD.remove
  split
  · rfl
  · split <;> rfl
theorem rem_gone (h : (A.remove d).1 = 0 ∨ (A.remove d).1 = 5) : fget (A.remove d).2.fs d = none := by
  unfold AD.remove at h ⊢
  by_cases ho : A.pow.off = true
  · rw [if_pos ho] at h; simp at h
  · rw [if_neg ho] at h ⊢
    cases hq : fget A.fs d with
    | none => exact hq
    | some F => exact fget_fdel_same
theorem wr_get (h : k' ≠ d) : fget (A.write d a t).2.fs k' = fget A.fs k' := by
  unfold AD.write
  split
  · rfl
  split
  · rfl
  split
  · rfl
  split
  · exact fget_fset_ne h
  · exact fget_fput_ne h
theorem count_off {P : AP} {x : Int} (h : (P.count x).1 ≠ 9) : (P.count x).2.off = P.off := by
  unfold AP.count at h ⊢
  by_cases h1 : P.fall = 1
  · rw [if_pos h1] at h; exact absurd rfl h
  · rw [if_neg h1]
    split <;> rfl
theorem wr_off (h : (A.write d a t).1 ≠ 9) : (A.write d a t).2.pow.off = A.pow.off := by
  unfold AD.write at h ⊢
  by_cases ho : A.pow.off = true
  · rw [if_pos ho]
  rw [if_neg ho] at h ⊢
  by_cases hf : A.fits d a t.length ≠ 0
  · rw [if_pos hf]
  rw [if_neg hf] at h ⊢
  by_cases hc : (A.pow.count 1).1 ≠ 0
  · rw [if_pos hc] at h ⊢; exact count_off h
  rw [if_neg hc]
  split <;> exact count_off (by omega)
theorem new_seen : (AF.new.write 0 t).seen = t := by
  unfold AF.write
  split
  · rename_i h; rw [h]; rfl
  · simp [AF.new]
theorem wr_new (h0 : fget A.fs d = none) (h : (A.write d 0 t).1 = 0) : ∃ F, fget (A.write d 0 t).2.fs d = some F ∧ F.seen = t := by
  unfold AD.write at h ⊢
  by_cases ho : A.pow.off = true
  · rw [if_pos ho] at h; simp at h
  rw [if_neg ho] at h ⊢
  by_cases hf : A.fits d 0 t.length ≠ 0
  · rw [if_pos hf] at h; exact absurd h hf
  rw [if_neg hf] at h ⊢
  by_cases hc : (A.pow.count 1).1 ≠ 0
  · rw [if_pos hc] at h; exact absurd h hc
  rw [if_neg hc, h0]
  exact ⟨_, fget_fput_same, new_seen⟩
theorem sy_get (h : k' ≠ d) : fget (A.sync d).2.fs k' = fget A.fs k' := by
  unfold AD.sync
  split
  · rfl
  split
  · rfl
  split
  · rfl
  · exact fget_fset_ne h
theorem sy_off (h : (A.sync d).1 ≠ 9) : (A.sync d).2.pow.off = A.pow.off := by
  unfold AD.sync at h ⊢
  by_cases ho : A.pow.off = true
  · rw [if_pos ho]
  rw [if_neg ho] at h ⊢
  cases hq : fget A.fs d with
  | none => rfl
  | some F =>
    rw [hq] at h
    simp only at h ⊢
    by_cases hc : (A.pow.count 2).1 ≠ 0
    · rw [if_pos hc] at h ⊢; exact count_off h
    · rw [if_neg hc]; exact count_off (by omega)
theorem sy_ok (h0 : fget A.fs d = some F) (h : (A.sync d).1 = 0) : fget (A.sync d).2.fs d = some F.sync := by
  unfold AD.sync at h ⊢
  by_cases ho : A.pow.off = true
  · rw [if_pos ho] at h; simp at h
  rw [if_neg ho] at h ⊢
  rw [h0] at h ⊢
  simp only at h ⊢
  by_cases hc : (A.pow.count 2).1 ≠ 0
  · rw [if_pos hc] at h; exact absurd h hc
  · rw [if_neg hc]; exact fget_fset_same h0
theorem ren_get (h1 : k' ≠ d) (h2 : k' ≠ k) : fget (A.rename d k).2.fs k' = fget A.fs k' := by
  unfold AD.rename
  split
  · rfl
  split
  · rfl
  split
  · rfl
  · show fget (fput (fdel A.fs d) k _) k' = _
    rw [fget_fput_ne h2, fget_fdel_ne h1]
theorem ren_pow : (A.rename d k).2.pow = A.pow := by
  unfold AD.rename
  split
  · rfl
  split
  · rfl
  split <;> rfl
theorem ren_fail (h : (A.rename d k).1 ≠ 0) : (A.rename d k).2 = A := by
  unfold AD.rename at h ⊢
  split
  · rfl
  split
  · rfl
  split
  · rfl
  · rename_i h1 _ _ h2 h3
    rw [if_neg h1, h2] at h
    simp only at h
    rw [if_neg h3] at h
    exact absurd rfl h
theorem ren_ok (h0 : fget A.fs d = some F) (h : (A.rename d k).1 = 0) : fget (A.rename d k).2.fs k = some F := by
  unfold AD.rename at h ⊢
  by_cases ho : A.pow.off = true
  · rw [if_pos ho] at h; simp at h
  rw [if_neg ho] at h ⊢
  rw [h0] at h ⊢
  simp only at h ⊢
  by_cases hn : nameOk k = false
  · rw [if_pos hn] at h; simp at h
  · rw [if_neg hn]; exact fget_fput_same
/-! ### lay -/
theorem lay_get (h : k' ≠ d) : fget (A.lay d t).2.fs k' = fget A.fs k' := by
  unfold AD.lay
  split
  · exact rem_get h
  split
  · rw [wr_get h, rem_get h]
  split
  · show fget ((((A.remove d).2.write d 0 t).2.sync d).2.remove d).2.fs k' = _
    rw [rem_get h, sy_get h, wr_get h, rem_get h]
  · show fget (((A.remove d).2.write d 0 t).2.sync d).2.fs k' = _
    rw [sy_get h, wr_get h, rem_get h]
theorem lay_off (h : (A.lay d t).1 ≠ 9) : (A.lay d t).2.pow.off = A.pow.off := by
  unfold AD.lay at h ⊢
  by_cases h1 : (A.remove d).1 ≠ 0 ∧ (A.remove d).1 ≠ 5
  · rw [if_pos h1, rem_pow]
  rw [if_neg h1] at h ⊢
  by_cases h2 : ((A.remove d).2.write d 0 t).1 ≠ 0
  · rw [if_pos h2] at h ⊢
    rw [wr_off h, rem_pow]
  rw [if_neg h2] at h ⊢
  have e2 : ((A.remove d).2.write d 0 t).2.pow.off = A.pow.off := by rw [wr_off (by omega), rem_pow]
  by_cases h3 : (((A.remove d).2.write d 0 t).2.sync d).1 ≠ 0
  · rw [if_pos h3] at h ⊢
    show ((((A.remove d).2.write d 0 t).2.sync d).2.remove d).2.pow.off = _
    rw [rem_pow, sy_off h, e2]
  · rw [if_neg h3]
    show (((A.remove d).2.write d 0 t).2.sync d).2.pow.off = _
    rw [sy_off (by omega), e2]
theorem lay_ok (h : (A.lay d t).1 = 0) : ∃ F, fget (A.lay d t).2.fs d = some F ∧ F.seen = t ∧ F.safe = t ∧ ∀ s, F.dirty s = false := by
  unfold AD.lay at h ⊢
  by_cases h1 : (A.remove d).1 ≠ 0 ∧ (A.remove d).1 ≠ 5
  · rw [if_pos h1] at h; exact absurd h h1.1
  rw [if_neg h1] at h ⊢
  by_cases h2 : ((A.remove d).2.write d 0 t).1 ≠ 0
  · rw [if_pos h2] at h; exact absurd h h2
  rw [if_neg h2] at h ⊢
  by_cases h3 : (((A.remove d).2.write d 0 t).2.sync d).1 ≠ 0
  · rw [if_pos h3] at h; exact absurd h h3
  rw [if_neg h3]
  obtain ⟨F, hF, hs⟩ := wr_new (rem_gone (A := A) (d := d) (by omega)) (by omega : ((A.remove d).2.write d 0 t).1 = 0)
  exact ⟨F.sync, sy_ok hF (by omega), hs, hs, fun _ => rfl⟩
end
/-! ### Save -/
theorem ne_dot (k : Key) : k ≠ k ++ dot := fun e => by
  have := congrArg List.length e
  rw [List.length_append] at this
  simp [dot] at this
/-- The file holds the payload's bytes, all of them safe; or there is none. -/
def KFile (A : AD) (k : Key) : Option Key → Prop
  | none => fget A.fs k = none
  | some p => p.length ≤ 1048448 ∧ ∃ F, fget A.fs k = some F ∧ F.seen = pbytes p ∧ F.safe = pbytes p ∧ ∀ s, F.dirty s = false
theorem KFile.of {A A' : AD} {k : Key} {o : Option Key} (h : KFile A k o) (e : fget A'.fs k = fget A.fs k) : KFile A' k o := by
  cases o with
  | none => exact e.trans h
  | some p =>
    obtain ⟨hp, F, hF, r⟩ := h
    exact ⟨hp, F, e.trans hF, r⟩
section
variable {A : AD} {k k' p : Key}
theorem save_get (h1 : k' ≠ k) (h2 : k' ≠ k ++ dot) : fget (A.save k p).2.fs k' = fget A.fs k' := by
  unfold AD.save
  split
  · rfl
  split
  · rfl
  split
  · exact lay_get h2
  · rw [ren_get h2 h1, lay_get h2]
theorem save_fail (h : (A.save k p).1 ≠ 0) : fget (A.save k p).2.fs k = fget A.fs k := by
  unfold AD.save at h ⊢
  by_cases hk : knameOk k = false
  · rw [if_pos hk]
  rw [if_neg hk] at h ⊢
  by_cases hp : 1048448 < p.length
  · rw [if_pos hp]
  rw [if_neg hp] at h ⊢
  by_cases h1 : (A.lay (k ++ dot) (pbytes p)).1 ≠ 0
  · rw [if_pos h1]; exact lay_get (ne_dot k)
  rw [if_neg h1] at h ⊢
  rw [ren_fail h]
  exact lay_get (ne_dot k)
theorem save_ok (h : (A.save k p).1 = 0) : KFile (A.save k p).2 k (some p) := by
  unfold AD.save at h ⊢
  by_cases hk : knameOk k = false
  · rw [if_pos hk] at h; simp at h
  rw [if_neg hk] at h ⊢
  by_cases hp : 1048448 < p.length
  · rw [if_pos hp] at h; simp at h
  rw [if_neg hp] at h ⊢
  by_cases h1 : (A.lay (k ++ dot) (pbytes p)).1 ≠ 0
  · rw [if_pos h1] at h; exact absurd h h1
  rw [if_neg h1] at h ⊢
  obtain ⟨F, hF, r⟩ := lay_ok (A := A) (d := k ++ dot) (t := pbytes p) (by omega)
  exact ⟨by omega, F, ren_ok hF h, r⟩
theorem save_off (h : (A.save k p).1 ≠ 9) : (A.save k p).2.pow.off = A.pow.off := by
  unfold AD.save at h ⊢
  by_cases hk : knameOk k = false
  · rw [if_pos hk]
  rw [if_neg hk] at h ⊢
  by_cases hp : 1048448 < p.length
  · rw [if_pos hp]
  rw [if_neg hp] at h ⊢
  by_cases h1 : (A.lay (k ++ dot) (pbytes p)).1 ≠ 0
  · rw [if_pos h1] at h ⊢; exact lay_off h
  rw [if_neg h1]
  rw [ren_pow, lay_off (by omega)]
/-! ### a loss of power -/
theorem kfold_same {α β : Type} (f : β → α → β) (b : β) : ∀ l : List α, (∀ x ∈ l, f b x = b) → l.foldl f b = b
  | [], _ => rfl
  | a :: l, h => by
    rw [List.foldl_cons, h a (by simp)]
    exact kfold_same f b l (fun x hx => h x (by simp [hx]))
theorem clean_left {F : AF} {l : List UInt8} (hs : F.safe = l) (hd : ∀ s, F.dirty s = false) (ft : Nat → Option AFate) : F.left ft = l := by
  have hlen : F.len ft = l.length := by
    unfold AF.len
    rw [hs]
    exact kfold_same _ _ _ (fun s _ => by simp [hd])
  unfold AF.left
  rw [hlen]
  apply List.ext_getElem?
  intro i
  rw [List.getElem?_map]
  by_cases hi : i < l.length
  · rw [List.getElem?_range hi, List.getElem?_eq_getElem hi]
    simp [AF.after, hd, hs, hi]
  · rw [List.getElem?_eq_none (by simp; omega), List.getElem?_eq_none (by omega)]; rfl
theorem kget_map (g : Key → AF → AF) (k : Key) : ∀ fs : FList, fget (fs.map (fun p => (p.1, g p.1 p.2))) k = (fget fs k).map (g k)
  | [] => rfl
  | p :: r => by
    rw [List.map_cons, fget_cons, fget_cons]
    by_cases e : p.1 = k
    · rw [if_pos e, if_pos e, e]; rfl
    · rw [if_neg e, if_neg e]; exact kget_map g k r
theorem KFile.crash {o : Option Key} (h : KFile A k o) (l : List AFate) : KFile (A.crash l) k o := by
  unfold AD.crash
  split
  · exact h
  · have e := kget_map (fun k F => F.crash (fateOf l k)) k A.fs
    cases o with
    | none =>
      have h' : fget A.fs k = none := h
      rw [h'] at e
      exact e
    | some p =>
      obtain ⟨hp, F, hF, h1, h2, h3⟩ := h
      rw [hF] at e
      have hl := clean_left h2 h3 (fateOf l k)
      exact ⟨hp, F.crash (fateOf l k), e, hl, hl, fun _ => rfl⟩
theorem KFile.on {o : Option Key} (h : KFile A k o) : KFile A.on k o := by
  unfold AD.on
  cases A.pow.opn with
  | true => exact h.crash []
  | false => exact h
/-! ### Load -/
theorem load_some (h : KFile A k (some p)) (ho : A.pow.off = false) (hok : A.Ok) (hk : knameOk k = true) : A.load k = (p, 0) := by
  obtain ⟨hp, F, hF, h1, h2, h3⟩ := h
  have hr : A.read k 0 1048576 = (pbytes p, 0) := by
    have hm := (hok.files _ (fget_mem hF)).most
    simp only at hm
    unfold AD.read
    rw [if_neg (by rw [ho]; simp), hF]
    simp only
    rw [if_neg (by decide)]
    simp only [Int.toNat_zero, List.drop_zero]
    rw [← h1, show (1048576 : Int).toNat = 1048576 from rfl, List.take_of_length_le hm]
  unfold AD.load
  rw [if_neg (by rw [hk]; simp), hr]
  simp only
  rw [if_neg (by decide), wholeP_bytes hp]
theorem load_none (h : KFile A k none) (ho : A.pow.off = false) (hk : knameOk k = true) : A.load k = ([], 5) := by
  have h' : fget A.fs k = none := h
  have hr : A.read k 0 1048576 = ([], 5) := by
    unfold AD.read
    rw [if_neg (by rw [ho]; simp), h']
  unfold AD.load
  rw [if_neg (by rw [hk]; simp), hr, if_pos (by decide)]
/-! ### the first Save on a new disk -/
def kP0 : AP := ⟨false, false, 0, 0, 0⟩
theorem kcount (x : Int) : kP0.count x = (0, kP0) := by
  unfold AP.count AP.fell
  rw [if_neg (by decide), if_neg (by simp [kP0])]
  rfl
theorem dot_name (h : knameOk k = true) : nameOk (k ++ dot) = true ∧ nameOk k = true := by
  rw [knameOk_eq, Bool.and_eq_true, Bool.and_eq_true, decide_eq_true_iff, decide_eq_true_iff] at h
  obtain ⟨⟨h1, h2⟩, h3⟩ := h
  rw [nameOk_eq, nameOk_eq, List.all_append, h3]
  have h4 : dot.all chOk = true := by decide
  rw [h4, List.length_append, show dot.length = 4 from rfl]
  constructor
  · rw [decide_eq_true (by omega : 1 ≤ k.length + 4), decide_eq_true (by omega : k.length + 4 ≤ 32)]; rfl
  · rw [decide_eq_true h1, decide_eq_true (by omega : k.length ≤ 32)]; rfl
theorem fresh_write {d t : Key} (hn : nameOk d = true) (ht : t.length ≤ 1048576) : (AD.fresh 16777216).write d 0 t = (0, ⟨16777216, [(d, AF.new.write 0 t)], kP0⟩) := by
  have hfl : (AD.fresh 16777216).flen d = 0 := rfl
  have hf : (AD.fresh 16777216).fits d 0 t.length = 0 := by
    unfold AD.fits
    rw [hfl, if_neg (by rw [hn]; simp), if_neg (by omega), if_neg (by simp [AD.fresh]), if_neg (by
      show ¬ ((fused ([] : FList) : Nat) : Int) - 0 + max 0 (0 + (t.length : Int)) > 16777216
      rw [show fused ([] : FList) = 0 from rfl]; omega)]
  unfold AD.write
  rw [if_neg (by simp [AD.fresh]), hf, if_neg (by decide)]
  have hc : (AD.fresh 16777216).pow.count 1 = (0, kP0) := kcount 1
  rw [hc, if_neg (by decide)]
  rfl
theorem one_sync {d : Key} {F : AF} : (⟨16777216, [(d, F)], kP0⟩ : AD).sync d = (0, ⟨16777216, [(d, F.sync)], kP0⟩) := by
  have hg : fget [(d, F)] d = some F := by rw [fget_cons, if_pos rfl]
  have hs : fset [(d, F)] d F.sync = [(d, F.sync)] := by rw [fset_cons, if_pos rfl]; rfl
  have hc : kP0.count 2 = (0, kP0) := kcount 2
  unfold AD.sync
  rw [if_neg (by simp [kP0])]
  simp only [hg, hc, hs]
  rw [if_neg (by decide)]
theorem one_rename {d k : Key} {F : AF} (hn : nameOk k = true) : (⟨16777216, [(d, F)], kP0⟩ : AD).rename d k = (0, ⟨16777216, [(k, F)], kP0⟩) := by
  have hg : fget [(d, F)] d = some F := by rw [fget_cons, if_pos rfl]
  have hs : fput (fdel [(d, F)] d) k F = [(k, F)] := by
    have : fdel [(d, F)] d = [] := by simp [fdel]
    rw [this]; rfl
  unfold AD.rename
  rw [if_neg (by simp [kP0])]
  simp only [hg, hs]
  rw [if_neg (by rw [hn]; simp)]
theorem save_fresh (hk : knameOk k = true) (hp : p.length ≤ 1048448) : (AD.fresh 16777216).save k p = (0, ⟨16777216, [(k, ⟨pbytes p, pbytes p, fun _ => false⟩)], kP0⟩) := by
  obtain ⟨n1, n2⟩ := dot_name hk
  have r1 : (AD.fresh 16777216).remove (k ++ dot) = (5, AD.fresh 16777216) := rfl
  have r2 := fresh_write (d := k ++ dot) (t := pbytes p) n1 (by rw [pbytes_length]; omega)
  have r3 := one_sync (d := k ++ dot) (F := AF.new.write 0 (pbytes p))
  have r4 := one_rename (d := k ++ dot) (F := (AF.new.write 0 (pbytes p)).sync) n2
  have e : (AF.new.write 0 (pbytes p)).sync = ⟨pbytes p, pbytes p, fun _ => false⟩ := by unfold AF.sync; rw [new_seen]
  have hl : (AD.fresh 16777216).lay (k ++ dot) (pbytes p) = (0, ⟨16777216, [(k ++ dot, (AF.new.write 0 (pbytes p)).sync)], kP0⟩) := by
    unfold AD.lay
    rw [r1, if_neg (by simp)]
    simp only [r2, r3]
    rw [if_neg (by decide), if_neg (by decide)]
  unfold AD.save
  rw [if_neg (by rw [hk]; simp), if_neg (by omega), hl, if_neg (by simp)]
  simp only [r4]
  rw [e]
theorem save_long (hk : knameOk k = true) (hp : 1048448 < p.length) : A.save k p = (3, A) := by
  unfold AD.save
  rw [if_neg (by rw [hk]; simp), if_pos hp]
end
end Go.Proofs.YtlkimfmilccanaaGreat
