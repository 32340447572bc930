import Derived.Test.YtlkimfmilccanaaGreatKLoad
import Derived.Test.YtlkimfmilccanaaGreatRefCrashes
/-
  SAVING, PLAIN: what a Save leaves of the files; what a Load tells behind it, and behind a loss of power.
-/
namespace Go.Proofs.YtlkimfmilccanaaGreat
open Go.RowKit Go.Maps
set_option linter.unusedVariables false
section
variable {A : AD} {d k k' t : Key} {a : Int} {F : AF}
theorem rem_get (h : k' ≠ d) : fget (A.remove d).2.fs k' = fget A.fs k' := by
  unfold AD.remove
  split
  · rfl
  · split
    · rfl
    · exact fget_fdel_ne h
theorem rem_pow : (A.remove d).2.pow = A.pow := by
  unfold AD.remove
  split
  · rfl
  · split <;> rfl
theorem rem_gone (h : (A.remove d).1 = 0 ∨ (A.remove d).1 = 5) : fget (A.remove d).2.fs d = none := by
  unfold AD.remove at h ⊢
  by_cases ho : A.pow.off = true
  · rw [if_pos ho] at h; simp at h
  · rw [if_neg ho] at h ⊢
    cases hq : fget A.fs d with
    | none => exact hq
    | some F => exact fget_fdel_same
theorem wr_get (h : k' ≠ d) : fget (A.write d a t).2.fs k' = fget A.fs k' := by
  unfold AD.write
  split
  · rfl
  split
  · rfl
  split
  · rfl
  split
  · exact fget_fset_ne h
  · exact fget_fput_ne h
theorem count_off {P : AP} {x : Int} (h : (P.count x).1 ≠ 9) : (P.count x).2.off = P.off := by
  unfold AP.count at h ⊢
  by_cases h1 : P.fall = 1
  · rw [if_pos h1] at h; exact absurd rfl h
  · rw [if_neg h1]
    split <;> rfl
theorem wr_off (h : (A.write d a t).1 ≠ 9) : (A.write d a t).2.pow.off = A.pow.off := by
  unfold AD.write at h ⊢
  by_cases ho : A.pow.off = true
  · rw [if_pos ho]
  rw [if_neg ho] at h ⊢
  by_cases hf : A.fits d a t.length ≠ 0
  · rw [if_pos hf]
  rw [if_neg hf] at h ⊢
  by_cases hc : (A.pow.count 1).1 ≠ 0
  · rw [if_pos hc] at h ⊢; exact count_off h
  rw [if_neg hc]
  split <;> exact count_off (by omega)
theorem new_seen : (AF.new.write 0 t).seen = t := by
  unfold AF.write
  split
  · rename_i h; rw [h]; rfl
  · simp [AF.new]
theorem wr_new (h0 : fget A.fs d = none) (h : (A.write d 0 t).1 = 0) : ∃ F, fget (A.write d 0 t).2.fs d = some F ∧ F.seen = t := by
  unfold AD.write at h ⊢
  by_cases ho : A.pow.off = true
  · rw [if_pos ho] at h; simp at h
  rw [if_neg ho] at h ⊢
  by_cases hf : A.fits d 0 t.length ≠ 0
  · rw [if_pos hf] at h; exact absurd h hf
  rw [if_neg hf] at h ⊢
  by_cases hc : (A.pow.count 1).1 ≠ 0
  · rw [if_pos hc] at h; exact absurd h hc
  rw [if_neg hc, h0]
  exact ⟨_, fget_fput_same, new_seen⟩
theorem sy_get (h : k' ≠ d) : fget (A.sync d).2.fs k' = fget A.fs k' := by
  unfold AD.sync
  split
  · rfl
  split
  · rfl
  split
  · rfl
  · exact fget_fset_ne h
theorem sy_off (h : (A.sync d).1 ≠ 9) : (A.sync d).2.pow.off = A.pow.off := by
  unfold AD.sync at h ⊢
  by_cases ho : A.pow.off = true
  · rw [if_pos ho]
  rw [if_neg ho] at h ⊢
  cases hq : fget A.fs d with
  | none => rfl
  | some F =>
    rw [hq] at h
    simp only at h ⊢
    by_cases hc : (A.pow.count 2).1 ≠ 0
    · rw [if_pos hc] at h ⊢; exact count_off h
    · rw [if_neg hc]; exact count_off (by omega)
theorem sy_ok (h0 : fget A.fs d = some F) (h : (A.sync d).1 = 0) : fget (A.sync d).2.fs d = some F.sync := by
  unfold AD.sync at h ⊢
  by_cases ho : A.pow.off = true
  · rw [if_pos ho] at h; simp at h
  rw [if_neg ho] at h ⊢
  rw [h0] at h ⊢
  simp only at h ⊢
  by_cases hc : (A.pow.count 2).1 ≠ 0
  · rw [if_pos hc] at h; exact absurd h hc
  · rw [if_neg hc]; exact fget_fset_same h0
theorem ren_get (h1 : k' ≠ d) (h2 : k' ≠ k) : fget (A.rename d k).2.fs k' = fget A.fs k' := by
  unfold AD.rename
  split
  · rfl
  split
  · rfl
  split
  · rfl
  · show fget (fput (fdel A.fs d) k _) k' = _
    rw [fget_fput_ne h2, fget_fdel_ne h1]
theorem ren_pow : (A.rename d k).2.pow = A.pow := by
  unfold AD.rename
  split
  · rfl
  split
  · rfl
  split <;> rfl
theorem ren_fail (h : (A.rename d k).1 ≠ 0) : (A.rename d k).2 = A := by
  unfold AD.rename at h ⊢
  split
  · rfl
  split
  · rfl
  split
  · rfl
  · rename_i h1 _ _ h2 h3
    rw [if_neg h1, h2] at h
    simp only at h
    rw [if_neg h3] at h
    exact absurd rfl h
theorem ren_ok (h0 : fget A.fs d = some F) (h : (A.rename d k).1 = 0) : fget (A.rename d k).2.fs k = some F := by
  unfold AD.rename at h ⊢
  by_cases ho : A.pow.off = true
  · rw [if_pos ho] at h; simp at h
  rw [if_neg ho] at h ⊢
  rw [h0] at h ⊢
  simp only at h ⊢
  by_cases hn : nameOk k = false
  · rw [if_pos hn] at h; simp at h
  · rw [if_neg hn]; exact fget_fput_same
/-! ### lay -/
theorem lay_get (h : k' ≠ d) : fget (A.lay d t).2.fs k' = fget A.fs k' := by
  unfold AD.lay
  split
  · exact rem_get h
  split
  · rw [wr_get h, rem_get h]
  split
  · show fget ((((A.remove d).2.write d 0 t).2.sync d).2.remove d).2.fs k' = _
    rw [rem_get h, sy_get h, wr_get h, rem_get h]
  · show fget (((A.remove d).2.write d 0 t).2.sync d).2.fs k' = _
    rw [sy_get h, wr_get h, rem_get h]
theorem lay_off (h : (A.lay d t).1 ≠ 9) : (A.lay d t).2.pow.off = A.pow.off := by
  unfold AD.lay at h ⊢
  by_cases h1 : (A.remove d).1 ≠ 0 ∧ (A.remove d).1 ≠ 5
  · rw [if_pos h1, rem_pow]
  rw [if_neg h1] at h ⊢
  by_cases h2 : ((A.remove d).2.write d 0 t).1 ≠ 0
  · rw [if_pos h2] at h ⊢
    rw [wr_off h, rem_pow]
  rw [if_neg h2] at h ⊢
  have e2 : ((A.remove d).2.write d 0 t).2.pow.off = A.pow.off := by rw [wr_off (by omega), rem_pow]
  by_cases h3 : (((A.remove d).2.write d 0 t).2.sync d).1 ≠ 0
  · rw [if_pos h3] at h ⊢
    show ((((A.remove d).2.write d 0 t).2.sync d).2.remove d).2.pow.off = _
    rw [rem_pow, sy_off h, e2]
  · rw [if_neg h3]
    show (((A.remove d).2.write d 0 t).2.sync d).2.pow.off = _
    rw [sy_off (by omega), e2]
theorem lay_ok (h : (A.lay d t).1 = 0) : ∃ F, fget (A.lay d t).2.fs d = some F ∧ F.seen = t ∧ F.safe = t ∧ ∀ s, F.dirty s = false := by
  unfold AD.lay at h ⊢
  by_cases h1 : (A.remove d).1 ≠ 0 ∧ (A.remove d).1 ≠ 5
  · rw [if_pos h1] at h; exact absurd h h1.1
  rw [if_neg h1] at h ⊢
  by_cases h2 : ((A.remove d).2.write d 0 t).1 ≠ 0
  · rw [if_pos h2] at h; exact absurd h h2
  rw [if_neg h2] at h ⊢
  by_cases h3 : (((A.remove d).2.write d 0 t).2.sync d).1 ≠ 0
  · rw [if_pos h3] at h; exact absurd h h3
  rw [if_neg h3]
  obtain ⟨F, hF, hs⟩ := wr_new (rem_gone (A := A) (d := d) (by omega)) (by omega : ((A.remove d).2.write d 0 t).1 = 0)
  exact ⟨F.sync, sy_ok hF (by omega), hs, hs, fun _ => rfl⟩
end
/-! ### Save -/
theorem ne_dot (k : Key) : k ≠ k ++ dot := fun e => by
  have := congrArg List.length e
  rw [List.length_append] at this
  simp [dot] at this
/-- The file holds the payload's bytes, all of them safe; or there is none. -/
def KFile (A : AD) (k : Key) : Option Key → Prop
  | none => fget A.fs k = none
  | some p => p.length ≤ 1048448 ∧ ∃ F, fget A.fs k = some F ∧ F.seen = pbytes p ∧ F.safe = pbytes p ∧ ∀ s, F.dirty s = false
theorem KFile.of {A A' : AD} {k : Key} {o : Option Key} (h : KFile A k o) (e : fget A'.fs k = fget A.fs k) : KFile A' k o := by
  cases o with
  | none => exact e.trans h
  | some p =>
    obtain ⟨hp, F, hF, r⟩ := h
    exact ⟨hp, F, e.trans hF, r⟩
section
variable {A : AD} {k k' p : Key}
theorem save_get (h1 : k' ≠ k) (h2 : k' ≠ k ++ dot) : fget (A.save k p).2.fs k' = fget A.fs k' := by
  unfold AD.save
  split
  · rfl
  split
  · rfl
  split
  · exact lay_get h2
  · rw [ren_get h2 h1, lay_get h2]
theorem save_fail (h : (A.save k p).1 ≠ 0) : fget (A.save k p).2.fs k = fget A.fs k := by
  unfold AD.save at h ⊢
  by_cases hk : knameOk k = false
  · rw [if_pos hk]
  rw [if_neg hk] at h ⊢
  by_cases hp : 1048448 < p.length
  · rw [if_pos hp]
  rw [if_neg hp] at h ⊢
  by_cases h1 : (A.lay (k ++ dot) (pbytes p)).1 ≠ 0
  · rw [if_pos h1]; exact lay_get (ne_dot k)
  rw [if_neg h1] at h ⊢
  rw [ren_fail h]
  exact lay_get (ne_dot k)
theorem save_ok (h : (A.save k p).1 = 0) : KFile (A.save k p).2 k (some p) := by
  unfold AD.save at h ⊢
  by_cases hk : knameOk k = false
  · rw [if_pos hk] at h; simp at h
  rw [if_neg hk] at h ⊢
  by_cases hp : 1048448 < p.length
  · rw [if_pos hp] at h; simp at h
  rw [if_neg hp] at h ⊢
  by_cases h1 : (A.lay (k ++ dot) (pbytes p)).1 ≠ 0
  · rw [if_pos h1] at h; exact absurd h h1
  rw [if_neg h1] at h ⊢
  obtain ⟨F, hF, r⟩ := lay_ok (A := A) (d := k ++ dot) (t := pbytes p) (by omega)
  exact ⟨by omega, F, ren_ok hF h, r⟩
theorem save_off (h : (A.save k p).1 ≠ 9) : (A.save k p).2.pow.off = A.pow.off := by
  unfold AD.save at h ⊢
  by_cases hk : knameOk k = false
  · rw [if_pos hk]
  rw [if_neg hk] at h ⊢
  by_cases hp : 1048448 < p.length
  · rw [if_pos hp]
  rw [if_neg hp] at h ⊢
  by_cases h1 : (A.lay (k ++ dot) (pbytes p)).1 ≠ 0
  · rw [if_pos h1] at h ⊢; exact lay_off h
  rw [if_neg h1]
  rw [ren_pow, lay_off (by omega)]
/-! ### a loss of power -/
theorem kfold_same {α β : Type} (f : β → α → β) (b : β) : ∀ l : List α, (∀ x ∈ l, f b x = b) → l.foldl f b = b
  | [], _ => rfl
  | a :: l, h => by
    rw [List.foldl_cons, h a (by simp)]
    exact kfold_same f b l (fun x hx => h x (by simp [hx]))
theorem clean_left {F : AF} {l : List UInt8} (hs : F.safe = l) (hd : ∀ s, F.dirty s = false) (ft : Nat → Option AFate) : F.left ft = l := by
  have hlen : F.len ft = l.length := by
    unfold AF.len
    rw [hs]
    exact kfold_same _ _ _ (fun s _ => by simp [hd])
  unfold AF.left
  rw [hlen]
  apply List.ext_getElem?
  intro i
  rw [List.getElem?_map]
  by_cases hi : i < l.length
  · rw [List.getElem?_range hi, List.getElem?_eq_getElem hi]
    simp [AF.after, hd, hs, hi]
  · rw [List.getElem?_eq_none (by simp; omega), List.getElem?_eq_none (by omega)]; rfl
theorem kget_map (g : Key → AF → AF) (k : Key) : ∀ fs : FList, fget (fs.map (fun p => (p.1, g p.1 p.2))) k = (fget fs k).map (g k)
  | [] => rfl
  | p :: r => by
    rw [List.map_cons, fget_cons, fget_cons]
    by_cases e : p.1 = k
    · rw [if_pos e, if_pos e, e]; rfl
    · rw [if_neg e, if_neg e]; exact kget_map g k r
theorem KFile.crash {o : Option Key} (h : KFile A k o) (l : List AFate) : KFile (A.crash l) k o := by
  unfold AD.crash
  split
  · exact h
  · have e := kget_map (fun k F => F.crash (fateOf l k)) k A.fs
    cases o with
    | none =>
      have h' : fget A.fs k = none := h
      rw [h'] at e
      exact e
    | some p =>
      obtain ⟨hp, F, hF, h1, h2, h3⟩ := h
      rw [hF] at e
      have hl := clean_left h2 h3 (fateOf l k)
      exact ⟨hp, F.crash (fateOf l k), e, hl, hl, fun _ => rfl⟩
theorem KFile.on {o : Option Key} (h : KFile A k o) : KFile A.on k o := by
  unfold AD.on
  cases A.pow.opn with
  | true => exact h.crash []
  | false => exact h
/-! ### Load -/
theorem load_some (h : KFile A k (some p)) (ho : A.pow.off = false) (hok : A.Ok) (hk : knameOk k = true) : A.load k = (p, 0) := by
  obtain ⟨hp, F, hF, h1, h2, h3⟩ := h
  have hr : A.read k 0 1048576 = (pbytes p, 0) := by
    have hm := (hok.files _ (fget_mem hF)).most
    simp only at hm
    unfold AD.read
    rw [if_neg (by rw [ho]; simp), hF]
    simp only
    rw [if_neg (by decide)]
    simp only [Int.toNat_zero, List.drop_zero]
    rw [← h1, show (1048576 : Int).toNat = 1048576 from rfl, List.take_of_length_le hm]
  unfold AD.load
  rw [if_neg (by rw [hk]; simp), hr]
  simp only
  rw [if_neg (by decide), wholeP_bytes hp]
theorem load_none (h : KFile A k none) (ho : A.pow.off = false) (hk : knameOk k = true) : A.load k = ([], 5) := by
  have h' : fget A.fs k = none := h
  have hr : A.read k 0 1048576 = ([], 5) := by
    unfold AD.read
    rw [if_neg (by rw [ho]; simp), h']
  unfold AD.load
  rw [if_neg (by rw [hk]; simp), hr, if_pos (by decide)]
/-! ### the first Save on a new disk -/
def kP0 : AP := ⟨false, false, 0, 0, 0⟩
theorem kcount (x : Int) : kP0.count x = (0, kP0) := by
  unfold AP.count AP.fell
  rw [if_neg (by decide), if_neg (by simp [kP0])]
  rfl
theorem dot_name (h : knameOk k = true) : nameOk (k ++ dot) = true ∧ nameOk k = true := by
  rw [knameOk_eq, Bool.and_eq_true, Bool.and_eq_true, decide_eq_true_iff, decide_eq_true_iff] at h
  obtain ⟨⟨h1, h2⟩, h3⟩ := h
  rw [nameOk_eq, nameOk_eq, List.all_append, h3]
  have h4 : dot.all chOk = true := by decide
  rw [h4, List.length_append, show dot.length = 4 from rfl]
  constructor
  · rw [decide_eq_true (by omega : 1 ≤ k.length + 4), decide_eq_true (by omega : k.length + 4 ≤ 32)]; rfl
  · rw [decide_eq_true h1, decide_eq_true (by omega : k.length ≤ 32)]; rfl
theorem fresh_write {d t : Key} (hn : nameOk d = true) (ht : t.length ≤ 1048576) : (AD.fresh 16777216).write d 0 t = (0, ⟨16777216, [(d, AF.new.write 0 t)], kP0⟩) := by
  have hfl : (AD.fresh 16777216).flen d = 0 := rfl
  have hf : (AD.fresh 16777216).fits d 0 t.length = 0 := by
    unfold AD.fits
    rw [hfl, if_neg (by rw [hn]; simp), if_neg (by omega), if_neg (by simp [AD.fresh]), if_neg (by
      show ¬ ((fused ([] : FList) : Nat) : Int) - 0 + max 0 (0 + (t.length : Int)) > 16777216
      rw [show fused ([] : FList) = 0 from rfl]; omega)]
  unfold AD.write
  rw [if_neg (by simp [AD.fresh]), hf, if_neg (by decide)]
  have hc : (AD.fresh 16777216).pow.count 1 = (0, kP0) := kcount 1
  rw [hc, if_neg (by decide)]
  rfl
theorem one_sync {d : Key} {F : AF} : (⟨16777216, [(d, F)], kP0⟩ : AD).sync d = (0, ⟨16777216, [(d, F.sync)], kP0⟩) := by
  have hg : fget [(d, F)] d = some F := by rw [fget_cons, if_pos rfl]
  have hs : fset [(d, F)] d F.sync = [(d, F.sync)] := by rw [fset_cons, if_pos rfl]; rfl
  have hc : kP0.count 2 = (0, kP0) := kcount 2
  unfold AD.sync
  rw [if_neg (by simp [kP0])]
  simp only [hg, hc, hs]
  rw [if_neg (by decide)]
theorem one_rename {d k : Key} {F : AF} (hn : nameOk k = true) : (⟨16777216, [(d, F)], kP0⟩ : AD).rename d k = (0, ⟨16777216, [(k, F)], kP0⟩) := by
  have hg : fget [(d, F)] d = some F := by rw [fget_cons, if_pos rfl]
  have hs : fput (fdel [(d, F)] d) k F = [(k, F)] := by
    have : fdel [(d, F)] d = [] := by simp [fdel]
    rw [this]; rfl
  unfold AD.rename
  rw [if_neg (by simp [kP0])]
  simp only [hg, hs]
  rw [if_neg (by rw [hn]; simp)]
theorem save_fresh (hk : knameOk k = true) (hp : p.length ≤ 1048448) : (AD.fresh 16777216).save k p = (0, ⟨16777216, [(k, ⟨pbytes p, pbytes p, fun _ => false⟩)], kP0⟩) := by
  obtain ⟨n1, n2⟩ := dot_name hk
  have r1 : (AD.fresh 16777216).remove (k ++ dot) = (5, AD.fresh 16777216) := rfl
  have r2 := fresh_write (d := k ++ dot) (t := pbytes p) n1 (by rw [pbytes_length]; omega)
  have r3 := one_sync (d := k ++ dot) (F := AF.new.write 0 (pbytes p))
  have r4 := one_rename (d := k ++ dot) (F := (AF.new.write 0 (pbytes p)).sync) n2
  have e : (AF.new.write 0 (pbytes p)).sync = ⟨pbytes p, pbytes p, fun _ => false⟩ := by unfold AF.sync; rw [new_seen]
  have hl : (AD.fresh 16777216).lay (k ++ dot) (pbytes p) = (0, ⟨16777216, [(k ++ dot, (AF.new.write 0 (pbytes p)).sync)], kP0⟩) := by
    unfold AD.lay
    rw [r1, if_neg (by simp)]
    simp only [r2, r3]
    rw [if_neg (by decide), if_neg (by decide)]
  unfold AD.save
  rw [if_neg (by rw [hk]; simp), if_neg (by omega), hl, if_neg (by simp)]
  simp only [r4]
  rw [e]
theorem save_long (hk : knameOk k = true) (hp : 1048448 < p.length) : A.save k p = (3, A) := by
  unfold AD.save
  rw [if_neg (by rw [hk]; simp), if_pos hp]
end
end Go.Proofs.YtlkimfmilccanaaGreat
/-
  The statements' own first: what the document gives.
-/
namespace Go.Proofs.YtlkimfmilccanaaGreat
open Go.RowKit Go.Maps Go.WideMaps
set_option linter.unusedVariables false
theorem k_new {B : Nat} {w : World} {L : List Item} (h : Lies B w L) (cap : Int) (h0 : 0 ≤ cap) (h1 : cap ≤ 16777216) : Calls Tryz.prog 8 #[.int .i64 cap] w fun e w' => ∃ p, e = .returned (.tuple #[.pointer (some ⟨p, 0, none⟩), .int .i64 0]) ∧ Lies B w' (L ++ [.disk p (AD.fresh cap)]) ∧ Below B w w' := by
  refine (new_good w cap h0 h1).mono ?_
  rintro e w' ⟨rfl, hd, hb⟩
  refine ⟨_, rfl, h.push (S' := foot (w.heap.size + 1) w.heap.size (fun _ => FC.void) (AD.fresh cap).fs) hb ⟨w.heap.size, _, hd, fun _ => Iff.rfl⟩ ?_, hb.mono h.base⟩
  rintro b (rfl | rfl | ⟨k, F, hk, _⟩)
  · exact Nat.le_succ _
  · exact Nat.le_refl _
  · simp [AD.fresh, fget] at hk
def KF0 : AD := AD.fresh 100000
def KF1 : AD := (KF0.save [99] [97, 98]).2
def KF2 : AD := (KF1.save [99] [111, 108, 100]).2
def KF3 : AD := KF2.fallen 2
def KF4 : AD := (KF3.save [99] [110, 101, 119]).2
def KF5 : AD := KF4.crash []
def KF6 : AD := KF5.on
set_option maxRecDepth 100000 in
theorem kv1 : (KF0.save [99] [97, 98]).1 = 0 := by decide +kernel
set_option maxRecDepth 100000 in
theorem kv2 : KF1.size [99] = (10, 0) := by decide +kernel
set_option maxRecDepth 100000 in
theorem kv3 : (KF1.save [99] [111, 108, 100]).1 = 0 := by decide +kernel
set_option maxRecDepth 100000 in
theorem kv4 : (KF3.save [99] [110, 101, 119]).1 = 9 := by decide +kernel
set_option maxRecDepth 100000 in
theorem kv5 : KF6.load [99] = ([111, 108, 100], 0) := by decide +kernel
set_option maxRecDepth 100000 in
theorem kv6 : KF6.load [113] = ([], 5) := by decide +kernel
section
variable {B : Nat} {w : World} {p : Nat}
-- left out in this seat: kc1
theorem kc2 (h : Lies B w [.disk p KF1]) : Calls Tryz.prog 32 #[.pointer (some ⟨p, 0, none⟩), .string ⟨#[99]⟩] w fun e w' => e = .returned (.tuple #[.int .i64 10, .int .i64 0]) ∧ w' = w := by
  have := s_size (i := 0) h rfl ⟨#[99]⟩ (by decide)
  have e : KF1.size (⟨#[99]⟩ : ByteArray).data.toList = (10, 0) := kv2
  rw [e] at this
  exact this
-- left out in this seat: kc3
-- left out in this seat: kc4
-- left out in this seat: kc5
-- left out in this seat: kc6
end
-- left out in this seat: kFirst_any
end Go.Proofs.YtlkimfmilccanaaGreat
/-
  The document's four, Bytes, named, has.
-/
namespace Go.Proofs.YtlkimfmilccanaaGreat
open Go.RowKit Go.Maps Go.WideMaps
set_option linter.unusedVariables false
-- left out in this seat: rFour_any
-- left out in this seat: rBytes_any
theorem named_eq (k : Key) : knameOk k = (nameOk k && decide (k.length ≤ 28)) := by
  rw [knameOk_eq, nameOk_eq]
  by_cases h : k.length ≤ 28
  · rw [decide_eq_true h, decide_eq_true (by omega : k.length ≤ 32)]
    cases decide (1 ≤ k.length) <;> cases k.all chOk <;> rfl
  · rw [decide_eq_false h]
    cases decide (1 ≤ k.length) <;> cases k.all chOk <;> simp
-- left out in this seat: named_any
theorem klist_has {A : AD} (ho : A.pow.off = false) (k : Key) : A.list.contains k = (fget A.fs k).isSome := by
  unfold AD.list
  rw [if_neg (by rw [ho]; simp)]
  cases hq : fget A.fs k with
  | none =>
    rw [Option.isSome_none, ← Bool.not_eq_true, List.contains_iff_mem]
    intro hm
    obtain ⟨p, hp, e⟩ := List.mem_map.1 hm
    exact fget_none_iff.1 hq p hp e
  | some F =>
    rw [Option.isSome_some, List.contains_iff_mem]
    exact List.mem_map.2 ⟨_, fget_mem hq, rfl⟩
section
variable {B : Nat} {w : World} {L : List Item} {i r : Nat} {A : AD}
-- left out in this seat: has_any
end
end Go.Proofs.YtlkimfmilccanaaGreat
/-
  The document's Save and Load.
-/
namespace Go.Proofs.YtlkimfmilccanaaGreat
open Go.RowKit Go.Maps Go.WideMaps
set_option linter.unusedVariables false
theorem ok_pow {A : AD} {P : AP} (h : A.Ok) (hp : P.Ok) : AD.Ok { A with pow := P } := ⟨h.c0, h.c1, h.sorted, h.names, h.few, h.files, h.space, hp⟩
theorem ok_remove {A : AD} {d : Key} (h : A.Ok) : (A.remove d).2.Ok := by
  unfold AD.remove
  split
  · exact h
  split
  · exact h
  · have hl := fdel_length (fs := A.fs) (k := d)
    have h1 := fused_fdel_le (fs := A.fs) (k := d)
    have h2 := h.space
    have h3 := h.few
    exact ⟨h.c0, h.c1, fdel_sorted h.sorted, fun q hq => h.names q (List.mem_filter.1 hq).1, by show (fdel A.fs d).length ≤ 16; omega, fun q hq => h.files q (List.mem_filter.1 hq).1, by show (fused (fdel A.fs d) : Int) ≤ A.cap; omega, h.pow⟩
theorem ok_write {A : AD} {d t : Key} (h : A.Ok) (h0 : fget A.fs d = none) : (A.write d 0 t).2.Ok := by
  unfold AD.write
  split
  · exact h
  by_cases hf : A.fits d 0 t.length ≠ 0
  · rw [if_pos hf]; exact h
  rw [if_neg hf]
  split
  · exact ok_pow h (h.pow.count 1)
  rw [h0]
  have hz := fits_zero (A := A) (k := d) (a := 0) (n := (t.length : Int)) (by omega)
  have hfl : A.flen d = 0 := by unfold AD.flen; rw [h0]
  rw [hfl] at hz
  obtain ⟨hn, _, _, hm, hl, hc⟩ := hz
  have hl' := hl h0
  have hdk := fdel_of_none h0
  have hs : (AF.new.write 0 t).seen = t := new_seen
  have hmem : ∀ q ∈ fput A.fs d (AF.new.write 0 t), q = (d, AF.new.write 0 t) ∨ q ∈ A.fs := fun q hq => by
    unfold fput at hq
    rw [hdk] at hq
    exact mem_fins.1 hq
  have hok : (AF.new.write 0 t).Ok := AF.Ok.new.write (Nat.zero_le _) (by omega)
  refine ⟨h.c0, h.c1, fput_sorted h.sorted, fun q hq => ?_, ?_, fun q hq => ?_, ?_, h.pow.count 1⟩
  · rcases hmem q hq with rfl | hq
    · exact hn
    · exact h.names q hq
  · have := fput_length (fs := A.fs) (k := d) (F := AF.new.write 0 t)
    show (fput A.fs d (AF.new.write 0 t)).length ≤ 16
    omega
  · rcases hmem q hq with rfl | hq
    · exact hok
    · exact h.files q hq
  · show (fused (fput A.fs d (AF.new.write 0 t)) : Int) ≤ A.cap
    unfold fput
    rw [fused_fins, hdk]
    simp only [hs]
    omega
theorem ok_sync {A : AD} {d : Key} (h : A.Ok) : (A.sync d).2.Ok := by
  unfold AD.sync
  split
  · exact h
  cases hq : fget A.fs d with
  | none => exact h
  | some F =>
    simp only
    split
    · exact ok_pow h (h.pow.count 2)
    · have hF := h.files _ (fget_mem hq)
      have hu := fused_fset (F' := F.sync) (apart_of h.sorted) hq
      have hl : F.sync.seen.length = F.seen.length := rfl
      have hsp := h.space
      refine ⟨h.c0, h.c1, fset_sorted h.sorted, fun q hq' => ?_, by show (fset A.fs d F.sync).length ≤ 16; rw [fset_length]; exact h.few, fun q hq' => ?_, by show (fused (fset A.fs d F.sync) : Int) ≤ A.cap; omega, h.pow.count 2⟩
      · rcases fset_mem hq' with rfl | hq'
        · have := h.names (d, F) (fget_mem hq)
          exact this
        · exact h.names q hq'
      · rcases fset_mem hq' with rfl | hq'
        · exact AF.Ok.sync hF
        · exact h.files q hq'
theorem rem_none {A : AD} {d : Key} (ho : A.pow.off = false) (h : fget A.fs d = none) : A.remove d = (5, A) := by
  unfold AD.remove
  rw [if_neg (by rw [ho]; simp), h]
theorem rem_some {A : AD} {d : Key} (ho : A.pow.off = false) (h : (fget A.fs d).isSome = true) : (A.remove d).1 = 0 := by
  unfold AD.remove
  rw [if_neg (by rw [ho]; simp)]
  cases hq : fget A.fs d with
  | none => rw [hq] at h; cases h
  | some F => rfl
theorem save_lay {A : AD} {k p : Key} (hk : knameOk k = true) (hp : p.length ≤ 1048448) (ho : A.pow.off = false) {d t : Key} (hd : d = k ++ dot) (ht : t = pbytes p) {A1 A2 A3 A4 A5 : AD} {E2 E3 E5 : Int}
    (h1 : (A.remove d).2 = A1) (h2 : A1.write d 0 t = (E2, A2)) (h3 : A2.sync d = (E3, A3)) (h4 : (A3.remove d).2 = A4) (h5 : A3.rename d k = (E5, A5)) :
    A.save k p = (if E2 ≠ 0 then (E2, A2) else if E3 ≠ 0 then (E3, A4) else (E5, A5)) := by
  have hr : ¬ ((A.remove d).1 ≠ 0 ∧ (A.remove d).1 ≠ 5) := by
    cases hq : fget A.fs d with
    | none => rw [rem_none ho hq]; simp
    | some F => rw [rem_some ho (by rw [hq]; rfl)]; simp
  unfold AD.save AD.lay
  rw [if_neg (by rw [hk]; simp), if_neg (by omega), ← hd, ← ht, if_neg hr, h1, h2, h3, h4]
  by_cases e2 : E2 ≠ 0
  · rw [if_pos e2, if_pos e2, if_pos e2]
  · rw [if_neg e2, if_neg e2]
    by_cases e3 : E3 ≠ 0
    · rw [if_pos e3, if_pos e3, if_pos e3]
    · rw [if_neg e3, if_neg e3, if_neg (by simp)]
      simp only
      rw [h5]
theorem save_dead {A : AD} {k p : Key} (hk : knameOk k = true) (hp : p.length ≤ 1048448) (ho : A.pow.off = true) : A.save k p = (9, A) := by
  have hr : A.remove (k ++ dot) = (9, A) := by unfold AD.remove; rw [if_pos ho]
  unfold AD.save AD.lay
  rw [if_neg (by rw [hk]; simp), if_neg (by omega), hr, if_pos (by simp), if_pos (by simp)]
section
variable {B : Nat} {w : World} {L : List Item} {i r : Nat} {A : AD}
-- left out in this seat: rSave_any
-- left out in this seat: rLoad_any
end
end Go.Proofs.YtlkimfmilccanaaGreat
