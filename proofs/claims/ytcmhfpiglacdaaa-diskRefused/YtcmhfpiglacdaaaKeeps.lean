/-
  What is safe stays: the mathematics.
-/
import Derived.Test.YtcmhfpiglacdaaaRowsOwn
namespace Go.Proofs.Ytcmhfpiglacdaaa
open Go.RowKit Go.Maps Go.WideMaps
set_option linter.unusedVariables false
set_option linter.unusedSimpArgs false
/-- All of the file is safe. -/
structure Clean (F : AF) (l : List UInt8) : Prop where
  seen : F.seen = l
  safe : F.safe = l
  dirty : ∀ s, F.dirty s = false
theorem foldl_same {α β : Type} (f : β → α → β) (b : β) : ∀ l : List α, (∀ x ∈ l, f b x = b) → l.foldl f b = b
  | [], _ => rfl
  | a :: l, h => by
    rw [List.foldl_cons, h a (by simp)]
    exact foldl_same f b l (fun x hx => h x (by simp [hx]))
theorem Clean.len {F : AF} {l : List UInt8} (h : Clean F l) (ft : Nat → Option AFate) : F.len ft = l.length := by
  unfold AF.len
  rw [h.safe]
  exact foldl_same _ _ _ (fun s _ => by simp [h.dirty])
theorem Clean.left {F : AF} {l : List UInt8} (h : Clean F l) (ft : Nat → Option AFate) : F.left ft = l := by
  unfold AF.left
  rw [h.len]
  apply List.ext_getElem?
  intro i
  rw [List.getElem?_map]
  by_cases hi : i < l.length
  · rw [List.getElem?_range hi, List.getElem?_eq_getElem hi]
    simp [AF.after, h.dirty, h.safe, hi]
  · rw [List.getElem?_eq_none (by simp; omega), List.getElem?_eq_none (by omega)]; rfl
theorem Clean.crash {F : AF} {l : List UInt8} (h : Clean F l) (ft : Nat → Option AFate) : Clean (F.crash ft) l := ⟨h.left ft, h.left ft, fun _ => rfl⟩
theorem Clean.sync (F : AF) : Clean F.sync F.seen := ⟨rfl, rfl, fun _ => rfl⟩
theorem Clean.trunc {F : AF} {l : List UInt8} (h : Clean F l) (n : Nat) : Clean (F.trunc n) (l.take n) := ⟨by simp [AF.trunc, h.seen], by simp [AF.trunc, h.safe], fun s => by simp [AF.trunc, h.dirty]⟩
theorem fget_map (g : Key → AF → AF) (k : Key) : ∀ fs : FList, fget (fs.map (fun p => (p.1, g p.1 p.2))) k = (fget fs k).map (g k)
  | [] => rfl
  | p :: r => by
    rw [List.map_cons, fget_cons, fget_cons]
    by_cases e : p.1 = k
    · rw [if_pos e, if_pos e, e]; rfl
    · rw [if_neg e, if_neg e]; exact fget_map g k r
theorem crash_get (A : AD) (l : List AFate) (k : Key) : fget (A.crash l).fs k = fget A.fs k ∨ ∃ ft, fget (A.crash l).fs k = (fget A.fs k).map (·.crash ft) := by
  unfold AD.crash
  split
  · exact .inl rfl
  · exact .inr ⟨fateOf l k, fget_map (fun k F => F.crash (fateOf l k)) k A.fs⟩
theorem on_get (A : AD) (k : Key) : fget A.on.fs k = fget A.fs k ∨ ∃ ft, fget A.on.fs k = (fget A.fs k).map (·.crash ft) := by
  unfold AD.on
  split
  · exact crash_get A [] k
  · exact .inl rfl
/-- A step that does not name the file leaves it, or it goes through a crash. -/
theorem step_get (A : AD) (o : OP) (k : Key) (h1 : o.name.data.toList ≠ k) (h2 : o.to.data.toList ≠ k) :
    fget (A.step o).2.fs k = fget A.fs k ∨ ∃ ft, fget (A.step o).2.fs k = (fget A.fs k).map (·.crash ft) := by
  have h1' : k ≠ o.name.data.toList := fun e => h1 e.symm
  have h2' : k ≠ o.to.data.toList := fun e => h2 e.symm
  unfold AD.step
  split
  · left
    unfold AD.write
    split
    · rfl
    split
    · rfl
    split
    · rfl
    split
    · exact fget_fset_ne h1'
    · exact fget_fput_ne h1'
  split
  · left
    unfold AD.sync
    split
    · rfl
    split
    · rfl
    split
    · rfl
    · exact fget_fset_ne h1'
  split
  · left
    unfold AD.trunc
    split
    · rfl
    split
    · rfl
    split
    · rfl
    · exact fget_fset_ne h1'
  split
  · left
    unfold AD.rename
    split
    · rfl
    split
    · rfl
    split
    · rfl
    · show fget (fput (fdel A.fs o.name.data.toList) o.to.data.toList _) k = _
      rw [fget_fput_ne h2', fget_fdel_ne h1']
  split
  · left
    unfold AD.remove
    split
    · rfl
    split
    · rfl
    · exact fget_fdel_ne h1'
  split
  · left; unfold AD.armed; split <;> rfl
  split
  · left; rfl
  split
  · exact crash_get A _ k
  split
  · exact on_get A k
  · left; rfl
/-- The file is there, all of it safe. -/
def Kept (A : AD) (k : Key) (l : List UInt8) : Prop := ∃ F, fget A.fs k = some F ∧ Clean F l
def Gone (A : AD) (k : Key) : Prop := fget A.fs k = none
theorem Kept.of {A A' : AD} {k : Key} {l : List UInt8} (h : Kept A k l) (e : fget A'.fs k = fget A.fs k ∨ ∃ ft, fget A'.fs k = (fget A.fs k).map (·.crash ft)) : Kept A' k l := by
  obtain ⟨F, hF, hc⟩ := h
  rcases e with e | ⟨ft, e⟩
  · exact ⟨F, e.trans hF, hc⟩
  · exact ⟨F.crash ft, by rw [e, hF]; rfl, hc.crash ft⟩
theorem Gone.of {A A' : AD} {k : Key} (h : Gone A k) (e : fget A'.fs k = fget A.fs k ∨ ∃ ft, fget A'.fs k = (fget A.fs k).map (·.crash ft)) : Gone A' k := by
  unfold Gone at h ⊢
  rcases e with e | ⟨ft, e⟩
  · exact e.trans h
  · rw [e, h]; rfl
theorem Kept.all {A : AD} {k : Key} {l : List UInt8} (h : Kept A k l) (ho : A.pow.off = false) (hok : A.Ok) : A.all k = l := by
  obtain ⟨F, hF, hc⟩ := h
  have hm := (hok.files _ (fget_mem hF)).most
  simp only at hm
  unfold AD.all AD.read
  rw [if_neg (by rw [ho]; simp), hF]
  simp only
  rw [if_neg (by decide)]
  simp only [Int.toNat_zero, List.drop_zero]
  rw [← hc.seen]
  exact List.take_of_length_le hm
theorem Kept.dirty {A : AD} {k : Key} {l : List UInt8} (h : Kept A k l) : A.dirtyI k = [] := by
  obtain ⟨F, hF, hc⟩ := h
  unfold AD.dirtyI AD.dirty
  split
  · rfl
  · rw [hF]
    simp only [AF.dirtyL, List.map_eq_nil_iff, List.filter_eq_nil_iff]
    intro s _
    rw [hc.dirty]; simp
theorem Kept.size {A : AD} {k : Key} {l : List UInt8} (h : Kept A k l) (ho : A.pow.off = false) : A.size k = ((l.length : Int), 0) := by
  obtain ⟨F, hF, hc⟩ := h
  unfold AD.size
  rw [if_neg (by rw [ho]; simp), hF]
  simp only
  rw [hc.seen]
theorem list_has {A : AD} (ho : A.pow.off = false) (k : Key) : A.list.contains k = (fget A.fs k).isSome := by
  unfold AD.list
  rw [if_neg (by rw [ho]; simp)]
  cases hq : fget A.fs k with
  | none =>
    rw [Option.isSome_none, ← Bool.not_eq_true, List.contains_iff_mem]
    intro hm
    obtain ⟨p, hp, e⟩ := List.mem_map.1 hm
    exact fget_none_iff.1 hq p hp e
  | some F =>
    rw [Option.isSome_some, List.contains_iff_mem]
    exact List.mem_map.2 ⟨_, fget_mem hq, rfl⟩
theorem Kept.list {A : AD} {k : Key} {l : List UInt8} (h : Kept A k l) (ho : A.pow.off = false) : A.list.contains k = true := by
  obtain ⟨F, hF, hc⟩ := h
  rw [list_has ho, hF]; rfl
theorem Gone.list {A : AD} {k : Key} (h : Gone A k) (ho : A.pow.off = false) : A.list.contains k = false := by
  rw [list_has ho, h]; rfl
def p0 : AP := ⟨false, false, 0, 0, 0⟩
theorem p0_count (x : Int) : p0.count x = (0, p0) := by
  unfold AP.count AP.fell
  rw [if_neg (by decide), if_neg (by simp [p0])]
  rfl
theorem on_off (A : AD) : A.on.pow.off = false := rfl
/-- Where something is open the power is off. -/
def AD.Sound (A : AD) : Prop := A.pow.opn = true → A.pow.off = true
theorem count_sound {P : AP} (h : P.opn = true → P.off = true) (x : Int) : (P.count x).2.opn = true → (P.count x).2.off = true := by
  unfold AP.count
  split
  · intro _; rfl
  · split
    · exact h
    · exact h
theorem crash_opn {A : AD} (h : A.Sound) (l : List AFate) : (A.crash l).pow.opn = false ∧ (A.crash l).pow.off = true := by
  unfold AD.crash
  split
  · rename_i hq; exact ⟨hq.2, hq.1⟩
  · exact ⟨rfl, rfl⟩
theorem on_opn {A : AD} (h : A.Sound) : A.on.pow.opn = false := by
  unfold AD.on
  cases hq : A.pow.opn with
  | true => simp only [if_true]; exact (crash_opn h []).1
  | false => simp [hq]
theorem step_sound {A : AD} (h : A.Sound) (o : OP) : (A.step o).2.Sound := by
  unfold AD.step
  split
  · unfold AD.write
    split
    · exact h
    split
    · exact h
    split
    · exact count_sound h 1
    split
    · exact count_sound h 1
    · exact count_sound h 1
  split
  · unfold AD.sync
    split
    · exact h
    split
    · exact h
    split
    · exact count_sound h 2
    · exact count_sound h 2
  split
  · unfold AD.trunc
    split
    · exact h
    split
    · exact h
    split
    · exact h
    · exact h
  split
  · unfold AD.rename
    split
    · exact h
    split
    · exact h
    split
    · exact h
    · exact h
  split
  · unfold AD.remove
    split
    · exact h
    split
    · exact h
    · exact h
  split
  · unfold AD.armed; split <;> exact h
  split
  · exact h
  split
  · intro hx
    have := (crash_opn h (o.fates.map FT.abs)).1
    rw [this] at hx; cases hx
  split
  · intro hx
    rw [on_opn h] at hx; cases hx
  · exact h
theorem play_sound (os : List OP) : ∀ {A : AD}, A.Sound → (playD A os).Sound := by
  induction os with
  | nil => exact fun h => h
  | cons o os ih => exact fun h => ih (step_sound h o)
theorem made_pow (os : List OP) : (madeD os).pow = p0 := by
  have hs : (playD (AD.fresh 100000) os).Sound := play_sound os (by intro h; cases h)
  have h1 := on_opn hs
  have h2 := on_off (playD (AD.fresh 100000) os)
  unfold madeD AD.fallen AD.armed
  rw [if_pos (by decide)]
  simp only
  rw [h1, h2]
  rfl
end Go.Proofs.Ytcmhfpiglacdaaa
