/-
  MarkSafe: what its walk holds.
-/
import Derived.Test.YtlkimfmilccanaaGreatMkTale3
import Derived.Test.YtlkimfmilccanaaGreatMkOk
import Derived.Test.YtlkimfmilccanaaGreatMkOk
import Derived.Test.YtlkimfmilccanaaGreatMkOk
namespace Go.Proofs.YtlkimfmilccanaaGreat
open Go.RowKit Go.Maps Go.WideMaps
set_option linter.unusedVariables false
set_option linter.unusedSimpArgs false
abbrev oneB : ByteArray := ⟨#[111, 110, 101]⟩
abbrev twoB : ByteArray := ⟨#[116, 119, 111]⟩
def laCells (t0 t1 : Nat) : Array Value := #[.pointer (some ⟨t0, 0, none⟩), .pointer (some ⟨t1, 0, none⟩)]
def SL (p : Nat) (A : AD) (t0 t1 la : Nat) (s0 s1 : TS) (X : List Item) : List Item := .disk p A :: s0.blk t0 :: s1.blk t1 :: s0.row :: s1.row :: .block la (.cells (laCells t0 t1) 56 (0, 0)) :: mkO p oneB s0.m :: mkO p twoB s1.m :: X
theorem at0 (p : Nat) (A : AD) (t0 t1 la : Nat) (s0 s1 : TS) (X : List Item) : TAt (SL p A t0 t1 la s0 s1 X) p A 1 3 6 t0 s0 oneB := ⟨rfl, rfl, rfl, rfl, by decide, by decide, by decide, by decide, by decide, by decide⟩
theorem at1 (p : Nat) (A : AD) (t0 t1 la : Nat) (s0 s1 : TS) (X : List Item) : TAt (SL p A t0 t1 la s0 s1 X) p A 2 4 7 t1 s1 twoB := ⟨rfl, rfl, rfl, rfl, by decide, by decide, by decide, by decide, by decide, by decide⟩
theorem next0 {p : Nat} {A A' : AD} {t0 t1 la : Nat} {s0 s1 s' : TS} {X : List Item} (hv : s'.v = s0.v) (ht : s'.tr = s0.tr) : TAt.next (SL p A t0 t1 la s0 s1 X) p A' 1 6 t0 s' oneB = SL p A' t0 t1 la s' s1 X := by
  have e : s'.row = s0.row := by unfold TS.row; rw [hv, ht]
  unfold TAt.next SL
  rw [e]
  rfl
theorem next1 {p : Nat} {A A' : AD} {t0 t1 la : Nat} {s0 s1 s' : TS} {X : List Item} (hv : s'.v = s1.v) (ht : s'.tr = s1.tr) : TAt.next (SL p A t0 t1 la s0 s1 X) p A' 2 7 t1 s' twoB = SL p A' t0 t1 la s0 s' X := by
  have e : s'.row = s1.row := by unfold TS.row; rw [hv, ht]
  unfold TAt.next SL
  rw [e]
  rfl
theorem next20 {p : Nat} {A A' : AD} {t0 t1 la : Nat} {s0 s1 s' : TS} {X : List Item} : TAt.next2 (SL p A t0 t1 la s0 s1 X) p A' 1 3 6 t0 s' oneB = SL p A' t0 t1 la s' s1 X := rfl
theorem next21 {p : Nat} {A A' : AD} {t0 t1 la : Nat} {s0 s1 s' : TS} {X : List Item} : TAt.next2 (SL p A t0 t1 la s0 s1 X) p A' 2 4 7 t1 s' twoB = SL p A' t0 t1 la s0 s' X := rfl
theorem SL.la {B : Nat} {w : World} {p : Nat} {A : AD} {t0 t1 la : Nat} {s0 s1 : TS} {X : List Item} (h : Lies B w (SL p A t0 t1 la s0 s1 X)) : w.cell? ⟨la, 0, none⟩ = some (.pointer (some ⟨t0, 0, none⟩)) ∧ w.cell? ⟨la, 1, none⟩ = some (.pointer (some ⟨t1, 0, none⟩)) := by
  have hc := block_at (q := 5) h rfl
  exact ⟨by rw [cell_of_row w la 0 _ _ (0, 0) hc]; rfl, by rw [cell_of_row w la 1 _ _ (0, 0) hc]; rfl⟩
theorem SL.dropX {B : Nat} {w : World} {p : Nat} {A : AD} {t0 t1 la : Nat} {s0 s1 : TS} {X : List Item} (h : Lies B w (SL p A t0 t1 la s0 s1 X)) : Lies B w (SL p A t0 t1 la s0 s1 []) := Lies.drop (L := SL p A t0 t1 la s0 s1 []) (M := X) h
/-- A step's own variable. -/
def opB (o : MOp) (g : Nat) : Item := .block g (.cells o.cs 59 (0, 0))
theorem SL.op {B : Nat} {w : World} {p : Nat} {A : AD} {t0 t1 la g : Nat} {s0 s1 : TS} {o : MOp} (h : Lies B w (SL p A t0 t1 la s0 s1 [opB o g])) : w.cell? ⟨g, 0, none⟩ = some (.int .i64 o.kind) ∧ w.cell? ⟨g, 1, none⟩ = some (.bool o.two) ∧ w.cell? ⟨g, 2, none⟩ = some (.int .i64 o.n) ∧ w.cell? ⟨g, 4, none⟩ = some (.slice o.ad o.fates.length o.cap) := by
  have hc := block_at (q := 8) h rfl
  exact ⟨by rw [cell_of_row w g 0 _ _ (0, 0) hc]; rfl, by rw [cell_of_row w g 1 _ _ (0, 0) hc]; rfl, by rw [cell_of_row w g 2 _ _ (0, 0) hc]; rfl, by rw [cell_of_row w g 4 _ _ (0, 0) hc]; rfl⟩
/-- What is known between two steps. -/
structure SafeI (A : AD) (s0 s1 : TS) : Prop where
  rm : Rm A
  t0 : TI A oneL s0.ac s0.tr s0.M
  t1 : TI A twoL s1.ac s1.tr s1.M
theorem TI.x1 {A : AD} {k : Key} {ac : Int} {tr : List Int} {v : Int} {x : Nat} (h : TI A k ac tr (some (v, x))) : x ≤ 1 := by
  rcases h with ⟨_, _, h⟩ | ⟨F, j, g, hF, hs, hm⟩
  · cases h
  · have := (hm v x rfl).2; omega
theorem TI.len {A : AD} {k : Key} {ac : Int} {tr : List Int} {M : Option (Int × Nat)} (h : TI A k ac tr M) : ∀ F, fget A.fs k = some F → F.seen.length = 128 := by
  intro F hF
  rcases h with ⟨h, _⟩ | ⟨G, j, g, hG, hs, _⟩
  · rw [h] at hF; cases hF
  · rw [hG] at hF; cases hF; exact hs.len
theorem crash_len {A : AD} {k : Key} {ac : Int} {tr : List Int} {M : Option (Int × Nat)} (hok : A.Ok) (h : TI A k ac tr M) (l : List AFate) : ∀ F, fget ((A.crash l).on).fs k = some F → F.seen.length = 128 := by
  intro F hF
  rcases crash_on_get (A := A) l k with e | e
  · rw [e] at hF; exact h.len F hF
  · rw [e] at hF
    rcases h with ⟨h, _⟩ | ⟨G, j, g, hG, hs, _⟩
    · rw [h] at hF; cases hF
    · rw [hG] at hF
      cases hF
      show (G.left _).length = 128
      rw [AF.left_length]
      exact left_len (hok.files _ (fget_mem hG)) hs.len hs.slen _
section
variable {A : AD} {s0 s1 : TS}
/-- Open of a file, told of both tales. -/
theorem SafeI.open0 (h : SafeI A s0 s1) (hok : A.Ok) : OpOk A oneL s0.ac s0.tr (A.openM oneL).1 (A.openM oneL).2.1 (A.openM oneL).2.2 ∧ TI (A.openM oneL).2.2 twoL s1.ac s1.tr s1.M := ⟨open_keeps hok (mok_remove hok) nm_one h.rm h.t0, h.t1.of (open_get (by decide) (by decide))⟩
theorem SafeI.open1 (h : SafeI A s0 s1) (hok : A.Ok) : OpOk A twoL s1.ac s1.tr (A.openM twoL).1 (A.openM twoL).2.1 (A.openM twoL).2.2 ∧ TI (A.openM twoL).2.2 oneL s0.ac s0.tr s0.M := ⟨open_keeps hok (mok_remove hok) nm_two h.rm h.t1, h.t0.of (open_get (by decide) (by decide))⟩
theorem OpOk.no0 {E : Int} {o : Option (Int × Nat)} {A' : AD} (h : OpOk A oneL s0.ac s0.tr E o A') (hb : TI A' twoL s1.ac s1.tr s1.M) (e : o = none) : SafeI A' { s0 with m := none } s1 := ⟨h.rm, (h.no e).2, hb⟩
theorem OpOk.yes0 {E : Int} {o : Option (Int × Nat)} {A' : AD} (h : OpOk A oneL s0.ac s0.tr E o A') (hb : TI A' twoL s1.ac s1.tr s1.M) {g : Nat} {v : Int} {x : Nat} (e : o = some (v, x)) : SafeI A' { s0 with m := some (g, v, x), ac := v } s1 := ⟨h.rm, (h.yes v x e).2.2.2.2, hb⟩
theorem OpOk.no1 {E : Int} {o : Option (Int × Nat)} {A' : AD} (h : OpOk A twoL s1.ac s1.tr E o A') (hb : TI A' oneL s0.ac s0.tr s0.M) (e : o = none) : SafeI A' s0 { s1 with m := none } := ⟨h.rm, hb, (h.no e).2⟩
theorem OpOk.yes1 {E : Int} {o : Option (Int × Nat)} {A' : AD} (h : OpOk A twoL s1.ac s1.tr E o A') (hb : TI A' oneL s0.ac s0.tr s0.M) {g : Nat} {v : Int} {x : Nat} (e : o = some (v, x)) : SafeI A' s0 { s1 with m := some (g, v, x), ac := v } := ⟨h.rm, hb, (h.yes v x e).2.2.2.2⟩
theorem SafeI.same {A' : AD} (h : SafeI A s0 s1) (hf : A'.fs = A.fs) (hc : A'.cap = A.cap) : SafeI A' s0 s1 := ⟨⟨hc.trans h.rm.cap, fun k F hF => h.rm.fs k F (by rw [← hf]; exact hF)⟩, h.t0.of (by rw [hf]), h.t1.of (by rw [hf])⟩
theorem armed_fs' (A : AD) (n x : Int) : (A.armed n x).fs = A.fs ∧ (A.armed n x).cap = A.cap := by unfold AD.armed; split <;> exact ⟨rfl, rfl⟩
/-- What a Raise leaves of a file. -/
theorem raise_math {k : Key} {ac : Int} {tr : List Int} {v : Int} {x : Nat} (hok : A.Ok) (hn : Nm k) (hr : Rm A) (h : TI A k ac tr (some (v, x))) (n : Int) (hnb : numB n = true) :
    ∃ E v' x' A', A.raiseM k v x n = (E, (v', x'), A') ∧ (n ≤ v → E = 0 ∧ v' = v) ∧ (v < n → E ≠ 0 → v' = v ∧ E ≠ 1 ∧ E ≠ 190) ∧ (v < n → E = 0 → v' = n) ∧ Rm A' ∧ TI A' k (if v < n ∧ E = 0 then n else ac) (tr ++ [n]) (some (v', x')) := by
  by_cases hv : v < n
  · obtain ⟨E, v', x', A', hR, h1, h2, _⟩ := raise_keeps hok hn.n1 h hnb hv
    have hrm : Rm A' := by
      have hA : A' = (A.raiseM k v x n).2.2 := by rw [hR]
      rcases h with ⟨_, _, h⟩ | ⟨F, j, g, hF, hs, hm⟩
      · cases h
      have hx := (hm v x rfl).2
      rw [hA]
      unfold AD.raiseM
      rw [if_neg (by rw [hnb]; simp), if_neg (by omega)]
      have r1 : Rm (A.write k ((64 * x : Nat) : Int) (slotL n)).2 := hr.writeSlot hF hs.len (by omega)
      split
      · exact r1
      split
      · exact r1.sync
      · exact r1.sync
    refine ⟨E, v', x', A', hR, fun h => absurd h (by omega), fun _ e => ⟨(h1 e).1, (h1 e).2.2.1, (h1 e).2.2.2.1⟩, fun _ e => (h2 e).1, hrm, ?_⟩
    by_cases e : E = 0
    · obtain ⟨rfl, rfl, h3⟩ := h2 e
      rw [if_pos ⟨hv, e⟩]
      exact h3
    · obtain ⟨rfl, rfl, _, _, h3⟩ := h1 e
      rw [if_neg (fun h => e h.2)]
      exact h3
  · refine ⟨0, v, x, A, ?_, fun _ => ⟨rfl, rfl⟩, fun h => absurd h hv, fun h => absurd h hv, hr, ?_⟩
    · unfold AD.raiseM
      rw [if_neg (by rw [hnb]; simp), if_pos (by omega)]
    · rw [if_neg (fun h => hv h.1)]
      rcases h with ⟨_, _, h⟩ | ⟨F, j, g, hF, hs, hm⟩
      · cases h
      · exact .inr ⟨F, j, g, hF, ⟨hs.j1, hs.len, hs.slen, hs.dj, hs.wj, hs.sj, hs.ga, fun s a b c => (hs.as_ s a b c).app n, fun s a b c => (hs.af s a b c).app n⟩, hm⟩
theorem SafeI.crash (h : SafeI A s0 s1) (hok : A.Ok) (l : List AFate) (f0 : forgB (A.crash l).on oneL s0.tr = false) (f1 : forgB (A.crash l).on twoL s1.tr = false) : SafeI (A.crash l).on { s0 with m := none } { s1 with m := none } := ⟨h.rm.crash hok l, crash_keeps hok h.t0 l (forgB_false f0), crash_keeps hok h.t1 l (forgB_false f1)⟩
theorem SafeI.crash0 (h : SafeI A s0 s1) (hok : A.Ok) : SafeI (A.crash []).on { s0 with m := none } { s1 with m := none } := ⟨h.rm.crash hok [], crash0_keeps hok h.t0, crash0_keeps hok h.t1⟩
theorem calm_end (ha : A.pow.arm = 0) (hf : A.pow.fall = 0) : Calm ((A.crash []).on).pow := by
  unfold AD.crash
  by_cases h : A.pow.off = true ∧ A.pow.opn = false
  · rw [if_pos h]
    unfold AD.on
    rw [h.2]
    exact ⟨rfl, ha, hf⟩
  · rw [if_neg h]
    exact ⟨rfl, rfl, rfl⟩
end
end Go.Proofs.YtlkimfmilccanaaGreat
