/-
  DiskRefused: the mathematics.
-/
import Derived.Test.YtcmhfpiglacdaaaCame
namespace Go.Proofs.Ytcmhfpiglacdaaa
open Go.RowKit Go.Maps Go.WideMaps
set_option linter.unusedVariables false
set_option linter.unusedSimpArgs false
theorem write_refused {A : AD} (hp : A.pow = p0) (k : Key) (a : Int) (t : List UInt8) : (A.write k a t).1 ≠ 0 → (A.write k a t).2 = A := by
  unfold AD.write
  rw [hp, p0_count, if_neg (by simp [p0])]
  by_cases hf : A.fits k a t.length ≠ 0
  · rw [if_pos hf]; intro _; rfl
  · rw [if_neg hf, if_neg (by simp)]
    cases fget A.fs k <;> simp
theorem sync_refused {A : AD} (hp : A.pow = p0) (k : Key) : (A.sync k).1 ≠ 0 → (A.sync k).2 = A := by
  unfold AD.sync
  rw [hp, p0_count, if_neg (by simp [p0])]
  cases fget A.fs k <;> simp
theorem trunc_refused {A : AD} (hp : A.pow = p0) (k : Key) (n : Int) : (A.trunc k n).1 ≠ 0 → (A.trunc k n).2 = A := by
  unfold AD.trunc
  rw [hp, if_neg (by simp [p0])]
  cases fget A.fs k with
  | none => simp
  | some F =>
    by_cases hx : n < 0 ∨ n > F.seen.length
    · simp only; rw [if_pos hx]; intro _; rfl
    · simp only; rw [if_neg hx]; intro h; exact absurd rfl h
theorem rename_refused {A : AD} (hp : A.pow = p0) (k k' : Key) : (A.rename k k').1 ≠ 0 → (A.rename k k').2 = A := by
  unfold AD.rename
  rw [hp, if_neg (by simp [p0])]
  cases fget A.fs k with
  | none => simp
  | some F =>
    by_cases hx : nameOk k' = false
    · simp only; rw [if_pos hx]; intro _; rfl
    · simp only; rw [if_neg hx]; intro h; exact absurd rfl h
theorem remove_refused {A : AD} (hp : A.pow = p0) (k : Key) : (A.remove k).1 ≠ 0 → (A.remove k).2 = A := by
  unfold AD.remove
  rw [hp, if_neg (by simp [p0])]
  cases fget A.fs k <;> simp
theorem step_refused {A : AD} (hp : A.pow = p0) (o : OP) : (A.step o).1 ≠ 0 → (A.step o).2 = A := by
  unfold AD.step
  split
  · exact write_refused hp _ _ _
  split
  · exact sync_refused hp _
  split
  · exact trunc_refused hp _ _
  split
  · exact rename_refused hp _ _
  split
  · exact remove_refused hp _
  split
  · exact fun h => absurd rfl h
  split
  · exact fun h => absurd rfl h
  split
  · exact fun h => absurd rfl h
  split
  · exact fun h => absurd rfl h
  · exact fun h => absurd rfl h
/-- The name "armed". -/
def nmA : Key := [97, 114, 109, 101, 100]
/-- A disk on which the file stands, and what its first byte is. -/
structure Stands (A : AD) (P : AP) (F : AF) (c : UInt8) : Prop where
  ok : A.Ok
  pow : A.pow = P
  get : fget A.fs nmA = some F
  head : F.seen.head? = some c
theorem Stands.len {A : AD} {P : AP} {F : AF} {c : UInt8} (h : Stands A P F c) : 1 ≤ F.seen.length := by
  have := h.head
  cases hs : F.seen with
  | nil => rw [hs] at this; simp at this
  | cons a l => simp
theorem fits_of {A : AD} (hok : A.Ok) {F : AF} (hg : fget A.fs nmA = some F) (hs : (fused A.fs : Int) - F.seen.length + max (F.seen.length : Int) 1 ≤ A.cap) : A.fits nmA 0 1 = 0 := by
  have hm := (hok.files _ (fget_mem hg)).most
  simp only at hm
  have hfl : A.flen nmA = F.seen.length := by unfold AD.flen; rw [hg]
  unfold AD.fits
  rw [hfl, hg]
  rw [if_neg (by
    have : nameOk nmA = true := by decide
    rw [this]
    rintro (h | h | h)
    · cases h
    · omega
    · omega)]
  rw [if_neg (by omega), if_neg (by simp), if_neg (by omega)]
theorem Stands.fits {A : AD} {P : AP} {F : AF} {c : UInt8} (h : Stands A P F c) : A.fits nmA 0 1 = 0 := by
  refine fits_of h.ok h.get ?_
  have h1 := h.ok.space
  have h2 := h.len
  omega
theorem write_head {F : AF} (c : UInt8) : (F.write 0 [c]).seen.head? = some c := by
  unfold AF.write
  rw [if_neg (by simp)]
  simp
theorem write_dirty0 {F : AF} (c : UInt8) : (F.write 0 [c]).dirty 0 = true := by
  unfold AF.write
  rw [if_neg (by simp)]
  simp
theorem Stands.write {A : AD} {P : AP} {F : AF} {c : UInt8} (h : Stands A P F c) (ho : P.off = false) (b : UInt8) :
    A.write nmA 0 [b] = if (P.count 1).1 ≠ 0 then ((P.count 1).1, { A with pow := (P.count 1).2 }) else (0, ⟨A.cap, fset A.fs nmA (F.write 0 [b]), (P.count 1).2⟩) := by
  unfold AD.write
  rw [h.pow, ho, if_neg (by simp), show ([b].length : Int) = 1 from rfl, h.fits, if_neg (by simp), h.get]
  rfl
theorem Stands.writes {A : AD} {P P' : AP} {F : AF} {c : UInt8} (h : Stands A P F c) (ho : P.off = false) (b : UInt8) (hc : P.count 1 = (0, P')) (hok : (A.write nmA 0 [b]).2.Ok) :
    (A.write nmA 0 [b]).1 = 0 ∧ Stands (A.write nmA 0 [b]).2 P' (F.write 0 [b]) b := by
  have e := h.write ho b
  rw [hc, if_neg (by simp)] at e
  refine ⟨by rw [e], hok, by rw [e], ?_, write_head b⟩
  rw [e]
  exact fget_fset_same h.get
theorem Stands.refused {A : AD} {P P' : AP} {F : AF} {c : UInt8} (h : Stands A P F c) (ho : P.off = false) (b : UInt8) {x : Int} (hx : x ≠ 0) (hc : P.count 1 = (x, P')) (hok : (A.write nmA 0 [b]).2.Ok) :
    (A.write nmA 0 [b]).1 = x ∧ Stands (A.write nmA 0 [b]).2 P' F c := by
  have e := h.write ho b
  rw [hc, if_pos hx] at e
  refine ⟨by rw [e], hok, by rw [e], ?_, h.head⟩
  rw [e]
  exact h.get
theorem Stands.sync {A : AD} {P : AP} {F : AF} {c : UInt8} (h : Stands A P F c) (ho : P.off = false) :
    A.sync nmA = if (P.count 2).1 ≠ 0 then ((P.count 2).1, { A with pow := (P.count 2).2 }) else (0, ⟨A.cap, fset A.fs nmA F.sync, (P.count 2).2⟩) := by
  unfold AD.sync
  rw [h.pow, ho, if_neg (by simp), h.get]
theorem Stands.syncs {A : AD} {P P' : AP} {F : AF} {c : UInt8} {x : Int} (h : Stands A P F c) (ho : P.off = false) (hc : P.count 2 = (x, P')) (hok : (A.sync nmA).2.Ok) :
    (A.sync nmA).1 = x ∧ ∃ F', Stands (A.sync nmA).2 P' F' c := by
  have e := h.sync ho
  rw [hc] at e
  by_cases hx : x = 0
  · subst hx
    rw [if_neg (by simp)] at e
    refine ⟨by rw [e], F.sync, hok, by rw [e], ?_, h.head⟩
    rw [e]
    exact fget_fset_same h.get
  · rw [if_pos hx] at e
    refine ⟨by rw [e], F, hok, by rw [e], ?_, h.head⟩
    rw [e]
    exact h.get
/-- The first: the file is made, or written over. -/
theorem stands_first {A : AD} (hp : A.pow = p0) (hok : (A.write nmA 0 [49]).2.Ok) (h0 : (A.write nmA 0 [49]).1 = 0) : ∃ F, Stands (A.write nmA 0 [49]).2 p0 F 49 := by
  revert hok h0
  unfold AD.write
  rw [hp, p0_count, if_neg (by simp [p0])]
  by_cases hf : A.fits nmA 0 ([49] : List UInt8).length ≠ 0
  · rw [if_pos hf]; intro _ h; exact absurd h hf
  · rw [if_neg hf, if_neg (by simp)]
    cases hg : fget A.fs nmA with
    | none => exact fun hok _ => ⟨_, hok, rfl, fget_fput_same, write_head 49⟩
    | some F => exact fun hok _ => ⟨_, hok, rfl, fget_fset_same hg, write_head 49⟩
/-! ### what is counted -/
theorem count_arm (what x : Int) (k : Nat) (hw : what = 0 ∨ what = x) : (AP.mk false false ((k : Int) + 1) what 0).count x = (if k = 0 then 40 else 0, AP.mk false false (k : Int) what 0) := by
  unfold AP.count AP.fell
  simp only
  rw [if_neg (by omega), if_pos ⟨by omega, hw⟩]
  by_cases hk : k = 0
  · subst hk; rfl
  · rw [if_neg (by omega), if_neg hk]
    congr 1
    rw [if_neg (by omega)]
    congr 1
    omega
theorem count_other (k : Int) : (AP.mk false false k 2 0).count 1 = (0, AP.mk false false k 2 0) := by
  unfold AP.count AP.fell
  simp
theorem count_none (x : Int) (what : Int) : (AP.mk false false 0 what 0).count x = (0, AP.mk false false 0 what 0) := by
  unfold AP.count AP.fell
  simp
theorem count_fall (k : Nat) (x : Int) : (AP.mk false false 0 0 ((k : Int) + 1)).count x = if k = 0 then (9, AP.mk true true 0 0 0) else (0, AP.mk false false 0 0 (k : Int)) := by
  unfold AP.count AP.fell
  simp only
  by_cases hk : k = 0
  · subst hk; rfl
  · rw [if_neg (by omega), if_neg (by omega), if_neg hk, if_pos (by omega)]
    congr 1
    congr 1
    omega
theorem Stands.armed {A : AD} {P : AP} {F : AF} {c : UInt8} (h : Stands A p0 F c) (n what : Int) (hn : 1 ≤ n) (hw : 0 ≤ what ∧ what ≤ 2) (hok : (A.armed n what).Ok) : Stands (A.armed n what) (AP.mk false false n what 0) F c := by
  have e : A.armed n what = { A with pow := { A.pow with arm := n, what := what } } := by unfold AD.armed; rw [if_neg (by omega)]
  refine ⟨hok, ?_, ?_, h.head⟩
  · rw [e, h.pow]; rfl
  · rw [e]; exact h.get
theorem Stands.fallen {A : AD} {F : AF} {c : UInt8} (h : Stands A p0 F c) (n : Int) (hn : 0 ≤ n) (hok : (A.fallen n).Ok) : Stands (A.fallen n) (AP.mk false false 0 0 n) F c := by
  refine ⟨hok, ?_, h.get, h.head⟩
  show ({ A.pow with fall := max n 0 } : AP) = _
  rw [h.pow, show max n 0 = n by omega]
  rfl
theorem Stands.all {A : AD} {P : AP} {F : AF} {c : UInt8} (h : Stands A P F c) (ho : P.off = false) : A.all nmA = F.seen := all_get (by rw [h.pow]; exact ho) h.ok h.get
theorem Stands.member {A : AD} {P : AP} {F : AF} {b c : UInt8} (h : Stands A P (F.write 0 [b]) c) (ho : P.off = false) : (A.dirtyI nmA).contains 0 = true := by
  rw [dirty_get (by rw [h.pow]; exact ho) h.get]
  have := dirtyI_has (h.ok.files _ (fget_mem h.get)) 0
  exact this.trans (write_dirty0 b)
/-! ### behind the fall -/
theorem fallen_same {A : AD} (h : A.pow = AP.mk true true 0 0 0) : A.on = (A.crash []).on := by
  unfold AD.on AD.crash
  rw [h]
  simp
theorem crash_open {A : AD} (h : A.pow = AP.mk true true 0 0 0) (l : List AFate) : (A.crash l).on = ⟨A.cap, A.fs.map (fun p => (p.1, p.2.crash (fateOf l p.1))), p0⟩ := by
  unfold AD.on AD.crash
  rw [h]
  simp
  rfl
theorem fused_crash_lt {k : Key} {F : AF} (g : Key → AF → AF) : ∀ {fs : FList}, (∀ p ∈ fs, (g p.1 p.2).seen.length ≤ p.2.seen.length) → fget fs k = some F → fused (fs.map (fun p => (p.1, g p.1 p.2))) + F.seen.length ≤ fused fs + (g k F).seen.length
  | [], _, h => by simp [fget] at h
  | p :: r, hl, h => by
    rw [List.map_cons, fused_cons, fused_cons]
    rw [fget_cons] at h
    have h1 := hl p (List.mem_cons_self ..)
    have hr : fused (r.map (fun p => (p.1, g p.1 p.2))) ≤ fused r := by
      have hl' : ∀ p ∈ r, (g p.1 p.2).seen.length ≤ p.2.seen.length := fun q hq => hl q (List.mem_cons_of_mem _ hq)
      clear h hl h1
      induction r with
      | nil => simp [fused]
      | cons q s ih =>
        rw [List.map_cons, fused_cons, fused_cons]
        have := ih (fun x hx => hl' x (List.mem_cons_of_mem _ hx))
        have := hl' q (List.mem_cons_self ..)
        simp only at *
        omega
    by_cases e : p.1 = k
    · rw [if_pos e] at h
      cases h
      subst e
      simp only at *
      omega
    · rw [if_neg e] at h
      have := fused_crash_lt g (fun q hq => hl q (List.mem_cons_of_mem _ hq)) h
      simp only at *
      omega
theorem Stands.crashed {A : AD} {F : AF} {c : UInt8} (h : Stands A (AP.mk true true 0 0 0) F c) (hok : ((A.crash []).on).Ok) :
    ((A.crash []).on.write nmA 0 [54]).1 = 0 ∧ (A.crash []).on.dirtyI nmA = [] := by
  have e := crash_open h.pow []
  have hg : fget (A.crash []).on.fs nmA = some (F.crash (fateOf [] nmA)) := by
    rw [e]
    exact (fget_map (fun k G => AF.crash G (fateOf [] k)) nmA A.fs).trans (by rw [h.get]; rfl)
  have hp : (A.crash []).on.pow = p0 := by rw [e]
  constructor
  · have hlt := fused_crash_lt (k := nmA) (F := F) (fun k G => AF.crash G (fateOf [] k)) (fs := A.fs) (fun p hp => by
      show (p.2.left _).length ≤ _
      rw [AF.left_length]
      exact AF.len_le (h.ok.files p hp) _) h.get
    have hs := hok.space
    have hc : (A.crash []).on.cap = A.cap := by rw [e]
    have hsp := h.ok.space
    have hl1 := h.len
    have hfits : (A.crash []).on.fits nmA 0 1 = 0 := by
      refine fits_of hok hg ?_
      have hfs : (A.crash []).on.fs = A.fs.map (fun p => (p.1, (fun k G => AF.crash G (fateOf [] k)) p.1 p.2)) := by rw [e]
      rw [← hfs] at hlt
      rw [hc] at hs ⊢
      omega
    unfold AD.write
    rw [hp, p0_count, if_neg (by simp [p0]), show (([54] : List UInt8).length : Int) = 1 from rfl, hfits, if_neg (by simp), if_neg (by simp), hg]
  · rw [dirty_get (by rw [hp]; rfl) hg]
    unfold dirtyI AF.dirtyL
    rw [List.map_eq_nil_iff, List.filter_eq_nil_iff]
    intro x _
    show ¬ false = true
    simp
/-- The fate that keeps the first sector. -/
def ftA : FT := ⟨⟨#[97, 114, 109, 101, 100]⟩, 0, 1, ⟨#[]⟩⟩
theorem Stands.keeps {A : AD} {F : AF} {b c : UInt8} (h : Stands A (AP.mk true true 0 0 0) (F.write 0 [b]) c) (hok : ((A.crash ([ftA].map FT.abs)).on).Ok) :
    ((A.crash ([ftA].map FT.abs)).on.all nmA).head? = some c := by
  have e := crash_open h.pow ([ftA].map FT.abs)
  obtain ⟨G, hG⟩ : ∃ G, F.write 0 [b] = G := ⟨_, rfl⟩
  have hd : G.dirty 0 = true := by rw [← hG]; exact write_dirty0 b
  rw [hG] at h
  have hGok := h.ok.files _ (fget_mem h.get)
  have hl1 := h.len
  have hg : fget (A.crash ([ftA].map FT.abs)).on.fs nmA = some (G.crash (fateOf ([ftA].map FT.abs) nmA)) := by
    rw [e]
    exact (fget_map (fun k G => AF.crash G (fateOf ([ftA].map FT.abs) k)) nmA A.fs).trans (by rw [h.get]; rfl)
  have hp : (A.crash ([ftA].map FT.abs)).on.pow = p0 := by rw [e]
  rw [all_get (by rw [hp]; rfl) hok hg]
  show (G.left _).head? = _
  obtain ⟨ft, hft⟩ : ∃ ft, fateOf ([ftA].map FT.abs) nmA = ft := ⟨_, rfl⟩
  have hf0 : ft 0 = some ftA.abs := by rw [← hft]; rfl
  rw [hft]
  have hlen : 1 ≤ G.len ft := by
    have h1 : min (64 * 0 + 64) G.seen.length ≤ G.len ft := by
      unfold AF.len
      exact foldl_max_mem (fun s => G.dirty s && hits (ft s)) (fun s => min (64 * s + 64) G.seen.length) _ _ 0 (List.mem_range.2 (AF.dirty_nsec hGok 0 hd)) (by rw [hd, hf0]; rfl)
    omega
  have hz : (G.left ft)[0]? = some c := by
    unfold AF.left
    rw [List.getElem?_map, List.getElem?_range (by omega)]
    show some (G.after ft 0) = _
    unfold AF.after
    rw [show 0 / 64 = 0 from rfl, hd, if_pos rfl, hf0]
    simp only
    rw [if_pos (by rfl)]
    have h3 : G.seen[0]? = some c := by rw [← List.head?_eq_getElem?]; exact h.head
    rw [List.getD_eq_getElem?_getD, h3]
    rfl
  rw [List.head?_eq_getElem?]
  exact hz
end Go.Proofs.Ytcmhfpiglacdaaa
