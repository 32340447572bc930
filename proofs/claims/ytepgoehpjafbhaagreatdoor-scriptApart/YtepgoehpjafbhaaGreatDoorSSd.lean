/-
  script's reader: what a line says.
-/
import Derived.Test.YtepgoehpjafbhaaGreatDoorSCm
namespace Go.Proofs.YtepgoehpjafbhaaGreatDoor
open Go.RowKit S
set_option linter.unusedVariables false
set_option linter.unusedSimpArgs false
theorem stepP_one {F : Int → List UInt8} {f f' : Nat → Value} {fs : List (Nat → Value)} {l r : List UInt8} (h : stepP F f l = some (f', fs, r)) (h1 : One 176 f) : One 176 f' := by
  unfold stepP at h
  repeat' (first | (rw [Option.bind_eq_some_iff] at h; obtain ⟨_, _, h⟩ := h) | split at h)
  all_goals simp only [Option.some.injEq, Prod.mk.injEq] at h
  all_goals obtain ⟨rfl, _, _⟩ := h
  all_goals repeat' (first | exact h1 | rfl | apply One.upd | apply One.splice)
theorem moveP_one {F : Int → List UInt8} {mk : Int} {f f' : Nat → Value} {fs : List (Nat → Value)} {l r : List UInt8} (h : moveP F mk f l = some (f', fs, r)) (h1 : One 176 f) : One 176 f' := by
  unfold moveP at h
  split at h
  · obtain ⟨_, _, h⟩ := Option.bind_eq_some_iff.1 h
    exact stepP_one h (h1.upd _ _ rfl)
  · split at h
    · obtain ⟨_, _, h⟩ := Option.bind_eq_some_iff.1 h
      simp only [Option.some.injEq, Prod.mk.injEq] at h
      obtain ⟨rfl, _, _⟩ := h
      exact h1.upd _ _ rfl
    · simp only [Option.some.injEq, Prod.mk.injEq] at h
      obtain ⟨rfl, _, _⟩ := h
      exact h1
theorem hsP_one : ∀ (n off : Nat) (f f' : Nat → Value) (l r : List UInt8), hsP n off f l = some (f', r) → One 176 f → One 176 f'
  | 0, _, f, f', l, r, h, h1 => by
    unfold hsP at h
    simp only [Option.some.injEq, Prod.mk.injEq] at h
    obtain ⟨rfl, _⟩ := h
    exact h1
  | n + 1, off, f, f', l, r, h, h1 => by
    unfold hsP at h
    obtain ⟨x, _, h⟩ := Option.bind_eq_some_iff.1 h
    exact hsP_one n _ _ _ _ _ h (h1.splice _ _ _)
theorem worldP_one {F : Int → List UInt8} {f f' : Nat → Value} {fs : List (Nat → Value)} {l r : List UInt8} (h : worldP F f l = some (f', fs, r)) (h1 : One 176 f) : One 176 f' := by
  unfold worldP at h
  obtain ⟨_, _, h⟩ := Option.bind_eq_some_iff.1 h
  obtain ⟨_, _, h⟩ := Option.bind_eq_some_iff.1 h
  obtain ⟨_, _, h⟩ := Option.bind_eq_some_iff.1 h
  obtain ⟨_, _, h⟩ := Option.bind_eq_some_iff.1 h
  obtain ⟨x, hx, h⟩ := Option.bind_eq_some_iff.1 h
  obtain ⟨y, hy, h⟩ := Option.bind_eq_some_iff.1 h
  simp only [Option.some.injEq, Prod.mk.injEq] at h
  obtain ⟨rfl, _, _⟩ := h
  refine hsP_one _ _ _ _ _ _ hy (hsP_one _ _ _ _ _ _ hx ?_)
  repeat' (first | exact h1 | rfl | apply One.upd)
theorem commandP_one {F : Int → List UInt8} {f f' : Nat → Value} {fs : List (Nat → Value)} {l r : List UInt8} (h : commandP F f l = some (f', fs, r)) (h1 : One 176 f) : One 176 f' := by
  unfold commandP at h
  obtain ⟨f1, hf, h⟩ := Option.bind_eq_some_iff.1 h
  have o1 : One 176 f1 := by
    unfold headA at hf
    split at hf
    · injection hf with hf
      subst hf
      exact (h1.upd _ _ rfl).upd _ _ rfl
    · split at hf
      · injection hf with hf
        subst hf
        exact h1.upd _ _ rfl
      · cases hf
  unfold bodyP at h
  split at h
  · exact worldP_one h o1
  · split at h
    · exact moveP_one h o1
    · repeat' (first | (rw [Option.bind_eq_some_iff] at h; obtain ⟨_, _, h⟩ := h) | split at h)
      all_goals simp only [Option.some.injEq, Prod.mk.injEq] at h
      all_goals obtain ⟨rfl, _, _⟩ := h
      all_goals repeat' (first | exact o1 | rfl | apply One.upd)
def lineA (F : Int → List UInt8) (l : List UInt8) : Option ((Nat → Value) × List (Nat → Value)) := (commandP F zC l).bind fun x => if x.2.2 = [] then some (x.1, x.2.1) else none
theorem zeroC : Tryz.zeroCells40 = tabv zC 176 := by kernel_rfl
theorem own_one {B : Nat} {w : World} {v : Value} {l : List (Nat → Value)} (h : OwnF B w v l) : v.oneCell' = true := by
  obtain ⟨ad, cap, rfl, _⟩ := h.shape
  rfl
def lineT (F : Int → List UInt8) (l : List UInt8) : Prop := commandT F zC l
set_option maxRecDepth 100000 in
set_option maxHeartbeats 1600000 in
theorem said_any {E : Prop} {B : Nat} {F : Int → List UInt8} (l : List UInt8) (w : World) (hE : Env E B F w) (hB : B ≤ w.heap.size) (hl : l.length ≤ 70000) (hg : E ∨ lineT F l) :
    Calls Tryz.prog 40 #[.string (bs l)] w fun e w' => Below w.heap.size w w' ∧
      ((∃ f fs v, lineA F l = some (f, fs) ∧ e = .returned (.agg (tabv (upd f 173 v) 176)) ∧ OwnF w.heap.size w' v fs ∧ One 176 (upd f 173 v)) ∨ (lineA F l = none ∧ Bad e)) := by
  obtain ⟨R, hRR⟩ : ∃ R, lineA F l = R := ⟨_, rfl⟩
  rw [hRR]
  have HQ0 : Hid (R = (commandP F zC l).bind fun x => if x.2.2 = [] then some (x.1, x.2.1) else none) := hide (by rw [← hRR]; rfl)
  clear hRR
  obtain ⟨w1, hw1⟩ : ∃ x, w.alloc (.cells Tryz.zeroCells40 40) = x := ⟨_, rfl⟩
  obtain ⟨w2, hw2⟩ : ∃ x, w1.alloc (.cells #[.string (bs l)] 108) = x := ⟨_, rfl⟩
  obtain ⟨w3, hw3⟩ : ∃ x, w2.alloc (.cells Tryz.zeroCells40 40) = x := ⟨_, rfl⟩
  have s1 : w1.heap.size = w.heap.size + 1 := by rw [← hw1, size_alloc]
  have s2 : w2.heap.size = w.heap.size + 2 := by rw [← hw2, size_alloc, s1]
  have s3 : w3.heap.size = w.heap.size + 3 := by rw [← hw3, size_alloc, s2]
  have b1 : Below w.heap.size w w1 := by rw [← hw1]; exact (Below.refl _ w).alloc (Nat.le_refl _) _
  have b2 : Below w1.heap.size w1 w2 := by rw [← hw2]; exact (Below.refl _ w1).alloc (Nat.le_refl _) _
  have b3 : Below w2.heap.size w2 w3 := by rw [← hw3]; exact (Below.refl _ w2).alloc (Nat.le_refl _) _
  have r1 : Has w1 w.heap.size 40 zC 176 := by rw [← hw1, zeroC]; exact Has.new w _ _ 176 _ rfl
  have r2 : Rd w2 (w.heap.size + 1) l := by rw [← hw2, ← s1]; exact Has.new w1 _ _ 1 _ rfl
  have r3 : Has w3 (w.heap.size + 1 + 1) 40 zC 176 := by rw [← hw3, zeroC, show w.heap.size + 1 + 1 = w2.heap.size by omega]; exact Has.new w2 _ _ 176 _ rfl
  have HR3 : Hid (Rd w3 (w.heap.size + 1) l) := hide (Has.below r2 b3 (Has.lt r2))
  have HC3 := hide r3
  have HZ3 := hide ((r1.below b2 (by omega)).below b3 (by omega))
  have B3 : Below w.heap.size w w3 := (b1.trans (b2.mono (by omega))).trans (b3.mono (by omega))
  have HB3 := hide B3
  have HE3 := hide (hE.below (B3.mono hB))
  have HW3 : Hid (((w.alloc (.cells Tryz.zeroCells40 40)).alloc (.cells #[.string (bs l)] 108)).alloc (.cells Tryz.zeroCells40 40) = w3) := hide (by rw [hw1, hw2, hw3])
  clear hw1 hw2 hw3 b1 b2 b3 r1 r2 r3 B3 hE
  have HG := hide hg
  clear hg
  go_enter Tryz.func40, Tryz.ntmps40
  go_wp2_with fail
  rw [HW3.out]
  refine (rcommand_any (w.heap.size + 1) (w.heap.size + 1 + 1) zC l _ HE3.out (by omega) (by omega) (by omega) HR3.out HC3.out rfl (by omega) hl 0 rfl HG.out).mono ?_
  rintro e w4 ⟨k, ⟨f, fs, r, v, hA, rfl, hR, hC, hO⟩ | ⟨hA, rfl⟩⟩
  · have o4 := (commandP_one hA one_zC).upd 173 v (own_one hO)
    have HO4 := hide o4
    have hz4 := k.has HZ3.out (by omega) (by omega)
    have HZ4 := hide hz4
    have HC4 := hide hC
    have HB4 := hide (HB3.out.trans (k.below (B := w.heap.size) (by omega) (by omega) (by omega)))
    have HOw := hide hO
    have c4 := hR.cell 0 (by omega)
    have HQ1 : Hid (R = if r = [] then some (f, fs) else none) := hide (by rw [HQ0.out, hA]; rfl)
    clear hA hR hC hO k o4 hz4
    cases r with
    | nil =>
      have he : (bs ([] : List UInt8)).toList.isEmpty = true := emp_nil
      have HQ2 : Hid (R = some (f, fs)) := hide (by rw [HQ1.out, if_pos rfl])
      have hz5 := HZ4.out.row (tabv (upd f 173 v) 176) (upd f 173 v) rfl
      have HB5 := hide (below_setRow HB4.out (Nat.le_refl _) (tabv (upd f 173 v) 176))
      have HO5 : Hid (OwnF w.heap.size (w4.setRow w.heap.size (tabv (upd f 173 v) 176)) v fs) := hide ((HOw.out.same fun k hk => setRow_other w4 w.heap.size k _ (by have := (HOw.out.lt k hk).1; omega)).mono (by omega))
      have HZ5 := hide hz5
      clear hz5
      go_wp2_with fail
      refine (require_yes _).mono ?_
      rintro e w5 ⟨rfl, rfl⟩
      go_wp2_with (first
        | refine wpW_load_at 40 _ rfl (w.heap.size + 1 + 1) 0 (by rfl) (by rfl) _ 176 _ (HC4.out.at_ 0 (by omega) (fun i hi => by rw [Nat.zero_add])) Tryz.underlying40 rfl infoC ?_
        | refine wpList_store_part rfl 40 _ _ rfl rfl w.heap.size 0 (upd f 173 v) 176 (by rfl) (by rfl) 40 zC 176 HZ4.out (by omega) infoC HO4.out (upd f 173 v) (fun i hi => by unfold splice; rw [if_pos (by omega), Nat.sub_zero]) ?_)
      exact bodyPost_ret (results_cell_row rfl _ _ w.heap.size 40 _ (0, 0) _ rfl HZ5.out Tryz.underlying40 rfl (by rw [tabv_size]; exact infoC)) rfl ⟨HB5.out, .inl ⟨_, _, _, HQ2.out, rfl, HO5.out, HO4.out⟩⟩
    | cons c0 t0 =>
      have he := emp_cons c0 t0
      have HQ2 : Hid (R = none) := hide (by rw [HQ1.out, if_neg (by simp)])
      go_wp2_with fail
      refine (require_no _).mono ?_
      rintro e w5 ⟨rfl, rfl⟩
      go_wp2
      exact ⟨rfl, HB4.out, .inr ⟨HQ2.out, rfl⟩⟩
  · have HQn : Hid (R = none) := hide (by rw [HQ0.out, hA]; rfl)
    have HBn := hide (HB3.out.trans (k.below (B := w.heap.size) (by omega) (by omega) (by omega)))
    clear hA k
    go_wp2
    exact ⟨rfl, HBn.out, .inr ⟨HQn.out, rfl⟩⟩
end Go.Proofs.YtepgoehpjafbhaaGreatDoor
