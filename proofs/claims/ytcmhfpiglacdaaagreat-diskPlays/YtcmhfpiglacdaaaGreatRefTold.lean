/-
  DiskPlays: told; tools for lists of items.
-/
import Derived.Test.YtcmhfpiglacdaaaGreatRefCrash
namespace Go.Proofs.YtcmhfpiglacdaaaGreat
open Go.RowKit Go.Maps Go.WideMaps
set_option linter.unusedVariables false
set_option linter.unusedSimpArgs false
theorem get_push {α : Type} {L M : List α} {i : Nat} {x : α} (h : L[i]? = some x) : (L ++ M)[i]? = some x := by
  rw [List.getElem?_append_left (List.getElem?_eq_some_iff.1 h).1]; exact h
theorem get_last {α : Type} (L : List α) (x : α) : (L ++ [x])[L.length]? = some x := by simp
theorem get_set {α : Type} {L : List α} {i : Nat} {x : α} (h : L[i]? = some x) (y : α) : (L.set i y)[i]? = some y := List.getElem?_set_self (List.getElem?_eq_some_iff.1 h).1
theorem get_set_ne {α : Type} {L : List α} {i j : Nat} {x y : α} (h : L[j]? = some x) (hij : i ≠ j) : (L.set i y)[j]? = some x := by rw [List.getElem?_set_ne hij]; exact h
theorem dirty_len {A : AD} (h : A.Ok) (k : Key) : (A.dirtyI k).length ≤ maxLen := by
  unfold AD.dirtyI AD.dirty
  rw [List.length_map]
  split
  · exact Nat.zero_le _
  · cases hg : fget A.fs k with
    | none => exact Nat.zero_le _
    | some F => exact Nat.le_trans (AF.dirtyL_length (h.files _ (fget_mem hg))) (by unfold maxLen; omega)
theorem list_len {A : AD} (h : A.Ok) : A.list.length ≤ maxLen := by
  unfold AD.list
  split
  · exact Nat.zero_le _
  · unfold fkeys
    rw [List.length_map]
    exact Nat.le_trans h.few (by unfold maxLen; omega)
/-- Some of the items, in another order. -/
theorem Lies.pick {B : Nat} {w : World} {L M : List Item} (h : Lies B w L) (f : Nat → Nat) (hf : ∀ i j, i < M.length → j < M.length → f i = f j → i = j) (hM : ∀ i (x : Item), M[i]? = some x → L[f i]? = some x) : Lies B w M := by
  obtain ⟨hb, S, h1, h2, h3⟩ := h
  have lt : ∀ i, i < M.length → f i < L.length := fun i hi => (List.getElem?_eq_some_iff.1 (hM i M[i] (List.getElem?_eq_getElem hi))).1
  exact ⟨hb, fun i => S (f i), fun i x hi => h1 (f i) x (hM i x hi), fun i b hi hs => h2 (f i) b (lt i hi) hs, fun i j b hi hj hne => h3 (f i) (f j) b (lt i hi) (lt j hj) (fun e => hne (hf i j hi hj e))⟩
section
variable {B : Nat} {w : World} {L : List Item} {i j p r : Nat} {A : AD}
set_option maxRecDepth 5000 in
set_option maxHeartbeats 2000000 in
theorem told_any (h : Lies B w L) (hi : L[i]? = some (.disk p A)) (hj : L[j]? = some (.ref r A)) (s : ByteArray) (hs : s.size ≤ maxLen) :
    Calls Tryz.prog 27 #[.pointer (some ⟨p, 0, none⟩), .pointer (some ⟨r, 0, none⟩), .string s] w fun e w' => e = .returned (.bool true) ∧ Lies B w' L ∧ Below B w w' := by
  have hok := h.ok hi
  have hc := s_size h hi s hs
  have HI := hide hi
  have HJ := hide hj
  have HOK := hide hok
  have HH := hide h
  have HS := hide hs
  obtain ⟨dl, hdl⟩ : ∃ x, A.dirtyI s.data.toList = x := ⟨_, rfl⟩
  have HDL := hide hdl
  have hld : (dl.map (Value.int .i64)).length = dl.length := List.length_map ..
  have hdm : dl.length ≤ maxLen := by rw [← hdl]; exact dirty_len hok _
  have db : (dl == dl) = true := by simp
  obtain ⟨z1, hz1⟩ : ∃ x, (A.size s.data.toList).1 = x := ⟨_, rfl⟩
  obtain ⟨z2, hz2⟩ : ∃ x, (A.size s.data.toList).2 = x := ⟨_, rfl⟩
  obtain ⟨t1, ht1⟩ : ∃ x : ByteArray, (⟨(A.read s.data.toList 0 1048576).1.toArray⟩ : ByteArray) = x := ⟨_, rfl⟩
  obtain ⟨t2, ht2⟩ : ∃ x, (A.read s.data.toList 0 1048576).2 = x := ⟨_, rfl⟩
  rw [hz1, hz2] at hc
  have HZ1 := hide hz1; have HZ2 := hide hz2; have HT1 := hide ht1; have HT2 := hide ht2
  clear h hi hj hok hs hdl hz1 hz2 ht1 ht2
  go_enter Tryz.func27, Tryz.ntmps27
  go_wp2_with fail
  refine hc.mono ?_
  rintro e w1 ⟨rfl, rfl⟩
  replace hc := r_size HH.out HJ.out HOK.out s
  rw [HZ1.out, HZ2.out] at hc
  go_wp2_with fail
  refine hc.mono ?_
  rintro e w2 ⟨rfl, rfl⟩
  replace hc := s_read HH.out HI.out s HS.out 0 1048576
  rw [HT1.out, HT2.out] at hc
  go_wp2_with fail
  refine hc.mono ?_
  rintro e w3 ⟨rfl, h, hb⟩
  have H3 := hide h
  have HB3 := hide hb
  replace hc := r_read H3.out HJ.out HOK.out s 0 1048576
  rw [HT1.out, HT2.out] at hc
  clear h hb
  go_wp2_with fail
  refine hc.mono ?_
  rintro e w4 ⟨rfl, rfl⟩
  replace hc := s_dirty H3.out HI.out s HS.out
  rw [HDL.out] at hc
  go_wp2_with fail
  refine hc.mono ?_
  rintro e w5 ⟨v5, rfl, hr, h, hb⟩
  rw [hld] at hr
  obtain ⟨ad5, cap5, e5, _, _, _⟩ := row_at hr
  subst e5
  have HB5 := hide (HB3.out.trans hb)
  replace hc := r_dirty h (get_push HJ.out) HOK.out s
  rw [HDL.out] at hc
  clear h hb hr
  go_wp2_with fail
  refine hc.mono ?_
  rintro e w6 ⟨v6, rfl, hr, h, hb⟩
  rw [hld] at hr
  obtain ⟨ad6, cap6, e6, hr6, _, _⟩ := row_at hr
  subst e6
  have hr5 := h.rowOf (get_push (get_last L _))
  rw [hld] at hr5
  obtain ⟨_, _, en, hr5', _, _⟩ := row_at hr5
  cases en
  have HB6 := hide (HB5.out.trans hb)
  replace hc := sameInts_any w6 ad5 ad6 cap5 cap6 dl dl hr5' hr6 hdm hdm
  rw [db] at hc
  have H6 := hide h.drop.drop
  clear h hb hr hr5 hr5' hr6
  go_wp2_with fail
  refine hc.mono ?_
  rintro e w7 ⟨rfl, hb⟩
  have H7 := hide (H6.out.below hb)
  have HB7 := hide (HB6.out.trans (hb.mono H6.out.base))
  clear hb hc
  go_wp2
  go_ret
  exact ⟨rfl, H7.out, HB7.out⟩
end
end Go.Proofs.YtcmhfpiglacdaaaGreat
