/-
  Lists of files by name; what keeps a file sound.
-/
import Derived.Test.YtlkimfmilccanaaGreatModel
namespace Go.Proofs.YtlkimfmilccanaaGreat
open Go.RowKit
theorem bb_irrefl : ∀ a : Key, bytesBefore a a = false
  | [] => rfl
  | a :: r => by simp [bytesBefore, bb_irrefl r]
theorem bb_trans : ∀ a b c : Key, bytesBefore a b = true → bytesBefore b c = true → bytesBefore a c = true
  | [], [], _, h, _ => by simp [bytesBefore] at h
  | [], _ :: _, [], _, h => by simp [bytesBefore] at h
  | [], _ :: _, _ :: _, _, _ => by simp [bytesBefore]
  | _ :: _, [], _, h, _ => by simp [bytesBefore] at h
  | _ :: _, _ :: _, [], _, h => by simp [bytesBefore] at h
  | a :: r, b :: s, c :: t, h, k => by
    simp only [bytesBefore, Bool.or_eq_true, decide_eq_true_eq, Bool.and_eq_true, beq_iff_eq] at h k ⊢
    rcases h with h | ⟨rfl, h⟩
    · rcases k with k | ⟨rfl, k⟩
      · exact .inl (UInt8.lt_trans h k)
      · exact .inl h
    · rcases k with k | ⟨rfl, k⟩
      · exact .inl k
      · exact .inr ⟨rfl, bb_trans r s t h k⟩
theorem bb_total : ∀ a b : Key, a ≠ b → bytesBefore a b = false → bytesBefore b a = true
  | [], [], h, _ => absurd rfl h
  | [], _ :: _, _, h => by simp [bytesBefore] at h
  | _ :: _, [], _, _ => by simp [bytesBefore]
  | a :: r, b :: s, h, k => by
    simp only [bytesBefore, Bool.or_eq_false_iff, decide_eq_false_iff_not, Bool.and_eq_false_iff, beq_eq_false_iff_ne, Bool.or_eq_true, decide_eq_true_eq, Bool.and_eq_true, beq_iff_eq] at k ⊢
    obtain ⟨k1, k2⟩ := k
    by_cases e : a = b
    · subst e
      rcases k2 with k2 | k2
      · exact absurd rfl k2
      · exact .inr ⟨rfl, bb_total r s (fun e => h (by rw [e])) k2⟩
    · refine .inl ?_
      have h1 : ¬ a.toNat < b.toNat := fun x => k1 (UInt8.lt_iff_toNat_lt.2 x)
      have h2 : a.toNat ≠ b.toNat := fun x => e (UInt8.toNat_inj.1 x)
      exact UInt8.lt_iff_toNat_lt.2 (by omega)
section
variable {fs : FList} {k k' : Key} {F F' : AF}
theorem fget_mem (h : fget fs k = some F) : (k, F) ∈ fs := by
  unfold fget at h
  cases hq : fs.find? (fun p => p.1 == k) with
  | none => rw [hq] at h; cases h
  | some p =>
    rw [hq] at h
    have h1 := List.mem_of_find?_eq_some hq
    have h2 := List.find?_some hq
    simp only [Option.map_some, Option.some.injEq] at h
    have e : p.1 = k := by simpa using h2
    have : p = (k, F) := Prod.ext e h
    exact this ▸ h1
theorem apart_of (hs : fs.Pairwise (fun p q => bytesBefore p.1 q.1 = true)) : fs.Pairwise (fun p q => p.1 ≠ q.1) :=
  hs.imp (fun {a b} hab e => by rw [e, bb_irrefl] at hab; cases hab)
theorem mem_fget : ∀ {fs : FList}, fs.Pairwise (fun p q => p.1 ≠ q.1) → (k, F) ∈ fs → fget fs k = some F
  | [], _, h => by simp at h
  | p :: r, hp, h => by
    obtain ⟨h1, h2⟩ := List.pairwise_cons.1 hp
    rcases List.mem_cons.1 h with e | h'
    · subst e; simp [fget]
    · have hne : (p.1 == k) = false := beq_eq_false_iff_ne.2 (h1 _ h')
      have := mem_fget h2 h'
      unfold fget at this ⊢
      rw [List.find?_cons, hne]
      exact this
theorem fget_none_iff : fget fs k = none ↔ ∀ p ∈ fs, p.1 ≠ k := by
  unfold fget
  rw [Option.map_eq_none_iff, List.find?_eq_none]
  simp
theorem fget_cons (p : Key × AF) (r : FList) (k : Key) : fget (p :: r) k = if p.1 = k then some p.2 else fget r k := by
  unfold fget
  rw [List.find?_cons]
  by_cases e : p.1 = k
  · rw [if_pos e, beq_iff_eq.2 e]; rfl
  · rw [if_neg e, beq_eq_false_iff_ne.2 e]
theorem fset_cons (p : Key × AF) (r : FList) (k : Key) (F : AF) : fset (p :: r) k F = (if p.1 = k then (p.1, F) else p) :: fset r k F := by
  unfold fset
  rw [List.map_cons]
  by_cases e : p.1 = k
  · rw [if_pos e, if_pos (beq_iff_eq.2 e)]
  · rw [if_neg e, if_neg (fun x => e (beq_iff_eq.1 x))]
theorem fused_cons (p : Key × AF) (r : FList) : fused (p :: r) = p.2.seen.length + fused r := by simp [fused]
theorem fget_fset_same : ∀ {fs : FList}, fget fs k = some F → fget (fset fs k F') k = some F'
  | [], h => by simp [fget] at h
  | p :: r, h => by
    rw [fget_cons] at h
    rw [fset_cons, fget_cons]
    by_cases e : p.1 = k
    · rw [if_pos e, if_pos e]
    · rw [if_neg e] at h
      rw [if_neg e, if_neg e]
      exact fget_fset_same h
theorem fget_fset_ne (h : k' ≠ k) : ∀ {fs : FList}, fget (fset fs k F') k' = fget fs k'
  | [] => rfl
  | p :: r => by
    rw [fset_cons, fget_cons, fget_cons]
    by_cases e : p.1 = k
    · rw [if_pos e, if_neg (fun x => h (x.symm.trans e)), if_neg (fun x => h (x.symm.trans e))]
      exact fget_fset_ne h
    · rw [if_neg e]
      by_cases e' : p.1 = k'
      · rw [if_pos e', if_pos e']
      · rw [if_neg e', if_neg e']
        exact fget_fset_ne h
theorem fget_fdel_same : fget (fdel fs k) k = none := by
  rw [fget_none_iff]
  intro p hp
  have := (List.mem_filter.1 hp).2
  simpa using this
theorem fget_fdel_ne (h : k' ≠ k) : fget (fdel fs k) k' = fget fs k' := by
  unfold fget fdel
  rw [Maps.find_filter_keep (fun p hp => by
    have e : p.1 = k' := by simpa using hp
    simpa [e] using h)]
theorem fget_fins_same : ∀ {fs : FList}, (∀ p ∈ fs, p.1 ≠ k) → fget (fins (k, F) fs) k = some F
  | [], _ => by simp [fins, fget]
  | y :: r, h => by
    unfold fins
    split
    · simp [fget]
    · have hy : (y.1 == k) = false := beq_eq_false_iff_ne.2 (h y (by simp))
      have := fget_fins_same (fs := r) (fun p hp => h p (by simp [hp]))
      unfold fget at this ⊢
      rw [List.find?_cons, hy]
      exact this
theorem fget_fins_ne (hne : k' ≠ k) : ∀ {fs : FList}, fget (fins (k, F) fs) k' = fget fs k'
  | [] => by
    have : (k == k') = false := beq_eq_false_iff_ne.2 (fun e => hne e.symm)
    simp [fins, fget, this]
  | y :: r => by
    have hk : (k == k') = false := beq_eq_false_iff_ne.2 (fun e => hne e.symm)
    unfold fins
    split
    · simp [fget, hk]
    · have := fget_fins_ne hne (fs := r)
      unfold fget at this ⊢
      rw [List.find?_cons, List.find?_cons]
      cases y.1 == k' with
      | true => rfl
      | false => exact this
theorem fget_fput_same : fget (fput fs k F) k = some F := fget_fins_same (fun p hp => by
  have := (List.mem_filter.1 hp).2
  simpa using this)
theorem fget_fput_ne (h : k' ≠ k) : fget (fput fs k F) k' = fget fs k' := by
  unfold fput
  rw [fget_fins_ne h, fget_fdel_ne h]
theorem mem_fins {x p : Key × AF} : ∀ {fs : FList}, p ∈ fins x fs ↔ p = x ∨ p ∈ fs
  | [] => by simp [fins]
  | y :: r => by
    unfold fins
    split
    · simp
    · rw [List.mem_cons, mem_fins, List.mem_cons]
      constructor
      · rintro (h | h | h) <;> simp [h]
      · rintro (h | h | h) <;> simp [h]
theorem fins_sorted {x : Key × AF} : ∀ {fs : FList}, fs.Pairwise (fun p q => bytesBefore p.1 q.1 = true) → (∀ p ∈ fs, p.1 ≠ x.1) → (fins x fs).Pairwise (fun p q => bytesBefore p.1 q.1 = true)
  | [], _, _ => by simp [fins]
  | y :: r, h, hn => by
    obtain ⟨h1, h2⟩ := List.pairwise_cons.1 h
    unfold fins
    split
    · rename_i hb
      refine List.pairwise_cons.2 ⟨fun q hq => ?_, h⟩
      rcases List.mem_cons.1 hq with rfl | hq
      · exact hb
      · exact bb_trans _ _ _ hb (h1 q hq)
    · rename_i hb
      have hb' : bytesBefore x.1 y.1 = false := by simpa using hb
      refine List.pairwise_cons.2 ⟨fun q hq => ?_, fins_sorted h2 (fun p hp => hn p (by simp [hp]))⟩
      rcases mem_fins.1 hq with rfl | hq
      · exact bb_total _ _ (fun e => hn y (by simp) e.symm) hb'
      · exact h1 q hq
theorem fdel_sorted (h : fs.Pairwise (fun p q => bytesBefore p.1 q.1 = true)) : (fdel fs k).Pairwise (fun p q => bytesBefore p.1 q.1 = true) := h.filter _
theorem fput_sorted (h : fs.Pairwise (fun p q => bytesBefore p.1 q.1 = true)) : (fput fs k F).Pairwise (fun p q => bytesBefore p.1 q.1 = true) :=
  fins_sorted (fdel_sorted h) (fun p hp => by
    have := (List.mem_filter.1 hp).2
    simpa using this)
theorem fset_keys : fkeys (fset fs k F) = fkeys fs := by
  unfold fkeys fset
  rw [List.map_map]
  refine List.map_congr_left (fun p _ => ?_)
  simp only [Function.comp]
  split <;> rfl
theorem sorted_keys : fs.Pairwise (fun p q => bytesBefore p.1 q.1 = true) ↔ (fkeys fs).Pairwise (fun a b => bytesBefore a b = true) := by
  unfold fkeys
  rw [List.pairwise_map]
theorem fset_sorted (h : fs.Pairwise (fun p q => bytesBefore p.1 q.1 = true)) : (fset fs k F).Pairwise (fun p q => bytesBefore p.1 q.1 = true) := by
  rw [sorted_keys, fset_keys, ← sorted_keys]; exact h
theorem fset_mem {p : Key × AF} (h : p ∈ fset fs k F) : p = (k, F) ∨ p ∈ fs := by
  unfold fset at h
  obtain ⟨q, hq, rfl⟩ := List.mem_map.1 h
  by_cases e : q.1 = k
  · left; simp [e]
  · right; simp [e, hq]
theorem fset_length : (fset fs k F).length = fs.length := by simp [fset]
theorem fdel_length : (fdel fs k).length ≤ fs.length := List.length_filter_le _ _
theorem fins_length {x : Key × AF} : ∀ {fs : FList}, (fins x fs).length = fs.length + 1
  | [] => rfl
  | y :: r => by
    unfold fins
    split
    · rfl
    · simp [fins_length]
theorem fput_length : (fput fs k F).length ≤ fs.length + 1 := by
  unfold fput
  rw [fins_length]
  have := fdel_length (fs := fs) (k := k)
  omega
theorem fdel_of_none (h : fget fs k = none) : fdel fs k = fs := by
  unfold fdel
  rw [List.filter_eq_self]
  intro p hp
  have := (fget_none_iff.1 h) p hp
  simp [this]
theorem fdel_some_length : ∀ {fs : FList}, fget fs k = some F → (fdel fs k).length + 1 ≤ fs.length
  | [], h => by simp [fget] at h
  | p :: r, h => by
    unfold fdel
    rw [List.filter_cons]
    cases hp : p.1 == k with
    | true => simp; exact List.length_filter_le _ _
    | false =>
      have h' : fget r k = some F := by
        unfold fget at h ⊢
        rw [List.find?_cons, hp] at h
        exact h
      have := fdel_some_length h'
      simp
      unfold fdel at this
      omega
theorem fused_fins {x : Key × AF} : ∀ {fs : FList}, fused (fins x fs) = x.2.seen.length + fused fs
  | [] => by simp [fins, fused]
  | y :: r => by
    unfold fins
    split
    · simp [fused]
    · have := fused_fins (x := x) (fs := r)
      unfold fused at this ⊢
      simp [this]; omega
theorem fused_fdel : ∀ {fs : FList}, fs.Pairwise (fun p q => p.1 ≠ q.1) → fget fs k = some F → fused (fdel fs k) + F.seen.length = fused fs
  | [], _, h => by simp [fget] at h
  | p :: r, hp, h => by
    obtain ⟨h1, h2⟩ := List.pairwise_cons.1 hp
    by_cases e : p.1 = k
    · have hr : fget r k = none := fget_none_iff.2 (fun q hq x => h1 q hq (e.trans x.symm))
      have hF : p.2 = F := by
        unfold fget at h
        simp [e] at h
        exact h
      have hd : fdel (p :: r) k = r := by
        have h3 := fdel_of_none hr
        unfold fdel at h3 ⊢
        simp [e]
        rw [List.filter_eq_self] at h3
        intro a b hab
        have := h3 _ hab
        simpa using this
      rw [hd]
      subst hF
      unfold fused
      simp; omega
    · have hk : (p.1 == k) = false := beq_eq_false_iff_ne.2 e
      have h' : fget r k = some F := by
        unfold fget at h ⊢
        rw [List.find?_cons, hk] at h
        exact h
      have ih := fused_fdel h2 h'
      unfold fdel fused at ih ⊢
      simp [e] at ih ⊢
      omega
theorem fused_fdel_le : fused (fdel fs k) ≤ fused fs := by
  induction fs with
  | nil => simp [fdel, fused]
  | cons p r ih =>
    unfold fdel fused at ih ⊢
    rw [List.filter_cons]
    split <;> simp <;> omega
theorem fset_none (h : fget fs k = none) : fset fs k F' = fs := by
  unfold fset
  refine (List.map_congr_left (fun q hq => ?_)).trans (List.map_id _)
  have : (q.1 == k) = false := beq_eq_false_iff_ne.2 (fget_none_iff.1 h q hq)
  simp [this]
theorem fused_fset : ∀ {fs : FList}, fs.Pairwise (fun p q => p.1 ≠ q.1) → fget fs k = some F → fused (fset fs k F') + F.seen.length = fused fs + F'.seen.length
  | [], _, h => by simp [fget] at h
  | p :: r, hp, h => by
    obtain ⟨h1, h2⟩ := List.pairwise_cons.1 hp
    rw [fget_cons] at h
    rw [fset_cons, fused_cons, fused_cons]
    by_cases e : p.1 = k
    · rw [if_pos e] at h ⊢
      have hF : p.2 = F := by simpa using h
      rw [fset_none (fget_none_iff.2 (fun q hq x => h1 q hq (e.trans x.symm))), hF]
      simp only
      omega
    · rw [if_neg e] at h ⊢
      have := fused_fset h2 h
      omega
theorem fused_get_le (h : fget fs k = some F) : F.seen.length ≤ fused fs := by
  induction fs with
  | nil => simp [fget] at h
  | cons p r ih =>
    rw [fget_cons] at h
    rw [fused_cons]
    by_cases e : p.1 = k
    · rw [if_pos e] at h
      have hF : p.2 = F := by simpa using h
      rw [hF]; omega
    · rw [if_neg e] at h
      have := ih h
      omega
end
/-! ### files that are sound -/
theorem AF.Ok.new : AF.new.Ok := ⟨by simp [AF.new], by simp [AF.new], by simp [AF.new], by simp [AF.new]⟩
theorem AF.Ok.sync {F : AF} (h : F.Ok) : F.sync.Ok := ⟨Nat.le_refl _, h.most, by simp [AF.sync], fun i hi _ => ⟨hi, rfl⟩⟩
theorem AF.Ok.trunc {F : AF} (h : F.Ok) (n : Nat) : (F.trunc n).Ok := by
  have h1 := h.le
  have h2 := h.most
  refine ⟨by simp [AF.trunc]; omega, by simp [AF.trunc]; omega, fun s hs => ?_, fun i hi hd => ?_⟩
  · simp only [AF.trunc, Bool.and_eq_true, decide_eq_true_eq, List.length_take] at hs ⊢
    have := h.dl s hs.1
    omega
  · simp only [AF.trunc, List.length_take] at hi hd ⊢
    have hd' : F.dirty (i / 64) = false := by
      rcases Bool.and_eq_false_iff.1 hd with h3 | h3
      · exact h3
      · simp at h3; omega
    obtain ⟨a, b⟩ := h.clean i (by omega) hd'
    refine ⟨by omega, ?_⟩
    rw [List.getElem?_take_of_lt (by omega), List.getElem?_take_of_lt (by omega)]; exact b
theorem write_length (l t : List UInt8) (a : Nat) (ha : a ≤ l.length) : (l.take a ++ t ++ l.drop (a + t.length)).length = max l.length (a + t.length) := by
  simp; omega
theorem AF.write_seen {F : AF} {a : Nat} {t : List UInt8} (ha : a ≤ F.seen.length) : (F.write a t).seen.length = max F.seen.length (a + t.length) := by
  unfold AF.write
  split
  · rename_i e; subst e; simp; omega
  · exact write_length _ _ _ ha
theorem AF.Ok.write {F : AF} (h : F.Ok) {a : Nat} {t : List UInt8} (ha : a ≤ F.seen.length) (hm : a + t.length ≤ 1048576) : (F.write a t).Ok := by
  by_cases e : t = []
  · unfold AF.write; rw [if_pos e]; exact h
  have hp : 0 < t.length := List.length_pos_iff.2 e
  have hl := AF.write_seen (F := F) (t := t) ha
  have h1 := h.le
  have h2 := h.most
  refine ⟨?_, by rw [hl]; omega, fun s hs => ?_, fun i hi hd => ?_⟩
  · rw [hl]; unfold AF.write; rw [if_neg e]; show F.safe.length ≤ _; omega
  · rw [hl]
    unfold AF.write at hs
    rw [if_neg e] at hs
    simp only [Bool.or_eq_true, Bool.and_eq_true, decide_eq_true_eq] at hs
    rcases hs with hs | hs
    · have := h.dl s hs; omega
    · omega
  · rw [hl] at hi
    unfold AF.write at hd ⊢
    rw [if_neg e] at hd ⊢
    simp only [Bool.or_eq_false_iff, Bool.and_eq_false_iff, decide_eq_false_iff_not] at hd
    have hcase : i < a ∨ a + t.length ≤ i := by omega
    have hi2 : i < F.seen.length := by omega
    obtain ⟨c1, c2⟩ := h.clean i hi2 hd.1
    refine ⟨c1, ?_⟩
    show (F.seen.take a ++ t ++ F.seen.drop (a + t.length))[i]? = F.safe[i]?
    rw [← c2]
    rcases hcase with hc | hc
    · rw [List.append_assoc, List.getElem?_append_left (by simp; omega), List.getElem?_take_of_lt hc]
    · rw [List.getElem?_append_right (by simp; omega), List.getElem?_drop]
      congr 1
      simp; omega
theorem foldl_max_ge (p : Nat → Bool) (f : Nat → Nat) : ∀ (l : List Nat) (m : Nat), m ≤ l.foldl (fun m s => if p s then max m (f s) else m) m
  | [], _ => Nat.le_refl _
  | s :: r, m => by
    rw [List.foldl_cons]
    refine Nat.le_trans ?_ (foldl_max_ge p f r _)
    split <;> omega
theorem foldl_max_le (p : Nat → Bool) (f : Nat → Nat) (M : Nat) : ∀ (l : List Nat) (m : Nat), m ≤ M → (∀ s ∈ l, p s = true → f s ≤ M) → l.foldl (fun m s => if p s then max m (f s) else m) m ≤ M
  | [], _, h, _ => h
  | s :: r, m, h, hf => by
    rw [List.foldl_cons]
    refine foldl_max_le p f M r _ ?_ (fun x hx => hf x (by simp [hx]))
    split
    · rename_i hp
      have := hf s (by simp) hp
      omega
    · exact h
theorem foldl_max_mem (p : Nat → Bool) (f : Nat → Nat) : ∀ (l : List Nat) (m : Nat) (s : Nat), s ∈ l → p s = true → f s ≤ l.foldl (fun m s => if p s then max m (f s) else m) m
  | [], _, _, h, _ => by simp at h
  | x :: r, m, s, h, hp => by
    rw [List.foldl_cons]
    rcases List.mem_cons.1 h with rfl | h'
    · rw [if_pos hp]
      exact Nat.le_trans (by omega) (foldl_max_ge p f r _)
    · exact foldl_max_mem p f r _ s h' hp
theorem AF.len_le {F : AF} (h : F.Ok) (ft : Nat → Option AFate) : F.len ft ≤ F.seen.length := by
  unfold AF.len
  generalize List.range F.nsec = l
  exact foldl_max_le (fun s => F.dirty s && hits (ft s)) (fun s => min (64 * s + 64) F.seen.length) _ l _ h.le (fun s _ _ => Nat.min_le_right _ _)
theorem AF.len_ge (F : AF) (ft : Nat → Option AFate) : F.safe.length ≤ F.len ft := by
  unfold AF.len
  generalize List.range F.nsec = l
  exact foldl_max_ge (fun s => F.dirty s && hits (ft s)) (fun s => min (64 * s + 64) F.seen.length) l _
theorem AF.left_length (F : AF) (ft : Nat → Option AFate) : (F.left ft).length = F.len ft := by simp [AF.left]
theorem AF.crash_seen (F : AF) (ft : Nat → Option AFate) : (F.crash ft).seen = F.left ft := rfl
theorem AF.crash_safe (F : AF) (ft : Nat → Option AFate) : (F.crash ft).safe = F.left ft := rfl
theorem AF.Ok.crash {F : AF} (h : F.Ok) (ft : Nat → Option AFate) : (F.crash ft).Ok := by
  refine ⟨Nat.le_refl _, ?_, fun s hs => (by cases hs), fun i hi _ => ⟨hi, rfl⟩⟩
  have e1 : (F.crash ft).seen.length = F.len ft := by rw [AF.crash_seen, AF.left_length]
  have e2 := AF.len_le h ft
  have e3 := h.most
  rw [e1]
  omega
theorem AF.dirty_nsec {F : AF} (h : F.Ok) (s : Nat) (hs : F.dirty s = true) : s < F.nsec := by
  have := h.dl s hs
  unfold AF.nsec
  omega
theorem AF.nsec_le {F : AF} (h : F.Ok) : F.nsec ≤ 16384 := by
  have := h.most
  unfold AF.nsec
  omega
theorem AF.mem_dirtyL {F : AF} (h : F.Ok) (s : Nat) : s ∈ F.dirtyL ↔ F.dirty s = true := by
  unfold AF.dirtyL
  rw [List.mem_filter, List.mem_range]
  exact ⟨fun x => x.2, fun x => ⟨AF.dirty_nsec h s x, x⟩⟩
theorem AF.dirtyL_length {F : AF} (h : F.Ok) : F.dirtyL.length ≤ 16384 := by
  have h1 := List.length_filter_le F.dirty (List.range F.nsec)
  have h2 := AF.nsec_le h
  rw [List.length_range] at h1
  unfold AF.dirtyL
  omega
theorem AF.dirty_lt {F : AF} (h : F.Ok) (s : Nat) (hs : F.dirty s = true) : s < 16384 := by
  have := h.dl s hs
  have := h.most
  omega
end Go.Proofs.YtlkimfmilccanaaGreat
