/-
  What Read reads, Write tells (the mathematics, by hand); of fewer bytes there is no record.
-/
import Derived.Test.YtlohfoggcdaeiaaGreatRRdB
namespace Go.Proofs.YtlohfoggcdaeiaaGreat
open Go.RowKit S
set_option linter.unusedVariables false
set_option linter.unusedSimpArgs false
open Cu (nb be hl ofL CW Mw CR Mr RS takeS takeA hOf nil8 doneS)
theorem peel (n : Nat) (l : List UInt8) (h : (takeS (n : Int) (ofL l, 0)).2 = 0) : ∃ p t, l = p ++ t ∧ p.length = n := by
  have := (takeS_ok2 n (ofL l, 0) h rfl).1
  have hs : n ≤ l.length := by
    have e : (ofL l).size = l.length := Cu.ofL_size l
    have this : n ≤ (ofL l).size := this
    omega
  exact ⟨l.take n, l.drop n, (List.take_append_drop n l).symm, by rw [List.length_take, Nat.min_eq_left hs]⟩
theorem tS (p t : List UInt8) (n : Nat) (hp : p.length = n) : takeS (n : Int) (ofL (p ++ t), 0) = (ofL t, 0) := Cu.takeS_head p t (n : Int) (by rw [hp])
theorem nN (p t : List UInt8) (n : Nat) (hp : p.length = n) : Cu.num (n : Int) (ofL (p ++ t), 0) = be p := Cu.num_head p t (n : Int) (by rw [hp])
theorem tA (p t : List UInt8) (n : Nat) (hp : p.length = n) : takeA (n : Int) (ofL (p ++ t), 0) = ofL p := Cu.takeA_head p t (n : Int) (by rw [hp])
theorem idx_back (p t : List UInt8) (hp : p.length = 8) (h : idxB (rd8 (ofL (p ++ t), 0)) = true) : nb (rd8 (ofL (p ++ t), 0)).toNat 8 = p := by
  have h2 := (idxB_iff _).1 h
  have hb := Cu.be_lt p
  rw [hp] at hb
  unfold rd8 at h2 ⊢
  rw [show Cu.num 8 (ofL (p ++ t), 0) = be p from nN p t 8 hp, IntKind.wrap_i64] at h2 ⊢
  have e : ((be p : Int) + 9223372036854775808) % 18446744073709551616 - 9223372036854775808 = (be p : Int) := by omega
  first
    | rw [e, Int.toNat_natCast]; exact nb_be 8 p hp
    | (have e2 : ∀ x : Int, x = (be p : Int) → nb x.toNat 8 = p := fun x hx => by rw [hx, Int.toNat_natCast]; exact nb_be 8 p hp
       exact e2 _ (by omega))
theorem cnt_back (p t : List UInt8) (hp : p.length = 2) : nb (Cu.num 2 (ofL (p ++ t), 0) : Int).toNat 2 = p := by
  rw [show Cu.num 2 (ofL (p ++ t), 0) = be p from nN p t 2 hp, Int.toNat_natCast]
  exact nb_be 2 p hp
theorem hsh_back (p t : List UInt8) (hp : p.length = 32) : hl (hOf (takeA 32 (ofL (p ++ t), 0))) = p := by
  rw [show takeA 32 (ofL (p ++ t), 0) = ofL p from tA p t 32 hp, hOf_ofL]
  exact hl_hashOf p hp
theorem one_of (p : List UInt8) (h : p.length = 1) : ∃ c, p = [c] := by
  match p, h with
  | [c], _ => exact ⟨c, rfl⟩
theorem ofNat_c (c : UInt8) : UInt8.ofNat ((c.toNat : Int)).toNat = c := by
  rw [Int.toNat_natCast]; exact UInt8.ofNat_toNat
theorem form_O {b : List UInt8} (h0 : (fldA (ofL b)).2.2 = 0) (hv : validR (setU (fldA (ofL b)).1 (lenS [])) [] = true) (h1 : Cu.num 1 (ofL b, 0) ≠ 1) (h3 : Cu.num 1 (ofL b, 0) ≠ 3) : ∃ t, b = bytesR (setU (fldA (ofL b)).1 (lenS [])) [] ++ t := by
  have hS : (takeS 1 (ofL b, 0)).2 = 0 := by
    unfold fldA fldK at h0
    split at h0
    · exact takeS_bad2 _ _ (takeS_bad2 _ _ (takeS_bad2 _ _ h0))
    split at h0
    · exact takeS_bad2 _ _ (takeS_bad2 _ _ (takeS_bad2 _ _ h0))
    split at h0
    · exact takeS_bad2 _ _ h0
    split at h0
    · exact takeS_bad2 _ _ h0
    · exact h0
  obtain ⟨p, r, rfl, hp⟩ := peel 1 b hS
  obtain ⟨c, rfl⟩ := one_of p hp
  rw [List.singleton_append] at *
  have hk := (show isRec (fldA (ofL (c :: r))).1.kind = true by
    unfold validR at hv
    rw [Bool.and_eq_true] at hv
    exact hv.1)
  have ho := (validR_own hv).2
  unfold fldA at h0 hk ho ⊢
  rw [n1c] at h1 h3
  rw [n1c, t1c] at h0 hk ho ⊢
  have hc := ofNat_c c
  obtain ⟨K, hK⟩ : ∃ K : Int, (c.toNat : Int) = K := ⟨_, rfl⟩
  rw [hK] at h0 hk ho hc ⊢
  have h1 : K ≠ 1 := by omega
  have h3 : K ≠ 3 := by omega
  clear hK hv hS
  unfold ownV setU at ho
  unfold bytesR layR setU
  unfold fldK at h0 hk ho ⊢
  by_cases h2 : K = 2
  · rw [if_pos h2] at h0 ho ⊢
    subst h2
    simp only [show ¬((2 : Int) = 1) by decide, if_true, if_false, Bool.and_eq_true] at ho ⊢
    have g2 := takeS_bad2 _ _ h0
    have g8 := takeS_bad2 _ _ g2
    obtain ⟨p, r, rfl, hp⟩ := peel 8 r g8
    rw [show takeS 8 (ofL (p ++ r), 0) = _ from tS p r 8 hp] at h0 g2 ⊢
    obtain ⟨q, r, rfl, hq⟩ := peel 2 r g2
    rw [show takeS 2 (ofL (q ++ r), 0) = _ from tS q r 2 hq] at h0 ⊢
    obtain ⟨s, r, rfl, hs⟩ := peel 2 r h0
    refine ⟨r, ?_⟩
    rw [idx_back p _ hp ho.1, cnt_back q _ hq, cnt_back s _ hs, hc]
    simp
  rw [if_neg h2] at h0 hk ho ⊢
  by_cases h4 : K = 4
  · rw [if_pos h4] at h0 ho ⊢
    subst h4
    simp only [show ¬((4 : Int) = 1) by decide, show ¬((4 : Int) = 2) by decide, show ¬((4 : Int) = 3) by decide, if_true, if_false] at ho ⊢
    have g2 := takeS_bad2 _ _ h0
    have g8 := takeS_bad2 _ _ g2
    obtain ⟨p, r, rfl, hp⟩ := peel 8 r g8
    rw [show takeS 8 (ofL (p ++ r), 0) = _ from tS p r 8 hp] at h0 g2 ⊢
    obtain ⟨q, r, rfl, hq⟩ := peel 32 r g2
    rw [show takeS 32 (ofL (q ++ r), 0) = _ from tS q r 32 hq] at h0 ⊢
    obtain ⟨s, r, rfl, hs⟩ := peel 32 r h0
    refine ⟨r, ?_⟩
    rw [idx_back p _ hp ho, hsh_back q _ hq, hsh_back s _ hs, hc]
    simp
  rw [if_neg h4] at h0 hk ho ⊢
  by_cases h5 : K = 5
  · rw [if_pos h5] at h0 ho ⊢
    subst h5
    simp only [show ¬((5 : Int) = 1) by decide, show ¬((5 : Int) = 2) by decide, show ¬((5 : Int) = 3) by decide, show ¬((5 : Int) = 4) by decide, if_true, if_false] at ho ⊢
    obtain ⟨p, r, rfl, hp⟩ := peel 2 r h0
    refine ⟨r, ?_⟩
    rw [cnt_back p _ hp, hc]
    simp
  rw [if_neg h5] at h0 hk ho ⊢
  by_cases h6 : K = 6
  · rw [if_pos h6] at h0 ho ⊢
    subst h6
    simp only [show ¬((6 : Int) = 1) by decide, show ¬((6 : Int) = 2) by decide, show ¬((6 : Int) = 3) by decide, show ¬((6 : Int) = 4) by decide, show ¬((6 : Int) = 5) by decide, if_true, if_false] at ho ⊢
    obtain ⟨p, r, rfl, hp⟩ := peel 8 r h0
    refine ⟨r, ?_⟩
    rw [idx_back p _ hp ho, hc]
    simp
  rw [if_neg h6] at hk
  exfalso
  unfold isRec at hk
  simp only [Bool.and_eq_true, decide_eq_true_eq] at hk
  omega
theorem form_1 {b : List UInt8} {v : Rc} {vs : List Upd} (hN : Cu.num 1 (ofL b, 0) = 1) (h : fldOurs (ofL b) = some (v, vs)) : vs = [] ∧ ∃ t, b = bytesR (setU v (lenS [])) [] ++ t := by
  have hb1 : 1 ≤ b.length := by
    have := num1_pos hN
    rwa [Cu.ofL_size] at this
  obtain ⟨p, r, rfl, hp⟩ : ∃ p t, b = p ++ t ∧ p.length = 1 := ⟨b.take 1, b.drop 1, (List.take_append_drop 1 b).symm, by rw [List.length_take]; omega⟩
  obtain ⟨c, rfl⟩ := one_of p hp
  rw [List.singleton_append] at *
  rw [n1c] at hN
  unfold fldOurs at h
  rw [dataOfL, List.drop_succ_cons, List.drop_zero] at h
  cases h2 : rdUs 1 r with
  | none => rw [h2] at h; cases h
  | some q =>
    obtain ⟨us, a⟩ := q
    rw [h2] at h
    obtain ⟨k1, k2, k3, k4⟩ := rdUs_ok 1 r us a h2
    obtain ⟨u, rfl⟩ : ∃ u, us = [u] := by
      match us, k1 with
      | [u], _ => exact ⟨u, rfl⟩
    have h : some ((⟨1, u, nilS, 0, 0, 0, z32, z32, z32, 0⟩ : Rc), ([] : List Upd)) = some (v, vs) := h
    cases h
    refine ⟨rfl, r.drop a, ?_⟩
    have hb : bytesUs [u] = bytesU u := by rw [bytesUs_cons]; exact List.append_nil _
    rw [hb] at k4
    show c :: r = (UInt8.ofNat (1 : Int).toNat :: bytesU u) ++ r.drop a
    have hc : UInt8.ofNat (1 : Int).toNat = c := by
      apply UInt8.toNat_inj.1
      rw [hN]; rfl
    rw [hc, k4, List.cons_append, List.take_append_drop]
theorem form_3 {b : List UInt8} {v : Rc} {vs : List Upd} (hN : Cu.num 1 (ofL b, 0) = 3) (h : fldCame (ofL b) = some (v, vs)) (hv : validR (setU v (lenS vs)) vs = true) : ∃ t, b = bytesR (setU v (lenS vs)) vs ++ t := by
  unfold fldCame at h
  by_cases hS : (cmS (ofL b)).2 = 0
  rotate_left
  · rw [if_neg hS] at h; cases h
  rw [if_pos hS] at h
  have hS0 := hS
  unfold cmS at hS0
  have g8 := takeS_bad2 _ _ hS0
  have g1 := takeS_bad2 _ _ g8
  obtain ⟨p, r, rfl, hp⟩ := peel 1 b g1
  obtain ⟨c, rfl⟩ := one_of p hp
  rw [List.singleton_append] at *
  rw [t1c] at hS0 g8
  obtain ⟨p, r, rfl, hp8⟩ := peel 8 r g8
  rw [show takeS 8 (ofL (p ++ r), 0) = _ from tS p r 8 hp8] at hS0
  obtain ⟨q, r, rfl, hq⟩ := peel 2 r hS0
  have eS : cmS (ofL (c :: (p ++ (q ++ r)))) = (ofL r, 0) := by
    unfold cmS; rw [t1c, show takeS 8 (ofL (p ++ (q ++ r)), 0) = _ from tS p _ 8 hp8]; exact tS q r 2 hq
  have eN : cmN (ofL (c :: (p ++ (q ++ r)))) = be q := by
    unfold cmN; rw [t1c, show takeS 8 (ofL (p ++ (q ++ r)), 0) = _ from tS p _ 8 hp8]; exact nN q r 2 hq
  have eD : (ofL (c :: (p ++ (q ++ r)))).data.toList.drop 11 = r := by
    rw [dataOfL, show (c :: (p ++ (q ++ r))) = (c :: (p ++ q)) ++ r by simp]
    exact List.drop_left' (by simp [hp8, hq])
  rw [eS, eN, eD, t1c] at h
  cases h2 : rdUs (be q) r with
  | none => rw [h2] at h; cases h
  | some z =>
    obtain ⟨us, a⟩ := z
    rw [h2] at h
    obtain ⟨k1, k2, k3, k4⟩ := rdUs_ok _ r us a h2
    have h : (if (takeS 32 (Cu.rawS (a : Int) (ofL r, 0))).2 = 0 then some ((⟨(Cu.num 1 (ofL (c :: (p ++ (q ++ r))), 0) : Int), Upd.zero, nilS, rd8 (ofL (p ++ (q ++ r)), 0), 0, 0, hOf (takeA 32 (Cu.rawS (a : Int) (ofL r, 0))), z32, z32, 0⟩ : Rc), us) else none) = some (v, vs) := h
    obtain ⟨s, r, rfl, hs⟩ : ∃ s t, r = s ++ t ∧ s.length = a := ⟨r.take a, r.drop a, (List.take_append_drop a r).symm, by rw [List.length_take]; omega⟩
    have eR : Cu.rawS (a : Int) (ofL (s ++ r), 0) = (ofL r, 0) := by
      unfold Cu.rawS Cu.rawMid
      rw [if_neg (by omega)]
      exact tS s r a hs
    rw [eR] at h
    by_cases h32 : (takeS 32 (ofL r, 0)).2 = 0
    rotate_left
    · rw [if_neg h32] at h; cases h
    rw [if_pos h32] at h
    obtain ⟨y, r, rfl, hy⟩ := peel 32 r h32
    cases h
    have ho := (validR_own hv).2
    rw [n1c] at hN
    have e3 : (Cu.num 1 (ofL (c :: (p ++ (q ++ (s ++ (y ++ r))))), 0) : Int) = 3 := by rw [n1c, hN]; rfl
    unfold ownV setU at ho
    simp only [e3] at ho
    simp only [show ¬((3 : Int) = 1) by decide, show ¬((3 : Int) = 2) by decide, if_true, if_false, Bool.and_eq_true] at ho
    refine ⟨r, ?_⟩
    unfold bytesR layR setU
    simp only [e3]
    simp only [show ¬((3 : Int) = 1) by decide, show ¬((3 : Int) = 2) by decide, if_true, if_false]
    rw [List.take_left' hs] at k4
    have hc : UInt8.ofNat (3 : Int).toNat = c := by
      apply UInt8.toNat_inj.1
      rw [hN]; rfl
    rw [idx_back p _ hp8 ho.1, k4, hsh_back y r hy, hc]
    have hn : nb (lenS vs).n 2 = q := by
      show nb vs.length 2 = q
      rw [k1]; exact nb_be 2 q hq
    rw [hn]
    simp
/-- What Read tells of any bytes: a valid record that has just the first n of them. -/
theorem rd_form {b : List UInt8} {v : Rc} {vs : List Upd} {n : Nat} (h : rdOf (fldR (ofL b)) = some (v, vs, n)) : validR (setU v (lenS vs)) vs = true ∧ n = (bytesR (setU v (lenS vs)) vs).length ∧ ∃ t, b = bytesR (setU v (lenS vs)) vs ++ t := by
  cases h2 : fldR (ofL b) with
  | none => rw [h2] at h; cases h
  | some z =>
    obtain ⟨v', vs'⟩ := z
    rw [h2] at h
    have h : (if validR (setU v' (lenS vs')) vs' = true then some (v', vs', (bytesR (setU v' (lenS vs')) vs').length) else none) = some (v, vs, n) := h
    by_cases hv : validR (setU v' (lenS vs')) vs' = true
    rotate_left
    · rw [if_neg hv] at h; cases h
    rw [if_pos hv] at h
    cases h
    refine ⟨hv, rfl, ?_⟩
    unfold fldR at h2
    by_cases h1 : Cu.num 1 (ofL b, 0) = 1
    · rw [if_pos h1] at h2
      obtain ⟨rfl, ht⟩ := form_1 h1 h2
      exact ht
    rw [if_neg h1] at h2
    by_cases h3 : Cu.num 1 (ofL b, 0) = 3
    · rw [if_pos h3] at h2
      exact form_3 h3 h2 hv
    rw [if_neg h3] at h2
    unfold fldO at h2
    by_cases h0 : (fldA (ofL b)).2.2 = 0
    rotate_left
    · rw [if_neg h0] at h2; cases h2
    rw [if_pos h0] at h2
    cases h2
    exact form_O h0 hv h1 h3
/-- Of fewer bytes there is no record. -/
theorem rd_cut {r : Rc} {l : List Upd} (hv : validR r l = true) (hn : l.length = r.upds.n) {k : Nat} (hk : k < (bytesR r l).length) : rdOf (fldR (ofL ((bytesR r l).take k))) = none := by
  cases h : rdOf (fldR (ofL ((bytesR r l).take k))) with
  | none => rfl
  | some z =>
    exfalso
    obtain ⟨v, vs, n⟩ := z
    obtain ⟨h1, h2, t, h3⟩ := rd_form h
    obtain ⟨v1, vs1, _, e1⟩ := rd_back hv hn []
    obtain ⟨v2, vs2, _, e2⟩ := rd_back h1 rfl (t ++ (bytesR r l).drop k)
    rw [List.append_nil] at e1
    rw [← List.append_assoc, ← h3, List.take_append_drop, e1] at e2
    simp only [Option.some.injEq, Prod.mk.injEq] at e2
    have := congrArg List.length h3
    rw [List.length_take, List.length_append] at this
    omega
theorem eqU_of_zero {a b : Upd} (h : eqU a b = true) (hb : b = Upd.zero) : eqU b a = true := by
  unfold eqU at *
  simp only [Bool.and_eq_true, beq_iff_eq] at *
  obtain ⟨x1, x2, x3, x4, x5⟩ := h
  exact ⟨x1.symm, x2.symm, x3.symm, (eqH_iff _ _).2 fun i hi => ((eqH_iff _ _).1 x4 i hi).symm, x5.symm⟩
theorem eqH_symm {a b : Nat → UInt8} (h : eqH a b = true) : eqH b a = true := (eqH_iff _ _).2 fun i hi => ((eqH_iff _ _).1 h i hi).symm
/-- Two records that say the same, field by field. -/
def allR (v r : Rc) (vs l : List Upd) : Prop := v.kind = r.kind ∧ eqU v.upd r.upd = true ∧ v.idx = r.idx ∧ v.co = r.co ∧ v.cp = r.cp ∧ eqH v.sig r.sig = true ∧ eqH v.sec r.sec = true ∧ eqH v.pt r.pt = true ∧ v.code = r.code ∧ eqUs vs l
theorem allR_zero : allR Rc.zero Rc.zero [] [] := by
  unfold allR
  exact ⟨rfl, eqU_refl _, rfl, rfl, rfl, eqH_refl _, eqH_refl _, eqH_refl _, rfl, trivial⟩
theorem sameR_all {v r : Rc} {vs l : List Upd} (h : sameR v r vs l) (hv : validR r l = true) (hn : l.length = r.upds.n) : allR v r vs l := by
  obtain ⟨e0, e1, e2, e3, e4, e5, e6, e7, e8, e9, e10⟩ := h
  have hb := (validR_own hv).1
  have hk : isRec r.kind = true := by
    unfold validR at hv
    rw [Bool.and_eq_true] at hv
    exact hv.1
  have hk6 : 1 ≤ r.kind ∧ r.kind ≤ 6 := by unfold isRec at hk; simpa using hk
  have hH : ∀ f : Nat → UInt8, eqH (hashOf (hl f)) f = true := eqH_hl
  have nilof : (r.upds.n : Int) = 0 → l = [] := fun h0 => List.eq_nil_of_length_eq_zero (by omega)
  unfold strip bareB at hb
  by_cases h1 : r.kind = 1
  · simp only [h1, if_true, true_or, Int.reduceEq, if_false] at e1 e3 e4 e5 e6 e7 e8 e9 e10
    rw [if_pos h1] at hb
    simp only [Bool.and_eq_true, beq_iff_eq] at hb
    obtain ⟨_, b2, b3, ⟨b4, b5⟩, b6, b7, b8, b9⟩ := hb
    rw [nilof b2]
    exact ⟨e0, e1 trivial, by rw [e4, b3], by rw [e5, b4], by rw [e6, b5], by rw [e7]; exact eqH_symm b6, by rw [e8]; exact eqH_symm b7, by rw [e9]; exact eqH_symm b8, by rw [e10, b9], e3⟩
  have e2 := e2 h1
  rw [if_neg h1] at hb
  by_cases h2 : r.kind = 2
  · simp only [h2, if_true, Int.reduceEq, if_false, or_false, or_true, or_self, false_or] at e3 e4 e5 e6 e7 e8 e9 e10
    rw [if_pos h2] at hb
    simp only [Bool.and_eq_true, beq_iff_eq] at hb
    obtain ⟨b1, b2, b3, ⟨b4, b5⟩, b6, b7, b8, b9⟩ := hb
    rw [nilof b2]
    exact ⟨e0, by rw [e2]; exact eqU_of_zero b1 rfl, e4, e5, e6, by rw [e7]; exact eqH_symm b6, by rw [e8]; exact eqH_symm b7, by rw [e9]; exact eqH_symm b8, by rw [e10, b9], e3⟩
  rw [if_neg h2] at hb
  by_cases h3 : r.kind = 3
  · simp only [h3, if_true, Int.reduceEq, if_false, or_false, or_true, or_self, false_or] at e3 e4 e5 e6 e7 e8 e9 e10
    rw [if_pos h3] at hb
    simp only [Bool.and_eq_true, beq_iff_eq] at hb
    obtain ⟨b1, b2, b3, ⟨b4, b5⟩, b6, b7, b8, b9⟩ := hb
    exact ⟨e0, by rw [e2]; exact eqU_of_zero b1 rfl, e4, by rw [e5, b4], by rw [e6, b5], by rw [e7]; exact hH _, by rw [e8]; exact eqH_symm b7, by rw [e9]; exact eqH_symm b8, by rw [e10, b9], e3⟩
  rw [if_neg h3] at hb
  by_cases h4 : r.kind = 4
  · simp only [h4, if_true, Int.reduceEq, if_false, or_false, or_true, or_self, false_or] at e3 e4 e5 e6 e7 e8 e9 e10
    rw [if_pos h4] at hb
    simp only [Bool.and_eq_true, beq_iff_eq] at hb
    obtain ⟨b1, b2, b3, ⟨b4, b5⟩, b6, b7, b8, b9⟩ := hb
    rw [nilof b2]
    exact ⟨e0, by rw [e2]; exact eqU_of_zero b1 rfl, e4, by rw [e5, b4], by rw [e6, b5], by rw [e7]; exact eqH_symm b6, by rw [e8]; exact hH _, by rw [e9]; exact hH _, by rw [e10, b9], e3⟩
  rw [if_neg h4] at hb
  by_cases h5 : r.kind = 5
  · simp only [h5, if_true, Int.reduceEq, if_false, or_false, or_true, or_self, false_or] at e3 e4 e5 e6 e7 e8 e9 e10
    rw [if_pos h5] at hb
    simp only [Bool.and_eq_true, beq_iff_eq] at hb
    obtain ⟨b1, b2, b3, ⟨b4, b5⟩, b6, b7, b8, b9⟩ := hb
    rw [nilof b2]
    exact ⟨e0, by rw [e2]; exact eqU_of_zero b1 rfl, by rw [e4, b3], by rw [e5, b4], by rw [e6, b5], by rw [e7]; exact eqH_symm b6, by rw [e8]; exact eqH_symm b7, by rw [e9]; exact eqH_symm b8, e10, e3⟩
  rw [if_neg h5] at hb
  have h6 : r.kind = 6 := by omega
  simp only [h6, if_true, Int.reduceEq, if_false, or_false, or_true, or_self, false_or] at e3 e4 e5 e6 e7 e8 e9 e10
  simp only [Bool.and_eq_true, beq_iff_eq] at hb
  obtain ⟨b1, b2, b3, ⟨b4, b5⟩, b6, b7, b8, b9⟩ := hb
  rw [nilof b2]
  exact ⟨e0, by rw [e2]; exact eqU_of_zero b1 rfl, e4, by rw [e5, b4], by rw [e6, b5], by rw [e7]; exact eqH_symm b6, by rw [e8]; exact eqH_symm b7, by rw [e9]; exact eqH_symm b8, by rw [e10, b9], e3⟩
end Go.Proofs.YtlohfoggcdaeiaaGreat
