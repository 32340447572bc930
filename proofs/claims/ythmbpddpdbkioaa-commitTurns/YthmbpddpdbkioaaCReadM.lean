/-
  Read in plain words: what is read of a commitment's bytes.
-/
import Derived.Test.YthmbpddpdbkioaaCMath
namespace Go.Proofs.Ythmbpddpdbkioaa
open Go.RowKit S
set_option linter.unusedVariables false
set_option linter.unusedSimpArgs false
open Cu (nb be hl hOf ofL num nil8 takeS takeA RS CW Mw CR Mr)
theorem nb_be : ∀ (n : Nat) (l : List UInt8), l.length = n → nb (be l) n = l
  | 0, l, h => by rw [List.length_eq_zero_iff.1 h]; rfl
  | n + 1, l, h => by
    have hne : l ≠ [] := fun e => by rw [e] at h; simp at h
    have e : l = l.dropLast ++ [l.getLast hne] := (List.dropLast_concat_getLast hne).symm
    have hd : l.dropLast.length = n := by rw [List.length_dropLast, h]; rfl
    have ih := nb_be n l.dropLast hd
    rw [e, Cu.be_snoc, Cu.nb_succ]
    have hc := (l.getLast hne).toNat_lt
    have e1 : (be l.dropLast * 256 + (l.getLast hne).toNat) / 256 = be l.dropLast := by omega
    have e2 : UInt8.ofNat (be l.dropLast * 256 + (l.getLast hne).toNat) = l.getLast hne := by
      apply UInt8.toNat_inj.1
      rw [Cu.toNat_ofNat8]; omega
    rw [e1, e2, ih]
/-- A hash out of bytes. -/
def hashOf (l : List UInt8) : Nat → UInt8 := fun i => l.getD i 0
theorem hOf_ofL (l : List UInt8) : hOf (ofL l) = hashOf l := by
  funext i; unfold hOf hashOf Cu.byteAt; rw [Cu.ofL_data]
theorem be_one (c : UInt8) : be [c] = c.toNat := by simp [be]
theorem hashOf_hl (h : Nat → UInt8) (i : Nat) (hi : i < 32) : hashOf (hl h) i = h i := by
  unfold hashOf hl
  rw [List.getD_eq_getElem?_getD, List.getElem?_map, List.getElem?_range hi]; rfl
theorem eqH_hl (h : Nat → UInt8) : eqH (hashOf (hl h)) h = true := (eqH_iff _ _).2 fun i hi => hashOf_hl h i hi
theorem be_nb2 (x : Nat) (h : x < 65536) : be (nb x 2) = x := by rw [Cu.be_nb]; exact Nat.mod_eq_of_lt (by omega)
theorem be_nb8 (x : Nat) (h : x < 18446744073709551616) : be (nb x 8) = x := by rw [Cu.be_nb]; exact Nat.mod_eq_of_lt (by omega)
theorem nb_one (k : Nat) : nb k 1 = [UInt8.ofNat k] := by simp [nb, Cu.digit]
theorem hl_hashOf (l : List UInt8) (h : l.length = 32) : hl (hashOf l) = l := by
  apply List.ext_getElem?
  intro i
  unfold hl hashOf
  by_cases hi : i < 32
  · rw [List.getElem?_map, List.getElem?_range hi, List.getElem?_eq_getElem (by omega)]
    simp [List.getD_eq_getElem?_getD, List.getElem?_eq_getElem (show i < l.length by omega)]
  · rw [List.getElem?_eq_none (by simp; omega), List.getElem?_eq_none (by omega)]
/-- Equal as far as the program tells. -/
def eqL (l m : List Pen) : Prop := l.length = m.length ∧ ∀ (i : Nat) (p q : Pen), l[i]? = some p → m[i]? = some q → eqP p q = true
theorem eqP_iff (p q : Pen) : eqP p q = true ↔ p.ours = q.ours ∧ p.id = q.id ∧ p.amt = q.amt ∧ eqH p.hash q.hash = true := by
  unfold eqP; simp [Bool.and_eq_true]
theorem eqL_refl (l : List Pen) : eqL l l := ⟨rfl, fun i p q h1 h2 => by rw [h1] at h2; obtain rfl := Option.some.inj h2; exact eqP_refl p⟩
theorem eqL_nil : eqL [] [] := eqL_refl []
theorem hl_congr {f g : Nat → UInt8} (h : eqH f g = true) : hl f = hl g := by
  unfold hl
  refine List.map_congr_left fun i hi => (eqH_iff f g).1 h i (List.mem_range.1 hi)
theorem hl_inj {f g : Nat → UInt8} (h : hl f = hl g) : eqH f g = true := (eqH_iff f g).2 fun i hi => by rw [← hashOf_hl f i hi, h, hashOf_hl g i hi]
theorem penB_congr {p q : Pen} (h : eqP p q = true) : penB p = penB q := by
  obtain ⟨h1, h2, h3, h4⟩ := (eqP_iff p q).1 h
  unfold penB
  rw [h1, h2, h3, hl_congr h4]
theorem opensB_congr {l m : List Pen} (h : eqL l m) : opensB l = opensB m := by
  obtain ⟨hl, h⟩ := h
  induction l generalizing m with
  | nil => have := List.length_eq_zero_iff.1 hl.symm; subst this; rfl
  | cons p l ih =>
    cases m with
    | nil => simp at hl
    | cons q m =>
      unfold opensB at *
      rw [List.flatMap_cons, List.flatMap_cons, penB_congr (h 0 p q rfl rfl), ih (by simpa using hl) (fun i a b ha hb => h (i + 1) a b (by simpa using ha) (by simpa using hb))]
theorem textB_congr {o n : Int} {h h' : Nat → UInt8} {x y : Int} {l m : List Pen} (hh : eqH h h' = true) (hm : eqL l m) : textB o n h x y l = textB o n h' x y m := by
  unfold textB headB
  rw [hl_congr hh, hm.1, opensB_congr hm]
def Rng (l : List Pen) : Prop := ∀ p ∈ l, p.id ≤ 9223372036854775807
def i64 (x : Nat) : Int := IntKind.i64.wrap (x : Int)
def penR (st : RS) : Pen := ⟨decide (be (takeA 1 st).data.toList ≠ 0), i64 (num 8 (takeS 1 st)), i64 (num 8 (takeS 8 (takeS 1 st))), hOf (takeA 32 (takeS 8 (takeS 8 (takeS 1 st))))⟩
def penS (st : RS) : RS := takeS 32 (takeS 8 (takeS 8 (takeS 1 st)))
theorem num8 (x : Nat) (hx : x < 18446744073709551616) (r : List UInt8) : num 8 (ofL (nb x 8 ++ r), 0) = x := by
  have := Cu.num_nb x 8 r
  rw [show ((8 : Nat) : Int) = 8 from rfl] at this
  rw [this]; exact Nat.mod_eq_of_lt (by omega)
theorem tS8 (x : Nat) (r : List UInt8) : takeS 8 (ofL (nb x 8 ++ r), 0) = (ofL r, 0) := Cu.takeS_head _ _ _ (by rw [Cu.nb_length]; rfl)
theorem tS1 (x : Nat) (r : List UInt8) : takeS 1 (ofL (nb x 1 ++ r), 0) = (ofL r, 0) := Cu.takeS_head _ _ _ (by rw [Cu.nb_length]; rfl)
theorem tA1 (x : Nat) (r : List UInt8) : takeA 1 (ofL (nb x 1 ++ r), 0) = ofL (nb x 1) := Cu.takeA_head _ _ _ (by rw [Cu.nb_length]; rfl)
theorem tS2 (x : Nat) (r : List UInt8) : takeS 2 (ofL (nb x 2 ++ r), 0) = (ofL r, 0) := Cu.takeS_head _ _ _ (by rw [Cu.nb_length]; rfl)
theorem tA2 (x : Nat) (r : List UInt8) : takeA 2 (ofL (nb x 2 ++ r), 0) = ofL (nb x 2) := Cu.takeA_head _ _ _ (by rw [Cu.nb_length]; rfl)
theorem tS32 (h : Nat → UInt8) (r : List UInt8) : takeS 32 (ofL (hl h ++ r), 0) = (ofL r, 0) := Cu.takeS_head _ _ _ (by rw [Cu.hl_length]; rfl)
theorem tA32 (h : Nat → UInt8) (r : List UInt8) : takeA 32 (ofL (hl h ++ r), 0) = ofL (hl h) := Cu.takeA_head _ _ _ (by rw [Cu.hl_length]; rfl)
theorem be1 (x : Nat) (hx : x < 256) : be (ofL (nb x 1)).data.toList = x := by rw [Cu.ofL_data, Cu.be_nb]; exact Nat.mod_eq_of_lt (by omega)
theorem be2 (x : Nat) (hx : x < 65536) : be (ofL (nb x 2)).data.toList = x := by rw [Cu.ofL_data, Cu.be_nb]; exact Nat.mod_eq_of_lt (by omega)
theorem eqH_read (h : Nat → UInt8) : eqH (hOf (ofL (hl h))) h = true := by rw [hOf_ofL]; exact eqH_hl h
theorem okP_rng {p : Pen} (h : okP p = true) : 0 ≤ p.id ∧ 1 ≤ p.amt ∧ p.amt ≤ 1152921504606846976 := by
  unfold okP at h
  simp only [Bool.not_eq_true', Bool.or_eq_false_iff, decide_eq_false_iff_not] at h
  omega
theorem pen_read {p : Pen} (hp : okP p = true) (hr : p.id ≤ 9223372036854775807) (r : List UInt8) : eqP (penR (ofL (penB p ++ r), 0)) p = true ∧ penS (ofL (penB p ++ r), 0) = (ofL r, 0) := by
  have hk := okP_rng hp
  have e : penB p ++ r = nb (if p.ours = true then 1 else 0) 1 ++ (nb (u64 p.id) 8 ++ (nb (u64 p.amt) 8 ++ (hl p.hash ++ r))) := by unfold penB; simp only [List.append_assoc]
  rw [e]
  refine ⟨(eqP_iff _ _).2 ⟨?_, ?_, ?_, ?_⟩, ?_⟩
  · unfold penR
    simp only [tA1]
    rw [be1 _ (by split <;> omega)]
    cases p.ours <;> simp
  · unfold penR i64
    simp only [tS1]
    rw [num8 _ (u64_lt _)]
    exact u64_back (by omega) hr
  · unfold penR i64
    simp only [tS1, tS8]
    rw [num8 _ (u64_lt _)]
    exact u64_back (by omega) (by omega)
  · unfold penR
    simp only [tS1, tS8, tA32]
    exact eqH_read _
  · unfold penS
    simp only [tS1, tS8, tS32]
/-- What is read of the head. -/
structure HD where
  o : Int
  n : Int
  h : Nat → UInt8
  x : Int
  y : Int
  k : Nat
  st : RS
def headR (st : RS) : HD := ⟨(be (takeA 1 st).data.toList : Int), i64 (num 8 (takeS 1 st)), hOf (takeA 32 (takeS 8 (takeS 1 st))), i64 (num 8 (takeS 32 (takeS 8 (takeS 1 st)))), i64 (num 8 (takeS 8 (takeS 32 (takeS 8 (takeS 1 st))))), be (takeA 2 (takeS 8 (takeS 8 (takeS 32 (takeS 8 (takeS 1 st)))))).data.toList, takeS 2 (takeS 8 (takeS 8 (takeS 32 (takeS 8 (takeS 1 st)))))⟩
theorem amB_rng {a : Int} (h : amB a = true) : 0 ≤ a ∧ a ≤ 1152921504606846976 := by
  unfold amB at h
  simp only [Bool.not_eq_true', Bool.or_eq_false_iff, decide_eq_false_iff_not] at h
  omega
theorem head_read {o n : Int} {h : Nat → UInt8} {x y : Int} {k : Nat} (ha : Arg o n) (hx : amB x = true) (hy : amB y = true) (hk : k < 65536) (r : List UInt8) :
    let R := headR (ofL (headB o n h x y k ++ r), 0)
    R.o = o ∧ R.n = n ∧ eqH R.h h = true ∧ R.x = x ∧ R.y = y ∧ R.k = k ∧ R.st = (ofL r, 0) := by
  have hx' := amB_rng hx
  have hy' := amB_rng hy
  unfold Arg at ha
  have e : headB o n h x y k ++ r = nb o.toNat 1 ++ (nb (u64 n) 8 ++ (hl h ++ (nb (u64 x) 8 ++ (nb (u64 y) 8 ++ (nb k 2 ++ r))))) := by unfold headB; simp only [List.append_assoc]
  rw [e]
  unfold headR
  simp only [tA1, tS1, tS8, tS32, tA32, tA2, tS2]
  rw [be1 _ (by omega), be2 _ hk, num8 _ (u64_lt _), num8 _ (u64_lt _), num8 _ (u64_lt _)]
  refine ⟨by omega, u64_back (by omega) (by omega), eqH_read _, u64_back (by omega) (by omega), u64_back (by omega) (by omega), by first | rfl | trivial, by first | rfl | trivial⟩
/-- Bytes of a commitment. -/
structure RdOk (b : ByteArray) (o n : Int) (h : Nat → UInt8) (x y : Int) (l : List Pen) : Prop where
  arg : Arg o n
  snd : Snd x y l
  rng : Rng l
  eq : b = ofL (textB o n h x y l)
theorem ofL_inj {a b : List UInt8} (h : ofL a = ofL b) : a = b := by rw [← Cu.ofL_data a, h, Cu.ofL_data]
theorem RdOk.head {b : ByteArray} {o n : Int} {h : Nat → UInt8} {x y : Int} {l : List Pen} (k : RdOk b o n h x y l) :
    let R := headR (b, 0)
    R.o = o ∧ R.n = n ∧ eqH R.h h = true ∧ R.x = x ∧ R.y = y ∧ R.k = l.length ∧ R.st = (ofL (opensB l), 0) := by
  rw [k.eq]
  unfold textB
  exact head_read k.arg k.snd.1.1 k.snd.1.2 (by have := k.snd.len; omega) _
/-- One more add is read. -/
theorem pen_step {l ps : List Pen} {j : Nat} (hs : ∀ p ∈ l, okP p = true) (hr : Rng l) (hj : j < l.length) (hp : eqL ps (l.take j)) : eqL (ps ++ [penR (ofL (opensB (l.drop j)), 0)]) (l.take (j + 1)) ∧ penS (ofL (opensB (l.drop j)), 0) = (ofL (opensB (l.drop (j + 1))), 0) := by
  have hx : l[j]? = some l[j] := List.getElem?_eq_getElem hj
  have hm : l[j] ∈ l := List.getElem_mem hj
  have e : opensB (l.drop j) = penB l[j] ++ opensB (l.drop (j + 1)) := by
    rw [List.drop_eq_getElem_cons hj]
    unfold opensB
    rw [List.flatMap_cons]
  rw [e]
  obtain ⟨h1, h2⟩ := pen_read (hs _ hm) (hr _ hm) (opensB (l.drop (j + 1)))
  refine ⟨?_, h2⟩
  have hlen : ps.length = j := by rw [hp.1, List.length_take]; omega
  rw [take_snoc hx]
  refine ⟨by rw [List.length_append, List.length_append, hp.1]; rfl, fun i p q hp' hq' => ?_⟩
  have htl : (l.take j).length = j := by rw [List.length_take]; omega
  rcases Nat.lt_trichotomy i j with hc | hc | hc
  · rw [List.getElem?_append_left (by omega)] at hp' hq'
    exact hp.2 i p q hp' hq'
  · subst hc
    rw [List.getElem?_append_right (by omega), hlen, Nat.sub_self] at hp'
    rw [List.getElem?_append_right (by omega), htl, Nat.sub_self] at hq'
    simp only [List.getElem?_cons_zero, Option.some.injEq] at hp' hq'
    rw [← hp', ← hq']
    exact h1
  · have : ([penR (ofL (penB l[j] ++ opensB (l.drop (j + 1))), 0)] : List Pen)[i - ps.length]? = none := List.getElem?_eq_none (by simp; omega)
    rw [List.getElem?_append_right (by omega), this] at hp'
    cases hp'
theorem okP_congr {p q : Pen} (h : eqP p q = true) : okP p = okP q := by
  obtain ⟨h1, h2, h3, h4⟩ := (eqP_iff p q).1 h
  unfold okP; rw [h2, h3]
theorem foll_congr {p q p' q' : Pen} (h : eqP p p' = true) (k : eqP q q' = true) : foll p q = foll p' q' := by
  obtain ⟨h1, h2, h3, h4⟩ := (eqP_iff _ _).1 h
  obtain ⟨k1, k2, k3, k4⟩ := (eqP_iff _ _).1 k
  unfold foll; rw [h1, h2, k1, k2]
theorem eqL_get {l m : List Pen} (h : eqL l m) {i : Nat} {p : Pen} (hp : l[i]? = some p) : ∃ q, m[i]? = some q ∧ eqP p q = true := by
  have hi := (List.getElem?_eq_some_iff.1 hp).1
  have hm : i < m.length := by rw [← h.1]; exact hi
  have hx : m[i]? = some m[i] := List.getElem?_eq_getElem hm
  exact ⟨_, hx, h.2 i p _ hp hx⟩
theorem eqP_symm {p q : Pen} (h : eqP p q = true) : eqP q p = true := by
  obtain ⟨h1, h2, h3, h4⟩ := (eqP_iff _ _).1 h
  exact (eqP_iff _ _).2 ⟨h1.symm, h2.symm, h3.symm, (eqH_iff _ _).2 fun i hi => ((eqH_iff _ _).1 h4 i hi).symm⟩
theorem eqL_symm {l m : List Pen} (h : eqL l m) : eqL m l := ⟨h.1.symm, fun i p q hp hq => eqP_symm (h.2 i q p hq hp)⟩
theorem cnt_congr (o : Bool) {l m : List Pen} (h : eqL l m) : cntP o l = cntP o m := by
  obtain ⟨hl, h⟩ := h
  induction l generalizing m with
  | nil => have := List.length_eq_zero_iff.1 hl.symm; subst this; rfl
  | cons p l ih =>
    cases m with
    | nil => simp at hl
    | cons q m =>
      have h0 := ((eqP_iff _ _).1 (h 0 p q rfl rfl)).1
      have := ih (m := m) (by simpa using hl) (fun i a b ha hb => h (i + 1) a b (by simpa using ha) (by simpa using hb))
      unfold cntP at *
      simp only [List.filter_cons, h0]
      split <;> simp [this]
theorem Snd.congr {x y : Int} {l m : List Pen} (h : Snd x y l) (e : eqL l m) : Snd x y m := by
  refine ⟨h.1, fun i hi p hp => ?_, by rw [← cnt_congr _ e]; exact h.2.2.1, by rw [← cnt_congr _ e]; exact h.2.2.2⟩
  obtain ⟨q, hq, hqp⟩ := eqL_get (eqL_symm e) hp
  have hg := h.2.1 i (by rw [e.1]; exact hi) q hq
  refine ⟨by rw [okP_congr hqp]; exact hg.1, fun a h0 ha => ?_⟩
  obtain ⟨c, hc, hca⟩ := eqL_get (eqL_symm e) ha
  rw [foll_congr hca hqp]
  exact hg.2 c h0 hc
/-- Two readings of the same bytes. -/
theorem RdOk.one {b : ByteArray} {o n : Int} {h : Nat → UInt8} {x y : Int} {l : List Pen} {o' n' : Int} {h' : Nat → UInt8} {x' y' : Int} {l' : List Pen} (p : RdOk b o n h x y l) (q : RdOk b o' n' h' x' y' l') : o = o' ∧ n = n' ∧ eqH h h' = true ∧ x = x' ∧ y = y' ∧ eqL l l' := by
  have p1 := p.head
  have q1 := q.head
  simp only at p1 q1
  refine ⟨p1.1.symm.trans q1.1, p1.2.1.symm.trans q1.2.1, ?_, p1.2.2.2.1.symm.trans q1.2.2.2.1, p1.2.2.2.2.1.symm.trans q1.2.2.2.2.1, ?_⟩
  · refine (eqH_iff _ _).2 fun i hi => ?_
    rw [← (eqH_iff _ _).1 p1.2.2.1 i hi, (eqH_iff _ _).1 q1.2.2.1 i hi]
  · have hlen : l.length = l'.length := p1.2.2.2.2.2.1.symm.trans q1.2.2.2.2.2.1
    have hob : opensB l = opensB l' := by
      have := p1.2.2.2.2.2.2.symm.trans q1.2.2.2.2.2.2
      exact ofL_inj (Prod.mk.inj this).1
    have key : ∀ j, j ≤ l.length → ∃ ps, eqL ps (l.take j) ∧ eqL ps (l'.take j) ∧ opensB (l.drop j) = opensB (l'.drop j) := fun j => by
      induction j with
      | zero => exact fun _ => ⟨[], by simpa using eqL_nil, by simpa using eqL_nil, by simpa using hob⟩
      | succ j ih =>
        intro hj
        obtain ⟨ps, h1, h2, h3⟩ := ih (by omega)
        have a1 := pen_step (fun _ hp => p.snd.ok hp) p.rng (by omega) h1
        have a2 := pen_step (fun _ hp => q.snd.ok hp) q.rng (by omega) h2
        rw [← h3] at a2
        exact ⟨_, a1.1, a2.1, ofL_inj (Prod.mk.inj (a1.2.symm.trans a2.2)).1⟩
    obtain ⟨ps, h1, h2, _⟩ := key l.length (Nat.le_refl _)
    rw [List.take_length] at h1
    rw [hlen, List.take_length] at h2
    refine ⟨hlen, fun i a c ha hc => ?_⟩
    obtain ⟨z, hz, haz⟩ := eqL_get (eqL_symm h1) ha
    have := h2.2 i z c hz hc
    obtain ⟨e1, e2, e3, e4⟩ := (eqP_iff _ _).1 haz
    obtain ⟨f1, f2, f3, f4⟩ := (eqP_iff _ _).1 this
    exact (eqP_iff _ _).2 ⟨e1.trans f1, e2.trans f2, e3.trans f3, (eqH_iff _ _).2 fun k hk => ((eqH_iff _ _).1 e4 k hk).trans ((eqH_iff _ _).1 f4 k hk)⟩
end Go.Proofs.Ythmbpddpdbkioaa
