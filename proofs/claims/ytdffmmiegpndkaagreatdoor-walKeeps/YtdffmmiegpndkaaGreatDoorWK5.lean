import Derived.Test.YtdffmmiegpndkaaGreatDoorWK3
/-
  WALKEEPS, PLAIN: what a crash makes of a frame that was under way.
-/
namespace Go.Proofs.YtdffmmiegpndkaaGreatDoor
open Go.RowKit
set_option linter.unusedVariables false
/-- A file whose first part is safe, and a frame behind it that is not. -/
def wr (T fr : Key) : AF := ⟨T ++ fr, T, fun s => decide (T.length / 64 ≤ s) && decide (s ≤ (T.length + fr.length - 1) / 64)⟩
theorem wr_old (T fr : Key) (h : fr ≠ []) : (cl T).write T.length fr = wr T fr := by
  unfold AF.write
  rw [if_neg h]
  unfold wr cl
  simp
theorem wrk_new (fr : Key) (h : fr ≠ []) : AF.new.write 0 fr = wr [] fr := by
  have := wr_old [] fr h
  exact this
theorem wr_sync (T fr : Key) : (wr T fr).sync = cl (T ++ fr) := rfl
theorem wr_trunc (T fr : Key) (h : T.length % 64 = 0) : (wr T fr).trunc T.length = cl T := by
  unfold AF.trunc wr cl
  simp only [List.take_left', List.take_length, AF.mk.injEq, true_and]
  · funext s
    by_cases h1 : T.length / 64 ≤ s
    · have : ¬ (64 * s < T.length) := by omega
      simp [this]
    · simp [h1]
/-- Which sectors of the frame are kept. -/
def keptS (ft : Nat → Option AFate) (T : Key) (s : Nat) : Bool := match ft (T.length / 64 + s) with
  | some x => decide (x.kind = 1)
  | none => false
theorem foldl_is (p : Nat → Bool) (f : Nat → Nat) : ∀ (l : List Nat) (m : Nat), l.foldl (fun m s => if p s then max m (f s) else m) m = m ∨ ∃ s ∈ l, p s = true ∧ l.foldl (fun m s => if p s then max m (f s) else m) m = f s
  | [], m => .inl rfl
  | a :: l, m => by
    rw [List.foldl_cons]
    rcases foldl_is p f l (if p a then max m (f a) else m) with h | ⟨s, hs, hp, h⟩
    · rw [h]
      by_cases ha : p a = true
      · rw [if_pos ha]
        by_cases hm : f a ≤ m
        · exact .inl (by omega)
        · exact .inr ⟨a, by simp, ha, by omega⟩
      · rw [if_neg ha]; exact .inl rfl
    · exact .inr ⟨s, by simp [hs], hp, h⟩
structure XOf (T fr X : Key) (ft : Nat → Option AFate) : Prop where
  le : X.length ≤ fr.length
  ge : X = [] ∨ 64 ≤ X.length
  at_ : (∀ s x, ft s = some x → x.kind ≠ 2) → ∀ j, j < X.length → X[j]? = some (if keptS ft T (j / 64) = true then fr.getD j 0 else 0)
theorem crash_wr (T fr : Key) (hT : T.length % 64 = 0) (hf : fr.length % 64 = 0) (hne : 64 ≤ fr.length) (ft : Nat → Option AFate) : ∃ X, (wr T fr).crash ft = cl (T ++ X) ∧ XOf T fr X ft := by
  have hseen : (wr T fr).seen.length = T.length + fr.length := by simp [wr]
  have hd : ∀ s, (wr T fr).dirty s = true ↔ T.length / 64 ≤ s ∧ s ≤ (T.length + fr.length - 1) / 64 := fun s => by simp [wr]
  have hlen : (wr T fr).len ft = T.length ∨ ∃ s, (wr T fr).dirty s = true ∧ (wr T fr).len ft = min (64 * s + 64) (T.length + fr.length) := by
    unfold AF.len
    rcases foldl_is (fun s => (wr T fr).dirty s && hits (ft s)) (fun s => min (64 * s + 64) (wr T fr).seen.length) (List.range (wr T fr).nsec) (wr T fr).safe.length with h | ⟨s, _, hp, h⟩
    · exact .inl h
    · rw [hseen] at h
      rw [Bool.and_eq_true] at hp
      exact .inr ⟨s, hp.1, by rw [hseen]; exact h⟩
  have hge : T.length ≤ (wr T fr).len ft := by
    rcases hlen with h | ⟨s, h1, h⟩
    · omega
    · rw [hd] at h1; omega
  have hle : (wr T fr).len ft ≤ T.length + fr.length := by
    rcases hlen with h | ⟨s, h1, h⟩ <;> omega
  have hget : ∀ i, i < (wr T fr).len ft → ((wr T fr).left ft)[i]? = some ((wr T fr).after ft i) := fun i hi => by simp [AF.left, hi]
  have hll : ((wr T fr).left ft).length = (wr T fr).len ft := AF.left_length _ _
  have htake : ((wr T fr).left ft).take T.length = T := by
    refine List.ext_getElem? fun i => ?_
    by_cases hi : i < T.length
    · rw [List.getElem?_take, if_pos hi, hget i (by omega)]
      unfold AF.after
      have hnd : (wr T fr).dirty (i / 64) = false := by
        rw [← Bool.not_eq_true, hd]; omega
      rw [hnd]
      simp only [Bool.false_eq_true, if_false]
      show some (T.getD i 0) = _
      rw [List.getD_eq_getElem?_getD, List.getElem?_eq_getElem hi]
      rfl
    · rw [List.getElem?_eq_none (by rw [List.length_take]; omega), List.getElem?_eq_none (by omega)]
  refine ⟨((wr T fr).left ft).drop T.length, ?_, ?_, ?_, ?_⟩
  · have : T ++ ((wr T fr).left ft).drop T.length = (wr T fr).left ft := by
      conv => lhs; lhs; rw [← htake]
      exact List.take_append_drop _ _
    rw [this]
    rfl
  · rw [List.length_drop, hll]; omega
  · rcases hlen with h | ⟨s, h1, h⟩
    · exact .inl (List.length_eq_zero_iff.1 (by rw [List.length_drop, hll]; omega))
    · rw [hd] at h1
      exact .inr (by rw [List.length_drop, hll]; omega)
  · intro hk j hj
    rw [List.length_drop, hll] at hj
    rw [List.getElem?_drop, hget _ (by omega)]
    congr 1
    unfold AF.after
    have hdi : (wr T fr).dirty ((T.length + j) / 64) = true := by rw [hd]; omega
    have hsec : (T.length + j) / 64 = T.length / 64 + j / 64 := by omega
    rw [hdi, hsec]
    have hse : (wr T fr).seen.getD (T.length + j) 0 = fr.getD j 0 := by
      show (T ++ fr).getD _ 0 = _
      rw [List.getD_eq_getElem?_getD, List.getElem?_append_right (by omega), Nat.add_sub_cancel_left, ← List.getD_eq_getElem?_getD]
    have hsa : (wr T fr).safe.getD (T.length + j) 0 = 0 := by
      show T.getD _ 0 = _
      rw [List.getD_eq_getElem?_getD, List.getElem?_eq_none (by omega)]
      rfl
    simp only [hse, hsa]
    unfold keptS
    cases hft : ft (T.length / 64 + j / 64) with
    | none => simp
    | some x =>
      have h2 := hk _ _ hft
      by_cases h1 : x.kind = 1
      · simp [h1]
      · simp [h1, h2]
/-- A frame that begins with sixteen zeros is none. -/
theorem zeros16 {X : Key} {m : Int} (h : X.take 16 = List.replicate 16 0) : Fr.wholeT X m = none := by
  rw [Fr.wholeT_none]
  intro p hp
  obtain ⟨h1, h2, h3, h4, h5⟩ := Fr.frame_head hp.2.2.2
  have e1 : X.take 4 = List.replicate 4 0 := by
    have := congrArg (List.take 4) h
    rwa [List.take_take, List.take_replicate] at this
  have e2 : (X.drop 4).take 8 = List.replicate 8 0 := by
    have := congrArg (fun l => (l.drop 4).take 8) h
    simp only [List.drop_replicate, List.take_replicate] at this
    rw [List.drop_take, List.take_take] at this
    exact this
  have e3 : (X.drop 12).take 4 = List.replicate 4 0 := by
    have := congrArg (fun l => (l.drop 12).take 4) h
    simp only [List.drop_replicate, List.take_replicate] at this
    rw [List.drop_take, List.take_take] at this
    exact this
  rw [e1] at h1
  rw [e2] at h2
  rw [e3] at h3
  have hl := hp.2.2.1
  have hpl : p.length = 0 := by
    have := congrArg Fr.be h1
    rw [Fr.be_zeros, Fr.be_nb] at this
    have h6 : p.length % 256 ^ 4 = p.length := Nat.mod_eq_of_lt (by omega)
    omega
  have hp0 : p = [] := List.length_eq_zero_iff.1 hpl
  subst hp0
  have hn : m.toNat = 0 := by
    have := congrArg Fr.be h2
    rw [Fr.be_zeros, Fr.be_nb] at this
    have h6 : m.toNat % 256 ^ 8 = m.toNat := Nat.mod_eq_of_lt (by have := hp.2.1; have := hp.1; omega)
    omega
  rw [hn] at h3
  have := congrArg Fr.be h3
  rw [Fr.be_zeros, Fr.be_nb, Nat.mod_eq_of_lt (Fr.sumL_lt _ _)] at this
  exact Fr.sum_zero this.symm
/-- A payload of which some sectors were lost. -/
structure Lost (p' p : Key) (K : Nat → Bool) : Prop where
  len : p'.length = p.length
  at_ : ∀ j, j < p.length → p'[j]? = some (if K ((j + 16) / 64) = true then p.getD j 0 else 0)
theorem scan_none {X : Key} {m : Int} (h : Fr.wholeT X m = none) : scanA X m = ([], X) := by
  refine scanA_of ⟨rfl, ?_⟩
  simpa using h
/-- What is told of it: nothing, or the frame with some of its sectors lost. -/
theorem scan_x {T X p : Key} {n : Nat} {ft : Nat → Option AFate} (hp : p.length ≤ 65536) (hn : n < 1152921504606846976) (h : XOf T (Fr.frameL n p) X ft) (hk : ∀ s x, ft s = some x → x.kind ≠ 2) (m : Int) :
    scanA X m = ([], X) ∨ (m = (n : Int) ∧ firstN X = (n : Int) ∧ ∃ p', scanA X m = ([p'], []) ∧ Lost p' p (keptS ft T)) := by
  have hat := h.at_ hk
  rcases h.ge with h0 | h64
  · subst h0; exact .inl rfl
  cases hw : Fr.wholeT X m with
  | none => exact .inl (scan_none hw)
  | some p' =>
    have hW := Fr.wholeT_some.1 hw
    obtain ⟨a1, a2, a3, a4, a5⟩ := Fr.frame_head hW.2.2.2
    obtain ⟨b1, b2, b3, b4, b5⟩ := Fr.frame_head (List.prefix_rfl (l := Fr.frameL n p))
    have hfl := Fr.frameL_length n p
    have hrm := Fr.room_ge p.length
    have hK0 : keptS ft T 0 = true := by
      refine Classical.byContradiction fun hc => ?_
      have hz : X.take 16 = List.replicate 16 0 := by
        refine List.ext_getElem? fun i => ?_
        by_cases hi : i < 16
        · rw [List.getElem?_take, if_pos hi, hat i (by omega), show i / 64 = 0 by omega, if_neg hc, List.getElem?_replicate, if_pos hi]
        · rw [List.getElem?_eq_none (by rw [List.length_take]; omega), List.getElem?_eq_none (by rw [List.length_replicate]; omega)]
      rw [zeros16 hz] at hw
      cases hw
    have h16 : X.take 16 = (Fr.frameL n p).take 16 := by
      refine List.ext_getElem? fun i => ?_
      by_cases hi : i < 16
      · rw [List.getElem?_take, if_pos hi, hat i (by omega), show i / 64 = 0 by omega, if_pos hK0, List.getElem?_take, if_pos hi, List.getD_eq_getElem?_getD, List.getElem?_eq_getElem (by omega)]
        rfl
      · rw [List.getElem?_eq_none (by rw [List.length_take]; omega), List.getElem?_eq_none (by rw [List.length_take]; omega)]
    have e1 : X.take 4 = (Fr.frameL n p).take 4 := by
      have := congrArg (List.take 4) h16
      rwa [List.take_take, List.take_take] at this
    have e2 : (X.drop 4).take 8 = ((Fr.frameL n p).drop 4).take 8 := by
      have := congrArg (fun l => (l.drop 4).take 8) h16
      simp only [List.drop_take, List.take_take] at this
      exact this
    rw [a1, b1] at e1
    rw [a2, b2] at e2
    have hpl := hW.2.2.1
    have hlen : p'.length = p.length := Fr.nb_inj e1 (by omega) (by omega)
    have hm0 := hW.1
    have hm1 := hW.2.1
    have hmn : m.toNat = n := Fr.nb_inj e2 (by omega) (by omega)
    have hX : X.length = Fr.room p.length := by
      have := h.le
      rw [hfl] at this
      rw [hlen] at a5
      omega
    refine .inr ⟨by omega, ?_, p', ?_, hlen, ?_⟩
    · unfold firstN
      rw [if_neg (by omega), a2, Fr.be_nb, hmn, Nat.mod_eq_of_lt (by omega), if_neg (by omega)]
    · refine scanA_of ⟨⟨hW, ?_⟩, ?_⟩
      · show ([] : Key) = X.drop (Fr.room p'.length)
        rw [hlen, ← hX, List.drop_length]
      · exact whole_nil _
    · intro j hj
      have hpj : p'[j]? = X[16 + j]? := by
        conv => lhs; rw [← a4]
        rw [List.getElem?_take, if_pos (by omega), List.getElem?_drop]
      have hfj : (Fr.frameL n p).getD (16 + j) 0 = p.getD j 0 := by
        have : p[j]? = (Fr.frameL n p)[16 + j]? := by
          conv => lhs; rw [← b4]
          rw [List.getElem?_take, if_pos (by omega), List.getElem?_drop]
        rw [List.getD_eq_getElem?_getD, List.getD_eq_getElem?_getD, this]
      rw [hpj, hat (16 + j) (by omega), hfj, show (16 + j) / 64 = (j + 16) / 64 by omega]
end Go.Proofs.YtdffmmiegpndkaaGreatDoor
/-
  WALKEEPS, PLAIN: the book of a log that goes on; Append.
-/
namespace Go.Proofs.YtdffmmiegpndkaaGreatDoor
open Go.RowKit
set_option linter.unusedVariables false
theorem count_cases (P : AP) (x : Int) (h : P.off = false) (ho : P.opn = false) : ((P.count x).1 = 9 ∧ (P.count x).2.off = true ∧ (P.count x).2.opn = true) ∨ (((P.count x).1 = 0 ∨ (P.count x).1 = 40) ∧ (P.count x).2.off = false ∧ (P.count x).2.opn = false) := by
  unfold AP.count
  split
  · exact .inl ⟨rfl, rfl, rfl⟩
  · split
    · refine .inr ⟨?_, h, ho⟩
      simp only
      split
      · exact .inr rfl
      · exact .inl rfl
    · exact .inr ⟨.inl rfl, h, ho⟩
theorem fits_ne9 (A : AD) (k : Key) (a n : Int) : A.fits k a n ≠ 9 := by
  unfold AD.fits
  repeat' split
  all_goals decide
def putF (fs : FList) (fresh : Bool) (k : Key) (F : AF) : FList := if fresh = true then fput fs k F else fset fs k F
theorem putF_get {fs : FList} {fresh : Bool} {k : Key} {F G : AF} (h : fresh = false → fget fs k = some G) : fget (putF fs fresh k F) k = some F := by
  unfold putF
  split
  · exact fget_fput_same
  · rename_i hc
    exact fget_fset_same (h (by simpa using hc))
theorem putF_ne {fs : FList} {fresh : Bool} {k k' : Key} {F : AF} (h : k' ≠ k) : fget (putF fs fresh k F) k' = fget fs k' := by
  unfold putF
  split
  · exact fget_fput_ne h
  · exact fget_fset_ne h
theorem putF_set {fs : FList} {fresh : Bool} {k : Key} {F G : AF} (hs : fs.Pairwise (fun p q => bytesBefore p.1 q.1 = true)) : fset (putF fs fresh k F) k G = putF fs fresh k G := by
  unfold putF
  split
  · unfold fput
    have hn : ∀ p ∈ fdel fs k, p.1 ≠ k := fget_none_iff.1 fget_fdel_same
    generalize fdel fs k = l at hn
    induction l with
    | nil => simp [fins, fset]
    | cons y r ih =>
      have hy := hn y (by simp)
      have hr : fset r k G = r := by
        rw [fset_none]
        exact fget_none_iff.2 (fun p hp => hn p (by simp [hp]))
      unfold fins
      by_cases hb : bytesBefore k y.1 = true
      · rw [if_pos hb, if_pos hb, fset_cons, if_pos rfl, fset_cons, if_neg hy, hr]
      · rw [if_neg hb, if_neg hb, fset_cons, if_neg hy, ih (fun p hp => hn p (by simp [hp]))]
  · exact fset_fset k F G fs
/-- What may come of laying a frame down. -/
theorem lay_cases {A : AD} {g : AL} {s : ASeg} {fresh : Bool} {T fr f : Key} (hok : A.Ok) (hoff : A.pow.off = false) (hopn : A.pow.opn = false) (hf : fileL g.name.data.toList s.num = f) (hsz : s.size = (T.length : Int)) (h64 : T.length % 64 = 0) (hfr : 64 ≤ fr.length)
    (hfile : (fresh = false ∧ fget A.fs f = some (cl T)) ∨ (fresh = true ∧ fget A.fs f = none ∧ T = [])) : ∃ P : AP,
    (∃ e, e ≠ 0 ∧ e ≠ 9 ∧ P.off = false ∧ P.opn = false ∧ layA A g s fresh fr = (e, ⟨A.cap, A.fs, P⟩, false)) ∨
    (P.off = true ∧ P.opn = true ∧ layA A g s fresh fr = (9, ⟨A.cap, A.fs, P⟩, true)) ∨
    (P.off = true ∧ P.opn = true ∧ layA A g s fresh fr = (9, ⟨A.cap, putF A.fs fresh f (wr T fr), P⟩, true)) ∨
    (P.off = false ∧ P.opn = false ∧ layA A g s fresh fr = (0, ⟨A.cap, putF A.fs fresh f (cl (T ++ fr)), P⟩, g.dead)) := by
  have hfn : fr ≠ [] := fun e => by rw [e] at hfr; simp at hfr
  have hgetF : fresh = false → fget A.fs f = some (cl T) := fun e => by
    rcases hfile with h | h
    · exact h.2
    · rw [h.1] at e; cases e
  unfold layA
  simp only
  rw [hf]
  by_cases hfit : A.fits f s.size fr.length = 0
  · rcases count_cases A.pow 1 hoff hopn with ⟨c1, c2, c3⟩ | ⟨c1, c2, c3⟩
    · have hw : A.write f s.size fr = (9, ⟨A.cap, A.fs, (A.pow.count 1).2⟩) := by
        unfold AD.write
        rw [if_neg (by rw [hoff]; simp), if_neg (by rw [hfit]; simp), if_pos (by rw [c1]; decide), c1]
      refine ⟨(A.pow.count 1).2, .inr (.inl ⟨c2, c3, ?_⟩)⟩
      rw [hw]
      simp
    · rcases c1 with c1 | c1
      · have hw : A.write f s.size fr = (0, ⟨A.cap, putF A.fs fresh f (wr T fr), (A.pow.count 1).2⟩) := by
          rcases hfile with ⟨h1, h2⟩ | ⟨h1, h2, h3⟩
          · rw [write_some hoff hfit c1 h2, hsz, Int.toNat_natCast, wr_old T fr hfn]
            unfold putF
            rw [if_neg (by rw [h1]; simp)]
          · rw [write_none hoff hfit c1 h2, hsz, h3]
            unfold putF
            rw [if_pos h1]
            simp only [List.length_nil, Int.natCast_zero, Int.toNat_zero]
            rw [wrk_new fr hfn]
        rw [hw]
        simp only
        rw [if_neg (by simp)]
        have hg1 : fget (putF A.fs fresh f (wr T fr)) f = some (wr T fr) := putF_get hgetF
        rcases count_cases (A.pow.count 1).2 2 c2 c3 with ⟨d1, d2, d3⟩ | ⟨d1, d2, d3⟩
        · have hy : AD.sync ⟨A.cap, putF A.fs fresh f (wr T fr), (A.pow.count 1).2⟩ f = (9, ⟨A.cap, putF A.fs fresh f (wr T fr), ((A.pow.count 1).2.count 2).2⟩) := by
            rw [sync_count c2 hg1 (by rw [d1]; decide), d1]
          refine ⟨((A.pow.count 1).2.count 2).2, .inr (.inr (.inl ⟨d2, d3, ?_⟩))⟩
          rw [hy]
          simp
        · rcases d1 with d1 | d1
          · have hy : AD.sync ⟨A.cap, putF A.fs fresh f (wr T fr), (A.pow.count 1).2⟩ f = (0, ⟨A.cap, putF A.fs fresh f (cl (T ++ fr)), ((A.pow.count 1).2.count 2).2⟩) := by
              rw [sync_some c2 hg1 d1]
              simp only
              rw [wr_sync, putF_set hok.sorted]
            refine ⟨((A.pow.count 1).2.count 2).2, .inr (.inr (.inr ⟨d2, d3, ?_⟩))⟩
            rw [hy]
            simp
          · have hy : AD.sync ⟨A.cap, putF A.fs fresh f (wr T fr), (A.pow.count 1).2⟩ f = (40, ⟨A.cap, putF A.fs fresh f (wr T fr), ((A.pow.count 1).2.count 2).2⟩) := by
              rw [sync_count c2 hg1 (by rw [d1]; decide), d1]
            have hb : backA ⟨A.cap, putF A.fs fresh f (wr T fr), ((A.pow.count 1).2.count 2).2⟩ g s fresh = (0, ⟨A.cap, A.fs, ((A.pow.count 1).2.count 2).2⟩) := by
              unfold backA
              rw [hf]
              rcases hfile with ⟨h1, h2⟩ | ⟨h1, h2, h3⟩
              · rw [if_neg (by rw [h1]; simp), trunc_some d2 hg1 (by rw [hsz]; simp [wr]; omega)]
                simp only
                rw [hsz, Int.toNat_natCast, wr_trunc T fr h64, putF_set hok.sorted]
                unfold putF
                rw [if_neg (by rw [h1]; simp), fset_self h2 (apart_of hok.sorted)]
              · rw [if_pos h1, remove_some d2 hg1]
                simp only
                unfold putF
                rw [if_pos h1, fdel_fput h2]
            refine ⟨((A.pow.count 1).2.count 2).2, .inl ⟨40, by decide, by decide, d2, d3, ?_⟩⟩
            rw [hy]
            simp only
            rw [hb]
            simp
      · have hw : A.write f s.size fr = (40, ⟨A.cap, A.fs, (A.pow.count 1).2⟩) := by
          unfold AD.write
          rw [if_neg (by rw [hoff]; simp), if_neg (by rw [hfit]; simp), if_pos (by rw [c1]; decide), c1]
        refine ⟨(A.pow.count 1).2, .inl ⟨40, by decide, by decide, c2, c3, ?_⟩⟩
        rw [hw]
        simp
  · have hw : A.write f s.size fr = (A.fits f s.size fr.length, A) := by
      unfold AD.write
      rw [if_neg (by rw [hoff]; simp), if_pos hfit]
    have h9 := fits_ne9 A f s.size fr.length
    refine ⟨A.pow, .inl ⟨_, hfit, h9, hoff, hopn, ?_⟩⟩
    rw [hw]
    simp [hfit, h9]
/-- What the book says of a log that goes on. -/
structure KN (fs : FList) (g : AL) (sz first : Int) (acked : List Key) (n0 b : Int) (pss : List (List Key)) : Prop where
  dk : Dk fs nmLog.data.toList n0 (textsL b pss)
  fine : Fine b pss
  ne : ∀ q ∈ pss.dropLast, q ≠ []
  name : g.name = nmLog
  room : g.room = sz
  dead : g.dead = false
  next : g.next = b + (pss.flatten.length : Int)
  segs : SegsEq g.segs (segsL n0 b pss)
  lo : b ≤ first
  hi : first ≤ g.next
  ack : acked = pss.flatten.drop (first - b).toNat
/-- Where the next frame is laid: the last segment, or a new one. -/
structure Spot (fs : FList) (g : AL) (n : Int) (n0 b : Int) (pss : List (List Key)) (n1 : Int) (pres : List (List Key)) (ps : List Key) (fh : Bool) : Prop where
  fresh : (placeA g n).2 = fh
  num : (placeA g n).1.num = n1 + (pres.length : Int)
  size : (placeA g n).1.size = ((framesL (b + (pres.flatten.length : Int)) ps).length : Int)
  file : (fh = false ∧ pss = pres ++ [ps] ∧ n1 = n0) ∨ (fh = true ∧ pss = pres ∧ ps = [] ∧ (pres ≠ [] → n1 = n0) ∧ (pres = [] → n1 = 0))
  ne : ∀ q ∈ pres, q ≠ []
theorem place_kn {fs : FList} {g : AL} {sz first : Int} {acked : List Key} {n0 b : Int} {pss : List (List Key)} (h : KN fs g sz first acked n0 b pss) (n : Int) : ∃ n1 pres ps fresh, Spot fs g n n0 b pss n1 pres ps fresh := by
  rcases List.eq_nil_or_concat pss with rfl | ⟨pres, ps, rfl⟩
  · have hs : g.segs = [] := by
      have := h.segs.len
      rw [segsL_len] at this
      exact List.length_eq_zero_iff.1 this
    have hp : placeA g n = (⟨0, 0, 0⟩, true) := by unfold placeA; rw [hs]; rfl
    exact ⟨0, [], [], true, by rw [hp], by rw [hp]; rfl, by rw [hp]; rfl, .inr ⟨rfl, rfl, rfl, fun e => absurd rfl e, fun _ => rfl⟩, fun q hq => by cases hq⟩
  · rw [List.concat_eq_append] at h ⊢
    have hne := h.ne
    rw [List.dropLast_concat] at hne
    have hs := h.segs
    rw [segsL_append] at hs
    rcases hs.last with ⟨_, e2⟩ | ⟨a, a', e1, e2, hab⟩
    · rw [List.getLast?_append] at e2; simp [segsL] at e2
    · rw [show segsL (n0 + (pres.length : Int)) (b + (pres.flatten.length : Int)) [ps] = [⟨n0 + (pres.length : Int), ((framesL (b + (pres.flatten.length : Int)) ps).length : Int), b + (pres.flatten.length : Int) + ps.length⟩] from rfl, List.getLast?_concat] at e2
      cases e2
      obtain ⟨h1, h2, h3⟩ := hab
      simp only at h1 h2 h3
      by_cases hc : 0 < a.size ∧ g.room < a.size + n
      · have hp : placeA g n = (⟨a.num + 1, 0, 0⟩, true) := by unfold placeA; rw [e1]; simp only; rw [if_pos hc]
        refine ⟨n0, pres ++ [ps], [], true, by rw [hp], ?_, by rw [hp]; rfl, .inr ⟨rfl, rfl, rfl, fun _ => rfl, fun e => by simp at e⟩, fun q hq => ?_⟩
        · rw [hp]; simp only; rw [h1, List.length_append, List.length_singleton]; omega
        · rcases List.mem_append.1 hq with hq | hq
          · exact hne q hq
          · rw [List.mem_singleton] at hq
            subst hq
            intro e
            subst e
            have := hc.1
            rw [h2] at this
            simp [framesL] at this
      · have hp : placeA g n = (a, false) := by unfold placeA; rw [e1]; simp only; rw [if_neg hc]
        exact ⟨n0, pres, ps, false, by rw [hp], by rw [hp]; exact h1, by rw [hp]; exact h2, .inl ⟨rfl, rfl, rfl⟩, hne⟩
end Go.Proofs.YtdffmmiegpndkaaGreatDoor
