/-
  begin, load, Open.
-/
import Derived.Test.YtlkimfmilccanaaGreatMkSlot
import Derived.Test.YtlkimfmilccanaaGreatHeap
import Derived.Test.YtlkimfmilccanaaGreatKLoad
namespace Go.Proofs.YtlkimfmilccanaaGreat
open Go.RowKit Go.Maps Go.WideMaps
set_option linter.unusedVariables false
set_option linter.unusedSimpArgs false
def mkCells (p : Nat) (k : ByteArray) (v : Int) (x : Nat) : Array Value := #[.pointer (some ⟨p, 0, none⟩), .string k, .int .i64 v, .int .i64 (x : Int)]
def Item.mkI (T : TypeId) (g p : Nat) (k : ByteArray) (v : Int) (x : Nat) : Item := .block g (.cells (mkCells p k v x) T (0, 0))
/-- What Open leaves: D A: the disk as an item. -/
def MkPost (B : Nat) (w : World) (L : List Item) (i : Nat) (D : AD → Item) (T : TypeId) (p : Nat) (k : ByteArray) (R : MAns) (e : Ending) (w' : World) : Prop :=
  Below B w w' ∧ match R.2.1 with
    | none => e = .returned (.tuple #[.pointer none, .int .i64 R.1]) ∧ Lies B w' (L.set i (D R.2.2))
    | some m => ∃ g, e = .returned (.tuple #[.pointer (some ⟨g, 0, none⟩), .int .i64 R.1]) ∧ Lies B w' (L.set i (D R.2.2) ++ [.mkI T g p k m.1 m.2])
theorem mkp_none {B : Nat} {w w' : World} {L : List Item} {i : Nat} {D : AD → Item} {T : TypeId} {p : Nat} {k : ByteArray} {R : MAns} {E : Int} {A : AD} (hR : R = (E, none, A)) (hb : Below B w w') (h : Lies B w' (L.set i (D A))) : MkPost B w L i D T p k R (.returned (.tuple #[.pointer none, .int .i64 E])) w' := by
  subst hR
  exact ⟨hb, rfl, h⟩
theorem mkp_some {B : Nat} {w w' : World} {L : List Item} {i : Nat} {D : AD → Item} {T : TypeId} {p : Nat} {k : ByteArray} {R : MAns} {E : Int} {A : AD} {g : Nat} {v : Int} {x : Nat} (hR : R = (E, some (v, x), A)) (hb : Below B w w') (h : Lies B w' (L.set i (D A) ++ [.mkI T g p k v x])) : MkPost B w L i D T p k R (.returned (.tuple #[.pointer (some ⟨g, 0, none⟩), .int .i64 E])) w' := by
  subst hR
  exact ⟨hb, g, rfl, h⟩
theorem Lies.box {B : Nat} {w : World} {L : List Item} (h : Lies B w L) (cs : Array Value) (T : TypeId) (w' : World) (hw : w.alloc (.cells cs T) = w') (g : Nat) (hg : w.heap.size = g) : Lies B w' (L ++ [.block g (.cells cs T (0, 0))]) ∧ Below B w w' := by
  have hb : Below w.heap.size w w' := by rw [← hw]; exact (Below.refl _ _).alloc (Nat.le_refl _) _
  have hc : w'.heap[g]? = some (.cells cs T (0, 0)) := by rw [← hw, ← hg]; exact heap_alloc_new w _
  exact ⟨h.push (S' := fun b => b = g) hb ⟨hc, fun _ => Iff.rfl⟩ (fun b hb => by rw [hb, hg]; exact Nat.le_refl _), hb.mono h.base⟩
theorem two1_str : (⟨(slotL (-1)).toArray⟩ : ByteArray) ++ ⟨(slotL (-1)).toArray⟩ = ⟨two1.toArray⟩ := by
  refine k_ext ?_
  rw [k_app]
  rfl
section
variable {B : Nat} {w : World} {L : List Item} {i p : Nat} {A : AD}
set_option maxRecDepth 5000 in
set_option maxHeartbeats 4000000 in
theorem mbegin_any (h : Lies B w L) (hi : L[i]? = some (.disk p A)) (k : ByteArray) (hk : k.size ≤ 1000) :
    Calls Tryz.prog 34 #[.pointer (some ⟨p, 0, none⟩), .string k] w fun e w' => MkPost B w L i (.disk p) 91 p k (begA (A.beginM k.data.toList)) e w' := by
  obtain ⟨D, hD⟩ : ∃ D, k ++ (⟨#[46, 116, 109, 112]⟩ : ByteArray) = D := ⟨_, rfl⟩
  have lD : D.data.toList = k.data.toList ++ dot := by rw [← hD, k_app]; rfl
  have zD : D.size ≤ 1004 := by rw [← hD, ByteArray.size_append]; show k.size + 4 ≤ 1004; omega
  have ha : ∀ w : World, (Op.stringOp .add k ⟨#[46, 116, 109, 112]⟩).run Tryz.prog w = .ok (.string D) w := fun w => k_add w _ _ D hD (by show k.size + 4 ≤ _; omega)
  obtain ⟨S, hS⟩ : ∃ S : ByteArray, (⟨(slotL (-1)).toArray⟩ : ByteArray) = S := ⟨_, rfl⟩
  obtain ⟨T, hT⟩ : ∃ T : ByteArray, (⟨two1.toArray⟩ : ByteArray) = T := ⟨_, rfl⟩
  have zS : S.size = 64 := by rw [← hS, ← str_len]; exact slotL_length _
  have lT : T.data.toList = two1 := by rw [← hT]
  have zT : T.size = 128 := by rw [← str_len, lT, two1_length]
  have ht : ∀ w : World, (Op.stringOp .add S S).run Tryz.prog w = .ok (.string T) w := fun w => k_add w _ _ T (by rw [← hS, ← hT]; exact two1_str) (by omega)
  obtain ⟨E1, A1, hE1⟩ : ∃ E X, A.remove (k.data.toList ++ dot) = (E, X) := ⟨_, _, rfl⟩
  obtain ⟨E2, A2, hE2⟩ : ∃ E X, A1.write (k.data.toList ++ dot) 0 two1 = (E, X) := ⟨_, _, rfl⟩
  obtain ⟨E3, A3, hE3⟩ : ∃ E X, A2.sync (k.data.toList ++ dot) = (E, X) := ⟨_, _, rfl⟩
  obtain ⟨E4, A4, hE4⟩ : ∃ E X, A3.rename (k.data.toList ++ dot) k.data.toList = (E, X) := ⟨_, _, rfl⟩
  have hbeg : A.beginM k.data.toList = (if E1 ≠ 0 ∧ E1 ≠ 5 then (E1, A1) else if E2 ≠ 0 then (E2, A2) else if E3 ≠ 0 then (E3, A3) else (E4, A4)) := by
    unfold AD.beginM
    simp only [hE1, hE2, hE3, hE4]
  obtain ⟨R, hR⟩ : ∃ R, begA (A.beginM k.data.toList) = R := ⟨_, rfl⟩
  have HR : Hid (R = begA (if E1 ≠ 0 ∧ E1 ≠ 5 then (E1, A1) else if E2 ≠ 0 then (E2, A2) else if E3 ≠ 0 then (E3, A3) else (E4, A4))) := by show _ = _; rw [← hR, hbeg]
  rw [hR]
  have c1 : Calls Tryz.prog 65 #[.pointer (some ⟨p, 0, none⟩), .string D] w fun e w' => e = .returned (.int .i64 E1) ∧ Lies B w' (L.set i (.disk p A1)) ∧ Below B w w' := by
    have := s_remove h hi D (by unfold maxLen; omega)
    rw [lD, hE1] at this
    exact this
  have c2 : ∀ w1, Lies B w1 (L.set i (.disk p A1)) → Calls Tryz.prog 18 #[.pointer (some ⟨p, 0, none⟩), .string D, .int .i64 0, .string T] w1 fun e w' => e = .returned (.int .i64 E2) ∧ Lies B w' (L.set i (.disk p A2)) ∧ Below B w1 w' := fun w1 h => by
    have := s_write h (kget hi _) D (by unfold maxLen; omega) 0 (by omega) T (by omega)
    rw [lD, lT, hE2, List.set_set] at this
    exact this
  have c3 : ∀ w1, Lies B w1 (L.set i (.disk p A2)) → Calls Tryz.prog 39 #[.pointer (some ⟨p, 0, none⟩), .string D] w1 fun e w' => e = .returned (.int .i64 E3) ∧ Lies B w' (L.set i (.disk p A3)) ∧ Below B w1 w' := fun w1 h => by
    have := s_sync h (kget hi _) D (by unfold maxLen; omega)
    rw [lD, hE3, List.set_set] at this
    exact this
  have c4 : ∀ w1, Lies B w1 (L.set i (.disk p A3)) → Calls Tryz.prog 66 #[.pointer (some ⟨p, 0, none⟩), .string D, .string k] w1 fun e w' => e = .returned (.int .i64 E4) ∧ Lies B w' (L.set i (.disk p A4)) ∧ Below B w1 w' := fun w1 h => by
    have := s_rename h (kget hi _) D (by unfold maxLen; omega) k (by unfold maxLen; omega)
    rw [lD, hE4, List.set_set] at this
    exact this
  have cb : ∀ w1, Calls Tryz.prog 38 #[.int .i64 (-1)] w1 fun e w' => e = .returned (.string S) ∧ Below w1.heap.size w1 w' := fun w1 => by rw [← hS]; exact bytesOfM_any (-1) w1
  have cc : ∀ w1, Calls Tryz.prog 46 #[.string k] w1 fun e w' => e = .returned (.string k) ∧ Below w1.heap.size w1 w' := fun w1 => Fr.clone_any k w1 (by omega)
  have C1 := hide c1
  have C2 := hide c2
  have C3 := hide c3
  have C4 := hide c4
  have CB := hide cb
  have CC := hide cc
  clear c1 c2 c3 c4 cb cc hR hbeg hE1 hE2 hE3 hE4 lD zD hD hS hT zS lT zT hk h hi
  go_enter Tryz.func34, Tryz.ntmps34
  go_wp2_with fail
  refine C1.out.mono ?_
  rintro e w1 ⟨rfl, h1, hb1⟩
  have H1 := hide h1
  have HB1 := hide hb1
  clear h1 hb1 C1
  by_cases h1 : E1 ≠ 0 ∧ E1 ≠ 5
  · have HE : Hid (R = (E1, none, A1)) := by show _ = _; rw [HR.out, if_pos h1]; unfold begA; rw [if_neg h1.1]
    have b1 : (E1 == 0) = false := beq_eq_false_iff_ne.2 h1.1
    have b1' : (E1 != 0) = true := by unfold bne; rw [b1]; rfl
    have b2 : (E1 == 5) = false := beq_eq_false_iff_ne.2 h1.2
    have b2' : (E1 != 5) = true := by unfold bne; rw [b2]; rfl
    clear h1 HR C2 C3 C4 CB CC
    go_wp2
    go_ret2
    exact mkp_none HE.out HB1.out H1.out
  have HR1 : Hid (R = begA (if E2 ≠ 0 then (E2, A2) else if E3 ≠ 0 then (E3, A3) else (E4, A4))) := by show _ = _; rw [HR.out, if_neg h1]
  have hor : (E1 != 0 && E1 != 5) = false := by
    rcases (by omega : E1 = 0 ∨ E1 = 5) with e | e <;> subst e <;> rfl
  clear HR
  have hor2 : E1 = 0 ∨ E1 = 5 := by omega
  clear h1 hor
  rcases hor2 with e1 | e1 <;> subst e1
  all_goals
  · go_wp2_with fail
    refine (CB.out _).mono ?_
    rintro e w2 ⟨rfl, hb2⟩
    have H2 := hide (H1.out.below hb2)
    have HB2 := hide (HB1.out.trans (hb2.mono H1.out.base))
    clear hb2 H1 HB1
    go_wp2_with fail
    refine (CB.out _).mono ?_
    rintro e w3 ⟨rfl, hb3⟩
    have H3 := hide (H2.out.below hb3)
    have HB3 := hide (HB2.out.trans (hb3.mono H2.out.base))
    clear hb3 H2 HB2
    go_wp2_with fail
    refine (C2.out _ H3.out).mono ?_
    rintro e w4 ⟨rfl, h4, hb4⟩
    have H4 := hide h4
    have HB4 := hide (HB3.out.trans hb4)
    clear h4 hb4 H3 HB3 C2 CB
    by_cases e2 : E2 = 0
    · subst e2
      go_wp2_with fail
      refine (C3.out _ H4.out).mono ?_
      rintro e w5 ⟨rfl, h5, hb5⟩
      have H5 := hide h5
      have HB5 := hide (HB4.out.trans hb5)
      clear h5 hb5 H4 HB4 C3
      by_cases e3 : E3 = 0
      · subst e3
        go_wp2_with fail
        refine (C4.out _ H5.out).mono ?_
        rintro e w6 ⟨rfl, h6, hb6⟩
        have H6 := hide h6
        have HB6 := hide (HB5.out.trans hb6)
        clear h6 hb6 H5 HB5 C4
        by_cases e4 : E4 = 0
        · subst e4
          have HE : Hid (R = (0, some (-1, 1), A4)) := by show _ = _; rw [HR1.out, if_neg (by omega : ¬ (0 : Int) ≠ 0), if_neg (by omega : ¬ (0 : Int) ≠ 0)]; rfl
          go_wp2_with fail
          refine (CC.out _).mono ?_
          rintro e w7 ⟨rfl, hb7⟩
          have h7 := H6.out.below hb7
          have HB7 := hide (HB6.out.trans (hb7.mono H6.out.base))
          obtain ⟨g, hg⟩ : ∃ g, w7.heap.size = g := ⟨_, rfl⟩
          obtain ⟨w8, hw8⟩ : ∃ x, w7.alloc (.cells #[.pointer (some ⟨p, 0, none⟩), .string k, .int .i64 (-1), .int .i64 1] 91) = x := ⟨_, rfl⟩
          obtain ⟨h8, hb8⟩ := h7.box _ _ w8 hw8 g hg
          have H8 := hide h8
          have HB8 := hide (HB7.out.trans hb8)
          clear hb7 h7 h8 hb8 HB7 H6 HB6
          go_wp2
          go_ret2
          exact mkp_some HE.out HB8.out H8.out
        · have HE : Hid (R = (E4, none, A4)) := by show _ = _; rw [HR1.out, if_neg (by omega : ¬ (0 : Int) ≠ 0), if_neg (by omega : ¬ (0 : Int) ≠ 0)]; unfold begA; rw [if_neg e4]
          have b1 : (E4 == 0) = false := beq_eq_false_iff_ne.2 e4
          have b1' : (E4 != 0) = true := by unfold bne; rw [b1]; rfl
          clear e4
          go_wp2
          go_ret2
          exact mkp_none HE.out HB6.out H6.out
      · have HE : Hid (R = (E3, none, A3)) := by show _ = _; rw [HR1.out, if_neg (by omega : ¬ (0 : Int) ≠ 0), if_pos e3]; unfold begA; rw [if_neg e3]
        have b1 : (E3 == 0) = false := beq_eq_false_iff_ne.2 e3
        have b1' : (E3 != 0) = true := by unfold bne; rw [b1]; rfl
        clear e3
        go_wp2
        go_ret2
        exact mkp_none HE.out HB5.out H5.out
    · have HE : Hid (R = (E2, none, A2)) := by show _ = _; rw [HR1.out, if_pos e2]; unfold begA; rw [if_neg e2]
      have b1 : (E2 == 0) = false := beq_eq_false_iff_ne.2 e2
      have b1' : (E2 != 0) = true := by unfold bne; rw [b1]; rfl
      clear e2
      go_wp2
      go_ret2
      exact mkp_none HE.out HB4.out H4.out
end
/-! ### load -/
theorem Lies.pickL {B : Nat} {w : World} {L M : List Item} (h : Lies B w L) (f : Nat → Nat) (hf : ∀ (j : Nat) (it : Item), M[j]? = some it → L[f j]? = some it) (inj : ∀ i j, i < M.length → j < M.length → f i = f j → i = j) : Lies B w M := by
  obtain ⟨hb, S, h1, h2, h3⟩ := h
  have lt : ∀ j, j < M.length → f j < L.length := fun j hj => (List.getElem?_eq_some_iff.1 (hf j M[j] (List.getElem?_eq_getElem hj))).1
  refine ⟨hb, fun j => S (f j), fun j it hj => h1 _ it (hf j it hj), fun j b hj => h2 _ b (lt j hj), fun i j b hi hj hne => h3 _ _ b (lt i hi) (lt j hj) (fun e => hne (inj i j hi hj e))⟩
theorem Lies.dropMid {B : Nat} {w : World} {L : List Item} {x y : Item} (h : Lies B w ((L ++ [x]) ++ [y])) : Lies B w (L ++ [y]) := by
  refine h.pickL (fun j => if j < L.length then j else j + 1) (fun j it hj => ?_) (fun i j hi hj e => ?_)
  · by_cases hl : j < L.length
    · simp only [if_pos hl]
      rw [List.getElem?_append_left hl] at hj
      rw [List.append_assoc, List.getElem?_append_left hl]
      exact hj
    · simp only [if_neg hl]
      rw [List.getElem?_append_right (by omega)] at hj
      have : j - L.length = 0 := by
        have := (List.getElem?_eq_some_iff.1 hj).1
        simp at this
        omega
      rw [this] at hj
      rw [List.getElem?_append_right (by simp; omega)]
      simp only [List.length_append, List.length_cons, List.length_nil]
      rw [show j + 1 - (L.length + (0 + 1)) = 0 by omega]
      exact hj
  · by_cases h1 : i < L.length <;> by_cases h2 : j < L.length
    · simp only [if_pos h1, if_pos h2] at e; exact e
    · simp only [if_pos h1, if_neg h2] at e; omega
    · simp only [if_neg h1, if_pos h2] at e; omega
    · simp only [if_neg h1, if_neg h2] at e; omega
theorem pick_next (o0 o1 : Option Int) : pickM o0 o1 = if nextB (o0.getD 0) o0.isSome (o1.getD 0) o1.isSome = true then some (o1.getD 0, 0) else if o0.isSome = true then some (o0.getD 0, 1) else none := by
  cases o0 with
  | none => cases o1 <;> rfl
  | some a =>
    cases o1 with
    | none => rfl
    | some b =>
      show (if a < b then some (b, 0) else some (a, 1)) = if (true && (!true || decide (a < b))) = true then some (b, 0) else some (a, 1)
      by_cases h : a < b
      · rw [if_pos h, if_pos (by rw [decide_eq_true h]; rfl)]
      · rw [if_neg h, if_neg (by rw [decide_eq_false h]; simp)]
theorem next_whole {o0 o1 : Option Int} (h : nextB (o0.getD 0) o0.isSome (o1.getD 0) o1.isSome = true) : o1.isSome = true := by
  unfold nextB at h
  rw [Bool.and_eq_true] at h
  exact h.1
theorem laid {w w9 : World} {g : Nat} {T : TypeId} {cs : Array Value} (hg : w.heap.size = g) (h9 : w.alloc (.cells cs T) = w9) : w9.heap[g]? = some (.cells cs T (0, 0)) ∧ Below g w w9 := by
  refine ⟨?_, ?_⟩
  · rw [← h9, ← hg]; exact heap_alloc_new w _
  · rw [← h9]; exact (Below.refl g w).alloc (by rw [hg]; exact Nat.le_refl _) _
theorem block_at {B : Nat} {w : World} {L : List Item} {q g : Nat} {ob : Obj} (h : Lies B w L) (hq : L[q]? = some (.block g ob)) : w.heap[g]? = some ob := by
  obtain ⟨S, ⟨h1, _⟩, _⟩ := h.get hq
  exact h1
section
variable {B : Nat} {w : World} {L : List Item} {i p : Nat} {A : AD}
set_option maxRecDepth 5000 in
set_option maxHeartbeats 4000000 in
theorem mload_any (h : Lies B w L) (hi : L[i]? = some (.disk p A)) (k : ByteArray) (hk : k.size ≤ 1000) (hsz : A.size k.data.toList = (128, 0)) :
    Calls Tryz.prog 35 #[.pointer (some ⟨p, 0, none⟩), .string k] w fun e w' => MkPost B w L i (.disk p) 91 p k (A.loadM k.data.toList) e w' := by
  obtain ⟨T, hT⟩ : ∃ T : ByteArray, (⟨(A.read k.data.toList 0 128).1.toArray⟩ : ByteArray) = T := ⟨_, rfl⟩
  have lT : (A.read k.data.toList 0 128).1 = T.data.toList := by rw [← hT]
  obtain ⟨hE, zT⟩ : (A.read k.data.toList 0 128).2 = 0 ∧ (A.read k.data.toList 0 128).1.length = 128 := by
    unfold AD.size at hsz
    unfold AD.read
    by_cases ho : A.pow.off = true
    · rw [if_pos ho] at hsz; simp at hsz
    · rw [if_neg ho] at hsz ⊢
      cases hq : fget A.fs k.data.toList with
      | none => rw [hq] at hsz; simp at hsz
      | some F =>
        rw [hq] at hsz
        simp only [Prod.mk.injEq, and_true] at hsz
        simp only
        rw [if_neg (by decide)]
        refine ⟨rfl, ?_⟩
        simp only [List.length_take, List.length_drop]
        have : F.seen.length = 128 := by omega
        rw [this]; rfl
  rw [lT, str_len] at zT
  have c1 := s_read h hi k (by unfold maxLen; omega) 0 128
  rw [hT, hE] at c1
  obtain ⟨o0, ho0⟩ : ∃ o, wholeL (T.data.toList.take 64) = o := ⟨_, rfl⟩
  obtain ⟨o1, ho1⟩ : ∃ o, wholeL (T.data.toList.drop 64) = o := ⟨_, rfl⟩
  obtain ⟨x0, hx0⟩ : ∃ x, o0.getD 0 = x := ⟨_, rfl⟩
  obtain ⟨y0, hy0⟩ : ∃ x, o0.isSome = x := ⟨_, rfl⟩
  obtain ⟨x1, hx1⟩ : ∃ x, o1.getD 0 = x := ⟨_, rfl⟩
  obtain ⟨y1, hy1⟩ : ∃ x, o1.isSome = x := ⟨_, rfl⟩
  obtain ⟨nb, hnb⟩ : ∃ b, nextB x0 y0 x1 y1 = b := ⟨_, rfl⟩
  obtain ⟨E2, A2, hE2⟩ : ∃ E X, A.sync k.data.toList = (E, X) := ⟨_, _, rfl⟩
  obtain ⟨R, hR⟩ : ∃ R, A.loadM k.data.toList = R := ⟨_, rfl⟩
  have HR : Hid (R = match (if nb = true then some (x1, 0) else if y0 = true then some (x0, 1) else none : Option (Int × Nat)) with
      | none => (190, none, A)
      | some m => if E2 ≠ 0 then (E2, none, A2) else (0, some m, A2)) := by
    show _ = _
    rw [← hR]
    unfold AD.loadM
    rw [if_neg (by rw [hE]; decide), lT, hE2]
    unfold pickT
    rw [ho0, ho1, pick_next, hx0, hy0, hx1, hy1, hnb]
    rfl
  have HNW : Hid (nb = true → y1 = true) := fun e => by rw [← hy1]; refine next_whole (o0 := o0) ?_; rw [hx0, hy0, hx1, hy1, hnb]; exact e
  rw [hR]
  have c2 : ∀ w : World, Calls Tryz.prog 67 #[.string T] w fun e w' => e = .returned (.agg #[.int .i64 x0, .bool y0, .int .i64 x1, .bool y1]) ∧ Below w.heap.size w w' := fun w => by
    have := slotsOf_any T zT w
    unfold slotsV slotV at this
    rw [ho0, ho1, hx0, hy0, hx1, hy1] at this
    exact this
  have c3 : ∀ w : World, Calls Tryz.prog 68 #[.agg #[.int .i64 x0, .bool y0, .int .i64 x1, .bool y1]] w fun e w' => e = .returned (.int .i64 (nextI nb)) ∧ Below w.heap.size w w' := fun w => by
    have := next_any x0 y0 x1 y1 w
    rw [hnb] at this
    exact this
  have hil := (List.getElem?_eq_some_iff.1 hi).1
  have c5 : ∀ (w1 : World) (X : Item), Lies B w1 (L ++ [X]) → Calls Tryz.prog 39 #[.pointer (some ⟨p, 0, none⟩), .string k] w1 fun e w' => e = .returned (.int .i64 E2) ∧ Lies B w' (L.set i (.disk p A2) ++ [X]) ∧ Below B w1 w' := fun w1 X h => by
    have := s_sync h (by rw [List.getElem?_append_left hil]; exact hi) k (by unfold maxLen; omega)
    rw [hE2, List.set_append_left _ _ hil] at this
    exact this
  have cc : ∀ w1, Calls Tryz.prog 46 #[.string k] w1 fun e w' => e = .returned (.string k) ∧ Below w1.heap.size w1 w' := fun w1 => Fr.clone_any k w1 (by omega)
  have HSAME : Hid (L.set i (.disk p A) = L) := by
    show _ = _
    apply List.ext_getElem?
    intro j
    by_cases e : i = j
    · subst e; rw [kget hi, hi]
    · rw [List.getElem?_set_ne e]
  have C1 := hide c1
  have C2 := hide c2
  have C3 := hide c3
  have C5 := hide c5
  have CC := hide cc
  clear c1 c2 c3 c5 cc hR hE2 hnb hx0 hy0 hx1 hy1 ho0 ho1 hE zT lT hT hk hsz h hi hil
  go_enter Tryz.func35, Tryz.ntmps35
  go_wp2_with fail
  refine C1.out.mono ?_
  rintro e w1 ⟨rfl, h1, hb1⟩
  have H1 := hide h1
  have HB1 := hide hb1
  clear h1 hb1 C1
  go_wp2_with fail
  refine (C2.out _).mono ?_
  rintro e w2 ⟨rfl, hb2⟩
  have H2 := hide (H1.out.below hb2)
  have HB2 := hide (HB1.out.trans (hb2.mono H1.out.base))
  clear hb2 C2 H1 HB1
  obtain ⟨gs, hgs⟩ : ∃ g, w2.heap.size = g := ⟨_, rfl⟩
  obtain ⟨w3, hw3⟩ : ∃ x, w2.alloc (.cells #[.int .i64 x0, .bool y0, .int .i64 x1, .bool y1] 120) = x := ⟨_, rfl⟩
  obtain ⟨hc3, hb3⟩ := laid hgs hw3
  have H3 := hide (H2.out.below (by rw [hgs]; exact hb3))
  have HB3 := hide (HB2.out.trans (hb3.mono (by rw [← hgs]; exact H2.out.base)))
  have HC3 := hide hc3
  have z0 : w3.cell? ⟨gs, 0, none⟩ = some (.int .i64 x0) := by rw [cell_of_row w3 gs 0 _ _ (0, 0) hc3]; rfl
  have z1 : w3.cell? ⟨gs, 1, none⟩ = some (.bool y0) := by rw [cell_of_row w3 gs 1 _ _ (0, 0) hc3]; rfl
  have z2 : w3.cell? ⟨gs, 2, none⟩ = some (.int .i64 x1) := by rw [cell_of_row w3 gs 2 _ _ (0, 0) hc3]; rfl
  have z3 : w3.cell? ⟨gs, 3, none⟩ = some (.bool y1) := by rw [cell_of_row w3 gs 3 _ _ (0, 0) hc3]; rfl
  clear hb3 hc3 HB2 H2
  go_wp2_with fail
  refine (C3.out _).mono ?_
  rintro e w4 ⟨rfl, hb4⟩
  have hc4 : w4.heap[gs]? = some (.cells #[.int .i64 x0, .bool y0, .int .i64 x1, .bool y1] 120 (0, 0)) := by rw [hb4.block gs (lt_of_some HC3.out)]; exact HC3.out
  have H4 := hide (H3.out.below hb4)
  have HB4 := hide (HB3.out.trans (hb4.mono H3.out.base))
  have c0 : w4.cell? ⟨gs, 0, none⟩ = some (.int .i64 x0) := by rw [cell_of_row w4 gs 0 _ _ (0, 0) hc4]; rfl
  have c1 : w4.cell? ⟨gs, 1, none⟩ = some (.bool y0) := by rw [cell_of_row w4 gs 1 _ _ (0, 0) hc4]; rfl
  have c2 : w4.cell? ⟨gs, 2, none⟩ = some (.int .i64 x1) := by rw [cell_of_row w4 gs 2 _ _ (0, 0) hc4]; rfl
  have c3 : w4.cell? ⟨gs, 3, none⟩ = some (.bool y1) := by rw [cell_of_row w4 gs 3 _ _ (0, 0) hc4]; rfl
  obtain ⟨gl, hgl⟩ : ∃ g, w4.heap.size = g := ⟨_, rfl⟩
  clear hw3 hgs hb4 hc4 H3 HB3 HC3 C3 z0 z1 z2 z3
  cases nb with
  | true =>
    obtain rfl : y1 = true := HNW.out rfl
    obtain ⟨w5, hw5⟩ : ∃ x, w4.alloc (.cells #[.int .i64 x1, .bool true] 118) = x := ⟨_, rfl⟩
    obtain ⟨h5, hb5⟩ := H4.out.box _ _ w5 hw5 gl hgl
    obtain ⟨hc5, _⟩ := laid hgl hw5
    have d0 : w5.cell? ⟨gl, 0, none⟩ = some (.int .i64 x1) := by rw [cell_of_row w5 gl 0 _ _ (0, 0) hc5]; rfl
    have d1 : w5.cell? ⟨gl, 1, none⟩ = some (.bool true) := by rw [cell_of_row w5 gl 1 _ _ (0, 0) hc5]; rfl
    have H5 := hide h5
    have HB5 := hide (HB4.out.trans hb5)
    clear h5 hb5 hc5 HNW H4 HB4
    unfold nextI
    simp only [if_true]
    go_wp2_with fail
    refine (other_any 0 _ (by decide)).mono ?_
    rintro e wo ⟨rfl, hw⟩
    obtain rfl := hw.symm
    clear hw
    go_wp2_with fail
    refine (C5.out _ _ H5.out).mono ?_
    rintro e w6 ⟨rfl, h6, hb6⟩
    have H6 := hide h6
    have HB6 := hide (HB5.out.trans hb6)
    have hcl : w6.heap[gl]? = some (.cells #[.int .i64 x1, .bool true] 118 (0, 0)) := block_at (q := (L.set i (.disk p A2)).length) h6 (by rw [List.getElem?_append_right (Nat.le_refl _), Nat.sub_self]; rfl)
    have HCL := hide hcl
    clear h6 hb6 hcl H5 HB5 C5 c0 c1 d0 d1
    by_cases e2 : E2 = 0
    · subst e2
      have HE : Hid (R = (0, some (x1, 0), A2)) := HR.out
      obtain ⟨V0, hV0⟩ : ∃ x, w6.drew = x := ⟨_, rfl⟩
      have HV0 := hide hV0
      have hv0 := H6.out.same (w' := w6.drew) (Nat.le_refl _) (fun _ _ _ => rfl)
      rw [hV0] at hv0
      have HVL := hide hv0
      have HVB : Hid (Below B w V0) := by rw [← hV0]; exact HB6.out.drew
      have HVC : Hid (V0.cell? ⟨gl, 0, none⟩ = some (.int .i64 x1)) := by
        show _ = _
        rw [← hV0]; show w6.cell? ⟨gl, 0, none⟩ = _; rw [cell_of_row w6 gl 0 _ _ (0, 0) HCL.out]; rfl
      clear hV0 hv0
      go_wp2
      refine wp_region_noPanic ?_
      refine wp_region_held_drew (S := fun wx => wx.cell? ⟨gl, 0, none⟩ = some (.int .i64 x1)) (by kernel_rfl) (by rw [HV0.out]; exact HVC.out) (fun hHeld => ?_)
      rw [HV0.out] at hHeld ⊢
      refine tK 0 (some 38) (.pointer (some ⟨p, 0, none⟩)) rfl hHeld ?_
      simp only [Act.put, pA, pB, pC]
      refine tK 1 (some 39) (.string k) rfl hHeld ?_
      simp only [Act.put, pA, pB, pC]
      refine tK 3 (some 41) (.pointer (some ⟨gl, 0, none⟩)) rfl hHeld ?_
      simp only [Act.put, pA, pB, pC]
      refine tH 4 (some 42) (.int .i64 x1) rfl (fun w hw => by have := hw; first | rfl | (go_simp; done) | (go_simp; rfl)) hHeld ?_
      simp only [Act.put, pA, pB, pC]
      refine tK 5 (some 43) (.int .i64 0) rfl hHeld ?_
      simp only [Act.put, pA, pB, pC]
      refine rdH 2 rfl (fun K hK => ?_)
      go_simp
      refine (CC.out _).mono ?_
      rintro e w7 ⟨rfl, hb7⟩
      have h7 := HVL.out.below hb7
      have HB7 := hide (HVB.out.trans (hb7.mono HVL.out.base))
      have hc7 : w7.cell? ⟨gl, 0, none⟩ = some (.int .i64 x1) := by
        rw [cell_of_row w7 gl 0 _ _ (0, 0) (block_at (q := (L.set i (.disk p A2)).length) h7 (by rw [List.getElem?_append_right (Nat.le_refl _), Nat.sub_self]; rfl))]; rfl
      try go_wp2_with fail
      refine hK.out _ _ hc7 (fun hH => ?_)
      clear hK K hHeld
      have hHeld := hH
      clear hH
      refine tK 6 (some 44) (.agg #[.pointer (some ⟨p, 0, none⟩), .string k, .int .i64 x1, .int .i64 0]) rfl hHeld ?_
      simp only [Act.put, pA, pB, pC]
      obtain ⟨g, hg⟩ : ∃ g, w7.heap.size = g := ⟨_, rfl⟩
      obtain ⟨w8, hw8⟩ : ∃ x, w7.alloc (.cells #[.pointer (some ⟨p, 0, none⟩), .string k, .int .i64 x1, .int .i64 0] 91) = x := ⟨_, rfl⟩
      obtain ⟨h8, hb8⟩ := h7.box _ _ w8 hw8 g hg
      have hc8 : w8.cell? ⟨gl, 0, none⟩ = some (.int .i64 x1) := by
        rw [cell_of_row w8 gl 0 _ _ (0, 0) (block_at (q := (L.set i (.disk p A2)).length) h8 (by rw [List.getElem?_append_left (by simp), List.getElem?_append_right (Nat.le_refl _), Nat.sub_self]; rfl))]; rfl
      have H8 := hide h8
      have HB8 := hide (HB7.out.trans hb8)
      clear hb7 h7 h8 hb8 HB7
      refine rdH 7 rfl (fun K hK => ?_)
      go_simp
      refine hK.out _ _ hc8 (fun hH => ?_)
      clear hK K hHeld
      have hHeld := hH
      clear hH
      refine tK 8 (some 4) (.pointer (some ⟨g, 0, none⟩)) rfl hHeld ?_
      simp only [Act.put, pA, pB, pC]
      refine tK 9 (some 5) (.int .i64 0) rfl hHeld ?_
      simp only [Act.put, pA, pB, pC]
      refine ⟨by kernel_rfl, ?_⟩
      refine NoPanic.normal ?_
      go_wp2
      go_ret2
      exact mkp_some HE.out HB8.out H8.out.dropMid
    · have HE : Hid (R = (E2, none, A2)) := by show _ = _; rw [HR.out]; simp only [if_true]; rw [if_pos e2]
      have b1 : (E2 == 0) = false := beq_eq_false_iff_ne.2 e2
      have b1' : (E2 != 0) = true := by unfold bne; rw [b1]; rfl
      clear e2
      go_wp2
      go_ret2
      exact mkp_none HE.out HB6.out H6.out.drop
  | false =>
    unfold nextI
    simp only [Bool.false_eq_true, if_false]
    cases y0 with
    | true =>
      obtain ⟨w5, hw5⟩ : ∃ x, w4.alloc (.cells #[.int .i64 x0, .bool true] 118) = x := ⟨_, rfl⟩
      obtain ⟨h5, hb5⟩ := H4.out.box _ _ w5 hw5 gl hgl
      obtain ⟨hc5, _⟩ := laid hgl hw5
      have d0 : w5.cell? ⟨gl, 0, none⟩ = some (.int .i64 x0) := by rw [cell_of_row w5 gl 0 _ _ (0, 0) hc5]; rfl
      have d1 : w5.cell? ⟨gl, 1, none⟩ = some (.bool true) := by rw [cell_of_row w5 gl 1 _ _ (0, 0) hc5]; rfl
      have H5 := hide h5
      have HB5 := hide (HB4.out.trans hb5)
      clear h5 hb5 hc5 HNW H4 HB4
      go_wp2_with fail
      refine (other_any 1 _ (by decide)).mono ?_
      rintro e wo ⟨rfl, hw⟩
      obtain rfl := hw.symm
      clear hw
      go_wp2_with fail
      refine (C5.out _ _ H5.out).mono ?_
      rintro e w6 ⟨rfl, h6, hb6⟩
      have H6 := hide h6
      have HB6 := hide (HB5.out.trans hb6)
      have hcl : w6.heap[gl]? = some (.cells #[.int .i64 x0, .bool true] 118 (0, 0)) := block_at (q := (L.set i (.disk p A2)).length) h6 (by rw [List.getElem?_append_right (Nat.le_refl _), Nat.sub_self]; rfl)
      have HCL := hide hcl
      clear h6 hb6 hcl H5 HB5 C5 c0 c1 d0 d1
      by_cases e2 : E2 = 0
      · subst e2
        have HE : Hid (R = (0, some (x0, 1), A2)) := HR.out
        obtain ⟨V0, hV0⟩ : ∃ x, w6.drew = x := ⟨_, rfl⟩
        have HV0 := hide hV0
        have hv0 := H6.out.same (w' := w6.drew) (Nat.le_refl _) (fun _ _ _ => rfl)
        rw [hV0] at hv0
        have HVL := hide hv0
        have HVB : Hid (Below B w V0) := by rw [← hV0]; exact HB6.out.drew
        have HVC : Hid (V0.cell? ⟨gl, 0, none⟩ = some (.int .i64 x0)) := by
          show _ = _
          rw [← hV0]; show w6.cell? ⟨gl, 0, none⟩ = _; rw [cell_of_row w6 gl 0 _ _ (0, 0) HCL.out]; rfl
        clear hV0 hv0
        go_wp2
        refine wp_region_noPanic ?_
        refine wp_region_held_drew (S := fun wx => wx.cell? ⟨gl, 0, none⟩ = some (.int .i64 x0)) (by kernel_rfl) (by rw [HV0.out]; exact HVC.out) (fun hHeld => ?_)
        rw [HV0.out] at hHeld ⊢
        refine tK 0 (some 38) (.pointer (some ⟨p, 0, none⟩)) rfl hHeld ?_
        simp only [Act.put, pA, pB, pC]
        refine tK 1 (some 39) (.string k) rfl hHeld ?_
        simp only [Act.put, pA, pB, pC]
        refine tK 3 (some 41) (.pointer (some ⟨gl, 0, none⟩)) rfl hHeld ?_
        simp only [Act.put, pA, pB, pC]
        refine tH 4 (some 42) (.int .i64 x0) rfl (fun w hw => by have := hw; first | rfl | (go_simp; done) | (go_simp; rfl)) hHeld ?_
        simp only [Act.put, pA, pB, pC]
        refine tK 5 (some 43) (.int .i64 1) rfl hHeld ?_
        simp only [Act.put, pA, pB, pC]
        refine rdH 2 rfl (fun K hK => ?_)
        go_simp
        refine (CC.out _).mono ?_
        rintro e w7 ⟨rfl, hb7⟩
        have h7 := HVL.out.below hb7
        have HB7 := hide (HVB.out.trans (hb7.mono HVL.out.base))
        have hc7 : w7.cell? ⟨gl, 0, none⟩ = some (.int .i64 x0) := by
          rw [cell_of_row w7 gl 0 _ _ (0, 0) (block_at (q := (L.set i (.disk p A2)).length) h7 (by rw [List.getElem?_append_right (Nat.le_refl _), Nat.sub_self]; rfl))]; rfl
        try go_wp2_with fail
        refine hK.out _ _ hc7 (fun hH => ?_)
        clear hK K hHeld
        have hHeld := hH
        clear hH
        refine tK 6 (some 44) (.agg #[.pointer (some ⟨p, 0, none⟩), .string k, .int .i64 x0, .int .i64 1]) rfl hHeld ?_
        simp only [Act.put, pA, pB, pC]
        obtain ⟨g, hg⟩ : ∃ g, w7.heap.size = g := ⟨_, rfl⟩
        obtain ⟨w8, hw8⟩ : ∃ x, w7.alloc (.cells #[.pointer (some ⟨p, 0, none⟩), .string k, .int .i64 x0, .int .i64 1] 91) = x := ⟨_, rfl⟩
        obtain ⟨h8, hb8⟩ := h7.box _ _ w8 hw8 g hg
        have hc8 : w8.cell? ⟨gl, 0, none⟩ = some (.int .i64 x0) := by
          rw [cell_of_row w8 gl 0 _ _ (0, 0) (block_at (q := (L.set i (.disk p A2)).length) h8 (by rw [List.getElem?_append_left (by simp), List.getElem?_append_right (Nat.le_refl _), Nat.sub_self]; rfl))]; rfl
        have H8 := hide h8
        have HB8 := hide (HB7.out.trans hb8)
        clear hb7 h7 h8 hb8 HB7
        refine rdH 7 rfl (fun K hK => ?_)
        go_simp
        refine hK.out _ _ hc8 (fun hH => ?_)
        clear hK K hHeld
        have hHeld := hH
        clear hH
        refine tK 8 (some 4) (.pointer (some ⟨g, 0, none⟩)) rfl hHeld ?_
        simp only [Act.put, pA, pB, pC]
        refine tK 9 (some 5) (.int .i64 0) rfl hHeld ?_
        simp only [Act.put, pA, pB, pC]
        refine ⟨by kernel_rfl, ?_⟩
        refine NoPanic.normal ?_
        go_wp2
        go_ret2
        exact mkp_some HE.out HB8.out H8.out.dropMid
      · have HE : Hid (R = (E2, none, A2)) := by show _ = _; rw [HR.out]; simp only [if_true, if_false, Bool.false_eq_true]; rw [if_pos e2]
        have b1 : (E2 == 0) = false := beq_eq_false_iff_ne.2 e2
        have b1' : (E2 != 0) = true := by unfold bne; rw [b1]; rfl
        clear e2
        go_wp2
        go_ret2
        exact mkp_none HE.out HB6.out H6.out.drop
    | false =>
      have HE : Hid (R = (190, none, A)) := HR.out
      obtain ⟨w5, hw5⟩ : ∃ x, w4.alloc (.cells #[.int .i64 x0, .bool false] 118) = x := ⟨_, rfl⟩
      obtain ⟨hc5, hb5⟩ := laid hgl hw5
      have fz : w5.frozen? ⟨gl, 1, none⟩ = false := frozen_of_row w5 gl 1 _ _ hc5
      obtain ⟨w6, hw6⟩ : ∃ x, w5.setCell ⟨gl, 1, none⟩ (.bool false) = x := ⟨_, rfl⟩
      have hc6 : w6.heap[gl]? = some (.cells #[.int .i64 x0, .bool false] 118 (0, 0)) := by rw [← hw6, heap_setCell_same _ gl 1 _ _ _ hc5]; rfl
      have d1 : w6.cell? ⟨gl, 1, none⟩ = some (.bool false) := by rw [cell_of_row w6 gl 1 _ _ (0, 0) hc6]; rfl
      have e1 : w5.cell? ⟨gl, 1, none⟩ = some (.bool false) := by rw [cell_of_row w5 gl 1 _ _ (0, 0) hc5]; rfl
      have hb6 : Below gl w4 w6 := by rw [← hw6]; exact hb5.setCell (p := ⟨gl, 1, none⟩) (Nat.le_refl _) _
      have H5 := hide (H4.out.below (by rw [hgl]; exact hb6))
      have HB5 := hide (HB4.out.trans (hb6.mono (by rw [← hgl]; exact H4.out.base)))
      clear hb5 hc5 hb6 hc6 HNW H4 HB4
      go_wp2_with fail
      refine (other_any 1 _ (by decide)).mono ?_
      rintro e wo ⟨rfl, hw⟩
      obtain rfl := hw.symm
      clear hw
      go_wp2
      go_ret2
      exact mkp_none HE.out HB5.out (by rw [HSAME.out]; exact H5.out)
end
end Go.Proofs.YtlkimfmilccanaaGreat
