/-
  The document's laid, Open, Raise (printed by gen_ref2.py).
-/
import Derived.Test.YtlkimfmilccanaaGreatMkRefB
namespace Go.Proofs.YtlkimfmilccanaaGreat
open Go.RowKit Go.Maps Go.WideMaps
set_option linter.unusedVariables false
set_option linter.unusedSimpArgs false
theorem whole_val {t : Key} {v : Int} (h : wholeL t = some v) : valL t = v := by
  unfold wholeL at h
  split at h
  · cases h; rfl
  · cases h
theorem pick_wv (T : ByteArray) (hT : T.size = 128) : pickT T.data.toList = if (wvB T 1 && (!wvB T 0 || decide (wvI T 0 < wvI T 1))) = true then some (wvI T 1, 0) else if wvB T 0 = true then some (wvI T 0, 1) else none := by
  unfold pickT wvB wvI
  rw [wholeL_take (by decide), decide_eq_true (show 64 * 1 + 12 ≤ T.size by omega), decide_eq_true (show 64 * 0 + 12 ≤ T.size by omega), if_pos (show 64 * 1 + 12 ≤ T.size by omega), if_pos (show 64 * 0 + 12 ≤ T.size by omega), Nat.mul_zero, Nat.mul_one, List.drop_zero]
  simp only [Bool.true_and]
  cases h0 : wholeL T.data.toList with
  | none =>
    cases h1 : wholeL (T.data.toList.drop 64) with
    | none => rfl
    | some b => rw [whole_val h1]; rfl
  | some a =>
    cases h1 : wholeL (T.data.toList.drop 64) with
    | none => rw [whole_val h0]; rfl
    | some b =>
      rw [whole_val h0, whole_val h1]
      show (if a < b then some (b, 0) else some (a, 1)) = if (true && (!true || decide (a < b))) = true then some (b, 0) else some (a, 1)
      by_cases h : a < b
      · rw [if_pos h, if_pos (by rw [decide_eq_true h]; rfl)]
      · rw [if_neg h, if_neg (by rw [decide_eq_false h]; simp)]
section
variable {B : Nat} {w : World} {L : List Item} {i j r g : Nat} {A : AD}
set_option maxRecDepth 5000 in
set_option maxHeartbeats 4000000 in
theorem dlaid_any (h : Lies B w L) (hi : L[i]? = some (.ref r A)) (hok : A.Ok) (k : ByteArray) (hk : k.size ≤ 1000) :
    Calls Tryz.prog 86 #[.pointer (some ⟨r, 0, none⟩), .string k] w fun e w' => MkPost B w L i (.ref r) 145 r k (begA (A.beginM k.data.toList)) e w' := by
  obtain ⟨D, hD⟩ : ∃ D, k ++ (⟨#[46, 116, 109, 112]⟩ : ByteArray) = D := ⟨_, rfl⟩
  have lD : D.data.toList = k.data.toList ++ dot := by rw [← hD, k_app]; rfl
  have zD : D.size ≤ 1004 := by rw [← hD, ByteArray.size_append]; show k.size + 4 ≤ 1004; omega
  have ha : ∀ w : World, (Op.stringOp .add k ⟨#[46, 116, 109, 112]⟩).run Tryz.prog w = .ok (.string D) w := fun w => k_add w _ _ D hD (by show k.size + 4 ≤ _; omega)
  obtain ⟨S, hS⟩ : ∃ S : ByteArray, (⟨(slotL (-1)).toArray⟩ : ByteArray) = S := ⟨_, rfl⟩
  obtain ⟨T, hT⟩ : ∃ T : ByteArray, (⟨two1.toArray⟩ : ByteArray) = T := ⟨_, rfl⟩
  have zS : S.size = 64 := by rw [← hS, ← str_len]; exact slotL_length _
  have lT : T.data.toList = two1 := by rw [← hT]
  have zT : T.size = 128 := by rw [← str_len, lT, two1_length]
  have ht : ∀ w : World, (Op.stringOp .add S S).run Tryz.prog w = .ok (.string T) w := fun w => k_add w _ _ T (by rw [← hS, ← hT]; exact two1_str) (by omega)
  obtain ⟨E1, A1, hE1⟩ : ∃ E X, A.remove (k.data.toList ++ dot) = (E, X) := ⟨_, _, rfl⟩
  obtain ⟨E2, A2, hE2⟩ : ∃ E X, A1.write (k.data.toList ++ dot) 0 two1 = (E, X) := ⟨_, _, rfl⟩
  obtain ⟨E3, A3, hE3⟩ : ∃ E X, A2.sync (k.data.toList ++ dot) = (E, X) := ⟨_, _, rfl⟩
  obtain ⟨E4, A4, hE4⟩ : ∃ E X, A3.rename (k.data.toList ++ dot) k.data.toList = (E, X) := ⟨_, _, rfl⟩
  have ok1 : A1.Ok := by have := ok_remove (d := k.data.toList ++ dot) hok; rw [hE1] at this; exact this
  have ok2 : A2.Ok := by have := okw_write (d := k.data.toList ++ dot) (t := two1) (a := 0) ok1; rw [hE2] at this; exact this
  have ok3 : A3.Ok := by have := ok_sync (d := k.data.toList ++ dot) ok2; rw [hE3] at this; exact this
  have hbeg : A.beginM k.data.toList = (if E1 ≠ 0 ∧ E1 ≠ 5 then (E1, A1) else if E2 ≠ 0 then (E2, A2) else if E3 ≠ 0 then (E3, A3) else (E4, A4)) := by
    unfold AD.beginM
    simp only [hE1, hE2, hE3, hE4]
  obtain ⟨R, hR⟩ : ∃ R, begA (A.beginM k.data.toList) = R := ⟨_, rfl⟩
  have HR : Hid (R = begA (if E1 ≠ 0 ∧ E1 ≠ 5 then (E1, A1) else if E2 ≠ 0 then (E2, A2) else if E3 ≠ 0 then (E3, A3) else (E4, A4))) := by show _ = _; rw [← hR, hbeg]
  rw [hR]
  have c1 : Calls Tryz.prog 113 #[.pointer (some ⟨r, 0, none⟩), .string D] w fun e w' => e = .returned (.int .i64 E1) ∧ Lies B w' (L.set i (.ref r A1)) ∧ Below B w w' := by
    have := r_remove h hi hok D
    rw [lD, hE1] at this
    exact this
  have c2 : ∀ w1, Lies B w1 (L.set i (.ref r A1)) → Calls Tryz.prog 58 #[.pointer (some ⟨r, 0, none⟩), .string D, .int .i64 0, .string T] w1 fun e w' => e = .returned (.int .i64 E2) ∧ Lies B w' (L.set i (.ref r A2)) ∧ Below B w1 w' := fun w1 h => by
    have := r_write h (kget hi _) ok1 D (by unfold maxLen; omega) 0 (by omega) T (by omega)
    rw [lD, lT, hE2, List.set_set] at this
    exact this
  have c3 : ∀ w1, Lies B w1 (L.set i (.ref r A2)) → Calls Tryz.prog 88 #[.pointer (some ⟨r, 0, none⟩), .string D] w1 fun e w' => e = .returned (.int .i64 E3) ∧ Lies B w' (L.set i (.ref r A3)) ∧ Below B w1 w' := fun w1 h => by
    have := r_sync h (kget hi _) ok2 D
    rw [lD, hE3, List.set_set] at this
    exact this
  have c4 : ∀ w1, Lies B w1 (L.set i (.ref r A3)) → Calls Tryz.prog 114 #[.pointer (some ⟨r, 0, none⟩), .string D, .string k] w1 fun e w' => e = .returned (.int .i64 E4) ∧ Lies B w' (L.set i (.ref r A4)) ∧ Below B w1 w' := fun w1 h => by
    have := r_rename h (kget hi _) ok3 D k (by unfold maxLen; omega)
    rw [lD, hE4, List.set_set] at this
    exact this
  have cb : ∀ w1, Calls Tryz.prog 89 #[.int .i64 (-1)] w1 fun e w' => e = .returned (.string S) ∧ Below w1.heap.size w1 w' := fun w1 => by rw [← hS]; exact dslot_any (-1) w1
  have C1 := hide c1
  have C2 := hide c2
  have C3 := hide c3
  have C4 := hide c4
  have CB := hide cb
  clear c1 c2 c3 c4 cb hR hbeg hE1 hE2 hE3 hE4 lD zD hD hS hT zS lT zT hk h hi hok ok1 ok2 ok3
  go_enter Tryz.func86, Tryz.ntmps86
  go_wp2_with fail
  refine C1.out.mono ?_
  rintro e w1 ⟨rfl, h1, hb1⟩
  have H1 := hide h1
  have HB1 := hide hb1
  clear h1 hb1 C1
  by_cases h1 : E1 ≠ 0 ∧ E1 ≠ 5
  · have HE : Hid (R = (E1, none, A1)) := by show _ = _; rw [HR.out, if_pos h1]; unfold begA; rw [if_neg h1.1]
    have b1 : (E1 == 0) = false := beq_eq_false_iff_ne.2 h1.1
    have b1' : (E1 != 0) = true := by unfold bne; rw [b1]; rfl
    have b2 : (E1 == 5) = false := beq_eq_false_iff_ne.2 h1.2
    have b2' : (E1 != 5) = true := by unfold bne; rw [b2]; rfl
    clear h1 HR C2 C3 C4 CB
    go_wp2
    go_ret2
    exact mkp_none HE.out HB1.out H1.out
  have HR1 : Hid (R = begA (if E2 ≠ 0 then (E2, A2) else if E3 ≠ 0 then (E3, A3) else (E4, A4))) := by show _ = _; rw [HR.out, if_neg h1]
  have hor : (E1 != 0 && E1 != 5) = false := by
    rcases (by omega : E1 = 0 ∨ E1 = 5) with e | e <;> subst e <;> rfl
  clear HR
  have hor2 : E1 = 0 ∨ E1 = 5 := by omega
  clear h1 hor
  rcases hor2 with e1 | e1 <;> subst e1
  all_goals
  · go_wp2_with fail
    refine (CB.out _).mono ?_
    rintro e w2 ⟨rfl, hb2⟩
    have H2 := hide (H1.out.below hb2)
    have HB2 := hide (HB1.out.trans (hb2.mono H1.out.base))
    clear hb2 H1 HB1
    go_wp2_with fail
    refine (CB.out _).mono ?_
    rintro e w3 ⟨rfl, hb3⟩
    have H3 := hide (H2.out.below hb3)
    have HB3 := hide (HB2.out.trans (hb3.mono H2.out.base))
    clear hb3 H2 HB2
    go_wp2_with fail
    refine (C2.out _ H3.out).mono ?_
    rintro e w4 ⟨rfl, h4, hb4⟩
    have H4 := hide h4
    have HB4 := hide (HB3.out.trans hb4)
    clear h4 hb4 H3 HB3 C2 CB
    by_cases e2 : E2 = 0
    · subst e2
      go_wp2_with fail
      refine (C3.out _ H4.out).mono ?_
      rintro e w5 ⟨rfl, h5, hb5⟩
      have H5 := hide h5
      have HB5 := hide (HB4.out.trans hb5)
      clear h5 hb5 H4 HB4 C3
      by_cases e3 : E3 = 0
      · subst e3
        go_wp2_with fail
        refine (C4.out _ H5.out).mono ?_
        rintro e w6 ⟨rfl, h6, hb6⟩
        have H6 := hide h6
        have HB6 := hide (HB5.out.trans hb6)
        clear h6 hb6 H5 HB5 C4
        by_cases e4 : E4 = 0
        · subst e4
          have HE : Hid (R = (0, some (-1, 1), A4)) := by show _ = _; rw [HR1.out, if_neg (by omega : ¬ (0 : Int) ≠ 0), if_neg (by omega : ¬ (0 : Int) ≠ 0)]; rfl
          have h7 := H6.out
          have HB7 := HB6
          obtain ⟨g, hg⟩ : ∃ g, w6.heap.size = g := ⟨_, rfl⟩
          obtain ⟨w8, hw8⟩ : ∃ x, w6.alloc (.cells #[.pointer (some ⟨r, 0, none⟩), .string k, .int .i64 (-1), .int .i64 1] 145) = x := ⟨_, rfl⟩
          obtain ⟨h8, hb8⟩ := h7.box _ _ w8 hw8 g hg
          have H8 := hide h8
          have HB8 := hide (HB7.out.trans hb8)
          clear h7 h8 hb8 HB7 H6 HB6
          go_wp2
          go_ret2
          exact mkp_some HE.out HB8.out H8.out
        · have HE : Hid (R = (E4, none, A4)) := by show _ = _; rw [HR1.out, if_neg (by omega : ¬ (0 : Int) ≠ 0), if_neg (by omega : ¬ (0 : Int) ≠ 0)]; unfold begA; rw [if_neg e4]
          have b1 : (E4 == 0) = false := beq_eq_false_iff_ne.2 e4
          have b1' : (E4 != 0) = true := by unfold bne; rw [b1]; rfl
          clear e4
          go_wp2
          go_ret2
          exact mkp_none HE.out HB6.out H6.out
      · have HE : Hid (R = (E3, none, A3)) := by show _ = _; rw [HR1.out, if_neg (by omega : ¬ (0 : Int) ≠ 0), if_pos e3]; unfold begA; rw [if_neg e3]
        have b1 : (E3 == 0) = false := beq_eq_false_iff_ne.2 e3
        have b1' : (E3 != 0) = true := by unfold bne; rw [b1]; rfl
        clear e3
        go_wp2
        go_ret2
        exact mkp_none HE.out HB5.out H5.out
    · have HE : Hid (R = (E2, none, A2)) := by show _ = _; rw [HR1.out, if_pos e2]; unfold begA; rw [if_neg e2]
      have b1 : (E2 == 0) = false := beq_eq_false_iff_ne.2 e2
      have b1' : (E2 != 0) = true := by unfold bne; rw [b1]; rfl
      clear e2
      go_wp2
      go_ret2
      exact mkp_none HE.out HB4.out H4.out
set_option maxRecDepth 5000 in
set_option maxHeartbeats 4000000 in
theorem dopen_any (h : Lies B w L) (hi : L[i]? = some (.ref r A)) (hok : A.Ok) (k : ByteArray) (hk : k.size ≤ 1000) :
    Calls Tryz.prog 52 #[.pointer (some ⟨r, 0, none⟩), .string k] w fun e w' => MkPost B w L i (.ref r) 145 r k (A.openM k.data.toList) e w' := by
  have c1 := r_size h hi hok k
  obtain ⟨N, E, hE⟩ : ∃ N E, A.size k.data.toList = (N, E) := ⟨_, _, rfl⟩
  rw [hE] at c1
  obtain ⟨R, hR⟩ : ∃ R, A.openM k.data.toList = R := ⟨_, rfl⟩
  have HR : Hid (R = if E = 5 then begA (A.beginM k.data.toList) else if E ≠ 0 then (E, none, A) else if N ≠ 128 then (190, none, A) else A.loadM k.data.toList) := by
    show _ = _
    rw [← hR]
    unfold AD.openM
    rw [hE]
  rw [hR]
  have HSM := hide (mset_same hi)
  by_cases e5 : E = 5
  · have hc := dlaid_any h hi hok k hk
    have HE : Hid (R = begA (A.beginM k.data.toList)) := by show _ = _; rw [HR.out, if_pos e5]
    rw [← HE.out] at hc
    have b : (E == 5) = true := beq_iff_eq.2 e5
    clear HR hR hE h hi hk HE
    subst e5
    go_enter Tryz.func52, Tryz.ntmps52
    go_wp2_with fail
    refine c1.mono ?_
    rintro e w1 ⟨rfl, hw⟩
    obtain rfl := hw.symm
    clear hw c1
    go_wp2_with fail
    refine hc.mono ?_
    rintro e w2 hp
    obtain ⟨E', o, A'⟩ := R
    obtain ⟨hb, hp2⟩ := hp
    cases o with
    | none =>
      obtain ⟨rfl, hl⟩ := hp2
      have HL := hide hl
      have HB := hide hb
      clear hl hb hc
      go_wp2
      go_ret2
      exact mkp_none rfl HB.out HL.out
    | some m =>
      obtain ⟨g, rfl, hl⟩ := hp2
      have HL := hide hl
      have HB := hide hb
      clear hl hb hc
      go_wp2
      go_ret2
      exact mkp_some (v := m.1) (x := m.2) rfl HB.out HL.out
  have b5 : (E == 5) = false := beq_eq_false_iff_ne.2 e5
  by_cases e0 : E = 0
  · subst e0
    by_cases eN : N = 128
    · subst eN
      have HL : Hid (R = A.loadM k.data.toList) := by show _ = _; rw [HR.out, if_neg e5, if_neg (by decide), if_neg (by decide)]
      have hsz := hE
      clear HR hR hE e5
      obtain ⟨T, hT⟩ : ∃ T : ByteArray, (⟨(A.read k.data.toList 0 128).1.toArray⟩ : ByteArray) = T := ⟨_, rfl⟩
      have lT : (A.read k.data.toList 0 128).1 = T.data.toList := by rw [← hT]
      obtain ⟨hE, zT⟩ : (A.read k.data.toList 0 128).2 = 0 ∧ (A.read k.data.toList 0 128).1.length = 128 := by
        unfold AD.size at hsz
        unfold AD.read
        by_cases ho : A.pow.off = true
        · rw [if_pos ho] at hsz; simp at hsz
        · rw [if_neg ho] at hsz ⊢
          cases hq : fget A.fs k.data.toList with
          | none => rw [hq] at hsz; simp at hsz
          | some F =>
            rw [hq] at hsz
            simp only [Prod.mk.injEq, and_true] at hsz
            simp only
            rw [if_neg (by decide)]
            refine ⟨rfl, ?_⟩
            simp only [List.length_take, List.length_drop]
            have : F.seen.length = 128 := by omega
            rw [this]; rfl
      rw [lT, str_len] at zT
      have c2 := r_read h hi hok k 0 128
      rw [hT, hE] at c2
      obtain ⟨E2, A2, hE2⟩ : ∃ E X, A.sync k.data.toList = (E, X) := ⟨_, _, rfl⟩
      have hpk := pick_wv T zT
      have c3 := fun w => dwhole_any T (by rw [zT]; unfold maxLen; omega) 0 (by decide) w
      have c4 := fun w => dwhole_any T (by rw [zT]; unfold maxLen; omega) 1 (by decide) w
      obtain ⟨x0, hx0⟩ : ∃ x, wvI T 0 = x := ⟨_, rfl⟩
      obtain ⟨y0, hy0⟩ : ∃ x, wvB T 0 = x := ⟨_, rfl⟩
      obtain ⟨x1, hx1⟩ : ∃ x, wvI T 1 = x := ⟨_, rfl⟩
      obtain ⟨y1, hy1⟩ : ∃ x, wvB T 1 = x := ⟨_, rfl⟩
      rw [hx0, hy0] at c3
      rw [hx1, hy1] at c4
      rw [hx0, hy0, hx1, hy1] at hpk
      have C3 : Hid (∀ w : World, Calls Tryz.prog 87 #[.string T, .int .i64 0] w fun e w' => e = .returned (.tuple #[.int .i64 x0, .bool y0]) ∧ Below w.heap.size w w') := c3
      have C4 : Hid (∀ w : World, Calls Tryz.prog 87 #[.string T, .int .i64 1] w fun e w' => e = .returned (.tuple #[.int .i64 x1, .bool y1]) ∧ Below w.heap.size w w') := c4
      have HR : Hid (R = match pickT T.data.toList with
          | none => (190, none, A)
          | some m => if E2 ≠ 0 then (E2, none, A2) else (0, some m, A2)) := by
        show _ = _
        rw [HL.out]
        unfold AD.loadM
        rw [if_neg (by rw [hE]; decide), lT, hE2]
        rfl
      have HPK := hide hpk
      have C5 : Hid (∀ w1, Lies B w1 L → Calls Tryz.prog 88 #[.pointer (some ⟨r, 0, none⟩), .string k] w1 fun e w' => e = .returned (.int .i64 E2) ∧ Lies B w' (L.set i (.ref r A2)) ∧ Below B w1 w') := fun w1 h => by
        have := r_sync h hi hok k
        rw [hE2] at this
        exact this
      have H := hide h
      have C2 := hide c2
      clear h hi hok hk hE hT lT zT hsz c2 c3 c4 hE2 hpk hx0 hy0 hx1 hy1 HL
      go_enter Tryz.func52, Tryz.ntmps52
      go_wp2_with fail
      refine c1.mono ?_
      rintro e w1 ⟨rfl, hw⟩
      obtain rfl := hw.symm
      clear hw c1
      go_wp2_with fail
      refine C2.out.mono ?_
      rintro e w2 ⟨rfl, hw⟩
      obtain rfl := hw.symm
      clear hw C2
      go_wp2_with fail
      refine (C3.out _).mono ?_
      rintro e w3 ⟨rfl, hb3⟩
      have H3 := hide (H.out.below hb3)
      have HB3 : Hid (Below B w w3) := hb3.mono H.out.base
      clear hb3 H C3
      go_wp2_with fail
      refine (C4.out _).mono ?_
      rintro e w5 ⟨rfl, hb5⟩
      have H5 := hide (H3.out.below hb5)
      have HB5 := hide (HB3.out.trans (hb5.mono H3.out.base))
      clear hb5 H3 HB3 C4
      cases y0 with
      | false =>
        cases y1 with
        | false =>
          have HE : Hid (R = (190, none, A)) := by show _ = _; rw [HR.out, HPK.out]; rfl
          clear HR HPK C5
          go_wp2
          go_ret2
          exact mkp_none HE.out HB5.out (by rw [HSM.out]; exact H5.out)
        | true =>
          have HP : Hid (pickT T.data.toList = some (x1, 0)) := by show _ = _; rw [HPK.out]; rfl
          clear HPK
          go_wp2_with fail
          refine (C5.out _ H5.out).mono ?_
          rintro e w6 ⟨rfl, h6, hb6⟩
          have H6 := hide h6
          have HB6 := hide (HB5.out.trans hb6)
          clear h6 hb6 H5 HB5 C5
          by_cases e2 : E2 = 0
          · subst e2
            have HE : Hid (R = (0, some (x1, 0), A2)) := by show _ = _; rw [HR.out, HP.out]; rfl
            clear HR HP
            have h7 := H6.out
            obtain ⟨g, hg⟩ : ∃ g, w6.heap.size = g := ⟨_, rfl⟩
            obtain ⟨w8, hw8⟩ : ∃ x, w6.alloc (.cells #[.pointer (some ⟨r, 0, none⟩), .string k, .int .i64 x1, .int .i64 0] 145) = x := ⟨_, rfl⟩
            obtain ⟨h8, hb8⟩ := h7.box _ _ w8 hw8 g hg
            have H8 := hide h8
            have HB8 := hide (HB6.out.trans hb8)
            clear h7 h8 hb8 H6 HB6
            go_wp2
            go_ret2
            exact mkp_some HE.out HB8.out H8.out
          · have HE : Hid (R = (E2, none, A2)) := by show _ = _; rw [HR.out, HP.out]; simp only; rw [if_pos e2]
            have b1 : (E2 == 0) = false := beq_eq_false_iff_ne.2 e2
            have b1' : (E2 != 0) = true := by unfold bne; rw [b1]; rfl
            clear e2 HR HP
            go_wp2
            go_ret2
            exact mkp_none HE.out HB6.out H6.out
      | true =>
        cases y1 with
        | false =>
          have HP : Hid (pickT T.data.toList = some (x0, 1)) := by show _ = _; rw [HPK.out]; rfl
          clear HPK
          go_wp2_with fail
          refine (C5.out _ H5.out).mono ?_
          rintro e w6 ⟨rfl, h6, hb6⟩
          have H6 := hide h6
          have HB6 := hide (HB5.out.trans hb6)
          clear h6 hb6 H5 HB5 C5
          by_cases e2 : E2 = 0
          · subst e2
            have HE : Hid (R = (0, some (x0, 1), A2)) := by show _ = _; rw [HR.out, HP.out]; rfl
            clear HR HP
            have h7 := H6.out
            obtain ⟨g, hg⟩ : ∃ g, w6.heap.size = g := ⟨_, rfl⟩
            obtain ⟨w8, hw8⟩ : ∃ x, w6.alloc (.cells #[.pointer (some ⟨r, 0, none⟩), .string k, .int .i64 x0, .int .i64 1] 145) = x := ⟨_, rfl⟩
            obtain ⟨h8, hb8⟩ := h7.box _ _ w8 hw8 g hg
            have H8 := hide h8
            have HB8 := hide (HB6.out.trans hb8)
            clear h7 h8 hb8 H6 HB6
            go_wp2
            go_ret2
            exact mkp_some HE.out HB8.out H8.out
          · have HE : Hid (R = (E2, none, A2)) := by show _ = _; rw [HR.out, HP.out]; simp only; rw [if_pos e2]
            have b1 : (E2 == 0) = false := beq_eq_false_iff_ne.2 e2
            have b1' : (E2 != 0) = true := by unfold bne; rw [b1]; rfl
            clear e2 HR HP
            go_wp2
            go_ret2
            exact mkp_none HE.out HB6.out H6.out
        | true =>
          by_cases hlt : x0 < x1
          · have d : decide (x0 < x1) = true := decide_eq_true hlt
            have HP : Hid (pickT T.data.toList = some (x1, 0)) := by show _ = _; rw [HPK.out, d]; rfl
            clear HPK hlt
            go_wp2_with fail
            refine (C5.out _ H5.out).mono ?_
            rintro e w6 ⟨rfl, h6, hb6⟩
            have H6 := hide h6
            have HB6 := hide (HB5.out.trans hb6)
            clear h6 hb6 H5 HB5 C5
            by_cases e2 : E2 = 0
            · subst e2
              have HE : Hid (R = (0, some (x1, 0), A2)) := by show _ = _; rw [HR.out, HP.out]; rfl
              clear HR HP
              have h7 := H6.out
              obtain ⟨g, hg⟩ : ∃ g, w6.heap.size = g := ⟨_, rfl⟩
              obtain ⟨w8, hw8⟩ : ∃ x, w6.alloc (.cells #[.pointer (some ⟨r, 0, none⟩), .string k, .int .i64 x1, .int .i64 0] 145) = x := ⟨_, rfl⟩
              obtain ⟨h8, hb8⟩ := h7.box _ _ w8 hw8 g hg
              have H8 := hide h8
              have HB8 := hide (HB6.out.trans hb8)
              clear h7 h8 hb8 H6 HB6
              go_wp2
              go_ret2
              exact mkp_some HE.out HB8.out H8.out
            · have HE : Hid (R = (E2, none, A2)) := by show _ = _; rw [HR.out, HP.out]; simp only; rw [if_pos e2]
              have b1 : (E2 == 0) = false := beq_eq_false_iff_ne.2 e2
              have b1' : (E2 != 0) = true := by unfold bne; rw [b1]; rfl
              clear e2 HR HP
              go_wp2
              go_ret2
              exact mkp_none HE.out HB6.out H6.out
          · have d : decide (x0 < x1) = false := decide_eq_false hlt
            have HP : Hid (pickT T.data.toList = some (x0, 1)) := by show _ = _; rw [HPK.out, d]; rfl
            clear HPK hlt
            go_wp2_with fail
            refine (C5.out _ H5.out).mono ?_
            rintro e w6 ⟨rfl, h6, hb6⟩
            have H6 := hide h6
            have HB6 := hide (HB5.out.trans hb6)
            clear h6 hb6 H5 HB5 C5
            by_cases e2 : E2 = 0
            · subst e2
              have HE : Hid (R = (0, some (x0, 1), A2)) := by show _ = _; rw [HR.out, HP.out]; rfl
              clear HR HP
              have h7 := H6.out
              obtain ⟨g, hg⟩ : ∃ g, w6.heap.size = g := ⟨_, rfl⟩
              obtain ⟨w8, hw8⟩ : ∃ x, w6.alloc (.cells #[.pointer (some ⟨r, 0, none⟩), .string k, .int .i64 x0, .int .i64 1] 145) = x := ⟨_, rfl⟩
              obtain ⟨h8, hb8⟩ := h7.box _ _ w8 hw8 g hg
              have H8 := hide h8
              have HB8 := hide (HB6.out.trans hb8)
              clear h7 h8 hb8 H6 HB6
              go_wp2
              go_ret2
              exact mkp_some HE.out HB8.out H8.out
            · have HE : Hid (R = (E2, none, A2)) := by show _ = _; rw [HR.out, HP.out]; simp only; rw [if_pos e2]
              have b1 : (E2 == 0) = false := beq_eq_false_iff_ne.2 e2
              have b1' : (E2 != 0) = true := by unfold bne; rw [b1]; rfl
              clear e2 HR HP
              go_wp2
              go_ret2
              exact mkp_none HE.out HB6.out H6.out
    · have HE : Hid (R = (190, none, A)) := by show _ = _; rw [HR.out, if_neg e5, if_neg (by decide), if_pos eN]
      have b1 : (N == 128) = false := beq_eq_false_iff_ne.2 eN
      have b1' : (N != 128) = true := by unfold bne; rw [b1]; rfl
      have H := hide h
      clear HR hR hE h hi hk eN e5
      go_enter Tryz.func52, Tryz.ntmps52
      go_wp2_with fail
      refine c1.mono ?_
      rintro e w1 ⟨rfl, hw⟩
      obtain rfl := hw.symm
      clear hw c1
      go_wp2
      go_ret2
      exact mkp_none HE.out (Below.refl _ _) (by rw [HSM.out]; exact H.out)
  · have HE : Hid (R = (E, none, A)) := by show _ = _; rw [HR.out, if_neg e5, if_pos e0]
    have b1 : (E == 0) = false := beq_eq_false_iff_ne.2 e0
    have b1' : (E != 0) = true := by unfold bne; rw [b1]; rfl
    have H := hide h
    clear HR hR hE h hi hk e0 e5
    go_enter Tryz.func52, Tryz.ntmps52
    go_wp2_with fail
    refine c1.mono ?_
    rintro e w1 ⟨rfl, hw⟩
    obtain rfl := hw.symm
    clear hw c1
    go_wp2
    go_ret2
    exact mkp_none HE.out (Below.refl _ _) (by rw [HSM.out]; exact H.out)
set_option maxRecDepth 100000 in
set_option maxHeartbeats 4000000 in
theorem draise_any {k : ByteArray} {v : Int} {x : Nat} (h : Lies B w L) (hi : L[i]? = some (.ref r A)) (hj : L[j]? = some (.mkI 145 g r k v x)) (hij : i ≠ j) (hok : A.Ok) (hk : k.size ≤ 1000) (hx : x ≤ 1) (n : Int) (R : Int × (Int × Nat) × AD) (hR : A.raiseM k.data.toList v x n = R) :
    Calls Tryz.prog 53 #[.pointer (some ⟨g, 0, none⟩), .int .i64 n] w fun e w' => e = .returned (.int .i64 R.1) ∧ Lies B w' ((L.set i (.ref r R.2.2)).set j (.mkI 145 g r k R.2.1.1 R.2.1.2)) ∧ Below B w w' := by
  obtain ⟨T, hT⟩ : ∃ T : ByteArray, (⟨(slotL n).toArray⟩ : ByteArray) = T := ⟨_, rfl⟩
  have lT : T.data.toList = slotL n := by rw [← hT]
  have zT : T.size = 64 := by rw [← str_len, lT, slotL_length]
  obtain ⟨O, hO⟩ : ∃ O : Int, ((64 * x : Nat) : Int) = O := ⟨_, rfl⟩
  obtain ⟨X, hX⟩ : ∃ X : Int, (x : Int) = X := ⟨_, rfl⟩
  have hmul : wrap64 (64 * X) = O := by rw [← hX, ← hO]; unfold wrap64; omega
  have hmul2 : 64 * X = O := by rw [← hX, ← hO]; omega
  have hmul3 : IntKind.i64.wrap O = O := wrap_id (by omega) (by omega)
  obtain ⟨E1, A1, hE1⟩ : ∃ E a, A.write k.data.toList O (slotL n) = (E, a) := ⟨_, _, rfl⟩
  obtain ⟨E2, A2, hE2⟩ : ∃ E a, A1.sync k.data.toList = (E, a) := ⟨_, _, rfl⟩
  have ok1 : A1.Ok := by have := okw_write (d := k.data.toList) (t := slotL n) (a := O) hok; rw [hE1] at this; exact this
  obtain ⟨bn, hbn⟩ : ∃ b, numB n = b := ⟨_, rfl⟩
  have HR : Hid (R = if bn = false then (1, (v, x), A) else if n ≤ v then (0, (v, x), A) else if E1 ≠ 0 then (E1, (v, x), A1) else if E2 ≠ 0 then (E2, (v, x), A2) else (0, (n, 1 - x), A2)) := by
    show _ = _
    rw [← hR]
    unfold AD.raiseM
    simp only [hO, hE1, hE2, hbn]
  have HCS : Hid (∀ (W : World) (it : Item), Lies B W (L.set i it) → (W.cell? ⟨g, 0, none⟩ = some (.pointer (some ⟨r, 0, none⟩)) ∧ W.cell? ⟨g, 1, none⟩ = some (.string k) ∧ W.cell? ⟨g, 2, none⟩ = some (.int .i64 v) ∧ W.cell? ⟨g, 3, none⟩ = some (.int .i64 X))) := fun W it hl => by
    have hc := block_at (q := j) hl (by rw [List.getElem?_set_ne hij]; exact hj)
    refine ⟨?_, ?_, ?_, ?_⟩
    · rw [cell_of_row W g 0 _ _ (0, 0) hc]; rfl
    · rw [cell_of_row W g 1 _ _ (0, 0) hc]; rfl
    · rw [cell_of_row W g 2 _ _ (0, 0) hc]; rfl
    · rw [cell_of_row W g 3 _ _ (0, 0) hc, ← hX]; rfl
  have HFZ : Hid (∀ (W : World) (it : Item), Lies B W (L.set i it) → (W.frozen? ⟨g, 2, none⟩ = false ∧ W.frozen? ⟨g, 3, none⟩ = false)) := fun W it hl => by
    have hc := block_at (q := j) hl (by rw [List.getElem?_set_ne hij]; exact hj)
    exact ⟨frozen_of_row W g 2 _ _ hc, frozen_of_row W g 3 _ _ hc⟩
  have HSET : Hid (∀ (A' : AD) (W w9 : World), Lies B W (L.set i (.ref r A')) → (W.setCell ⟨g, 2, none⟩ (.int .i64 n)).setCell ⟨g, 3, none⟩ (.int .i64 (1 - X)) = w9 → Lies B w9 ((L.set i (.ref r A')).set j (.mkI 145 g r k n (1 - x))) ∧ Below B W w9) := fun A' W w9 hl h9 => by
    refine hl.setMk (x' := 1 - x) (by rw [List.getElem?_set_ne hij]; exact hj) ?_
    rw [← h9, show ((1 - x : Nat) : Int) = 1 - X by omega]
  have HSAME : Hid (∀ (A' : AD) (W : World), Lies B W (L.set i (.ref r A')) → Lies B W ((L.set i (.ref r A')).set j (.mkI 145 g r k v x))) := fun A' W hl => by
    rw [mset_same (L := L.set i (.ref r A')) (by rw [List.getElem?_set_ne hij]; exact hj)]; exact hl
  have h0 : Lies B w (L.set i (.ref r A)) := by rw [mset_same hi]; exact h
  obtain ⟨c0, c1, c2, c3⟩ := HCS.out w _ h0
  have C1 : Hid (∀ w1, Lies B w1 (L.set i (.ref r A)) → Calls Tryz.prog 58 #[.pointer (some ⟨r, 0, none⟩), .string k, .int .i64 O, .string T] w1 fun e w' => e = .returned (.int .i64 E1) ∧ Lies B w' (L.set i (.ref r A1)) ∧ Below B w1 w') := fun w1 h => by
    have := r_write h (kget hi _) hok k (by unfold maxLen; omega) O (by omega) T (by omega)
    rw [lT, hE1, List.set_set] at this
    exact this
  have C2 : Hid (∀ w1, Lies B w1 (L.set i (.ref r A1)) → Calls Tryz.prog 88 #[.pointer (some ⟨r, 0, none⟩), .string k] w1 fun e w' => e = .returned (.int .i64 E2) ∧ Lies B w' (L.set i (.ref r A2)) ∧ Below B w1 w') := fun w1 h => by
    have := r_sync h (kget hi _) ok1 k
    rw [hE2, List.set_set] at this
    exact this
  have CB : Hid (∀ w1, Calls Tryz.prog 89 #[.int .i64 n] w1 fun e w' => e = .returned (.string T) ∧ Below w1.heap.size w1 w') := fun w1 => by rw [← hT]; exact dslot_any n w1
  have H0 := hide h0
  have HX := hide hX
  have hsub : wrap64 (1 - X) = 1 - X := by unfold wrap64; omega
  by_cases g1 : n < -1
  · have d0 : decide (n < -1) = true := decide_eq_true g1
    have hb0 : numB n = false := by unfold numB; rw [decide_eq_false (by omega)]; rfl
    have HE : Hid (R = (1, (v, x), A)) := by show _ = _; rw [HR.out, ← hbn, hb0]; rfl
    clear h hi hj hij hok ok1 hk hx hR hT lT zT hO hE1 hE2 hbn h0 hX g1 hb0 c0 c1 c2 c3
    go_enter Tryz.func53, Tryz.ntmps53
    go_wp2
    go_ret
    rw [HE.out]
    exact ⟨rfl, HSAME.out _ _ H0.out, Below.refl _ _⟩
  have d0 : decide (n < -1) = false := decide_eq_false g1
  by_cases g2 : n > 281474976710655
  · have d2 : decide (n > 281474976710655) = true := decide_eq_true g2
    have hb0 : numB n = false := by unfold numB; rw [decide_eq_false (show ¬ n ≤ 281474976710655 by omega)]; simp
    have HE : Hid (R = (1, (v, x), A)) := by show _ = _; rw [HR.out, ← hbn, hb0]; rfl
    clear h hi hj hij hok ok1 hk hx hR hT lT zT hO hE1 hE2 hbn h0 hX g1 g2 hb0 c0 c1 c2 c3
    go_enter Tryz.func53, Tryz.ntmps53
    go_wp2
    go_ret
    rw [HE.out]
    exact ⟨rfl, HSAME.out _ _ H0.out, Below.refl _ _⟩
  have d2 : decide (n > 281474976710655) = false := decide_eq_false g2
  have hb0 : bn = true := by rw [← hbn]; exact numB_iff.2 ⟨by omega, by omega⟩
  subst hb0
  clear h hi hj hij hok ok1 hk hx hR hT lT zT hO hE1 hE2 hbn h0 hX g1 g2
  go_enter Tryz.func53, Tryz.ntmps53
  by_cases hle : n ≤ v
  · have HE : Hid (R = (0, (v, x), A)) := by show _ = _; rw [HR.out, if_neg (by simp), if_pos hle]
    have d1 : decide (n ≤ v) = true := decide_eq_true hle
    clear hle c0 c1 c3
    go_wp2
    go_ret
    rw [HE.out]
    exact ⟨rfl, HSAME.out _ _ H0.out, Below.refl _ _⟩
  have d1 : decide (n ≤ v) = false := decide_eq_false hle
  have HR1 : Hid (R = if E1 ≠ 0 then (E1, (v, x), A1) else if E2 ≠ 0 then (E2, (v, x), A2) else (0, (n, 1 - x), A2)) := by show _ = _; rw [HR.out, if_neg (by simp), if_neg hle]
  clear HR hle
  obtain ⟨V0, hV0⟩ : ∃ x, w.drew = x := ⟨_, rfl⟩
  have hv0 := H0.out.same (w' := w.drew) (Nat.le_refl _) (fun _ _ _ => rfl)
  rw [hV0] at hv0
  have HVB : Hid (Below B w V0) := by rw [← hV0]; exact (Below.refl _ _).drew
  have HVL := hide hv0
  have HS0 := hide (HCS.out _ _ hv0)
  have HV0 := hide hV0
  clear hv0 hV0 c0 c1 c3
  try go_wp2
  refine wp_region_noPanic ?_
  refine wp_region_held_drew (S := fun wx => wx.cell? ⟨g, 0, none⟩ = some (.pointer (some ⟨r, 0, none⟩)) ∧ wx.cell? ⟨g, 1, none⟩ = some (.string k) ∧ wx.cell? ⟨g, 2, none⟩ = some (.int .i64 v) ∧ wx.cell? ⟨g, 3, none⟩ = some (.int .i64 X)) (by kernel_rfl) (by rw [HV0.out]; exact HS0.out) (fun hHeld => ?_)
  rw [HV0.out] at hHeld ⊢
  refine tK 0 (some 18) (.pointer (some ⟨g, 0, none⟩)) rfl hHeld ?_
  simp only [Act.put, pA, pB, pC]
  refine tK 1 (some 19) (.pointer (some ⟨g, 0, none⟩)) rfl hHeld ?_
  simp only [Act.put, pA, pB, pC]
  refine tK 2 (some 20) (.pointer (some ⟨g, 0, none⟩)) rfl hHeld ?_
  simp only [Act.put, pA, pB, pC]
  refine tH 3 (some 21) (.pointer (some ⟨r, 0, none⟩)) rfl (fun w hw => by obtain ⟨hw0, hw1, hw2, hw3⟩ := hw; first | rfl | (go_simp; done) | (go_simp; rfl)) hHeld ?_
  simp only [Act.put, pA, pB, pC]
  refine tK 4 (some 22) (.pointer (some ⟨g, 0, none⟩)) rfl hHeld ?_
  simp only [Act.put, pA, pB, pC]
  refine tK 5 (some 23) (.pointer (some ⟨g, 0, none⟩)) rfl hHeld ?_
  simp only [Act.put, pA, pB, pC]
  refine tK 6 (some 24) (.pointer (some ⟨g, 1, none⟩)) rfl hHeld ?_
  simp only [Act.put, pA, pB, pC]
  refine tH 7 (some 25) (.string k) rfl (fun w hw => by obtain ⟨hw0, hw1, hw2, hw3⟩ := hw; first | rfl | (go_simp; done) | (go_simp; rfl)) hHeld ?_
  simp only [Act.put, pA, pB, pC]
  refine tK 8 (some 26) (.pointer (some ⟨g, 0, none⟩)) rfl hHeld ?_
  simp only [Act.put, pA, pB, pC]
  refine tK 9 (some 27) (.pointer (some ⟨g, 0, none⟩)) rfl hHeld ?_
  simp only [Act.put, pA, pB, pC]
  refine tK 10 (some 28) (.pointer (some ⟨g, 3, none⟩)) rfl hHeld ?_
  simp only [Act.put, pA, pB, pC]
  refine tH 11 (some 29) (.int .i64 X) rfl (fun w hw => by obtain ⟨hw0, hw1, hw2, hw3⟩ := hw; first | rfl | (go_simp; done) | (go_simp; rfl)) hHeld ?_
  simp only [Act.put, pA, pB, pC]
  refine tH 12 (some 30) (.int .i64 O) rfl (fun w hw => by skip; first | rfl | (go_simp; done) | (go_simp; rfl)) hHeld ?_
  simp only [Act.put, pA, pB, pC]
  refine tK 13 (some 31) (.int .i64 n) rfl hHeld ?_
  simp only [Act.put, pA, pB, pC]
  refine rdH 14 rfl (fun K hK => ?_)
  go_simp
  refine (CB.out _).mono ?_
  rintro e w2 ⟨rfl, hb2⟩
  have h2 := HVL.out.below hb2
  have HB2 := hide (HVB.out.trans (hb2.mono HVL.out.base))
  try go_wp2_with fail
  refine hK.out _ _ (HCS.out _ _ h2) (fun hH => ?_)
  clear hK K hHeld
  have hHeld := hH
  have H2 := hide h2
  clear hH h2 hb2 HVL HVB HS0 CB
  refine rdH 15 rfl (fun K hK => ?_)
  go_simp
  refine (C1.out _ H2.out).mono ?_
  rintro e w3 ⟨rfl, h3, hb3⟩
  have HB3 := hide (HB2.out.trans hb3)
  try go_wp2_with fail
  refine hK.out _ _ (HCS.out _ _ h3) (fun hH => ?_)
  clear hK K hHeld
  have hHeld := hH
  have H3 := hide h3
  clear hH h3 hb3 H2 HB2 C1
  refine tK 16 (some 5) (.int .i64 E1) rfl hHeld ?_
  simp only [Act.put, pA, pB, pC]
  refine ⟨by kernel_rfl, ?_⟩
  refine NoPanic.normal ?_
  clear hHeld
  by_cases e1 : E1 = 0
  · subst e1
    obtain ⟨V3, hV3⟩ : ∃ x, w3.drew = x := ⟨_, rfl⟩
    have hv3 := H3.out.same (w' := w3.drew) (Nat.le_refl _) (fun _ _ _ => rfl)
    rw [hV3] at hv3
    have HVB : Hid (Below B w V3) := by rw [← hV3]; exact HB3.out.drew
    have HVL := hide hv3
    have HS0 := hide (HCS.out _ _ hv3)
    have HV3 := hide hV3
    clear hv3 hV3
    try go_wp2
    refine wp_region_noPanic ?_
    refine wp_region_held_drew (S := fun wx => wx.cell? ⟨g, 0, none⟩ = some (.pointer (some ⟨r, 0, none⟩)) ∧ wx.cell? ⟨g, 1, none⟩ = some (.string k) ∧ wx.cell? ⟨g, 2, none⟩ = some (.int .i64 v) ∧ wx.cell? ⟨g, 3, none⟩ = some (.int .i64 X)) (by kernel_rfl) (by rw [HV3.out]; exact HS0.out) (fun hHeld => ?_)
    rw [HV3.out] at hHeld ⊢
    refine tK 0 (some 37) (.pointer (some ⟨g, 0, none⟩)) rfl hHeld ?_
    simp only [Act.put, pA, pB, pC]
    refine tK 1 (some 38) (.pointer (some ⟨g, 0, none⟩)) rfl hHeld ?_
    simp only [Act.put, pA, pB, pC]
    refine tK 2 (some 39) (.pointer (some ⟨g, 0, none⟩)) rfl hHeld ?_
    simp only [Act.put, pA, pB, pC]
    refine tH 3 (some 40) (.pointer (some ⟨r, 0, none⟩)) rfl (fun w hw => by obtain ⟨hw0, hw1, hw2, hw3⟩ := hw; first | rfl | (go_simp; done) | (go_simp; rfl)) hHeld ?_
    simp only [Act.put, pA, pB, pC]
    refine tK 4 (some 41) (.pointer (some ⟨g, 0, none⟩)) rfl hHeld ?_
    simp only [Act.put, pA, pB, pC]
    refine tK 5 (some 42) (.pointer (some ⟨g, 0, none⟩)) rfl hHeld ?_
    simp only [Act.put, pA, pB, pC]
    refine tK 6 (some 43) (.pointer (some ⟨g, 1, none⟩)) rfl hHeld ?_
    simp only [Act.put, pA, pB, pC]
    refine tH 7 (some 44) (.string k) rfl (fun w hw => by obtain ⟨hw0, hw1, hw2, hw3⟩ := hw; first | rfl | (go_simp; done) | (go_simp; rfl)) hHeld ?_
    simp only [Act.put, pA, pB, pC]
    refine rdH 8 rfl (fun K hK => ?_)
    go_simp
    refine (C2.out _ HVL.out).mono ?_
    rintro e w4 ⟨rfl, h4, hb4⟩
    have HB4 := hide (HVB.out.trans hb4)
    try go_wp2_with fail
    refine hK.out _ _ (HCS.out _ _ h4) (fun hH => ?_)
    clear hK K hHeld
    have hHeld := hH
    have H4 := hide h4
    clear hH h4 hb4 HVL HVB C2
    refine tK 9 (some 5) (.int .i64 E2) rfl hHeld ?_
    simp only [Act.put, pA, pB, pC]
    refine ⟨by kernel_rfl, ?_⟩
    refine NoPanic.normal ?_
    clear hHeld
    by_cases e2 : E2 = 0
    · subst e2
      have HE : Hid (R = (0, (n, 1 - x), A2)) := HR1.out
      obtain ⟨c0, c1, c2, c3⟩ := HCS.out _ _ H4.out
      obtain ⟨f2, f3⟩ := HFZ.out _ _ H4.out
      obtain ⟨w9, hw9⟩ : ∃ x, (w4.setCell ⟨g, 2, none⟩ (.int .i64 n)).setCell ⟨g, 3, none⟩ (.int .i64 (1 - X)) = x := ⟨_, rfl⟩
      obtain ⟨h9, hb9⟩ := HSET.out _ _ _ H4.out hw9
      have H9 := hide h9
      have HB9 := hide (HB4.out.trans hb9)
      clear h9 hb9 HR1
      go_wp2
      go_ret
      rw [HE.out]
      exact ⟨rfl, H9.out, HB9.out⟩
    · have HE : Hid (R = (E2, (v, x), A2)) := by show _ = _; rw [HR1.out, if_neg (by omega : ¬ (0 : Int) ≠ 0), if_pos e2]
      have b1 : (E2 == 0) = false := beq_eq_false_iff_ne.2 e2
      have b1' : (E2 != 0) = true := by unfold bne; rw [b1]; rfl
      clear e2 HR1
      go_wp2
      go_ret
      rw [HE.out]
      exact ⟨rfl, HSAME.out _ _ H4.out, HB4.out⟩
  · have HE : Hid (R = (E1, (v, x), A1)) := by show _ = _; rw [HR1.out, if_pos e1]
    have b1 : (E1 == 0) = false := beq_eq_false_iff_ne.2 e1
    have b1' : (E1 != 0) = true := by unfold bne; rw [b1]; rfl
    clear e1 HR1
    go_wp2
    go_ret
    rw [HE.out]
    exact ⟨rfl, HSAME.out _ _ H3.out, HB3.out⟩
theorem dvalue_any {T : TypeId} {p : Nat} {k : ByteArray} {v : Int} {x : Nat} (h : Lies B w L) (hj : L[j]? = some (.mkI T g p k v x)) : Calls Tryz.prog 62 #[.pointer (some ⟨g, 0, none⟩)] w fun e w' => e = .returned (.int .i64 v) ∧ w' = w := by
  have hc := block_at h hj
  have c2 : w.cell? ⟨g, 2, none⟩ = some (.int .i64 v) := by rw [cell_of_row w g 2 _ _ (0, 0) hc]; rfl
  clear hc h hj
  go_enter Tryz.func62, Tryz.ntmps62
  go_wp2
  go_ret
  exact ⟨rfl, rfl⟩
end
end Go.Proofs.YtlkimfmilccanaaGreat
