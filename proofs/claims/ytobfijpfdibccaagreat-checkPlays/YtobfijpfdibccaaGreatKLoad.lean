import Derived.Test.YtobfijpfdibccaaGreatKBytes2
import Derived.Test.YtobfijpfdibccaaGreatHeap
/-
  lay, Save, Load.
-/
namespace Go.Proofs.YtobfijpfdibccaaGreat
open Go.RowKit Go.Maps Go.WideMaps
set_option linter.unusedVariables false
theorem kget {α : Type} {L : List α} {i : Nat} {x : α} (h : L[i]? = some x) (y : α) : (L.set i y)[i]? = some y := List.getElem?_set_self (List.getElem?_eq_some_iff.1 h).1
section
variable {B : Nat} {w : World} {L : List Item} {i p : Nat} {A : AD}
set_option maxRecDepth 5000 in
set_option maxHeartbeats 4000000 in
theorem lay_any (h : Lies B w L) (hi : L[i]? = some (.disk p A)) (d : ByteArray) (hd : d.size ≤ maxLen) (t : ByteArray) (ht : t.size ≤ 140737488355328) :
    Calls Tryz.prog 37 #[.pointer (some ⟨p, 0, none⟩), .string d, .string t] w fun e w' => e = .returned (.int .i64 (A.lay d.data.toList t.data.toList).1) ∧ Lies B w' (L.set i (.disk p (A.lay d.data.toList t.data.toList).2)) ∧ Below B w w' := by
  obtain ⟨E1, hE1⟩ : ∃ E, (A.remove d.data.toList).1 = E := ⟨_, rfl⟩
  obtain ⟨A1, hA1⟩ : ∃ X, (A.remove d.data.toList).2 = X := ⟨_, rfl⟩
  obtain ⟨E2, hE2⟩ : ∃ E, (A1.write d.data.toList 0 t.data.toList).1 = E := ⟨_, rfl⟩
  obtain ⟨A2, hA2⟩ : ∃ X, (A1.write d.data.toList 0 t.data.toList).2 = X := ⟨_, rfl⟩
  obtain ⟨E3, hE3⟩ : ∃ E, (A2.sync d.data.toList).1 = E := ⟨_, rfl⟩
  obtain ⟨A3, hA3⟩ : ∃ X, (A2.sync d.data.toList).2 = X := ⟨_, rfl⟩
  obtain ⟨A4, hA4⟩ : ∃ X, (A3.remove d.data.toList).2 = X := ⟨_, rfl⟩
  have hlay : A.lay d.data.toList t.data.toList = (if E1 ≠ 0 ∧ E1 ≠ 5 then (E1, A1) else if E2 ≠ 0 then (E2, A2) else if E3 ≠ 0 then (E3, A4) else (0, A3)) := by
    have r1 : A.remove d.data.toList = (E1, A1) := by rw [← hE1, ← hA1]
    have r2 : A1.write d.data.toList 0 t.data.toList = (E2, A2) := by rw [← hE2, ← hA2]
    have r3 : A2.sync d.data.toList = (E3, A3) := by rw [← hE3, ← hA3]
    unfold AD.lay
    simp only [r1, r2, r3, hA4]
  obtain ⟨R, hR⟩ : ∃ R, A.lay d.data.toList t.data.toList = R := ⟨_, rfl⟩
  rw [hR] at hlay ⊢
  have HR := hide hlay
  have c1 := s_remove h hi d hd
  rw [hE1, hA1] at c1
  have C1 := hide c1
  have HI := hide hi
  have HD := hide hd
  have HT := hide ht
  have HE2 := hide hE2
  have HA2 := hide hA2
  have HE3 := hide hE3
  have HA3 := hide hA3
  have HA4 := hide hA4
  clear hR c1 h hi hd ht hE1 hA1 hE2 hA2 hE3 hA3 hA4 hlay
  by_cases h1 : E1 ≠ 0 ∧ E1 ≠ 5
  · have HE : Hid (R = (E1, A1)) := by show _ = _; rw [HR.out, if_pos h1]
    have b1 : (E1 == 0) = false := beq_eq_false_iff_ne.2 h1.1
    have b1' : (E1 != 0) = true := by unfold bne; rw [b1]; rfl
    have b2 : (E1 == 5) = false := beq_eq_false_iff_ne.2 h1.2
    have b2' : (E1 != 5) = true := by unfold bne; rw [b2]; rfl
    clear h1
    go_enter Tryz.func37, Tryz.ntmps37
    go_wp2_with fail
    refine C1.out.mono ?_
    rintro e w1 ⟨rfl, h1, hb1⟩
    have H1 := hide h1
    have HB1 := hide hb1
    clear h1 hb1
    go_wp2
    go_ret
    rw [HE.out]
    exact ⟨rfl, H1.out, HB1.out⟩
  have HR1 : Hid (R = if E2 ≠ 0 then (E2, A2) else if E3 ≠ 0 then (E3, A4) else (0, A3)) := by show _ = _; rw [HR.out, if_neg h1]
  clear HR
  have hor : E1 = 0 ∨ E1 = 5 := by omega
  have c2 : ∀ w1, Lies B w1 (L.set i (.disk p A1)) → Calls Tryz.prog 22 #[.pointer (some ⟨p, 0, none⟩), .string d, .int .i64 0, .string t] w1 fun e w' => e = .returned (.int .i64 E2) ∧ Lies B w' (L.set i (.disk p A2)) ∧ Below B w1 w' := fun w1 h => by
    have := s_write h (kget HI.out _) d HD.out 0 (by omega) t HT.out
    rw [HE2.out, HA2.out, List.set_set] at this
    exact this
  have c3 : ∀ w1, Lies B w1 (L.set i (.disk p A2)) → Calls Tryz.prog 64 #[.pointer (some ⟨p, 0, none⟩), .string d] w1 fun e w' => e = .returned (.int .i64 E3) ∧ Lies B w' (L.set i (.disk p A3)) ∧ Below B w1 w' := fun w1 h => by
    have := s_sync h (kget HI.out _) d HD.out
    rw [HE3.out, HA3.out, List.set_set] at this
    exact this
  have c4 : ∀ w1, Lies B w1 (L.set i (.disk p A3)) → Calls Tryz.prog 63 #[.pointer (some ⟨p, 0, none⟩), .string d] w1 fun e w' => (∃ x, e = .returned (.int .i64 x)) ∧ Lies B w' (L.set i (.disk p A4)) ∧ Below B w1 w' := fun w1 h => by
    have := s_remove h (kget HI.out _) d HD.out
    rw [HA4.out, List.set_set] at this
    exact this.mono (fun e w' ⟨a, b, c⟩ => ⟨⟨_, a⟩, b, c⟩)
  have C2 := hide c2
  have C3 := hide c3
  have C4 := hide c4
  clear c2 c3 c4 h1 HE2 HA2 HE3 HA3 HA4 HT HD HI
  rcases hor with hor | hor <;> subst hor
  all_goals
  · go_enter Tryz.func37, Tryz.ntmps37
    go_wp2_with fail
    refine C1.out.mono ?_
    rintro e w1 ⟨rfl, h1, hb1⟩
    have H1 := hide h1
    have HB1 := hide hb1
    clear h1 hb1 C1
    go_wp2_with fail
    refine (C2.out _ H1.out).mono ?_
    rintro e w2 ⟨rfl, h2, hb2⟩
    have H2 := hide h2
    have HB2 := hide (HB1.out.trans hb2)
    clear h2 hb2 C2 H1 HB1
    by_cases e2 : E2 = 0
    · subst e2
      go_wp2_with fail
      refine (C3.out _ H2.out).mono ?_
      rintro e w3 ⟨rfl, h3, hb3⟩
      have H3 := hide h3
      have HB3 := hide (HB2.out.trans hb3)
      clear h3 hb3 C3 H2 HB2
      by_cases e3 : E3 = 0
      · subst e3
        have HE : Hid (R = (0, A3)) := HR1.out
        go_wp2
        go_ret
        rw [HE.out]
        exact ⟨rfl, H3.out, HB3.out⟩
      · have HE : Hid (R = (E3, A4)) := by
          show _ = _
          rw [HR1.out, if_neg (by omega : ¬ (0 : Int) ≠ 0), if_pos e3]
        have b1 : (E3 == 0) = false := beq_eq_false_iff_ne.2 e3
        have b1' : (E3 != 0) = true := by unfold bne; rw [b1]; rfl
        clear e3
        go_wp2_with fail
        refine (C4.out _ H3.out).mono ?_
        rintro e w4 ⟨⟨x, rfl⟩, h4, hb4⟩
        have H4 := hide h4
        have HB4 := hide (HB3.out.trans hb4)
        clear h4 hb4 C4 H3 HB3
        go_wp2
        go_ret
        rw [HE.out]
        exact ⟨rfl, H4.out, HB4.out⟩
    · have HE : Hid (R = (E2, A2)) := by show _ = _; rw [HR1.out, if_pos e2]
      have b1 : (E2 == 0) = false := beq_eq_false_iff_ne.2 e2
      have b1' : (E2 != 0) = true := by unfold bne; rw [b1]; rfl
      clear e2
      go_wp2
      go_ret
      rw [HE.out]
      exact ⟨rfl, H2.out, HB2.out⟩
end
end Go.Proofs.YtobfijpfdibccaaGreat
/-
  Save, Load.
-/
namespace Go.Proofs.YtobfijpfdibccaaGreat
open Go.RowKit Go.Maps Go.WideMaps
set_option linter.unusedVariables false
theorem kset_same {α : Type} {L : List α} {i : Nat} {x : α} (h : L[i]? = some x) : L.set i x = L := by
  apply List.ext_getElem?
  intro j
  by_cases e : i = j
  · subst e; rw [kget h, h]
  · rw [List.getElem?_set_ne e]
theorem kname_size {k : ByteArray} (h : knameOk k.data.toList = true) : k.size ≤ 28 := by
  rw [knameOk_eq, Bool.and_eq_true, Bool.and_eq_true, decide_eq_true_iff, decide_eq_true_iff, str_len] at h
  exact h.1.2
section
variable {B : Nat} {w : World} {L : List Item} {i p : Nat} {A : AD}
set_option maxRecDepth 5000 in
set_option maxHeartbeats 4000000 in
theorem save_any (h : Lies B w L) (hi : L[i]? = some (.disk p A)) (k s : ByteArray) :
    Calls Tryz.prog 9 #[.pointer (some ⟨p, 0, none⟩), .string k, .string s] w fun e w' => e = .returned (.int .i64 (A.save k.data.toList s.data.toList).1) ∧ Lies B w' (L.set i (.disk p (A.save k.data.toList s.data.toList).2)) ∧ Below B w w' := by
  obtain ⟨R, hR⟩ : ∃ R, A.save k.data.toList s.data.toList = R := ⟨_, rfl⟩
  have hRE := hR.symm
  unfold AD.save at hRE
  rw [str_len] at hRE
  rw [hR]
  have HR := hide hRE
  have HI := hide hi
  have H := hide h
  clear hR hRE h hi
  by_cases hk : knameOk k.data.toList = false
  · have HE : Hid (R = (1, A)) := by show _ = _; rw [HR.out, if_pos hk]
    have HK := hide hk
    clear hk HR
    go_enter Tryz.func9, Tryz.ntmps9
    go_wp2_with fail
    refine (kName_any k _).mono ?_
    rintro e w1 ⟨rfl, hw⟩
    obtain rfl := hw.symm
    clear hw
    rw [HK.out]
    go_wp2
    go_ret
    rw [HE.out]
    exact ⟨rfl, by rw [kset_same HI.out]; exact H.out, Below.refl _ _⟩
  have hkt : knameOk k.data.toList = true := by simpa using hk
  have HK := hide hkt
  by_cases hs : 1048448 < s.size
  · have HE : Hid (R = (3, A)) := by show _ = _; rw [HR.out, if_neg hk, if_pos hs]
    have hd : decide ((s.size : Int) > 1048448) = true := decide_eq_true (by omega)
    have hd' : decide ((1048448 : Int) < (s.size : Int)) = true := decide_eq_true (by omega)
    clear hk hkt hs HR
    go_enter Tryz.func9, Tryz.ntmps9
    go_wp2_with fail
    refine (kName_any k _).mono ?_
    rintro e w1 ⟨rfl, hw⟩
    obtain rfl := hw.symm
    clear hw
    rw [HK.out]
    go_wp2
    go_ret
    rw [HE.out]
    exact ⟨rfl, by rw [kset_same HI.out]; exact H.out, Below.refl _ _⟩
  have hd : decide ((s.size : Int) > 1048448) = false := decide_eq_false (by omega)
  have hd' : decide ((1048448 : Int) < (s.size : Int)) = false := decide_eq_false (by omega)
  obtain ⟨D, hD⟩ : ∃ D, k ++ (⟨#[46, 116, 109, 112]⟩ : ByteArray) = D := ⟨_, rfl⟩
  obtain ⟨T, hT⟩ : ∃ T : ByteArray, T = ⟨(pbytes s.data.toList).toArray⟩ := ⟨_, rfl⟩
  have lD : D.data.toList = k.data.toList ++ dot := by rw [← hD, k_app]; rfl
  have zk := kname_size hkt
  have zD : D.size ≤ 32 := by rw [← hD, ByteArray.size_append]; show k.size + 4 ≤ 32; omega
  have lT : T.data.toList = pbytes s.data.toList := by rw [hT]
  have zT : T.size ≤ 1048576 := by rw [← str_len, lT, pbytes_length, str_len]; omega
  have ha : ∀ w : World, (Op.stringOp .add k ⟨#[46, 116, 109, 112]⟩).run Tryz.prog w = .ok (.string D) w := fun w => k_add w _ _ D hD (by show k.size + 4 ≤ _; omega)
  obtain ⟨E1, hE1⟩ : ∃ E, (A.lay D.data.toList T.data.toList).1 = E := ⟨_, rfl⟩
  obtain ⟨A1, hA1⟩ : ∃ X, (A.lay D.data.toList T.data.toList).2 = X := ⟨_, rfl⟩
  obtain ⟨E2, hE2⟩ : ∃ E, (A1.rename D.data.toList k.data.toList).1 = E := ⟨_, rfl⟩
  obtain ⟨A2, hA2⟩ : ∃ X, (A1.rename D.data.toList k.data.toList).2 = X := ⟨_, rfl⟩
  have HR1 : Hid (R = if E1 ≠ 0 then (E1, A1) else (E2, A2)) := by
    show _ = _
    have r1 : A.lay D.data.toList T.data.toList = (E1, A1) := by rw [← hE1, ← hA1]
    have r2 : A1.rename D.data.toList k.data.toList = (E2, A2) := by rw [← hE2, ← hA2]
    rw [HR.out, if_neg hk, if_neg hs, ← lD, ← lT, r1]
    show (if E1 ≠ 0 then (E1, A1) else A1.rename D.data.toList k.data.toList) = _
    rw [r2]
  have c1 : ∀ w : World, Calls Tryz.prog 38 #[.string s] w fun e w' => e = .returned (.string T) ∧ Below w.heap.size w w' := fun w => by rw [hT]; exact bytesOf_any s (by omega) w
  have c2 : ∀ w1, Lies B w1 L → Calls Tryz.prog 37 #[.pointer (some ⟨p, 0, none⟩), .string D, .string T] w1 fun e w' => e = .returned (.int .i64 E1) ∧ Lies B w' (L.set i (.disk p A1)) ∧ Below B w1 w' := fun w1 h => by
    have := lay_any h HI.out D (by unfold maxLen; omega) T (by omega)
    rw [hE1, hA1] at this
    exact this
  have c3 : ∀ w1, Lies B w1 (L.set i (.disk p A1)) → Calls Tryz.prog 39 #[.pointer (some ⟨p, 0, none⟩), .string D, .string k] w1 fun e w' => e = .returned (.int .i64 E2) ∧ Lies B w' (L.set i (.disk p A2)) ∧ Below B w1 w' := fun w1 h => by
    have := s_rename h (kget HI.out _) D (by unfold maxLen; omega) k (by unfold maxLen; omega)
    rw [hE2, hA2, List.set_set] at this
    exact this
  have C1 := hide c1
  have C2 := hide c2
  have C3 := hide c3
  clear c1 c2 c3 hE1 hA1 hE2 hA2 hD hT lD zk zD lT zT hk hkt hs HR HI
  go_enter Tryz.func9, Tryz.ntmps9
  go_wp2_with fail
  refine (kName_any k _).mono ?_
  rintro e w1 ⟨rfl, hw⟩
  obtain rfl := hw.symm
  clear hw
  rw [HK.out]
  go_wp2_with fail
  refine (C1.out _).mono ?_
  rintro e w2 ⟨rfl, hb2⟩
  have H2 := hide (H.out.below hb2)
  have HB2 := hide (hb2.mono H.out.base)
  clear hb2 H C1
  go_wp2_with fail
  refine (C2.out _ H2.out).mono ?_
  rintro e w3 ⟨rfl, h3, hb3⟩
  have H3 := hide h3
  have HB3 := hide (HB2.out.trans hb3)
  clear h3 hb3 H2 HB2 C2
  by_cases e1 : E1 = 0
  · subst e1
    have HE : Hid (R = (E2, A2)) := HR1.out
    go_wp2_with fail
    refine (C3.out _ H3.out).mono ?_
    rintro e w4 ⟨rfl, h4, hb4⟩
    have H4 := hide h4
    have HB4 := hide (HB3.out.trans hb4)
    clear h4 hb4 H3 HB3 C3
    go_wp2
    go_ret
    rw [HE.out]
    exact ⟨rfl, H4.out, HB4.out⟩
  · have HE : Hid (R = (E1, A1)) := by show _ = _; rw [HR1.out, if_pos e1]
    have b1 : (E1 == 0) = false := beq_eq_false_iff_ne.2 e1
    have b1' : (E1 != 0) = true := by unfold bne; rw [b1]; rfl
    clear e1
    go_wp2
    go_ret
    rw [HE.out]
    exact ⟨rfl, H3.out, HB3.out⟩
set_option maxRecDepth 5000 in
set_option maxHeartbeats 4000000 in
theorem load_any (h : Lies B w L) (hi : L[i]? = some (.disk p A)) (k : ByteArray) :
    Calls Tryz.prog 14 #[.pointer (some ⟨p, 0, none⟩), .string k] w fun e w' => e = .returned (.tuple #[.string ⟨(A.load k.data.toList).1.toArray⟩, .int .i64 (A.load k.data.toList).2]) ∧ Lies B w' L ∧ Below B w w' := by
  obtain ⟨R, hR⟩ : ∃ R, A.load k.data.toList = R := ⟨_, rfl⟩
  have hRE := hR.symm
  unfold AD.load at hRE
  rw [hR]
  have HR := hide hRE
  have HI := hide hi
  have H := hide h
  clear hR hRE h hi
  by_cases hk : knameOk k.data.toList = false
  · have HE : Hid (R = ([], 1)) := by show _ = _; rw [HR.out, if_pos hk]
    have HK := hide hk
    clear hk HR
    go_enter Tryz.func14, Tryz.ntmps14
    go_wp2_with fail
    refine (kName_any k _).mono ?_
    rintro e w1 ⟨rfl, hw⟩
    obtain rfl := hw.symm
    clear hw
    rw [HK.out]
    go_wp2
    go_ret2
    rw [HE.out]
    exact ⟨rfl, H.out, Below.refl _ _⟩
  have hkt : knameOk k.data.toList = true := by simpa using hk
  have HK := hide hkt
  have zk := kname_size hkt
  obtain ⟨T, hT⟩ : ∃ T : ByteArray, T = ⟨(A.read k.data.toList 0 1048576).1.toArray⟩ := ⟨_, rfl⟩
  have lT : (A.read k.data.toList 0 1048576).1 = T.data.toList := by rw [hT]
  have zT : T.size ≤ 1048576 := by
    rw [← str_len, ← lT]
    unfold AD.read
    split
    · simp
    · split
      · simp
      · split
        · simp
        · simp only [List.length_take]
          exact Nat.min_le_left _ _
  obtain ⟨E1, hE1⟩ : ∃ E, (A.read k.data.toList 0 1048576).2 = E := ⟨_, rfl⟩
  have c1 := s_read H.out HI.out k (by unfold maxLen; omega) 0 1048576
  rw [← hT, hE1] at c1
  have HR1 := HR.out
  rw [if_neg hk, hE1, lT] at HR1
  have HR2 := hide HR1
  have C1 := hide c1
  have c2 := payloadOf_any T zT
  have C2 := hide c2
  clear HR1 HR c1 c2 hE1 lT hT zT hk hkt zk HI H
  go_enter Tryz.func14, Tryz.ntmps14
  go_wp2_with fail
  refine (kName_any k _).mono ?_
  rintro e w1 ⟨rfl, hw⟩
  obtain rfl := hw.symm
  clear hw
  rw [HK.out]
  go_wp2_with fail
  refine C1.out.mono ?_
  rintro e w2 ⟨rfl, h2, hb2⟩
  have H2 := hide h2
  have HB2 := hide hb2
  clear h2 hb2 C1
  by_cases e1 : E1 = 0
  · subst e1
    have HR3 : Hid (R = match wholeP T.data.toList with | some p => (p, 0) | none => ([], 70)) := HR2.out
    clear HR2
    go_wp2_with fail
    refine (C2.out _).mono ?_
    rintro e w3 ⟨rfl, hb3⟩
    have H3 := hide (H2.out.below hb3)
    have HB3 := hide (HB2.out.trans (hb3.mono H2.out.base))
    clear hb3 H2 HB2 C2
    cases hw : wholeP T.data.toList with
    | none =>
      have HE : Hid (R = ([], 70)) := by show _ = _; rw [HR3.out, hw]
      clear hw HR3
      go_wp2
      go_ret2
      rw [HE.out]
      exact ⟨rfl, H3.out, HB3.out⟩
    | some q =>
      have HE : Hid (R = (q, 0)) := by show _ = _; rw [HR3.out, hw]
      clear hw HR3
      go_wp2
      go_ret2
      rw [HE.out]
      exact ⟨rfl, H3.out, HB3.out⟩
  · have HE : Hid (R = ([], E1)) := by show _ = _; rw [HR2.out, if_pos e1]
    have b1 : (E1 == 0) = false := beq_eq_false_iff_ne.2 e1
    have b1' : (E1 != 0) = true := by unfold bne; rw [b1]; rfl
    clear e1 HR2
    go_wp2
    go_ret2
    rw [HE.out]
    exact ⟨rfl, H2.out, HB2.out⟩
end
end Go.Proofs.YtobfijpfdibccaaGreat
