/-
  Open; Value, Raise (printed by gen_raise.py).
-/
import Derived.Test.YtlkimfmilccanaaGreatMkOpen
namespace Go.Proofs.YtlkimfmilccanaaGreat
open Go.RowKit Go.Maps Go.WideMaps
set_option linter.unusedVariables false
set_option linter.unusedSimpArgs false
theorem mset_same {L : List Item} {i : Nat} {x : Item} (h : L[i]? = some x) : L.set i x = L := by
  apply List.ext_getElem?
  intro j
  by_cases e : i = j
  · subst e; rw [kget h, h]
  · rw [List.getElem?_set_ne e]
section
variable {B : Nat} {w : World} {L : List Item} {i j p g : Nat} {A : AD}
set_option maxRecDepth 5000 in
set_option maxHeartbeats 4000000 in
theorem mopen_any (h : Lies B w L) (hi : L[i]? = some (.disk p A)) (k : ByteArray) (hk : k.size ≤ 1000) :
    Calls Tryz.prog 9 #[.pointer (some ⟨p, 0, none⟩), .string k] w fun e w' => MkPost B w L i (.disk p) 91 p k (A.openM k.data.toList) e w' := by
  have c1 := s_size h hi k (by unfold maxLen; omega)
  obtain ⟨N, E, hE⟩ : ∃ N E, A.size k.data.toList = (N, E) := ⟨_, _, rfl⟩
  rw [hE] at c1
  obtain ⟨R, hR⟩ : ∃ R, A.openM k.data.toList = R := ⟨_, rfl⟩
  have HR : Hid (R = if E = 5 then begA (A.beginM k.data.toList) else if E ≠ 0 then (E, none, A) else if N ≠ 128 then (190, none, A) else A.loadM k.data.toList) := by
    show _ = _
    rw [← hR]
    unfold AD.openM
    rw [hE]
  rw [hR]
  have HSM := hide (mset_same hi)
  by_cases e5 : E = 5
  · have hc := mbegin_any h hi k hk
    have HE : Hid (R = begA (A.beginM k.data.toList)) := by show _ = _; rw [HR.out, if_pos e5]
    rw [← HE.out] at hc
    have b : (E == 5) = true := beq_iff_eq.2 e5
    clear HR hR hE h hi hk HE
    subst e5
    go_enter Tryz.func9, Tryz.ntmps9
    go_wp2_with fail
    refine c1.mono ?_
    rintro e w1 ⟨rfl, hw⟩
    obtain rfl := hw.symm
    clear hw c1
    go_wp2_with fail
    refine hc.mono ?_
    rintro e w2 hp
    obtain ⟨E', o, A'⟩ := R
    obtain ⟨hb, hp2⟩ := hp
    cases o with
    | none =>
      obtain ⟨rfl, hl⟩ := hp2
      have HL := hide hl
      have HB := hide hb
      clear hl hb hc
      go_wp2
      go_ret2
      exact mkp_none rfl HB.out HL.out
    | some m =>
      obtain ⟨g, rfl, hl⟩ := hp2
      have HL := hide hl
      have HB := hide hb
      clear hl hb hc
      go_wp2
      go_ret2
      exact mkp_some (v := m.1) (x := m.2) rfl HB.out HL.out
  have b5 : (E == 5) = false := beq_eq_false_iff_ne.2 e5
  by_cases e0 : E = 0
  · subst e0
    by_cases eN : N = 128
    · subst eN
      have hc := mload_any h hi k hk hE
      have HE : Hid (R = A.loadM k.data.toList) := by show _ = _; rw [HR.out, if_neg e5, if_neg (by decide), if_neg (by decide)]
      rw [← HE.out] at hc
      clear HR hR hE h hi hk HE e5
      go_enter Tryz.func9, Tryz.ntmps9
      go_wp2_with fail
      refine c1.mono ?_
      rintro e w1 ⟨rfl, hw⟩
      obtain rfl := hw.symm
      clear hw c1
      go_wp2_with fail
      refine hc.mono ?_
      rintro e w2 hp
      obtain ⟨E', o, A'⟩ := R
      obtain ⟨hb, hp2⟩ := hp
      cases o with
      | none =>
        obtain ⟨rfl, hl⟩ := hp2
        have HL := hide hl
        have HB := hide hb
        clear hl hb hc
        go_wp2
        go_ret2
        exact mkp_none rfl HB.out HL.out
      | some m =>
        obtain ⟨g, rfl, hl⟩ := hp2
        have HL := hide hl
        have HB := hide hb
        clear hl hb hc
        go_wp2
        go_ret2
        exact mkp_some (v := m.1) (x := m.2) rfl HB.out HL.out
    · have HE : Hid (R = (190, none, A)) := by show _ = _; rw [HR.out, if_neg e5, if_neg (by decide), if_pos eN]
      have b1 : (N == 128) = false := beq_eq_false_iff_ne.2 eN
      have b1' : (N != 128) = true := by unfold bne; rw [b1]; rfl
      have H := hide h
      clear HR hR hE h hi hk eN e5
      go_enter Tryz.func9, Tryz.ntmps9
      go_wp2_with fail
      refine c1.mono ?_
      rintro e w1 ⟨rfl, hw⟩
      obtain rfl := hw.symm
      clear hw c1
      go_wp2
      go_ret2
      exact mkp_none HE.out (Below.refl _ _) (by rw [HSM.out]; exact H.out)
  · have HE : Hid (R = (E, none, A)) := by show _ = _; rw [HR.out, if_neg e5, if_pos e0]
    have b1 : (E == 0) = false := beq_eq_false_iff_ne.2 e0
    have b1' : (E != 0) = true := by unfold bne; rw [b1]; rfl
    have H := hide h
    clear HR hR hE h hi hk e0 e5
    go_enter Tryz.func9, Tryz.ntmps9
    go_wp2_with fail
    refine c1.mono ?_
    rintro e w1 ⟨rfl, hw⟩
    obtain rfl := hw.symm
    clear hw c1
    go_wp2
    go_ret2
    exact mkp_none HE.out (Below.refl _ _) (by rw [HSM.out]; exact H.out)
theorem mvalue_any {T : TypeId} {k : ByteArray} {v : Int} {x : Nat} (h : Lies B w L) (hj : L[j]? = some (.mkI T g p k v x)) : Calls Tryz.prog 13 #[.pointer (some ⟨g, 0, none⟩)] w fun e w' => e = .returned (.int .i64 v) ∧ w' = w := by
  have hc := block_at h hj
  have c2 : w.cell? ⟨g, 2, none⟩ = some (.int .i64 v) := by rw [cell_of_row w g 2 _ _ (0, 0) hc]; rfl
  clear hc h hj
  go_enter Tryz.func13, Tryz.ntmps13
  go_wp2
  go_ret
  exact ⟨rfl, rfl⟩
theorem Lies.setMk {T : TypeId} {k : ByteArray} {v v' : Int} {x x' : Nat} {w9 : World} (h : Lies B w L) (hj : L[j]? = some (.mkI T g p k v x)) (h9 : (w.setCell ⟨g, 2, none⟩ (.int .i64 v')).setCell ⟨g, 3, none⟩ (.int .i64 (x' : Int)) = w9) :
    Lies B w9 (L.set j (.mkI T g p k v' x')) ∧ Below B w w9 := by
  obtain ⟨S, ⟨hc, hS⟩, hB, _, hk⟩ := h.upd hj
  have e1 : (w.setCell ⟨g, 2, none⟩ (.int .i64 v')).heap[g]? = some (.cells #[.pointer (some ⟨p, 0, none⟩), .string k, .int .i64 v', .int .i64 (x : Int)] T (0, 0)) := by
    rw [heap_setCell_same w g 2 _ T _ hc]; rfl
  have e2 : w9.heap[g]? = some (.cells (mkCells p k v' x') T (0, 0)) := by
    rw [← h9, heap_setCell_same _ g 3 _ T _ e1]; rfl
  refine hk w9 _ S ⟨e2, hS⟩ ⟨?_, fun b hb => .inl hb⟩
  have t1 := Turn.setCell w ⟨g, 2, none⟩ (.int .i64 v')
  have t2 := Turn.setCell (w.setCell ⟨g, 2, none⟩ (.int .i64 v')) ⟨g, 3, none⟩ (.int .i64 (x' : Int))
  have t3 := t1.trans t2 (fun b hb => .inl hb)
  rw [h9] at t3
  exact ⟨t3.os, t3.tape, t3.output, t3.size, fun b hb hn => t3.block b hb (fun e => hn ((hS b).2 e))⟩
set_option maxRecDepth 100000 in
set_option maxHeartbeats 4000000 in
theorem mraise_any {k : ByteArray} {v : Int} {x : Nat} (h : Lies B w L) (hi : L[i]? = some (.disk p A)) (hj : L[j]? = some (.mkI 91 g p k v x)) (hij : i ≠ j) (hk : k.size ≤ 1000) (hx : x ≤ 1) (n : Int) (R : Int × (Int × Nat) × AD) (hR : A.raiseM k.data.toList v x n = R) :
    Calls Tryz.prog 11 #[.pointer (some ⟨g, 0, none⟩), .int .i64 n] w fun e w' => e = .returned (.int .i64 R.1) ∧ Lies B w' ((L.set i (.disk p R.2.2)).set j (.mkI 91 g p k R.2.1.1 R.2.1.2)) ∧ Below B w w' := by
  obtain ⟨T, hT⟩ : ∃ T : ByteArray, (⟨(slotL n).toArray⟩ : ByteArray) = T := ⟨_, rfl⟩
  have lT : T.data.toList = slotL n := by rw [← hT]
  have zT : T.size = 64 := by rw [← str_len, lT, slotL_length]
  obtain ⟨O, hO⟩ : ∃ O : Int, ((64 * x : Nat) : Int) = O := ⟨_, rfl⟩
  obtain ⟨X, hX⟩ : ∃ X : Int, (x : Int) = X := ⟨_, rfl⟩
  have hmul : wrap64 (X * 64) = O := by rw [← hX, ← hO]; unfold wrap64; omega
  have hmul2 : X * 64 = O := by rw [← hX, ← hO]; omega
  have hmul3 : IntKind.i64.wrap O = O := wrap_id (by omega) (by omega)
  obtain ⟨E1, A1, hE1⟩ : ∃ E a, A.write k.data.toList O (slotL n) = (E, a) := ⟨_, _, rfl⟩
  obtain ⟨E2, A2, hE2⟩ : ∃ E a, A1.sync k.data.toList = (E, a) := ⟨_, _, rfl⟩
  obtain ⟨bn, hbn⟩ : ∃ b, numB n = b := ⟨_, rfl⟩
  have HR : Hid (R = if bn = false then (1, (v, x), A) else if n ≤ v then (0, (v, x), A) else if E1 ≠ 0 then (E1, (v, x), A1) else if E2 ≠ 0 then (E2, (v, x), A2) else (0, (n, 1 - x), A2)) := by
    show _ = _
    rw [← hR]
    unfold AD.raiseM
    simp only [hO, hE1, hE2, hbn]
  have HCS : Hid (∀ (W : World) (it : Item), Lies B W (L.set i it) → (W.cell? ⟨g, 0, none⟩ = some (.pointer (some ⟨p, 0, none⟩)) ∧ W.cell? ⟨g, 1, none⟩ = some (.string k) ∧ W.cell? ⟨g, 2, none⟩ = some (.int .i64 v) ∧ W.cell? ⟨g, 3, none⟩ = some (.int .i64 X))) := fun W it hl => by
    have hc := block_at (q := j) hl (by rw [List.getElem?_set_ne hij]; exact hj)
    refine ⟨?_, ?_, ?_, ?_⟩
    · rw [cell_of_row W g 0 _ _ (0, 0) hc]; rfl
    · rw [cell_of_row W g 1 _ _ (0, 0) hc]; rfl
    · rw [cell_of_row W g 2 _ _ (0, 0) hc]; rfl
    · rw [cell_of_row W g 3 _ _ (0, 0) hc, ← hX]; rfl
  have HFZ : Hid (∀ (W : World) (it : Item), Lies B W (L.set i it) → (W.frozen? ⟨g, 2, none⟩ = false ∧ W.frozen? ⟨g, 3, none⟩ = false)) := fun W it hl => by
    have hc := block_at (q := j) hl (by rw [List.getElem?_set_ne hij]; exact hj)
    exact ⟨frozen_of_row W g 2 _ _ hc, frozen_of_row W g 3 _ _ hc⟩
  have HSET : Hid (∀ (A' : AD) (W w9 : World), Lies B W (L.set i (.disk p A')) → (W.setCell ⟨g, 2, none⟩ (.int .i64 n)).setCell ⟨g, 3, none⟩ (.int .i64 (1 - X)) = w9 → Lies B w9 ((L.set i (.disk p A')).set j (.mkI 91 g p k n (1 - x))) ∧ Below B W w9) := fun A' W w9 hl h9 => by
    refine hl.setMk (x' := 1 - x) (by rw [List.getElem?_set_ne hij]; exact hj) ?_
    rw [← h9, show ((1 - x : Nat) : Int) = 1 - X by omega]
  have HSAME : Hid (∀ (A' : AD) (W : World), Lies B W (L.set i (.disk p A')) → Lies B W ((L.set i (.disk p A')).set j (.mkI 91 g p k v x))) := fun A' W hl => by
    rw [mset_same (L := L.set i (.disk p A')) (by rw [List.getElem?_set_ne hij]; exact hj)]; exact hl
  have h0 : Lies B w (L.set i (.disk p A)) := by rw [mset_same hi]; exact h
  obtain ⟨c0, c1, c2, c3⟩ := HCS.out w _ h0
  have C1 : Hid (∀ w1, Lies B w1 (L.set i (.disk p A)) → Calls Tryz.prog 18 #[.pointer (some ⟨p, 0, none⟩), .string k, .int .i64 O, .string T] w1 fun e w' => e = .returned (.int .i64 E1) ∧ Lies B w' (L.set i (.disk p A1)) ∧ Below B w1 w') := fun w1 h => by
    have := s_write h (kget hi _) k (by unfold maxLen; omega) O (by omega) T (by omega)
    rw [lT, hE1, List.set_set] at this
    exact this
  have C2 : Hid (∀ w1, Lies B w1 (L.set i (.disk p A1)) → Calls Tryz.prog 39 #[.pointer (some ⟨p, 0, none⟩), .string k] w1 fun e w' => e = .returned (.int .i64 E2) ∧ Lies B w' (L.set i (.disk p A2)) ∧ Below B w1 w') := fun w1 h => by
    have := s_sync h (kget hi _) k (by unfold maxLen; omega)
    rw [hE2, List.set_set] at this
    exact this
  have CB : Hid (∀ w1, Calls Tryz.prog 38 #[.int .i64 n] w1 fun e w' => e = .returned (.string T) ∧ Below w1.heap.size w1 w') := fun w1 => by rw [← hT]; exact bytesOfM_any n w1
  have CN : Hid (∀ w : World, Calls Tryz.prog 37 #[.int .i64 n] w fun e w' => e = .returned (.bool bn) ∧ w' = w) := fun w => by rw [← hbn]; exact isNumber_any n w
  have CO : Hid (∀ w : World, Calls Tryz.prog 40 #[.int .i64 X] w fun e w' => e = .returned (.int .i64 (1 - X)) ∧ w' = w) := fun w => other_any X w (by omega)
  have H0 := hide h0
  have HX := hide hX
  clear h hi hj hij hk hx hR hT lT zT hO hE1 hE2 hbn h0 hX
  go_enter Tryz.func11, Tryz.ntmps11
  go_wp2_with fail
  refine (CN.out _).mono ?_
  rintro e w1 ⟨rfl, hw⟩
  obtain rfl := hw.symm
  clear hw CN
  cases bn with
  | false =>
    have HE : Hid (R = (1, (v, x), A)) := HR.out
    clear c0 c1 c2 c3
    go_wp2
    go_ret
    rw [HE.out]
    exact ⟨rfl, HSAME.out _ _ H0.out, Below.refl _ _⟩
  | true =>
    by_cases hle : n ≤ v
    · have HE : Hid (R = (0, (v, x), A)) := by show _ = _; rw [HR.out, if_neg (by simp), if_pos hle]
      have d1 : decide (n ≤ v) = true := decide_eq_true hle
      clear hle c0 c1 c3
      go_wp2
      go_ret
      rw [HE.out]
      exact ⟨rfl, HSAME.out _ _ H0.out, Below.refl _ _⟩
    have d1 : decide (n ≤ v) = false := decide_eq_false hle
    have HR1 : Hid (R = if E1 ≠ 0 then (E1, (v, x), A1) else if E2 ≠ 0 then (E2, (v, x), A2) else (0, (n, 1 - x), A2)) := by show _ = _; rw [HR.out, if_neg (by simp), if_neg hle]
    clear HR hle
    obtain ⟨V0, hV0⟩ : ∃ x, w.drew = x := ⟨_, rfl⟩
    have hv0 := H0.out.same (w' := w.drew) (Nat.le_refl _) (fun _ _ _ => rfl)
    rw [hV0] at hv0
    have HVB : Hid (Below B w V0) := by rw [← hV0]; exact (Below.refl _ _).drew
    have HVL := hide hv0
    have HS0 := hide (HCS.out _ _ hv0)
    have HV0 := hide hV0
    clear hv0 hV0 c0 c1 c3
    try go_wp2
    refine wp_region_noPanic ?_
    refine wp_region_held_drew (S := fun wx => wx.cell? ⟨g, 0, none⟩ = some (.pointer (some ⟨p, 0, none⟩)) ∧ wx.cell? ⟨g, 1, none⟩ = some (.string k) ∧ wx.cell? ⟨g, 2, none⟩ = some (.int .i64 v) ∧ wx.cell? ⟨g, 3, none⟩ = some (.int .i64 X)) (by kernel_rfl) (by rw [HV0.out]; exact HS0.out) (fun hHeld => ?_)
    rw [HV0.out] at hHeld ⊢
    refine tK 0 (some 16) (.pointer (some ⟨g, 0, none⟩)) rfl hHeld ?_
    simp only [Act.put, pA, pB, pC]
    refine tK 1 (some 17) (.pointer (some ⟨g, 0, none⟩)) rfl hHeld ?_
    simp only [Act.put, pA, pB, pC]
    refine tK 2 (some 18) (.pointer (some ⟨g, 0, none⟩)) rfl hHeld ?_
    simp only [Act.put, pA, pB, pC]
    refine tH 3 (some 19) (.pointer (some ⟨p, 0, none⟩)) rfl (fun w hw => by obtain ⟨hw0, hw1, hw2, hw3⟩ := hw; first | rfl | (go_simp; done) | (go_simp; rfl)) hHeld ?_
    simp only [Act.put, pA, pB, pC]
    refine tK 4 (some 20) (.pointer (some ⟨g, 0, none⟩)) rfl hHeld ?_
    simp only [Act.put, pA, pB, pC]
    refine tK 5 (some 21) (.pointer (some ⟨g, 0, none⟩)) rfl hHeld ?_
    simp only [Act.put, pA, pB, pC]
    refine tK 6 (some 22) (.pointer (some ⟨g, 1, none⟩)) rfl hHeld ?_
    simp only [Act.put, pA, pB, pC]
    refine tH 7 (some 23) (.string k) rfl (fun w hw => by obtain ⟨hw0, hw1, hw2, hw3⟩ := hw; first | rfl | (go_simp; done) | (go_simp; rfl)) hHeld ?_
    simp only [Act.put, pA, pB, pC]
    refine tK 8 (some 24) (.pointer (some ⟨g, 0, none⟩)) rfl hHeld ?_
    simp only [Act.put, pA, pB, pC]
    refine tK 9 (some 25) (.pointer (some ⟨g, 0, none⟩)) rfl hHeld ?_
    simp only [Act.put, pA, pB, pC]
    refine tK 10 (some 26) (.pointer (some ⟨g, 3, none⟩)) rfl hHeld ?_
    simp only [Act.put, pA, pB, pC]
    refine tH 11 (some 27) (.int .i64 X) rfl (fun w hw => by obtain ⟨hw0, hw1, hw2, hw3⟩ := hw; first | rfl | (go_simp; done) | (go_simp; rfl)) hHeld ?_
    simp only [Act.put, pA, pB, pC]
    refine tH 12 (some 28) (.int .i64 O) rfl (fun w hw => by skip; first | rfl | (go_simp; done) | (go_simp; rfl)) hHeld ?_
    simp only [Act.put, pA, pB, pC]
    refine tK 13 (some 29) (.int .i64 n) rfl hHeld ?_
    simp only [Act.put, pA, pB, pC]
    refine rdH 14 rfl (fun K hK => ?_)
    go_simp
    refine (CB.out _).mono ?_
    rintro e w2 ⟨rfl, hb2⟩
    have h2 := HVL.out.below hb2
    have HB2 := hide (HVB.out.trans (hb2.mono HVL.out.base))
    try go_wp2_with fail
    refine hK.out _ _ (HCS.out _ _ h2) (fun hH => ?_)
    clear hK K hHeld
    have hHeld := hH
    have H2 := hide h2
    clear hH h2 hb2 HVL HVB HS0 CB
    refine rdH 15 rfl (fun K hK => ?_)
    go_simp
    refine (C1.out _ H2.out).mono ?_
    rintro e w3 ⟨rfl, h3, hb3⟩
    have HB3 := hide (HB2.out.trans hb3)
    try go_wp2_with fail
    refine hK.out _ _ (HCS.out _ _ h3) (fun hH => ?_)
    clear hK K hHeld
    have hHeld := hH
    have H3 := hide h3
    clear hH h3 hb3 H2 HB2 C1
    refine tK 16 (some 5) (.int .i64 E1) rfl hHeld ?_
    simp only [Act.put, pA, pB, pC]
    refine ⟨by kernel_rfl, ?_⟩
    refine NoPanic.normal ?_
    clear hHeld
    by_cases e1 : E1 = 0
    · subst e1
      obtain ⟨V3, hV3⟩ : ∃ x, w3.drew = x := ⟨_, rfl⟩
      have hv3 := H3.out.same (w' := w3.drew) (Nat.le_refl _) (fun _ _ _ => rfl)
      rw [hV3] at hv3
      have HVB : Hid (Below B w V3) := by rw [← hV3]; exact HB3.out.drew
      have HVL := hide hv3
      have HS0 := hide (HCS.out _ _ hv3)
      have HV3 := hide hV3
      clear hv3 hV3
      try go_wp2
      refine wp_region_noPanic ?_
      refine wp_region_held_drew (S := fun wx => wx.cell? ⟨g, 0, none⟩ = some (.pointer (some ⟨p, 0, none⟩)) ∧ wx.cell? ⟨g, 1, none⟩ = some (.string k) ∧ wx.cell? ⟨g, 2, none⟩ = some (.int .i64 v) ∧ wx.cell? ⟨g, 3, none⟩ = some (.int .i64 X)) (by kernel_rfl) (by rw [HV3.out]; exact HS0.out) (fun hHeld => ?_)
      rw [HV3.out] at hHeld ⊢
      refine tK 0 (some 35) (.pointer (some ⟨g, 0, none⟩)) rfl hHeld ?_
      simp only [Act.put, pA, pB, pC]
      refine tK 1 (some 36) (.pointer (some ⟨g, 0, none⟩)) rfl hHeld ?_
      simp only [Act.put, pA, pB, pC]
      refine tK 2 (some 37) (.pointer (some ⟨g, 0, none⟩)) rfl hHeld ?_
      simp only [Act.put, pA, pB, pC]
      refine tH 3 (some 38) (.pointer (some ⟨p, 0, none⟩)) rfl (fun w hw => by obtain ⟨hw0, hw1, hw2, hw3⟩ := hw; first | rfl | (go_simp; done) | (go_simp; rfl)) hHeld ?_
      simp only [Act.put, pA, pB, pC]
      refine tK 4 (some 39) (.pointer (some ⟨g, 0, none⟩)) rfl hHeld ?_
      simp only [Act.put, pA, pB, pC]
      refine tK 5 (some 40) (.pointer (some ⟨g, 0, none⟩)) rfl hHeld ?_
      simp only [Act.put, pA, pB, pC]
      refine tK 6 (some 41) (.pointer (some ⟨g, 1, none⟩)) rfl hHeld ?_
      simp only [Act.put, pA, pB, pC]
      refine tH 7 (some 42) (.string k) rfl (fun w hw => by obtain ⟨hw0, hw1, hw2, hw3⟩ := hw; first | rfl | (go_simp; done) | (go_simp; rfl)) hHeld ?_
      simp only [Act.put, pA, pB, pC]
      refine rdH 8 rfl (fun K hK => ?_)
      go_simp
      refine (C2.out _ HVL.out).mono ?_
      rintro e w4 ⟨rfl, h4, hb4⟩
      have HB4 := hide (HVB.out.trans hb4)
      try go_wp2_with fail
      refine hK.out _ _ (HCS.out _ _ h4) (fun hH => ?_)
      clear hK K hHeld
      have hHeld := hH
      have H4 := hide h4
      clear hH h4 hb4 HVL HVB C2
      refine tK 9 (some 6) (.int .i64 E2) rfl hHeld ?_
      simp only [Act.put, pA, pB, pC]
      refine ⟨by kernel_rfl, ?_⟩
      refine NoPanic.normal ?_
      clear hHeld
      by_cases e2 : E2 = 0
      · subst e2
        have HE : Hid (R = (0, (n, 1 - x), A2)) := HR1.out
        obtain ⟨c0, c1, c2, c3⟩ := HCS.out _ _ H4.out
        obtain ⟨f2, f3⟩ := HFZ.out _ _ H4.out
        obtain ⟨w9, hw9⟩ : ∃ x, (w4.setCell ⟨g, 2, none⟩ (.int .i64 n)).setCell ⟨g, 3, none⟩ (.int .i64 (1 - X)) = x := ⟨_, rfl⟩
        obtain ⟨h9, hb9⟩ := HSET.out _ _ _ H4.out hw9
        have H9 := hide h9
        have HB9 := hide (HB4.out.trans hb9)
        clear h9 hb9 HR1
        go_wp2_with fail
        refine (CO.out _).mono ?_
        rintro e w5 ⟨rfl, hw⟩
        obtain rfl := hw.symm
        clear hw
        go_wp2
        go_ret
        rw [HE.out]
        exact ⟨rfl, H9.out, HB9.out⟩
      · have HE : Hid (R = (E2, (v, x), A2)) := by show _ = _; rw [HR1.out, if_neg (by omega : ¬ (0 : Int) ≠ 0), if_pos e2]
        have b1 : (E2 == 0) = false := beq_eq_false_iff_ne.2 e2
        have b1' : (E2 != 0) = true := by unfold bne; rw [b1]; rfl
        clear e2 HR1
        go_wp2
        go_ret
        rw [HE.out]
        exact ⟨rfl, HSAME.out _ _ H4.out, HB4.out⟩
    · have HE : Hid (R = (E1, (v, x), A1)) := by show _ = _; rw [HR1.out, if_pos e1]
      have b1 : (E1 == 0) = false := beq_eq_false_iff_ne.2 e1
      have b1' : (E1 != 0) = true := by unfold bne; rw [b1]; rfl
      clear e1 HR1
      go_wp2
      go_ret
      rw [HE.out]
      exact ⟨rfl, HSAME.out _ _ H3.out, HB3.out⟩
end
end Go.Proofs.YtlkimfmilccanaaGreat
