/-
  The document's Save and Load.
-/
import Derived.Test.YtobfijpfdibccaaGreatKRef
import Derived.Test.YtobfijpfdibccaaGreatKKeep
namespace Go.Proofs.YtobfijpfdibccaaGreat
open Go.RowKit Go.Maps Go.WideMaps
set_option linter.unusedVariables false
theorem ok_pow {A : AD} {P : AP} (h : A.Ok) (hp : P.Ok) : AD.Ok { A with pow := P } := ⟨h.c0, h.c1, h.sorted, h.names, h.few, h.files, h.space, hp⟩
theorem ok_remove {A : AD} {d : Key} (h : A.Ok) : (A.remove d).2.Ok := by
  unfold AD.remove
  split
  · exact h
  split
  · exact h
  · have hl := fdel_length (fs := A.fs) (k := d)
    have h1 := fused_fdel_le (fs := A.fs) (k := d)
    have h2 := h.space
    have h3 := h.few
    exact ⟨h.c0, h.c1, fdel_sorted h.sorted, fun q hq => h.names q (List.mem_filter.1 hq).1, by show (fdel A.fs d).length ≤ 16; omega, fun q hq => h.files q (List.mem_filter.1 hq).1, by show (fused (fdel A.fs d) : Int) ≤ A.cap; omega, h.pow⟩
theorem ok_write {A : AD} {d t : Key} (h : A.Ok) (h0 : fget A.fs d = none) : (A.write d 0 t).2.Ok := by
  unfold AD.write
  split
  · exact h
  by_cases hf : A.fits d 0 t.length ≠ 0
  · rw [if_pos hf]; exact h
  rw [if_neg hf]
  split
  · exact ok_pow h (h.pow.count 1)
  rw [h0]
  have hz := fits_zero (A := A) (k := d) (a := 0) (n := (t.length : Int)) (by omega)
  have hfl : A.flen d = 0 := by unfold AD.flen; rw [h0]
  rw [hfl] at hz
  obtain ⟨hn, _, _, hm, hl, hc⟩ := hz
  have hl' := hl h0
  have hdk := fdel_of_none h0
  have hs : (AF.new.write 0 t).seen = t := new_seen
  have hmem : ∀ q ∈ fput A.fs d (AF.new.write 0 t), q = (d, AF.new.write 0 t) ∨ q ∈ A.fs := fun q hq => by
    unfold fput at hq
    rw [hdk] at hq
    exact mem_fins.1 hq
  have hok : (AF.new.write 0 t).Ok := AF.Ok.new.write (Nat.zero_le _) (by omega)
  refine ⟨h.c0, h.c1, fput_sorted h.sorted, fun q hq => ?_, ?_, fun q hq => ?_, ?_, h.pow.count 1⟩
  · rcases hmem q hq with rfl | hq
    · exact hn
    · exact h.names q hq
  · have := fput_length (fs := A.fs) (k := d) (F := AF.new.write 0 t)
    show (fput A.fs d (AF.new.write 0 t)).length ≤ 16
    omega
  · rcases hmem q hq with rfl | hq
    · exact hok
    · exact h.files q hq
  · show (fused (fput A.fs d (AF.new.write 0 t)) : Int) ≤ A.cap
    unfold fput
    rw [fused_fins, hdk]
    simp only [hs]
    omega
theorem ok_sync {A : AD} {d : Key} (h : A.Ok) : (A.sync d).2.Ok := by
  unfold AD.sync
  split
  · exact h
  cases hq : fget A.fs d with
  | none => exact h
  | some F =>
    simp only
    split
    · exact ok_pow h (h.pow.count 2)
    · have hF := h.files _ (fget_mem hq)
      have hu := fused_fset (F' := F.sync) (apart_of h.sorted) hq
      have hl : F.sync.seen.length = F.seen.length := rfl
      have hsp := h.space
      refine ⟨h.c0, h.c1, fset_sorted h.sorted, fun q hq' => ?_, by show (fset A.fs d F.sync).length ≤ 16; rw [fset_length]; exact h.few, fun q hq' => ?_, by show (fused (fset A.fs d F.sync) : Int) ≤ A.cap; omega, h.pow.count 2⟩
      · rcases fset_mem hq' with rfl | hq'
        · have := h.names (d, F) (fget_mem hq)
          exact this
        · exact h.names q hq'
      · rcases fset_mem hq' with rfl | hq'
        · exact AF.Ok.sync hF
        · exact h.files q hq'
theorem rem_none {A : AD} {d : Key} (ho : A.pow.off = false) (h : fget A.fs d = none) : A.remove d = (5, A) := by
  unfold AD.remove
  rw [if_neg (by rw [ho]; simp), h]
theorem rem_some {A : AD} {d : Key} (ho : A.pow.off = false) (h : (fget A.fs d).isSome = true) : (A.remove d).1 = 0 := by
  unfold AD.remove
  rw [if_neg (by rw [ho]; simp)]
  cases hq : fget A.fs d with
  | none => rw [hq] at h; cases h
  | some F => rfl
theorem save_lay {A : AD} {k p : Key} (hk : knameOk k = true) (hp : p.length ≤ 1048448) (ho : A.pow.off = false) {d t : Key} (hd : d = k ++ dot) (ht : t = pbytes p) {A1 A2 A3 A4 A5 : AD} {E2 E3 E5 : Int}
    (h1 : (A.remove d).2 = A1) (h2 : A1.write d 0 t = (E2, A2)) (h3 : A2.sync d = (E3, A3)) (h4 : (A3.remove d).2 = A4) (h5 : A3.rename d k = (E5, A5)) :
    A.save k p = (if E2 ≠ 0 then (E2, A2) else if E3 ≠ 0 then (E3, A4) else (E5, A5)) := by
  have hr : ¬ ((A.remove d).1 ≠ 0 ∧ (A.remove d).1 ≠ 5) := by
    cases hq : fget A.fs d with
    | none => rw [rem_none ho hq]; simp
    | some F => rw [rem_some ho (by rw [hq]; rfl)]; simp
  unfold AD.save AD.lay
  rw [if_neg (by rw [hk]; simp), if_neg (by omega), ← hd, ← ht, if_neg hr, h1, h2, h3, h4]
  by_cases e2 : E2 ≠ 0
  · rw [if_pos e2, if_pos e2, if_pos e2]
  · rw [if_neg e2, if_neg e2]
    by_cases e3 : E3 ≠ 0
    · rw [if_pos e3, if_pos e3, if_pos e3]
    · rw [if_neg e3, if_neg e3, if_neg (by simp)]
      simp only
      rw [h5]
theorem save_dead {A : AD} {k p : Key} (hk : knameOk k = true) (hp : p.length ≤ 1048448) (ho : A.pow.off = true) : A.save k p = (9, A) := by
  have hr : A.remove (k ++ dot) = (9, A) := by unfold AD.remove; rw [if_pos ho]
  unfold AD.save AD.lay
  rw [if_neg (by rw [hk]; simp), if_neg (by omega), hr, if_pos (by simp), if_pos (by simp)]
section
variable {B : Nat} {w : World} {L : List Item} {i r : Nat} {A : AD}
set_option maxRecDepth 5000 in
set_option maxHeartbeats 8000000 in
theorem rSave_any (h : Lies B w L) (hi : L[i]? = some (.ref r A)) (hok : A.Ok) (k s : ByteArray) (hkz : k.size ≤ maxLen) :
    Calls Tryz.prog 15 #[.pointer (some ⟨r, 0, none⟩), .string k, .string s] w fun e w' => e = .returned (.int .i64 (A.save k.data.toList s.data.toList).1) ∧ Lies B w' (L.set i (.ref r (A.save k.data.toList s.data.toList).2)) ∧ Below B w w' := by
  obtain ⟨R, hR⟩ : ∃ R, A.save k.data.toList s.data.toList = R := ⟨_, rfl⟩
  rw [hR]
  have HI := hide hi
  have H := hide h
  have HOK := hide hok
  have HN := hide (named_any k hkz)
  clear h hi hok hkz
  by_cases hk : knameOk k.data.toList = false
  · have HE : Hid (R = (1, A)) := by show _ = _; rw [← hR]; unfold AD.save; rw [if_pos hk]
    have HK := hide hk
    clear hk hR
    go_enter Tryz.func15, Tryz.ntmps15
    go_wp2_with fail
    refine (HN.out _).mono ?_
    rintro e w1 ⟨rfl, hw⟩
    obtain rfl := hw.symm
    clear hw
    rw [HK.out]
    go_wp2
    go_ret
    rw [HE.out]
    exact ⟨rfl, by rw [kset_same HI.out]; exact H.out, Below.refl _ _⟩
  have hkt : knameOk k.data.toList = true := by simpa using hk
  have HK := hide hkt
  by_cases hs : 1048448 < s.size
  · have HE : Hid (R = (3, A)) := by show _ = _; rw [← hR, save_long hkt (by rw [str_len]; exact hs)]
    have hd : decide ((s.size : Int) > 1048448) = true := decide_eq_true (by omega)
    have hd' : decide ((1048448 : Int) < (s.size : Int)) = true := decide_eq_true (by omega)
    clear hk hkt hs hR
    go_enter Tryz.func15, Tryz.ntmps15
    go_wp2_with fail
    refine (HN.out _).mono ?_
    rintro e w1 ⟨rfl, hw⟩
    obtain rfl := hw.symm
    clear hw
    rw [HK.out]
    go_wp2
    go_ret
    rw [HE.out]
    exact ⟨rfl, by rw [kset_same HI.out]; exact H.out, Below.refl _ _⟩
  have hd : decide ((s.size : Int) > 1048448) = false := decide_eq_false (by omega)
  have hd' : decide ((1048448 : Int) < (s.size : Int)) = false := decide_eq_false (by omega)
  have hsl : s.data.toList.length ≤ 1048448 := by rw [str_len]; omega
  have hoffc := r_off H.out HI.out
  obtain ⟨off, hoff⟩ : ∃ b, A.pow.off = b := ⟨_, rfl⟩
  rw [hoff] at hoffc
  have HOC := hide hoffc
  clear hoffc
  cases off with
  | true =>
    have HE : Hid (R = (9, A)) := by show _ = _; rw [← hR, save_dead hkt hsl hoff]
    clear hk hkt hs hR hoff hsl
    go_enter Tryz.func15, Tryz.ntmps15
    go_wp2_with fail
    refine (HN.out _).mono ?_
    rintro e w1 ⟨rfl, hw⟩
    obtain rfl := hw.symm
    clear hw
    rw [HK.out]
    go_wp2_with fail
    refine HOC.out.mono ?_
    rintro e w2 ⟨rfl, hw⟩
    obtain rfl := hw.symm
    clear hw
    go_wp2
    go_ret
    rw [HE.out]
    exact ⟨rfl, by rw [kset_same HI.out]; exact H.out, Below.refl _ _⟩
  | false =>
    obtain ⟨D, hD⟩ : ∃ D, k ++ (⟨#[46, 116, 109, 112]⟩ : ByteArray) = D := ⟨_, rfl⟩
    obtain ⟨T, hT⟩ : ∃ T : ByteArray, T = ⟨(pbytes s.data.toList).toArray⟩ := ⟨_, rfl⟩
    have lD : D.data.toList = k.data.toList ++ dot := by rw [← hD, k_app]; rfl
    have zk := kname_size hkt
    have zD : D.size ≤ 32 := by rw [← hD, ByteArray.size_append]; show k.size + 4 ≤ 32; omega
    have lT : T.data.toList = pbytes s.data.toList := by rw [hT]
    have zT : T.size ≤ 1048576 := by rw [← str_len, lT, pbytes_length, str_len]; omega
    have ha : ∀ w : World, (Op.stringOp .add k ⟨#[46, 116, 109, 112]⟩).run Tryz.prog w = .ok (.string D) w := fun w => k_add w _ _ D hD (by show k.size + 4 ≤ _; omega)
    obtain ⟨A1, hA1⟩ : ∃ X, (A.remove D.data.toList).2 = X := ⟨_, rfl⟩
    obtain ⟨E2, hE2⟩ : ∃ E, (A1.write D.data.toList 0 T.data.toList).1 = E := ⟨_, rfl⟩
    obtain ⟨A2, hA2⟩ : ∃ X, (A1.write D.data.toList 0 T.data.toList).2 = X := ⟨_, rfl⟩
    obtain ⟨E3, hE3⟩ : ∃ E, (A2.sync D.data.toList).1 = E := ⟨_, rfl⟩
    obtain ⟨A3, hA3⟩ : ∃ X, (A2.sync D.data.toList).2 = X := ⟨_, rfl⟩
    obtain ⟨A4, hA4⟩ : ∃ X, (A3.remove D.data.toList).2 = X := ⟨_, rfl⟩
    obtain ⟨E5, hE5⟩ : ∃ E, (A3.rename D.data.toList k.data.toList).1 = E := ⟨_, rfl⟩
    obtain ⟨A5, hA5⟩ : ∃ X, (A3.rename D.data.toList k.data.toList).2 = X := ⟨_, rfl⟩
    have HR1 : Hid (R = if E2 ≠ 0 then (E2, A2) else if E3 ≠ 0 then (E3, A4) else (E5, A5)) := by
      show _ = _
      rw [← hR]
      exact save_lay hkt hsl hoff lD lT hA1 (by rw [← hE2, ← hA2]) (by rw [← hE3, ← hA3]) hA4 (by rw [← hE5, ← hA5])
    have hgone : fget A1.fs D.data.toList = none := by
      rw [← hA1]
      refine rem_gone ?_
      cases hq : fget A.fs D.data.toList with
      | none => rw [rem_none hoff hq]; exact .inr rfl
      | some F => exact .inl (rem_some hoff (by rw [hq]; rfl))
    have ok1 : A1.Ok := by rw [← hA1]; exact ok_remove HOK.out
    have ok2 : A2.Ok := by rw [← hA2]; exact ok_write ok1 hgone
    have ok3 : A3.Ok := by rw [← hA3]; exact ok_sync ok2
    have c0 := fun w1 (h : Lies B w1 L) => has_any h HI.out HOK.out hoff D
    obtain ⟨hb, hhb⟩ : ∃ b, (fget A.fs D.data.toList).isSome = b := ⟨_, rfl⟩
    rw [hhb] at c0
    have HNR : Hid (hb = false → A1 = A) := fun e => by
      rw [e] at hhb
      have : fget A.fs D.data.toList = none := by
        cases hq : fget A.fs D.data.toList with
        | none => rfl
        | some F => rw [hq] at hhb; cases hhb
      rw [← hA1, rem_none hoff this]
    have c1 : ∀ w1, Lies B w1 L → Calls Tryz.prog 46 #[.pointer (some ⟨r, 0, none⟩), .string D] w1 fun e w' => (∃ x, e = .returned (.int .i64 x)) ∧ Lies B w' (L.set i (.ref r A1)) ∧ Below B w1 w' := fun w1 h => by
      have := r_remove h HI.out HOK.out D
      rw [hA1] at this
      exact this.mono (fun e w' ⟨a, b, c⟩ => ⟨⟨_, a⟩, b, c⟩)
    have cb : ∀ w : World, Calls Tryz.prog 47 #[.string s] w fun e w' => e = .returned (.string T) ∧ Below w.heap.size w w' := fun w => by rw [hT]; exact rBytes_any s (by omega) w
    have c2 : ∀ w1, Lies B w1 (L.set i (.ref r A1)) → Calls Tryz.prog 23 #[.pointer (some ⟨r, 0, none⟩), .string D, .int .i64 0, .string T] w1 fun e w' => e = .returned (.int .i64 E2) ∧ Lies B w' (L.set i (.ref r A2)) ∧ Below B w1 w' := fun w1 h => by
      have := r_write h (kget HI.out _) ok1 D (by unfold maxLen; omega) 0 (by omega) T (by omega)
      rw [hE2, hA2, List.set_set] at this
      exact this
    have c3 : ∀ w1, Lies B w1 (L.set i (.ref r A2)) → Calls Tryz.prog 48 #[.pointer (some ⟨r, 0, none⟩), .string D] w1 fun e w' => e = .returned (.int .i64 E3) ∧ Lies B w' (L.set i (.ref r A3)) ∧ Below B w1 w' := fun w1 h => by
      have := r_sync h (kget HI.out _) ok2 D
      rw [hE3, hA3, List.set_set] at this
      exact this
    have c4 : ∀ w1, Lies B w1 (L.set i (.ref r A3)) → Calls Tryz.prog 46 #[.pointer (some ⟨r, 0, none⟩), .string D] w1 fun e w' => (∃ x, e = .returned (.int .i64 x)) ∧ Lies B w' (L.set i (.ref r A4)) ∧ Below B w1 w' := fun w1 h => by
      have := r_remove h (kget HI.out _) ok3 D
      rw [hA4, List.set_set] at this
      exact this.mono (fun e w' ⟨a, b, c⟩ => ⟨⟨_, a⟩, b, c⟩)
    have c5 : ∀ w1, Lies B w1 (L.set i (.ref r A3)) → Calls Tryz.prog 49 #[.pointer (some ⟨r, 0, none⟩), .string D, .string k] w1 fun e w' => e = .returned (.int .i64 E5) ∧ Lies B w' (L.set i (.ref r A5)) ∧ Below B w1 w' := fun w1 h => by
      have := r_rename h (kget HI.out _) ok3 D k (by unfold maxLen; omega)
      rw [hE5, hA5, List.set_set] at this
      exact this
    have C0 := hide c0
    have C1 := hide c1
    have CB := hide cb
    have C2 := hide c2
    have C3 := hide c3
    have C4 := hide c4
    have C5 := hide c5
    clear c0 c1 c2 c3 c4 c5 cb ok1 ok2 ok3 hgone hA1 hE2 hA2 hE3 hA3 hA4 hE5 hA5 hD hT lD zk zD lT zT hk hkt hs hsl hR hoff hhb
    go_enter Tryz.func15, Tryz.ntmps15
    go_wp2_with fail
    refine (HN.out _).mono ?_
    rintro e w1 ⟨rfl, hw⟩
    obtain rfl := hw.symm
    clear hw
    rw [HK.out]
    go_wp2_with fail
    refine HOC.out.mono ?_
    rintro e w2 ⟨rfl, hw⟩
    obtain rfl := hw.symm
    clear hw
    go_wp2_with fail
    refine (C0.out _ H.out).mono ?_
    rintro e w3 ⟨rfl, h3, hb3⟩
    have H3 := hide h3
    have HB3 := hide hb3
    clear h3 hb3 H C0 HOC
    cases hb with
    | true =>
      go_wp2_with fail
      refine (C1.out _ H3.out).mono ?_
      rintro e w4 ⟨⟨x4, rfl⟩, h4, hb4⟩
      have H4 := hide h4
      have HB4 := hide (HB3.out.trans hb4)
      clear h4 hb4 H3 HB3 C1
      go_wp2_with fail
      refine (CB.out _).mono ?_
      rintro e w5 ⟨rfl, hb5⟩
      have H5 := hide (H4.out.below hb5)
      have HB5 := hide (HB4.out.trans (hb5.mono H4.out.base))
      clear hb5 H4 HB4 CB
      go_wp2_with fail
      refine (C2.out _ H5.out).mono ?_
      rintro e w6 ⟨rfl, h6, hb6⟩
      have H6 := hide h6
      have HB6 := hide (HB5.out.trans hb6)
      clear h6 hb6 H5 HB5 C2
      by_cases e2 : E2 = 0
      · subst e2
        have HR2 : Hid (R = if E3 ≠ 0 then (E3, A4) else (E5, A5)) := HR1.out
        go_wp2_with fail
        refine (C3.out _ H6.out).mono ?_
        rintro e w7 ⟨rfl, h7, hb7⟩
        have H7 := hide h7
        have HB7 := hide (HB6.out.trans hb7)
        clear h7 hb7 H6 HB6 C3 HR1
        by_cases e3 : E3 = 0
        · subst e3
          have HE : Hid (R = (E5, A5)) := HR2.out
          go_wp2_with fail
          refine (C5.out _ H7.out).mono ?_
          rintro e w8 ⟨rfl, h8, hb8⟩
          have H8 := hide h8
          have HB8 := hide (HB7.out.trans hb8)
          clear h8 hb8 H7 HB7 C5 C4 HR2
          go_wp2
          go_ret
          rw [HE.out]
          exact ⟨rfl, H8.out, HB8.out⟩
        · have HE : Hid (R = (E3, A4)) := by show _ = _; rw [HR2.out, if_pos e3]
          have b1 : (E3 == 0) = false := beq_eq_false_iff_ne.2 e3
          have b1' : (E3 != 0) = true := by unfold bne; rw [b1]; rfl
          clear e3
          go_wp2_with fail
          refine (C4.out _ H7.out).mono ?_
          rintro e w8 ⟨⟨x8, rfl⟩, h8, hb8⟩
          have H8 := hide h8
          have HB8 := hide (HB7.out.trans hb8)
          clear h8 hb8 H7 HB7 C5 C4 HR2
          go_wp2
          go_ret
          rw [HE.out]
          exact ⟨rfl, H8.out, HB8.out⟩
      · have HE : Hid (R = (E2, A2)) := by show _ = _; rw [HR1.out, if_pos e2]
        have b1 : (E2 == 0) = false := beq_eq_false_iff_ne.2 e2
        have b1' : (E2 != 0) = true := by unfold bne; rw [b1]; rfl
        clear e2
        go_wp2
        go_ret
        rw [HE.out]
        exact ⟨rfl, H6.out, HB6.out⟩
    | false =>
      have HA1 := HNR.out rfl
      have H4 : Hid (Lies B w3 (L.set i (.ref r A1))) := by rw [HA1, kset_same HI.out]; exact H3.out
      have HB4 := HB3
      clear H3 HB3 C1 HA1
      go_wp2_with fail
      refine (CB.out _).mono ?_
      rintro e w5 ⟨rfl, hb5⟩
      have H5 := hide (H4.out.below hb5)
      have HB5 := hide (HB4.out.trans (hb5.mono H4.out.base))
      clear hb5 H4 HB4 CB
      go_wp2_with fail
      refine (C2.out _ H5.out).mono ?_
      rintro e w6 ⟨rfl, h6, hb6⟩
      have H6 := hide h6
      have HB6 := hide (HB5.out.trans hb6)
      clear h6 hb6 H5 HB5 C2
      by_cases e2 : E2 = 0
      · subst e2
        have HR2 : Hid (R = if E3 ≠ 0 then (E3, A4) else (E5, A5)) := HR1.out
        go_wp2_with fail
        refine (C3.out _ H6.out).mono ?_
        rintro e w7 ⟨rfl, h7, hb7⟩
        have H7 := hide h7
        have HB7 := hide (HB6.out.trans hb7)
        clear h7 hb7 H6 HB6 C3 HR1
        by_cases e3 : E3 = 0
        · subst e3
          have HE : Hid (R = (E5, A5)) := HR2.out
          go_wp2_with fail
          refine (C5.out _ H7.out).mono ?_
          rintro e w8 ⟨rfl, h8, hb8⟩
          have H8 := hide h8
          have HB8 := hide (HB7.out.trans hb8)
          clear h8 hb8 H7 HB7 C5 C4 HR2
          go_wp2
          go_ret
          rw [HE.out]
          exact ⟨rfl, H8.out, HB8.out⟩
        · have HE : Hid (R = (E3, A4)) := by show _ = _; rw [HR2.out, if_pos e3]
          have b1 : (E3 == 0) = false := beq_eq_false_iff_ne.2 e3
          have b1' : (E3 != 0) = true := by unfold bne; rw [b1]; rfl
          clear e3
          go_wp2_with fail
          refine (C4.out _ H7.out).mono ?_
          rintro e w8 ⟨⟨x8, rfl⟩, h8, hb8⟩
          have H8 := hide h8
          have HB8 := hide (HB7.out.trans hb8)
          clear h8 hb8 H7 HB7 C5 C4 HR2
          go_wp2
          go_ret
          rw [HE.out]
          exact ⟨rfl, H8.out, HB8.out⟩
      · have HE : Hid (R = (E2, A2)) := by show _ = _; rw [HR1.out, if_pos e2]
        have b1 : (E2 == 0) = false := beq_eq_false_iff_ne.2 e2
        have b1' : (E2 != 0) = true := by unfold bne; rw [b1]; rfl
        clear e2
        go_wp2
        go_ret
        rw [HE.out]
        exact ⟨rfl, H6.out, HB6.out⟩
set_option maxRecDepth 5000 in
set_option maxHeartbeats 4000000 in
theorem rLoad_any (h : Lies B w L) (hi : L[i]? = some (.ref r A)) (hok : A.Ok) (k : ByteArray) (hkz : k.size ≤ maxLen) :
    Calls Tryz.prog 16 #[.pointer (some ⟨r, 0, none⟩), .string k] w fun e w' => e = .returned (.tuple #[.string ⟨(A.load k.data.toList).1.toArray⟩, .int .i64 (A.load k.data.toList).2]) ∧ Lies B w' L ∧ Below B w w' := by
  obtain ⟨R, hR⟩ : ∃ R, A.load k.data.toList = R := ⟨_, rfl⟩
  have hRE := hR.symm
  unfold AD.load at hRE
  rw [hR]
  have HR := hide hRE
  have HI := hide hi
  have H := hide h
  have HN := hide (named_any k hkz)
  have c1 := r_read h hi hok k 0 1048576
  clear hR hRE h hi hok hkz
  by_cases hk : knameOk k.data.toList = false
  · have HE : Hid (R = ([], 1)) := by show _ = _; rw [HR.out, if_pos hk]
    have HK := hide hk
    clear hk HR c1
    go_enter Tryz.func16, Tryz.ntmps16
    go_wp2_with fail
    refine (HN.out _).mono ?_
    rintro e w1 ⟨rfl, hw⟩
    obtain rfl := hw.symm
    clear hw
    rw [HK.out]
    go_wp2
    go_ret2
    rw [HE.out]
    exact ⟨rfl, H.out, Below.refl _ _⟩
  have hkt : knameOk k.data.toList = true := by simpa using hk
  have HK := hide hkt
  obtain ⟨T, hT⟩ : ∃ T : ByteArray, T = ⟨(A.read k.data.toList 0 1048576).1.toArray⟩ := ⟨_, rfl⟩
  have lT : (A.read k.data.toList 0 1048576).1 = T.data.toList := by rw [hT]
  have zT : T.size ≤ 1048576 := by
    rw [← str_len, ← lT]
    unfold AD.read
    split
    · simp
    · split
      · simp
      · split
        · simp
        · simp only [List.length_take]
          exact Nat.min_le_left _ _
  obtain ⟨E1, hE1⟩ : ∃ E, (A.read k.data.toList 0 1048576).2 = E := ⟨_, rfl⟩
  rw [← hT, hE1] at c1
  have HR1 := HR.out
  rw [if_neg hk, hE1, lT] at HR1
  have HR2 := hide HR1
  have C1 := hide c1
  clear HR1 HR c1 hE1 lT hT hk hkt HI
  by_cases e1 : E1 = 0
  · subst e1
    have HR3 : Hid (R = match wholeP T.data.toList with | some p => (p, 0) | none => ([], 70)) := HR2.out
    clear HR2
    by_cases h8 : T.size < 8
    · have hd : decide ((T.size : Int) < 8) = true := decide_eq_true (by omega)
      have HE : Hid (R = ([], 70)) := by show _ = _; rw [HR3.out, short_none (by rw [str_len]; exact h8)]
      clear h8 zT HR3
      go_enter Tryz.func16, Tryz.ntmps16
      go_wp2_with fail
      refine (HN.out _).mono ?_
      rintro e w1 ⟨rfl, hw⟩
      obtain rfl := hw.symm
      clear hw
      rw [HK.out]
      go_wp2_with fail
      refine C1.out.mono ?_
      rintro e w2 ⟨rfl, hw⟩
      obtain rfl := hw.symm
      clear hw C1
      go_wp2
      go_ret2
      rw [HE.out]
      exact ⟨rfl, H.out, Below.refl _ _⟩
    have hd : decide ((T.size : Int) < 8) = false := decide_eq_false (by omega)
    by_cases hbig : 1048448 < T.size - 8
    · have hd2 : decide (((T.size : Int) - 8) > 1048448) = true := decide_eq_true (by omega)
      have hd3 : decide ((1048448 : Int) < (T.size : Int) - 8) = true := decide_eq_true (by omega)
      have hd4 : decide ((1048448 : Int) < wrap64 ((T.size : Int) - 8)) = true := decide_eq_true (by unfold wrap64; omega)
      have HE : Hid (R = ([], 70)) := by
        show _ = _
        rw [HR3.out]
        have : wholeP T.data.toList = none := by
          unfold wholeP
          rw [if_neg (fun h => by have := h.2.1; rw [str_len] at this; omega)]
        rw [this]
      clear h8 zT HR3 hbig
      go_enter Tryz.func16, Tryz.ntmps16
      go_wp2_with fail
      refine (HN.out _).mono ?_
      rintro e w1 ⟨rfl, hw⟩
      obtain rfl := hw.symm
      clear hw
      rw [HK.out]
      go_wp2_with fail
      refine C1.out.mono ?_
      rintro e w2 ⟨rfl, hw⟩
      obtain rfl := hw.symm
      clear hw C1
      go_wp2
      go_ret2
      rw [HE.out]
      exact ⟨rfl, H.out, Below.refl _ _⟩
    have hd2 : decide (((T.size : Int) - 8) > 1048448) = false := decide_eq_false (by omega)
    have hd3 : decide ((1048448 : Int) < (T.size : Int) - 8) = false := decide_eq_false (by omega)
    have hd4 : decide ((1048448 : Int) < wrap64 ((T.size : Int) - 8)) = false := decide_eq_false (by unfold wrap64; omega)
    obtain ⟨P, hP⟩ : ∃ S, T.extract 8 T.size = S := ⟨_, rfl⟩
    have lP : P.data.toList = T.data.toList.drop 8 := by rw [← hP, extract_from]
    have zP : P.size = T.size - 8 := by rw [← str_len, lP, List.length_drop, str_len]
    have s3 : ∀ w : World, (Instr.slice 9 (.string T) (some (.int .i64 8)) none none).run Tryz.prog w = .ok (.string P) w := fun w => by rw [← hP]; exact run_slice_str_from w T 8 (by omega)
    obtain ⟨Y, hY⟩ : ∃ Y : ByteArray, Y = ⟨(pbytes P.data.toList).toArray⟩ := ⟨_, rfl⟩
    have cb : ∀ w : World, Calls Tryz.prog 47 #[.string P] w fun e w' => e = .returned (.string Y) ∧ Below w.heap.size w w' := fun w => by rw [hY]; exact rBytes_any P (by omega) w
    have CB := hide cb
    have hw : wholeP T.data.toList = if Y = T then some P.data.toList else none := by
      unfold wholeP
      rw [← lP]
      by_cases e : Y = T
      · rw [if_pos e, if_pos ⟨by rw [str_len]; omega, by rw [str_len]; omega, by rw [← e, hY]⟩]
      · rw [if_neg e, if_neg (fun h => e (k_ext (by rw [hY]; exact h.2.2)))]
    by_cases e : Y = T
    · have e1 : (Y.toList == T.toList) = true := by rw [k_beq]; exact decide_eq_true e
      have e2 : (Y.toList != T.toList) = false := by unfold bne; rw [e1]; rfl
      have HE : Hid (R = (P.data.toList, 0)) := by show _ = _; rw [HR3.out, hw, if_pos e]
      clear h8 zT HR3 hbig hP lP zP hY cb hw e
      go_enter Tryz.func16, Tryz.ntmps16
      go_wp2_with fail
      refine (HN.out _).mono ?_
      rintro e w1 ⟨rfl, hw⟩
      obtain rfl := hw.symm
      clear hw
      rw [HK.out]
      go_wp2_with fail
      refine C1.out.mono ?_
      rintro e w2 ⟨rfl, hw⟩
      obtain rfl := hw.symm
      clear hw C1
      go_wp2_with fail
      refine (CB.out _).mono ?_
      rintro e w3 ⟨rfl, hb3⟩
      have H3 := hide (H.out.below hb3)
      have HB3 := hide (hb3.mono H.out.base)
      clear hb3
      go_wp2
      go_ret2
      rw [HE.out]
      exact ⟨rfl, H3.out, HB3.out⟩
    · have e1 : (Y.toList == T.toList) = false := by rw [k_beq]; exact decide_eq_false e
      have e2 : (Y.toList != T.toList) = true := by unfold bne; rw [e1]; rfl
      have HE : Hid (R = ([], 70)) := by show _ = _; rw [HR3.out, hw, if_neg e]
      clear h8 zT HR3 hbig hP lP zP hY cb hw e
      go_enter Tryz.func16, Tryz.ntmps16
      go_wp2_with fail
      refine (HN.out _).mono ?_
      rintro e w1 ⟨rfl, hw⟩
      obtain rfl := hw.symm
      clear hw
      rw [HK.out]
      go_wp2_with fail
      refine C1.out.mono ?_
      rintro e w2 ⟨rfl, hw⟩
      obtain rfl := hw.symm
      clear hw C1
      go_wp2_with fail
      refine (CB.out _).mono ?_
      rintro e w3 ⟨rfl, hb3⟩
      have H3 := hide (H.out.below hb3)
      have HB3 := hide (hb3.mono H.out.base)
      clear hb3
      go_wp2
      go_ret2
      rw [HE.out]
      exact ⟨rfl, H3.out, HB3.out⟩
  · have HE : Hid (R = ([], E1)) := by show _ = _; rw [HR2.out, if_pos e1]
    have b1 : (E1 == 0) = false := beq_eq_false_iff_ne.2 e1
    have b1' : (E1 != 0) = true := by unfold bne; rw [b1]; rfl
    clear e1 HR2 zT
    go_enter Tryz.func16, Tryz.ntmps16
    go_wp2_with fail
    refine (HN.out _).mono ?_
    rintro e w1 ⟨rfl, hw⟩
    obtain rfl := hw.symm
    clear hw
    rw [HK.out]
    go_wp2_with fail
    refine C1.out.mono ?_
    rintro e w2 ⟨rfl, hw⟩
    obtain rfl := hw.symm
    clear hw C1
    go_wp2
    go_ret2
    rw [HE.out]
    exact ⟨rfl, H.out, Below.refl _ _⟩
end
end Go.Proofs.YtobfijpfdibccaaGreat
