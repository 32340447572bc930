/-
  bytesOf, payloadOf.
-/
import Derived.Test.YtobfijpfdibccaaGreatKBytes
namespace Go.Proofs.YtobfijpfdibccaaGreat
open Go.RowKit Go.Maps
set_option linter.unusedVariables false
theorem k_drewN (w : World) (n : Nat) : Below w.heap.size w (w.drewN n) := ⟨rfl, rfl, rfl, Nat.le_refl _, fun _ _ => rfl⟩
theorem k_num : Nonempty Fr.C.Num := ⟨⟨fun b => (b.toNat : Int), fun _ => rfl⟩⟩
theorem k_app (a b : ByteArray) : (a ++ b).data.toList = a.data.toList ++ b.data.toList := by simp
theorem k_ext {a b : ByteArray} (h : a.data.toList = b.data.toList) : a = b := by
  apply ByteArray.ext
  exact Array.toList_inj.1 h
theorem k_add (w : World) (a b c : ByteArray) (hc : a ++ b = c) (h : a.size + b.size ≤ 1000000000) : (Op.stringOp .add a b).run Tryz.prog w = .ok (.string c) w := by
  rw [← hc]; exact run_string_add_sum w a b (by omega)
set_option maxRecDepth 5000 in
set_option maxHeartbeats 1000000 in
theorem bytesOf_any (s : ByteArray) (hs : s.size ≤ 1048576) (w : World) : Calls Tryz.prog 38 #[.string s] w fun e w' => e = .returned (.string ⟨(pbytes s.data.toList).toArray⟩) ∧ Below w.heap.size w w' := by
  obtain ⟨n⟩ := k_num
  obtain ⟨L, hL⟩ : ∃ L, B4 s.size = L := ⟨_, rfl⟩
  obtain ⟨S, hS⟩ : ∃ S, B4 (psum s.data.toList) = S := ⟨_, rfl⟩
  obtain ⟨LS, hLS⟩ : ∃ R, L ++ S = R := ⟨_, rfl⟩
  obtain ⟨R, hR⟩ : ∃ R, LS ++ s = R := ⟨_, rfl⟩
  obtain ⟨Z, hZ⟩ : ∃ Z, n.u (Fr.C.on 0#32 (L.data.toList ++ s.data.toList)) = Z := ⟨_, rfl⟩
  have hLl : L.data.toList = Fr.nb s.data.toList.length 4 := by rw [← hL, B4_list, str_len]
  have zL : L.size = 4 := by rw [← hL, B4_size]
  have zS : S.size = 4 := by rw [← hS, B4_size]
  have zLS : LS.size = 8 := by rw [← hLS, ByteArray.size_append, zL, zS]
  have a1 : ∀ w : World, (Op.stringOp .add L S).run Tryz.prog w = .ok (.string LS) w := fun w => k_add w L S LS hLS (by omega)
  have a2 : ∀ w : World, (Op.stringOp .add LS s).run Tryz.prog w = .ok (.string R) w := fun w => k_add w LS s R hR (by omega)
  have HR : Hid (R = ⟨(pbytes s.data.toList).toArray⟩) := by
    refine k_ext ?_
    rw [← hR, ← hLS, k_app, k_app, hLl, ← hS, B4_list]
    show _ = pbytes s.data.toList
    unfold pbytes
    rw [List.append_assoc]
  have cv : ∀ w : World, (convert 3 94 (.int .i64 (s.size : Int))).run Tryz.prog w = .ok (.int .u32 (s.size : Int)) w := fun w => kconv_u32 s.size (by omega) w
  have k1 : Hid (∀ w : World, Calls Tryz.prog 65 #[.int .u32 (s.size : Int)] w fun e w' => e = .returned (.string L) ∧ Below w.heap.size w w') := fun w => by rw [← hL]; exact four_any s.size _ rfl w
  have k2 : Hid (∀ w : World, Calls Tryz.prog 66 #[.string L, .string s] w fun e w' => e = .returned (.int .u32 Z) ∧ Below w.heap.size w w') := fun w => by rw [← hZ]; exact sumOf_any n L s (by unfold maxLen; omega) (by unfold maxLen; omega) w
  have k3 : Hid (∀ w : World, Calls Tryz.prog 65 #[.int .u32 Z] w fun e w' => e = .returned (.string S) ∧ Below w.heap.size w w') := fun w => by
    rw [← hS]
    refine four_any _ _ ?_ w
    rw [← hZ, n.eq, hLl]; rfl
  have CV := hide cv
  clear hL hS hLS hR hZ hLl zL zS zLS hs cv
  go_enter Tryz.func38, Tryz.ntmps38
  go_wp2_with (first | (refine Fr.wpList_conv rfl _ _ _ rfl .i64 .u32 (s.size : Int) _ (by rfl) (CV.out _) ?_) | fail)
  refine (k1.out _).mono ?_
  rintro e w1 ⟨rfl, hb1⟩
  go_wp2_with fail
  refine (k2.out _).mono ?_
  rintro e w2 ⟨rfl, hb2⟩
  go_wp2_with fail
  refine (k3.out _).mono ?_
  rintro e w3 ⟨rfl, hb3⟩
  have HB := hide (hb1.trans ((hb2.trans (hb3.mono hb2.size)).mono hb1.size))
  clear hb1 hb2 hb3
  go_wp2
  go_ret
  exact ⟨by rw [HR.out]; rfl, HB.out⟩
theorem wholeP_iff {t : Key} (h8 : 8 ≤ t.length) (hm : t.length - 8 ≤ 1048448) : wholeP t = (if t.take 4 = Fr.nb (t.drop 8).length 4 ∧ (t.drop 4).take 4 = Fr.nb (psum (t.drop 8)) 4 then some (t.drop 8) else none) := by
  have e : t = t.take 4 ++ ((t.drop 4).take 4 ++ t.drop 8) := by
    conv => lhs; rw [← List.take_append_drop 4 t, ← List.take_append_drop 4 (t.drop 4), List.drop_drop]
  have hi : pbytes (t.drop 8) = t ↔ (t.take 4 = Fr.nb (t.drop 8).length 4 ∧ (t.drop 4).take 4 = Fr.nb (psum (t.drop 8)) 4) := by
    constructor
    · intro h
      have h1 := pbytes_take (t.drop 8)
      have h2 := pbytes_mid (t.drop 8)
      rw [h] at h1 h2
      exact ⟨h1, h2⟩
    · rintro ⟨h1, h2⟩
      unfold pbytes
      rw [← h1, ← h2]
      exact e.symm
  unfold wholeP
  by_cases hc : t.take 4 = Fr.nb (t.drop 8).length 4 ∧ (t.drop 4).take 4 = Fr.nb (psum (t.drop 8)) 4
  · rw [if_pos hc, if_pos ⟨h8, hm, hi.2 hc⟩]
  · rw [if_neg hc, if_neg (fun h => hc (hi.1 h.2.2))]
theorem k_extract (s : ByteArray) (i j : Nat) (hij : i ≤ j) : (s.extract i j).data.toList = (s.data.toList.drop i).take (j - i) := by
  rw [ByteArray.data_extract, Array.toList_extract, List.extract_eq_take_drop]
theorem k_beq (a b : ByteArray) : (a.toList == b.toList) = decide (a = b) := by
  rw [ByteArray.toList_eq, ByteArray.toList_eq]
  by_cases h : a = b
  · rw [h, decide_eq_true rfl]; simp
  · rw [decide_eq_false h]
    exact beq_eq_false_iff_ne.2 (fun e => h (k_ext e))
set_option maxRecDepth 5000 in
set_option maxHeartbeats 2000000 in
theorem payloadOf_any (t : ByteArray) (ht : t.size ≤ 1048576) (w : World) : Calls Tryz.prog 43 #[.string t] w fun e w' => e = .returned (.tuple #[.string ⟨((wholeP t.data.toList).getD []).toArray⟩, .bool (wholeP t.data.toList).isSome]) ∧ Below w.heap.size w w' := by
  by_cases h8 : t.size < 8
  · have hd : decide ((t.size : Int) < 8) = true := decide_eq_true (by omega)
    rw [short_none (t := t.data.toList) (by rw [str_len]; exact h8)]
    clear ht
    go_enter Tryz.func43, Tryz.ntmps43
    go_wp2
    go_ret2
    exact ⟨rfl, Below.refl _ _⟩
  have hd : decide ((t.size : Int) < 8) = false := decide_eq_false (by omega)
  obtain ⟨n⟩ := k_num
  obtain ⟨L, hL⟩ : ∃ L, t.extract 0 4 = L := ⟨_, rfl⟩
  obtain ⟨S, hS⟩ : ∃ S, t.extract 4 8 = S := ⟨_, rfl⟩
  obtain ⟨P, hP⟩ : ∃ S, t.extract 8 t.size = S := ⟨_, rfl⟩
  have lL : L.data.toList = t.data.toList.take 4 := by rw [← hL, k_extract t 0 4 (by omega)]; simp
  have lS : S.data.toList = (t.data.toList.drop 4).take 4 := by rw [← hS, k_extract t 4 8 (by omega)]
  have lP : P.data.toList = t.data.toList.drop 8 := by rw [← hP, extract_from]
  have zP : P.size = t.size - 8 := by rw [← str_len, lP, List.length_drop, str_len]
  have s1 : ∀ w : World, (Instr.slice 9 (.string t) none (some (.int .i64 4)) none).run Tryz.prog w = .ok (.string L) w := fun w => by rw [← hL]; exact run_slice_str_to w t 4 (by omega)
  have s2 : ∀ w : World, (Instr.slice 9 (.string t) (some (.int .i64 4)) (some (.int .i64 8)) none).run Tryz.prog w = .ok (.string S) w := fun w => by rw [← hS]; exact run_slice_str_mid w t 4 8 (by omega) (by omega)
  have s3 : ∀ w : World, (Instr.slice 9 (.string t) (some (.int .i64 8)) none none).run Tryz.prog w = .ok (.string P) w := fun w => by rw [← hP]; exact run_slice_str_from w t 8 (by omega)
  have hl8 : 8 ≤ t.data.toList.length := by rw [str_len]; omega
  by_cases hbig : 1048448 < P.size
  · have hd2 : decide ((P.size : Int) > 1048448) = true := decide_eq_true (by omega)
    have hd3 : decide ((1048448 : Int) < (P.size : Int)) = true := decide_eq_true (by omega)
    have hn : wholeP t.data.toList = none := by
      unfold wholeP
      rw [if_neg (fun h => by have := h.2.1; rw [str_len] at this; omega)]
    rw [hn]
    clear ht h8 hL hS hP lL lS lP zP hl8 hbig hn
    go_enter Tryz.func43, Tryz.ntmps43
    go_wp2_with fail
    go_quiet (fail)
    go_wp2
    go_ret2
    exact ⟨rfl, k_drewN _ _⟩
  have hd2 : decide ((P.size : Int) > 1048448) = false := decide_eq_false (by omega)
  have hd3 : decide ((1048448 : Int) < (P.size : Int)) = false := decide_eq_false (by omega)
  have hw := wholeP_iff hl8 (by rw [str_len]; omega)
  rw [← lL, ← lS, ← lP, str_len] at hw
  obtain ⟨L', hL'⟩ : ∃ L', B4 P.size = L' := ⟨_, rfl⟩
  have lL' : L'.data.toList = Fr.nb P.size 4 := by rw [← hL', B4_list]
  have k1 : Hid (∀ w : World, Calls Tryz.prog 65 #[.int .u32 (P.size : Int)] w fun e w' => e = .returned (.string L') ∧ Below w.heap.size w w') := fun w => by rw [← hL']; exact four_any P.size _ rfl w
  have HM : Hid ((P.size : Int) % 4294967296 = (P.size : Int)) := by show _ = _; omega
  by_cases hLL : L = L'
  · obtain ⟨S', hS'⟩ : ∃ S', B4 (psum P.data.toList) = S' := ⟨_, rfl⟩
    obtain ⟨Z, hZ⟩ : ∃ Z, n.u (Fr.C.on 0#32 (L.data.toList ++ P.data.toList)) = Z := ⟨_, rfl⟩
    have e1 : (L.toList == L'.toList) = true := by rw [k_beq]; exact decide_eq_true hLL
    have e2 : (L.toList != L'.toList) = false := by unfold bne; rw [e1]; rfl
    have k2 : Hid (∀ w : World, Calls Tryz.prog 66 #[.string L, .string P] w fun e w' => e = .returned (.int .u32 Z) ∧ Below w.heap.size w w') := fun w => by rw [← hZ]; exact sumOf_any n L P (by rw [hLL, ← hL', B4_size]; unfold maxLen; omega) (by unfold maxLen; omega) w
    have k3 : Hid (∀ w : World, Calls Tryz.prog 65 #[.int .u32 Z] w fun e w' => e = .returned (.string S') ∧ Below w.heap.size w w') := fun w => by
      rw [← hS']
      refine four_any _ _ ?_ w
      rw [← hZ, n.eq, hLL, lL', ← str_len]; rfl
    by_cases hSS : S = S'
    · have e3 : (S.toList == S'.toList) = true := by rw [k_beq]; exact decide_eq_true hSS
      have e4 : (S.toList != S'.toList) = false := by unfold bne; rw [e3]; rfl
      have HW : Hid (wholeP t.data.toList = some P.data.toList) := by
        show _ = _
        rw [hw, if_pos ⟨by rw [hLL, lL'], by rw [hSS, ← hS', B4_list]⟩]
      clear ht h8 hL hS hP lL lS lP zP hl8 hbig hw hL' lL' hS' hZ hLL hSS
      go_enter Tryz.func43, Tryz.ntmps43
      go_wp2_with fail
      go_quiet (fail)
      go_wp2_with fail
      rw [HM.out]
      refine (k1.out _).mono ?_
      rintro e w1 ⟨rfl, hb1⟩
      have HB1 := hide ((k_drewN w nq).trans hb1)
      clear hb1
      go_wp2_with fail
      refine (k2.out _).mono ?_
      rintro e w2 ⟨rfl, hb2⟩
      go_wp2_with fail
      refine (k3.out _).mono ?_
      rintro e w3 ⟨rfl, hb3⟩
      have HB3 := hide (HB1.out.trans ((hb2.trans (hb3.mono hb2.size)).mono HB1.out.size))
      clear hb2 hb3
      go_wp2
      go_ret2
      exact ⟨by rw [HW.out]; rfl, HB3.out⟩
    · have e3 : (S.toList == S'.toList) = false := by rw [k_beq]; exact decide_eq_false hSS
      have e4 : (S.toList != S'.toList) = true := by unfold bne; rw [e3]; rfl
      have HW : Hid (wholeP t.data.toList = none) := by
        show _ = _
        rw [hw, if_neg (fun h => hSS (k_ext (by rw [h.2, ← hS', B4_list])))]
      clear ht h8 hL hS hP lL lS lP zP hl8 hbig hw hL' lL' hS' hZ hLL hSS
      go_enter Tryz.func43, Tryz.ntmps43
      go_wp2_with fail
      go_quiet (fail)
      go_wp2_with fail
      rw [HM.out]
      refine (k1.out _).mono ?_
      rintro e w1 ⟨rfl, hb1⟩
      have HB1 := hide ((k_drewN w nq).trans hb1)
      clear hb1
      go_wp2_with fail
      refine (k2.out _).mono ?_
      rintro e w2 ⟨rfl, hb2⟩
      go_wp2_with fail
      refine (k3.out _).mono ?_
      rintro e w3 ⟨rfl, hb3⟩
      have HB3 := hide (HB1.out.trans ((hb2.trans (hb3.mono hb2.size)).mono HB1.out.size))
      clear hb2 hb3
      go_wp2
      go_ret2
      exact ⟨by rw [HW.out]; rfl, HB3.out⟩
  · have e1 : (L.toList == L'.toList) = false := by rw [k_beq]; exact decide_eq_false hLL
    have e2 : (L.toList != L'.toList) = true := by unfold bne; rw [e1]; rfl
    have HW : Hid (wholeP t.data.toList = none) := by
      show _ = _
      rw [hw, if_neg (fun h => hLL (k_ext (by rw [h.1, lL'])))]
    clear ht h8 hL hS hP lL lS lP zP hl8 hbig hw hL' lL' hLL
    go_enter Tryz.func43, Tryz.ntmps43
    go_wp2_with fail
    go_quiet (fail)
    go_wp2_with fail
    rw [HM.out]
    refine (k1.out _).mono ?_
    rintro e w1 ⟨rfl, hb1⟩
    have HB1 := hide ((k_drewN w nq).trans hb1)
    clear hb1
    go_wp2
    go_ret2
    exact ⟨by rw [HW.out]; rfl, HB1.out⟩
end Go.Proofs.YtobfijpfdibccaaGreat
