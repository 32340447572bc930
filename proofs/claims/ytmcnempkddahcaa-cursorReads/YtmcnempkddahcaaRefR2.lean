/-
  The document's reader: Text, Hash.
-/
import Derived.Test.YtmcnempkddahcaaRefR
import Derived.Test.YtmcnempkddahcaaLawTexts
namespace Go.Proofs.Ytmcnempkddahcaa
open Go.RowKit
set_option linter.unusedVariables false
theorem nb_be : ∀ (n : Nat) (l : List UInt8), l.length = n → nb (be l) n = l
  | 0, l, h => by rw [List.length_eq_zero_iff.1 h]; rfl
  | n + 1, l, h => by
    have hne : l ≠ [] := fun e => by rw [e] at h; simp at h
    have e : l = l.dropLast ++ [l.getLast hne] := (List.dropLast_concat_getLast hne).symm
    have hd : l.dropLast.length = n := by rw [List.length_dropLast, h]; rfl
    have ih := nb_be n l.dropLast hd
    rw [e, be_snoc, nb_succ]
    have hc := (l.getLast hne).toNat_lt
    have e1 : (be l.dropLast * 256 + (l.getLast hne).toNat) / 256 = be l.dropLast := by omega
    have e2 : UInt8.ofNat (be l.dropLast * 256 + (l.getLast hne).toNat) = l.getLast hne := by
      apply UInt8.toNat_inj.1
      rw [toNat_ofNat8]; omega
    rw [e1, e2, ih]
theorem text_split (l : List UInt8) (h2 : 2 ≤ l.length) : ∃ n, n ≤ 65535 ∧ l = nb n 2 ++ l.drop 2 ∧ be (l.take 2) = n := by
  have hl : (l.take 2).length = 2 := by rw [List.length_take]; omega
  refine ⟨be (l.take 2), ?_, ?_, rfl⟩
  · have := be_lt (l.take 2)
    rw [hl] at this
    omega
  · rw [nb_be 2 _ hl, List.take_append_drop]
set_option maxRecDepth 5000 in
set_option maxHeartbeats 2000000 in
theorem xText (most : Int) (p : Nat) (st : RS) (w : World) (h : RR w p st) (hz : st.1.size ≤ 281474976710656) : Calls Try.prog 75 #[.pointer (some ⟨p, 0, none⟩), .int .i64 most] w fun e w' => e = .returned (.string (textA most st)) ∧ RR w' p (textS most st) ∧ Mr p w w' := by
  obtain ⟨s, f⟩ := st
  have hn8 : nil8 = { data := #[] } := rfl
  by_cases hf : f = 0
  · subst hf
    have hT := h.fine
    have c0 := Two.c0 hT
    have c1 := Two.c1 hT
    have es : s = ofL s.data.toList := (ofL_of s).symm
    by_cases h2 : s.size < 2
    · obtain ⟨a1, a2⟩ := text_less s.data.toList most (by rw [str_len]; exact h2)
      rw [← es] at a1 a2
      rw [a1, a2, hn8]
      have hd : decide ((s.size : Int) < 2) = true := decide_eq_true (by omega)
      clear a1 a2 es
      go_enter Try.func75, Try.ntmps75
      go_wp2_with fail
      refine (xBreaks 2 (by decide) p _ _ h).mono ?_
      rintro e w1 ⟨rfl, h1, hM⟩
      go_wp2
      go_ret
      exact ⟨rfl, h1, hM⟩
    · have hd : decide ((s.size : Int) < 2) = false := decide_eq_false (by omega)
      obtain ⟨n, hn, hl, hbe⟩ := text_split s.data.toList (by rw [str_len]; omega)
      obtain ⟨h2s, hh2⟩ : ∃ h2s, s.extract 0 2 = h2s := ⟨_, rfl⟩
      have eh : h2s = ofL (s.data.toList.take 2) := by rw [← hh2]; conv => lhs; rw [es]; rw [ofL_extract, List.drop_zero]
      have HN := hide (fun w => xNumber h2s w (by rw [eh, ofL_size, List.length_take]; omega))
      have en : be h2s.data.toList = n := by rw [eh, ofL_data, hbe]
      obtain ⟨Z, hZ⟩ : ∃ Z : Int, (n : Int) = Z := ⟨_, rfl⟩
      have hZn : ((be h2s.data.toList : Nat) : Int) = Z := by rw [en, hZ]
      rw [hZn] at HN
      have KC : Hid (∀ w : World, (convert 37 3 (.int .u64 Z)).run Try.prog w = .ok (.int .i64 Z) w) := fun w => run_conv 37 3 .u64 .i64 Z Z (by kernel_rfl) (by kernel_rfl) (by kernel_rfl) (by rw [IntKind.wrap_i64]; omega) w
      have hz0 : 0 ≤ Z := by omega
      have hz1 : Z ≤ 65535 := by omega
      have hm2 : 2 ≤ s.size := by omega
      have HH2 := hide hh2
      have hsz : (s.data.toList.drop 2).length = s.size - 2 := by rw [List.length_drop, str_len]
      by_cases hgt : most < Z
      · obtain ⟨a1, a2⟩ := text_long n (s.data.toList.drop 2) most hn (by omega)
        rw [← hl, ← es] at a1 a2
        rw [a1, a2, hn8]
        have hdm : decide (Z > most) = true := decide_eq_true hgt
        clear a1 a2 es hl eh hbe en hh2 hZ hZn hz
        go_enter Try.func75, Try.ntmps75
        go_wp2_with (first | (refine wpList_slice_to rfl _ _ rfl s (by rfl) .i64 2 (by rfl) 2 (by omega) hm2 h2s HH2.out ?_) | fail)
        refine (HN.out _).mono ?_
        rintro e w1 ⟨rfl, rfl⟩
        go_wp2_with (first | (refine wpW_conv _ _ _ rfl (.int .u64 Z) (.int .i64 Z) (by rfl) (by rfl) (KC.out _) ?_) | fail)
        refine (xBreaks 3 (by decide) p _ _ h).mono ?_
        rintro e w1 ⟨rfl, h1, hM⟩
        go_wp2
        go_ret
        exact ⟨rfl, h1, hM⟩
      · have hdm : decide (Z > most) = false := decide_eq_false (by omega)
        by_cases hcut : s.size < n + 2
        · obtain ⟨a1, a2⟩ := text_cut n (s.data.toList.drop 2) most hn (by omega) (by omega)
          rw [← hl, ← es] at a1 a2
          rw [a1, a2, hn8]
          have hdc : decide ((s.size : Int) - 2 < Z) = true := decide_eq_true (by omega)
          have hsu : (s.size : Int) ≤ 281474976710656 := by have : s.size ≤ 281474976710656 := hz; omega
          clear a1 a2 es hl eh hbe en hh2 hZn hz
          go_enter Try.func75, Try.ntmps75
          go_wp2_with (first | (refine wpList_slice_to rfl _ _ rfl s (by rfl) .i64 2 (by rfl) 2 (by omega) hm2 h2s HH2.out ?_) | fail)
          refine (HN.out _).mono ?_
          rintro e w1 ⟨rfl, rfl⟩
          go_wp2_with (first | (refine wpW_conv _ _ _ rfl (.int .u64 Z) (.int .i64 Z) (by rfl) (by rfl) (KC.out _) ?_) | fail)
          refine (xBreaks 2 (by decide) p _ _ h).mono ?_
          rintro e w1 ⟨rfl, h1, hM⟩
          go_wp2
          go_ret
          exact ⟨rfl, h1, hM⟩
        · have hdc : decide ((s.size : Int) - 2 < Z) = false := decide_eq_false (by omega)
          have hsu : (s.size : Int) ≤ 281474976710656 := by have : s.size ≤ 281474976710656 := hz; omega
          have ht : ((s.data.toList.drop 2).take n).length = n := by rw [List.length_take]; omega
          have hl2 : s.data.toList = nb n 2 ++ ((s.data.toList.drop 2).take n ++ (s.data.toList.drop 2).drop n) := by rw [List.take_append_drop]; exact hl
          obtain ⟨a1, a2⟩ := text_ok n ((s.data.toList.drop 2).take n) ((s.data.toList.drop 2).drop n) most ht hn (by omega)
          rw [← hl2, ← es] at a1 a2
          have b1 : takeA (2 + Z) (s, 0) = ofL (nb n 2 ++ (s.data.toList.drop 2).take n) := by
            conv => lhs; rw [es, hl2, ← List.append_assoc]
            exact takeA_head _ _ _ (by rw [List.length_append, nb_length, ht]; omega)
          have b2 : takeS (2 + Z) (s, 0) = (ofL ((s.data.toList.drop 2).drop n), 0) := by
            conv => lhs; rw [es, hl2, ← List.append_assoc]
            exact takeS_head _ _ _ (by rw [List.length_append, nb_length, ht]; omega)
          rw [a1, a2, ← b2]
          obtain ⟨R, hR⟩ : ∃ R, ofL (nb n 2 ++ (s.data.toList.drop 2).take n) = R := ⟨_, rfl⟩
          obtain ⟨T, hTT⟩ : ∃ T, ofL ((s.data.toList.drop 2).take n) = T := ⟨_, rfl⟩
          have hRs : 2 ≤ R.size := by rw [← hR, ofL_size, List.length_append, nb_length]; omega
          have hRe : R.extract 2 R.size = T := by
            rw [← hR, ofL_size, ofL_extract, List.take_length, ← hTT]
            have : (nb n 2 ++ (s.data.toList.drop 2).take n).drop 2 = (s.data.toList.drop 2).take n := by
              have := List.drop_left (l₁ := nb n 2) (l₂ := (s.data.toList.drop 2).take n)
              rwa [nb_length] at this
            rw [this]
          rw [hR] at b1
          rw [hTT]
          have HB1 := hide b1
          have HRE := hide hRe
          clear a1 a2 b1 b2 es hl hl2 eh hbe en hh2 hR hTT hRe ht hsz hZn hz
          go_enter Try.func75, Try.ntmps75
          go_wp2_with (first | (refine wpList_slice_to rfl _ _ rfl s (by rfl) .i64 2 (by rfl) 2 (by omega) hm2 h2s HH2.out ?_) | fail)
          refine (HN.out _).mono ?_
          rintro e w1 ⟨rfl, rfl⟩
          go_wp2_with (first | (refine wpW_conv _ _ _ rfl (.int .u64 Z) (.int .i64 Z) (by rfl) (by rfl) (KC.out _) ?_) | fail)
          refine (xTake (2 + Z) p _ _ h (.inr (by omega))).mono ?_
          rintro e w1 ⟨rfl, h1, hM⟩
          rw [HB1.out]
          go_wp2_with (first | (refine wpList_slice_from rfl _ _ rfl R (by rfl) .i64 2 (by rfl) 2 (by omega) hRs T HRE.out ?_) | fail)
          go_ret
          exact ⟨rfl, h1, hM⟩
  · obtain ⟨a1, a2⟩ := text_broken s f most hf
    rw [a1, a2, hn8]
    have HR := hide h
    obtain ⟨l, hT, h1, h2⟩ := h
    have c1 := Two.c1 hT
    simp only at c1
    have hq : (f == 0) = false := beq_eq_false_iff_ne.2 hf
    have hq2 : (f != 0) = true := by simp [hf]
    clear a1 a2 h1 h2
    go_enter Try.func75, Try.ntmps75
    go_wp2
    go_ret
    exact ⟨rfl, HR.out, Mr.refl _ _⟩
def hPart (A : ByteArray) (k : Nat) : Nat → UInt8 := fun i => if i < k then hOf A i else 0
set_option maxRecDepth 5000 in
set_option maxHeartbeats 2000000 in
theorem xHash (p : Nat) (st : RS) (w : World) (h : RR w p st) : Calls Try.prog 74 #[.pointer (some ⟨p, 0, none⟩)] w fun e w' => e = .returned (.agg (tabv (bv (hOf (takeA 32 st))) 32)) ∧ RR w' p (takeS 32 st) ∧ Mr p w w' := by
  obtain ⟨A, hA⟩ : ∃ A, takeA 32 st = A := ⟨_, rfl⟩
  have hAs : A.size ≤ 32 := by rw [← hA]; exact takeA_le 32 st
  have hplt := h.lt
  go_enter Try.func74, Try.ntmps74
  go_wp2_with fail
  have hb2 : Below w.heap.size w ((w.alloc (.cells (tabv (fun _ => .int .u8 0) 32) 54)).alloc (.cells (tabv (fun _ => .int .u8 0) 32) 54)) := ((Below.refl _ _).alloc (Nat.le_refl _) _).alloc (by simp) _
  refine (xTake 32 p st _ (h.below hb2) (.inr (by decide))).mono ?_
  rintro e w3 ⟨rfl, h3, hM3⟩
  have hsz : ((w.alloc (.cells (tabv (fun _ => .int .u8 0) 32) 54)).alloc (.cells (tabv (fun _ => .int .u8 0) 32) 54)).heap.size = w.heap.size + 2 := by simp
  have k0 : Has w3 w.heap.size 54 (fun _ => .int .u8 0) 32 := by
    have := hM3.block w.heap.size (by omega) (by omega)
    unfold Has; rw [this]
    exact (Has.new w 54 (fun _ => .int .u8 0) 32 _ rfl).old _
  have k1 : Has w3 (w.heap.size + 1) 54 (bv (hPart A 0)) 32 := by
    have := hM3.block (w.heap.size + 1) (by omega) (by omega)
    unfold Has; rw [this]
    have e := Has.new (w.alloc (.cells (tabv (fun _ => .int .u8 0) 32) 54)) 54 (fun _ => .int .u8 0) 32 _ rfl
    simp only [World.size_alloc] at e
    exact e.congr _ (fun i _ => by unfold bv hPart; rw [if_neg (by omega)]; rfl)
  have hMw : Mr p w w3 := (Mr.of hb2).trans hM3
  rw [hA]
  clear hb2 hsz hM3
  go_wp2
  go_loopw [6] (fun i wr => ∃ k : Nat, k ≤ A.size ∧ i = .int .i64 (k : Int) ∧ Has wr (w.heap.size + 1) 54 (bv (hPart A k)) 32 ∧ Has wr w.heap.size 54 (fun _ => .int .u8 0) 32 ∧ Below w.heap.size w3 wr) (fun i _ => A.size - (intOf i).toNat)
  case atStart => exact ⟨0, Nat.zero_le _, rfl, k1, k0, Below.refl _ _⟩
  case round =>
    clear k0 k1
    obtain ⟨k, hk, rfl, k1, k0, kb⟩ := hrel
    by_cases hlt : k < A.size
    · have hd : decide ((k : Int) < (A.size : Int)) = true := decide_eq_true (by omega)
      have hk0 : (0 : Int) ≤ (k : Int) := by omega
      have hk1 : (k : Int) < 32 := by omega
      have cc := k1.cell k (by omega)
      have cf := k1.frozen k
      have HI : Hid (∀ w : World, (Instr.index 9 (.string A) (.int .i64 (k : Int))).run Try.prog w = .ok (.int .u8 ((hOf A k).toNat : Int)) w) := fun w => index_text A k hlt w
      obtain ⟨c, hc⟩ : ∃ c : Int, ((hOf A k).toNat : Int) = c := ⟨_, rfl⟩
      rw [hc] at HI
      have HK1 : Hid (Has (wr.setCell ⟨w.heap.size + 1, k, none⟩ (.int .u8 c)) (w.heap.size + 1) 54 (bv (hPart A (k + 1))) 32) := by
        have := k1.set k (.int .u8 c)
        refine this.congr _ (fun i hi => ?_)
        unfold upd bv hPart
        by_cases e : i = k
        · subst e; rw [if_pos rfl, if_pos (by omega), hc]
        · rw [if_neg e]
          by_cases e2 : i < k
          · rw [if_pos e2, if_pos (by omega)]
          · rw [if_neg e2, if_neg (by omega)]
      have HK0 := hide (k0.other ⟨w.heap.size + 1, k, none⟩ (.int .u8 c) (by show w.heap.size ≠ w.heap.size + 1; omega))
      have HKB := hide (kb.setCell (p := ⟨w.heap.size + 1, k, none⟩) (by show w.heap.size ≤ w.heap.size + 1; omega) (.int .u8 c))
      clear hc k0 kb k1
      go_wp2_with (refine wpList_index_lit rfl _ _ _ rfl (.int .u8 c) ?_ ?_; · exact HI.out _)
      go_roundw
      case rel => exact ⟨k + 1, by omega, by go_num, HK1.out, HK0.out, HKB.out⟩
      case measure => simp [intOf]; omega
    · have hkk : k = A.size := by omega
      subst hkk
      have hd : decide ((A.size : Int) < (A.size : Int)) = false := by simp
      have e1 : Has wr (w.heap.size + 1) 54 (bv (hOf A)) 32 := k1.congr _ (fun i hi => by
        unfold bv hPart
        by_cases e : i < A.size
        · rw [if_pos e]
        · rw [if_neg e]
          unfold hOf byteAt
          rw [List.getD_eq_getElem?_getD, List.getElem?_eq_none (by rw [str_len]; omega)]; rfl)
      have I0 := hide k0
      have I1 := hide e1
      clear k0 k1 e1
      go_wp2_with (first | (refine wpList_load_part rfl 54 _ rfl (w.heap.size + 1) 0 rfl 54 _ 32 32 _ I1.out (by omega) Try.underlying54 rfl info54 (bv (hOf A)) (fun i _ => by rw [Nat.zero_add]) ?_) | (refine wpList_store_part rfl 54 _ _ rfl rfl w.heap.size 0 (bv (hOf A)) 32 rfl rfl 54 _ 32 I0.out (by omega) info54 (fun _ _ => rfl) (bv (hOf A)) (fun i hi => by unfold splice; rw [if_pos (by omega), Nat.sub_zero]) ?_))
      have bf := below_setRow kb (Nat.le_refl w.heap.size) (tabv (bv (hOf A)) 32)
      refine bodyPost_ret (results_cell_row rfl _ _ w.heap.size 54 _ (0, 0) _ rfl (I0.out.row _ _ rfl) Try.underlying54 rfl (by rw [tabv_size]; exact info54)) rfl ⟨by rw [hA], h3.same (bf.block p hplt), Mr.low hMw bf⟩
end Go.Proofs.Ytmcnempkddahcaa
