/-
  The walk of AmountParts.
-/
import Derived.Test.YtfcbpphdgghakaaARow
namespace Go.Proofs.Ytfcbpphdgghakaa
open Go.RowKit
set_option linter.unusedVariables false
theorem sum_at (w : World) (ad : Option Addr) (n cap : Nat) (zs : List Int) (hn : zs.length = n) (h : RowI w ad zs) (hl : zs.length ≤ maxLen) :
    Calls Try.prog 10 #[.slice ad n cap] w fun e w' => e = .returned (.tuple #[.int .i64 (sumA zs).1, .int .i64 (sumA zs).2]) ∧ w' = w := by
  subst hn; exact sum_any w ad cap zs h hl
theorem rev_take {l : List Int} {k : Nat} (h : k < l.length) : l.reverse.take (k + 1) = l.reverse.take k ++ [l.getD (l.length - 1 - k) 0] := by
  have hr : k < l.reverse.length := by rw [List.length_reverse]; exact h
  rw [List.take_succ_eq_append_getElem hr, List.getElem_reverse, List.getD_eq_getElem?_getD, List.getElem?_eq_getElem (by omega)]
  rfl
theorem cut_of (X : Int) (n : Nat) (h : n < 9223372036854775807) : ∃ c : Nat, c ≤ n ∧ wrap64 ((IntKind.u64.wrap X).tmod ((n : Int) + 1)) = (c : Int) := by
  have h1 : 0 ≤ IntKind.u64.wrap X := by
    rw [show IntKind.u64.wrap X = X % (18446744073709551616 : Int) from rfl]
    exact Int.emod_nonneg _ (by decide)
  have h2 : 0 ≤ (IntKind.u64.wrap X).tmod ((n : Int) + 1) := Int.tmod_nonneg _ h1
  have h3 : (IntKind.u64.wrap X).tmod ((n : Int) + 1) < (n : Int) + 1 := Int.tmod_lt_of_pos _ (by omega)
  generalize (IntKind.u64.wrap X).tmod ((n : Int) + 1) = U at h2 h3
  refine ⟨U.toNat, by omega, ?_⟩
  unfold wrap64
  omega
set_option maxRecDepth 100000 in
set_option maxHeartbeats 2000000 in
theorem parts_any (a0 : Option Addr) (cap0 : Nat) (l : List Int) (at0 : Int) (w : World) (h0 : RowI w a0 l) (hl : l.length * 8 ≤ 140737488351232) (hc : l.length ≤ cap0) (hcm : cap0 ≤ maxLen) (hn : a0 = none → cap0 = 0) (hi : (Lit.int .i64 at0).wf = true) :
    Calls Try.prog 4 #[.slice a0 l.length cap0, .int .i64 at0] w fun e w' => e = .returned (.bool true) ∧ Below w.heap.size w w' := by
  have HR := hide h0
  have HN := hide hn
  clear h0 hn
  unfold maxLen at hcm
  go_enter Try.func4, Try.ntmps4
  go_wp2_with fail
  refine (first_any _).mono ?_
  rintro e w1 ⟨rfl, hb1⟩
  have HR1 := hide (HR.out.below hb1)
  have HB1 := hide hb1
  clear hb1
  go_wp2_with fail
  obtain ⟨c, hcl, hce⟩ := cut_of at0 l.length (by omega)
  rw [hce]
  generalize (IntKind.u64.wrap at0).tmod ((l.length : Int) + 1) = U
  generalize IntKind.u64.wrap at0 = V
  clear hce hi
  go_loopw [5, 6] (fun t i wr => ∃ k : Nat, k ≤ l.length ∧ i = .int .i64 ((l.length : Int) - 1 - (k : Int)) ∧ IntsL wr w1.heap.size t (l.reverse.take k) ∧ Below w1.heap.size w1 wr) (fun t i _ => (intOf i + 1).toNat)
  case atStart => exact ⟨0, by omega, by simp, IntsL.nil _ _, Below.refl _ _⟩
  case round =>
    obtain ⟨k, hk, rfl, hown, hbr⟩ := hrel
    have HO := hide hown
    have HB := hide hbr
    clear hown hbr
    by_cases hlt : k < l.length
    · obtain ⟨j, hj⟩ : ∃ j : Nat, j = l.length - 1 - k := ⟨_, rfl⟩
      have hji : (l.length : Int) - 1 - (k : Int) = (j : Int) := by omega
      rw [hji]
      have hjl : j < l.length := by omega
      have dk : decide ((0 : Int) ≤ (j : Int)) = true := decide_eq_true (by omega)
      have hk0 : (0 : Int) ≤ (j : Int) := by omega
      have hk1 : (j : Int) < (l.length : Int) := by omega
      rcases HR1.out.below HB.out with h | ⟨x, rfl, hbl, hcs⟩
      · rw [h] at hlt; exact absurd hlt (by simp)
      have f0 := hcs j hjl
      have HT := hide (rev_take hlt)
      rw [← hj] at HT
      obtain ⟨z, hz⟩ : ∃ z, l.getD j 0 = z := ⟨_, rfl⟩
      rw [hz] at f0 HT
      have HL : Hid ((l.reverse.take k).length = k) := hide (by rw [List.length_take, List.length_reverse]; omega)
      have hw1s := hide HB.out.size
      have HJ := hide hj
      clear hcs hz hj hji
      go_wp2_with (at_builtin; refine wpList_app1 rfl _ _ rfl w1.heap.size _ (l.reverse.take k) z rfl HO.out (by rfl) rfl (by rw [HL.out]; omega) hw1s.out ?_; intro g cap w2 hO2 hB2)
      rw [← HT.out, HL.out] at hO2
      have HO2 := hide hO2
      have HB2 := hide (HB.out.trans hB2)
      clear hO2 hB2
      go_roundw
      case rel => exact ⟨k + 1, by omega, by have := HJ.out; congr 1; omega, HO2.out, HB2.out⟩
      case measure => have := HJ.out; simp [intOf]
    · have hkl : k = l.length := by omega
      subst hkl
      have e0 : (l.length : Int) - 1 - (l.length : Int) = -1 := by omega
      rw [e0]
      have HRr := hide (HR1.out.below HB.out)
      have hO := HO.out
      rw [show l.reverse.take l.length = l.reverse from by rw [← List.length_reverse]; exact List.take_length] at hO
      obtain ⟨ad2, cap2, hv2, hr2, hm2⟩ := hO.row
      rw [List.length_reverse] at hv2
      subst hv2
      have HR2 := hide hr2
      have HW := hide (HB1.out.trans (HB.out.mono HB1.out.size))
      have HM2 := hide hm2
      have HML : Hid (l.length ≤ maxLen) := hide (by unfold maxLen; omega)
      have HREV := hide (sumA_rev l)
      clear hr2 hO HO hm2 e0
      go_wp2_with fail
      refine (sum_any _ _ _ l HRr.out HML.out).mono ?_
      rintro e v ⟨rfl, rfl⟩
      go_wp2_with fail
      refine (sum_at _ _ _ _ l.reverse List.length_reverse HR2.out HM2.out).mono ?_
      rintro e v ⟨rfl, rfl⟩
      rw [HREV.out]
      have HT1 : Hid ((l.take c).length = c) := hide (by rw [List.length_take]; omega)
      have HT2 : Hid ((l.drop c).length = l.length - c) := hide (by rw [List.length_drop])
      have HM3 : Hid ((l.take c).length ≤ maxLen) := hide (by rw [HT1.out]; unfold maxLen; omega)
      have HM4 : Hid ((l.drop c).length ≤ maxLen) := hide (by rw [HT2.out]; unfold maxLen; omega)
      have HTK := hide (HRr.out.take c)
      have hk0 : (0 : Int) ≤ (c : Int) := by omega
      have hk1 : (c : Int) ≤ (cap0 : Int) := by omega
      have hk2 : (c : Int) ≤ (l.length : Int) := by omega
      obtain ⟨N, hN⟩ : ∃ N, sumA l = N := ⟨_, rfl⟩
      obtain ⟨A, hA⟩ : ∃ A, sumA (l.take c) = A := ⟨_, rfl⟩
      obtain ⟨D, hD⟩ : ∃ D, sumA (l.drop c) = D := ⟨_, rfl⟩
      have hN2 := sumA_two l
      have hA2 := sumA_two (l.take c)
      have hD2 := sumA_two (l.drop c)
      have hno := sumA_parts_no (l.take c) (l.drop c)
      have hyes := sumA_parts_ok (l.take c) (l.drop c)
      rw [List.take_append_drop] at hno hyes
      rw [hN, hA, hD] at hno hyes
      rw [hN] at hN2 ⊢
      rw [hA] at hA2
      rw [hD] at hD2
      have HA := hide hA
      have HD := hide hD
      clear hN hA hD HREV
      obtain ⟨n1, n2⟩ := N
      obtain ⟨a1, a2⟩ := A
      obtain ⟨d1, d2⟩ := D
      simp only [Prod.mk.injEq] at hN2 hA2 hD2 hno hyes
      have HNO := hide hno
      have HYES := hide hyes
      have HN2 := hide hN2
      have HA2 := hide hA2
      have HD2 := hide hD2
      clear hno hyes hN2 hA2 hD2
      go_wp2_with fail
      refine (sum_at _ _ _ _ (l.take c) HT1.out HTK.out HM3.out).mono ?_
      rintro e v ⟨rfl, rfl⟩
      rw [HA.out]
      cases a0 with
      | none =>
        obtain rfl : cap0 = 0 := HN.out rfl
        have hl0 : l.length = 0 := by omega
        obtain rfl : l = [] := List.length_eq_zero_iff.1 hl0
        obtain rfl : c = 0 := by simpa using hcl
        clear hl0
        go_wp2_with fail
        refine (sum_at _ _ _ _ (([] : List Int).drop 0) rfl (.inl rfl) (by decide)).mono ?_
        rintro e v ⟨rfl, rfl⟩
        rw [HD.out]
        by_cases hg : a2 = 0
        · subst hg
          by_cases hh : d2 = 0
          · subst hh
            have HP : Hid (plusA a1 d1 = (n1, n2)) := hide (HYES.out rfl rfl)
            rcases HN2.out with h2 | ⟨h1, h2⟩
            · subst h2
              go_wp2_with fail
              refine (plus_any _ _ _).mono ?_
              rintro e v ⟨rfl, rfl⟩
              rw [HP.out]
              go_wp2
              go_ret
              exact ⟨by simp, HW.out⟩
            · subst h1 h2
              go_wp2_with fail
              refine (plus_any _ _ _).mono ?_
              rintro e v ⟨rfl, rfl⟩
              rw [HP.out]
              go_wp2
              go_ret
              exact ⟨by simp, HW.out⟩
          · obtain ⟨rfl, rfl⟩ : d1 = 0 ∧ d2 = 80 := by
              rcases HD2.out with h | h
              · exact absurd h hh
              · exact h
            obtain ⟨rfl, rfl⟩ := HNO.out (.inr ⟨rfl, rfl⟩)
            clear hh
            go_wp2
            go_ret
            exact ⟨by simp, HW.out⟩
        · obtain ⟨rfl, rfl⟩ : a1 = 0 ∧ a2 = 80 := by
            rcases HA2.out with h | h
            · exact absurd h hg
            · exact h
          obtain ⟨rfl, rfl⟩ := HNO.out (.inl ⟨rfl, rfl⟩)
          clear hg
          go_wp2
          go_ret
          exact ⟨by simp, HW.out⟩
      | some x =>
        have HDR := hide (HRr.out.drop c)
        go_wp2_with fail
        · rename_i hcap
          refine (sum_at _ _ _ _ (l.drop c) (by first | exact HT2.out | (rw [HT2.out]; omega)) (.inl (by rw [List.drop_eq_nil_iff]; omega)) HM4.out).mono ?_
          rintro e v ⟨rfl, rfl⟩
          rw [HD.out]
          by_cases hg : a2 = 0
          · subst hg
            by_cases hh : d2 = 0
            · subst hh
              have HP : Hid (plusA a1 d1 = (n1, n2)) := hide (HYES.out rfl rfl)
              rcases HN2.out with h2 | ⟨h1, h2⟩
              · subst h2
                go_wp2_with fail
                refine (plus_any _ _ _).mono ?_
                rintro e v ⟨rfl, rfl⟩
                rw [HP.out]
                go_wp2
                go_ret
                exact ⟨by simp, HW.out⟩
              · subst h1 h2
                go_wp2_with fail
                refine (plus_any _ _ _).mono ?_
                rintro e v ⟨rfl, rfl⟩
                rw [HP.out]
                go_wp2
                go_ret
                exact ⟨by simp, HW.out⟩
            · obtain ⟨rfl, rfl⟩ : d1 = 0 ∧ d2 = 80 := by
                rcases HD2.out with h | h
                · exact absurd h hh
                · exact h
              obtain ⟨rfl, rfl⟩ := HNO.out (.inr ⟨rfl, rfl⟩)
              clear hh
              go_wp2
              go_ret
              exact ⟨by simp, HW.out⟩
          · obtain ⟨rfl, rfl⟩ : a1 = 0 ∧ a2 = 80 := by
              rcases HA2.out with h | h
              · exact absurd h hg
              · exact h
            obtain ⟨rfl, rfl⟩ := HNO.out (.inl ⟨rfl, rfl⟩)
            clear hg
            go_wp2
            go_ret
            exact ⟨by simp, HW.out⟩
        · refine (sum_at _ _ _ _ (l.drop c) HT2.out HDR.out HM4.out).mono ?_
          rintro e v ⟨rfl, rfl⟩
          rw [HD.out]
          by_cases hg : a2 = 0
          · subst hg
            by_cases hh : d2 = 0
            · subst hh
              have HP : Hid (plusA a1 d1 = (n1, n2)) := hide (HYES.out rfl rfl)
              rcases HN2.out with h2 | ⟨h1, h2⟩
              · subst h2
                go_wp2_with fail
                refine (plus_any _ _ _).mono ?_
                rintro e v ⟨rfl, rfl⟩
                rw [HP.out]
                go_wp2
                go_ret
                exact ⟨by simp, HW.out⟩
              · subst h1 h2
                go_wp2_with fail
                refine (plus_any _ _ _).mono ?_
                rintro e v ⟨rfl, rfl⟩
                rw [HP.out]
                go_wp2
                go_ret
                exact ⟨by simp, HW.out⟩
            · obtain ⟨rfl, rfl⟩ : d1 = 0 ∧ d2 = 80 := by
                rcases HD2.out with h | h
                · exact absurd h hh
                · exact h
              obtain ⟨rfl, rfl⟩ := HNO.out (.inr ⟨rfl, rfl⟩)
              clear hh
              go_wp2
              go_ret
              exact ⟨by simp, HW.out⟩
          · obtain ⟨rfl, rfl⟩ : a1 = 0 ∧ a2 = 80 := by
              rcases HA2.out with h | h
              · exact absurd h hg
              · exact h
            obtain ⟨rfl, rfl⟩ := HNO.out (.inl ⟨rfl, rfl⟩)
            clear hg
            go_wp2
            go_ret
            exact ⟨by simp, HW.out⟩
theorem amountParts_walk (a0 : Option Addr) (n cap0 : Nat) (l : List Int) (at0 : Int) (w : World) (h0 : RowI w a0 l) (hn0 : l.length = n) (hl : n * 8 ≤ 140737488351232) (hc : n ≤ cap0) (hcm : cap0 ≤ maxLen) (hn : a0 = none → cap0 = 0) (hi : (Lit.int .i64 at0).wf = true) :
    Calls Try.prog 4 #[.slice a0 n cap0, .int .i64 at0] w fun e w' => e = .returned (.bool true) ∧ Below w.heap.size w w' := by
  subst hn0; exact parts_any a0 cap0 l at0 w h0 hl hc hcm hn hi
end Go.Proofs.Ytfcbpphdgghakaa
