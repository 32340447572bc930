/-
  CheckBack: the walk.
-/
import Derived.Test.YtobfijpfdibccaaKBack
namespace Go.Proofs.Ytobfijpfdibccaa
open Go.RowKit Go.Maps Go.WideMaps
set_option linter.unusedVariables false
theorem k_shape {w : World} {e n : Nat} {v : Value} {xs : List Value} (h : w.ownsRow 0 e 1 v n xs) : ∃ ad cap, v = .slice ad n cap := by
  rcases h.2 with ⟨rfl, hn⟩ | ⟨g, cap, cur, rfl, _⟩
  · subst hn; exact ⟨none, 0, rfl⟩
  · exact ⟨_, cap, rfl⟩
/-- int(uint(X) % uint(n)), as rules of a walk. -/
structure KMod (X : Int) (n : Nat) (U L C : Int) : Prop where
  hL : L = (n : Int)
  e1 : IntKind.u64.wrap X = U
  e3 : IntKind.u64.wrap L = L
  e4 : U.tmod L = C
  e5 : wrap64 C = C
  ne : ¬ L = 0
theorem kwrap_u64 (X : Int) : IntKind.u64.wrap X = X % 18446744073709551616 := by simp [IntKind.wrap, IntKind.bits, IntKind.signed]
theorem kmod (X : Int) (n : Nat) (h0 : 0 < n) (h1 : n < 9223372036854775808) : ∃ (U L : Int) (c : Nat), c < n ∧ KMod X n U L (c : Int) := by
  obtain ⟨u, hu⟩ : ∃ u : Nat, X % 18446744073709551616 = (u : Int) := ⟨(X % 18446744073709551616).toNat, by omega⟩
  have hlt : u % n < n := Nat.mod_lt _ h0
  refine ⟨(u : Int), (n : Int), u % n, hlt, rfl, by rw [kwrap_u64, hu], by rw [kwrap_u64]; omega, by rw [Int.tmod_eq_emod_of_nonneg (by omega)]; rfl, ?_, by omega⟩
  generalize u % n = c at hlt
  unfold wrap64; omega
theorem kxor_byte (x y : UInt8) : bits .xor .u8 (x.toNat : Int) (y.toNat : Int) = ((x ^^^ y).toNat : Int) := by
  have hx := x.toNat_lt
  have hy := y.toNat_lt
  show IntKind.u8.wrap _ = _
  have e : ((BitVec.ofInt IntKind.u8.bits (x.toNat : Int)) ^^^ (BitVec.ofInt IntKind.u8.bits (y.toNat : Int))).toNat = (x ^^^ y).toNat := by
    show ((BitVec.ofInt 8 (x.toNat : Int)) ^^^ (BitVec.ofInt 8 (y.toNat : Int))).toNat = (x ^^^ y).toNat
    rw [BitVec.toNat_xor, UInt8.toNat_xor]
    simp
  rw [e, IntKind.wrap_u8]
  have := (x ^^^ y).toNat_lt
  omega
theorem k_flip (x : UInt8) : x ^^^ 1 ≠ x := by
  intro h
  have h1 : (x ^^^ 1).toBitVec = x.toBitVec := by rw [h]
  rw [UInt8.toBitVec_xor] at h1
  have h2 : x.toBitVec ^^^ (x.toBitVec ^^^ (1 : UInt8).toBitVec) = x.toBitVec ^^^ x.toBitVec := by rw [h1]
  rw [← BitVec.xor_assoc, BitVec.xor_self, BitVec.zero_xor] at h2
  exact absurd h2 (by decide)
theorem k_put {l : Key} {j : Nat} (hj : j < l.length) (x : UInt8) : l.take j ++ [x] ++ l.drop (j + 1) = l.set j x := by
  rw [List.set_eq_take_append_cons_drop, if_pos hj]; simp
section
variable {B : Nat} {w : World} {p : Nat}
theorem kb_list0 (h : Lies B w [.disk p (AD.fresh 16777216)]) : Calls Try.prog 13 #[.pointer (some ⟨p, 0, none⟩)] w fun e w' => (∃ ad cap, e = .returned (.slice ad 0 cap)) ∧ Below B w w' := by
  refine (s_list (i := 0) h rfl).mono ?_
  rintro e w' ⟨v, rfl, ho, _, hb⟩
  have ho' : w'.ownsRow 0 9 1 v 0 [] := ho
  obtain ⟨ad, cap, rfl⟩ := k_shape ho'
  exact ⟨⟨ad, cap, rfl⟩, hb⟩
theorem kb_list1 {F : AF} (h : Lies B w [.disk p ⟨16777216, [([99], F)], kP0⟩]) : Calls Try.prog 13 #[.pointer (some ⟨p, 0, none⟩)] w fun e w' => (∃ ad cap, e = .returned (.slice ad 1 cap)) ∧ Lies B w' [.disk p ⟨16777216, [([99], F)], kP0⟩] ∧ Below B w w' := by
  refine (s_list (i := 0) h rfl).mono ?_
  rintro e w' ⟨v, rfl, ho, hl, hb⟩
  have ho' : w'.ownsRow 0 9 1 v 1 [encStr [99]] := ho
  obtain ⟨ad, cap, rfl⟩ := k_shape ho'
  exact ⟨⟨ad, cap, rfl⟩, hl.drop, hb⟩
theorem kb_dirty {F : AF} (hF : ∀ s, F.dirty s = false) (h : Lies B w [.disk p ⟨16777216, [([99], F)], kP0⟩]) : Calls Try.prog 16 #[.pointer (some ⟨p, 0, none⟩), .string ⟨#[99]⟩] w fun e w' => (∃ ad cap, e = .returned (.slice ad 0 cap)) ∧ Lies B w' [.disk p ⟨16777216, [([99], F)], kP0⟩] ∧ Below B w w' := by
  have e0 : (⟨16777216, [([99], F)], kP0⟩ : AD).dirtyI (⟨#[99]⟩ : ByteArray).data.toList = [] := by
    have hg : fget [(([99] : Key), F)] [99] = some F := by rw [fget_cons, if_pos rfl]
    show (⟨16777216, [([99], F)], kP0⟩ : AD).dirtyI [99] = []
    unfold AD.dirtyI AD.dirty
    rw [if_neg (by simp [kP0])]
    simp only [hg, AF.dirtyL, List.map_eq_nil_iff, List.filter_eq_nil_iff]
    intro s _
    rw [hF]; simp
  have := s_dirty (i := 0) h rfl ⟨#[99]⟩ (by decide)
  rw [e0] at this
  refine this.mono ?_
  rintro e w' ⟨v, rfl, ho, hl, hb⟩
  have ho' : w'.ownsRow 0 3 1 v 0 [] := ho
  obtain ⟨ad, cap, rfl⟩ := k_shape ho'
  exact ⟨⟨ad, cap, rfl⟩, hl.drop, hb⟩
theorem kb_size {F : AF} {L : Int} (hL : L = (F.seen.length : Int)) (h : Lies B w [.disk p ⟨16777216, [([99], F)], kP0⟩]) : Calls Try.prog 14 #[.pointer (some ⟨p, 0, none⟩), .string ⟨#[99]⟩] w fun e w' => e = .returned (.tuple #[.int .i64 L, .int .i64 0]) ∧ w' = w := by
  have := s_size (i := 0) h rfl ⟨#[99]⟩ (by decide)
  have e0 : (⟨16777216, [([99], F)], kP0⟩ : AD).size (⟨#[99]⟩ : ByteArray).data.toList = (L, 0) := by
    have hg : fget [(([99] : Key), F)] [99] = some F := by rw [fget_cons, if_pos rfl]
    show (⟨16777216, [([99], F)], kP0⟩ : AD).size [99] = _
    unfold AD.size
    rw [if_neg (by simp [kP0])]
    simp only [hg, hL]
  rw [e0] at this
  exact this
end
set_option maxRecDepth 5000 in
set_option maxHeartbeats 4000000 in
theorem back_walk (w : World) (q : ByteArray) (hq : q.size ≤ maxLen) (hq2 : q.size ≤ 140737488355328) (X : Int) (hX : -9223372036854775808 ≤ X ∧ X < 9223372036854775808) (t : ByteArray) (htm : t.size ≤ maxLen) (ht : t.size ≤ 140737488355328) :
    Calls Try.prog 4 #[.string q, .int .i64 X, .string t] w fun e w' => e = .returned (.bool true) ∧ Below w.heap.size w w' := by
  obtain ⟨B, hB⟩ : ∃ B, w.heap.size = B := ⟨_, rfl⟩
  have hl0 : Lies B w [] := Lies.nil (by rw [hB]; exact Nat.le_refl _)
  have hnew := k_new hl0 16777216 (by decide) (by decide)
  rw [hB]
  have HT := hide ht
  clear hl0 hB hX ht hq2 htm
  by_cases hlong : 1048448 < q.size
  · have dl : decide ((q.size : Int) > 1048448) = true := decide_eq_true (by omega)
    have dl' : decide ((1048448 : Int) < (q.size : Int)) = true := decide_eq_true (by omega)
    have HQ := hide hlong
    clear hlong hq
    go_enter Try.func4, Try.ntmps4
    go_wp2_with fail
    refine hnew.mono ?_
    rintro e w1 ⟨p, rfl, h, hb⟩
    have H1 := hide h
    have HB1 := hide hb
    clear h hb hnew
    go_wp2_with fail
    refine (kFirst_any w1).mono ?_
    rintro e w2 ⟨rfl, hb⟩
    have hl2 := H1.out.below hb
    have HB2 := hide (HB1.out.trans (hb.mono H1.out.base))
    have hc := save_any (i := 0) hl2 rfl ⟨#[99]⟩ q
    rw [show (AD.fresh 16777216).save (⟨#[99]⟩ : ByteArray).data.toList q.data.toList = (3, AD.fresh 16777216) from save_long kname99 (by rw [str_len]; exact HQ.out)] at hc
    clear hb hl2 H1 HB1
    go_wp2_with fail
    refine hc.mono ?_
    rintro e w3 ⟨rfl, h, hb⟩
    have HB3 := hide (HB2.out.trans hb)
    have hc2 := kb_list0 h
    clear h hb HB2 hc
    go_wp2_with fail
    refine hc2.mono ?_
    rintro e w4 ⟨⟨ad, cap, rfl⟩, hb⟩
    have HB4 := hide (HB3.out.trans hb)
    clear hb HB3 hc2
    go_wp2
    go_ret
    exact ⟨rfl, HB4.out⟩
  have dl : decide ((q.size : Int) > 1048448) = false := decide_eq_false (by omega)
  have dl' : decide ((1048448 : Int) < (q.size : Int)) = false := decide_eq_false (by omega)
  have hq8 : q.size ≤ 1048448 := by omega
  obtain ⟨U, N, c, hcn, M⟩ := kmod X (q.size + 8) (by omega) (by omega)
  have dn : (N == (q.size : Int) + 8) = true := beq_iff_eq.2 (by rw [M.hL]; omega)
  have dn' : (N != (q.size : Int) + 8) = false := by unfold bne; rw [dn]; rfl
  have dn2 : (N == wrap64 ((q.size : Int) + 8)) = true := beq_iff_eq.2 (by rw [M.hL]; unfold wrap64; omega)
  have dn2' : (N != wrap64 ((q.size : Int) + 8)) = false := by unfold bne; rw [dn2]; rfl
  obtain ⟨P, hP⟩ : ∃ P, pbytes q.data.toList = P := ⟨_, rfl⟩
  have hPl : P.length = q.size + 8 := by rw [← hP, pbytes_length, str_len]
  have hcP : c < P.length := by omega
  obtain ⟨x, hx⟩ : ∃ x, P[c] = x := ⟨_, rfl⟩
  obtain ⟨y, hy⟩ : ∃ y, x ^^^ 1 = y := ⟨_, rfl⟩
  obtain ⟨V, hV⟩ : ∃ V : ByteArray, V = ⟨#[x]⟩ := ⟨_, rfl⟩
  obtain ⟨Y, hY⟩ : ∃ V : ByteArray, V = ⟨#[y]⟩ := ⟨_, rfl⟩
  have hVl : V.data.toList = [x] := by rw [hV]
  have hYl : Y.data.toList = [y] := by rw [hY]
  have hVz : V.size = 1 := by rw [hV]; rfl
  have hYz : Y.size = 1 := by rw [hY]; rfl
  have hix : ∀ w' : World, (Instr.index 9 (.string V) (.int .i64 0)).run Try.prog w' = .ok (.int .u8 (x.toNat : Int)) w' := fun w' => run_index_str w' V .i64 0 x (by rw [hV]; rfl)
  have hxor : bits .xor .u8 (x.toNat : Int) 1 = (y.toNat : Int) := by rw [← hy]; exact kxor_byte x 1
  have hcv : ∀ w : World, (convert 49 9 (.slice (some ⟨w.heap.size, 0, none⟩) 1 1)).run Try.prog (w.alloc (.cells #[.int .u8 (y.toNat : Int)] 5)) = .ok (.string Y) (w.alloc (.cells #[.int .u8 (y.toNat : Int)] 5)) := fun w => by rw [hY]; exact conv_made w [y] (by show 1 ≤ maxLen; unfold maxLen; omega)
  have HW1 : Hid (wholeP (P.set c y) = none) := by
    show _ = none
    have hj : c < (pbytes q.data.toList).length := by rw [hP]; exact hcP
    have := turned_none (p := q.data.toList) (by rw [str_len]; exact hq8) hj (x := y) (by
      intro e
      have hx' : (pbytes q.data.toList)[c] = x := by rw [← hx]; congr 1
      rw [hx', ← hy] at e
      exact k_flip x e)
    rw [hP] at this
    exact this
  have HW2 : Hid (wholeP (P ++ [120]) = none) := by
    show _ = none
    rw [← hP]
    exact more_none (by rw [str_len]; exact hq8) (by simp)
  have HW3 : Hid (wholeP ((P ++ [120]).take (q.size + 7)) = none) := by
    show _ = none
    rw [List.take_append_of_le_length (by omega), ← hP]
    exact fewer_none (by rw [str_len]; exact hq8) (by rw [str_len]; omega)
  have HN1 : Hid (wrap64 (N - 1) = ((q.size + 7 : Nat) : Int)) := by
    show _ = _
    rw [M.hL]; unfold wrap64; omega
  have HNL : Hid (N = ((q.size + 8 : Nat) : Int)) := M.hL
  have HSV : Hid (∀ w' p, Lies B w' [.disk p (AD.fresh 16777216)] → Calls Try.prog 7 #[.pointer (some ⟨p, 0, none⟩), .string ⟨#[99]⟩, .string q] w' fun e w'' => e = .returned (.int .i64 0) ∧ Lies B w'' [.disk p ⟨16777216, [([99], ⟨P, P, fun _ => false⟩)], kP0⟩] ∧ Below B w' w'') := fun w' p h => by
    have hc := save_any (i := 0) h rfl ⟨#[99]⟩ q
    rw [show (AD.fresh 16777216).save (⟨#[99]⟩ : ByteArray).data.toList q.data.toList = (0, ⟨16777216, [([99], ⟨pbytes q.data.toList, pbytes q.data.toList, fun _ => false⟩)], kP0⟩) from save_fresh kname99 (by rw [str_len]; exact hq8), hP] at hc
    exact hc
  have HKB : Hid (KB ⟨16777216, [([99], ⟨P, P, fun _ => false⟩)], kP0⟩ P 1) := ⟨rfl, rfl, ⟨_, by rw [fget_cons, if_pos rfl], rfl⟩, by simp⟩
  have HPQ := hide hP
  have HPL := hide hPl
  have HCP := hide hcP
  have HX : Hid (∀ h : c < P.length, P[c]'h = x) := fun _ => hx
  have HVL := hide hVl
  have HYL := hide hYl
  have HVZ := hide hVz
  have HYZ := hide hYz
  have HQ8 := hide hq8
  have HVV := hide hV
  have HMM := hide M
  clear hlong hq hcn hP hPl hcP hx hy hV hY hVl hYl hVz hYz hq8 M
  go_enter Try.func4, Try.ntmps4
  go_wp2_with fail
  refine hnew.mono ?_
  rintro e w1 ⟨p, rfl, h, hb⟩
  have H1 := hide h
  have HB1 := hide hb
  clear h hb hnew
  go_wp2_with fail
  refine (kFirst_any w1).mono ?_
  rintro e w2 ⟨rfl, hb⟩
  have hl2 := H1.out.below hb
  have HB2 := hide (HB1.out.trans (hb.mono H1.out.base))
  have hc := HSV.out w2 p hl2
  clear hb hl2 H1 HB1
  go_wp2_with fail
  refine hc.mono ?_
  rintro e w3 ⟨rfl, h, hb⟩
  have HB3 := hide (HB2.out.trans hb)
  have H3 := hide h
  have hc2 := kb_size (L := N) (by rw [HNL.out]; show _ = ((P.length : Nat) : Int); rw [HPL.out]) h
  clear h hb HB2 hc
  go_wp2_with fail
  refine hc2.mono ?_
  rintro e w4 ⟨rfl, hw⟩
  obtain rfl := hw.symm
  clear hw hc2
  have hc3 := kb_good (m := 1) H3.out q (by rw [HPQ.out]; exact HKB.out) HQ8.out
  go_wp2_with fail
  refine hc3.mono ?_
  rintro e w5 ⟨rfl, h, hb⟩
  have HB5 := hide (HB3.out.trans hb)
  have hc4 := kb_list1 h
  clear h hb HB3 H3 hc3
  go_wp2_with fail
  refine hc4.mono ?_
  rintro e w6 ⟨⟨ad6, cap6, rfl⟩, h, hb⟩
  have HB6 := hide (HB5.out.trans hb)
  have hc5 := kb_dirty (fun _ => rfl) h
  clear h hb HB5 hc4
  go_wp2_with fail
  refine hc5.mono ?_
  rintro e w7 ⟨⟨ad7, cap7, rfl⟩, h, hb⟩
  have HB7 := hide (HB6.out.trans hb)
  have H7 := hide h
  clear h hb HB6 hc5
  obtain ⟨A7, hA7⟩ : ∃ A7 : AD, (⟨16777216, [([99], ⟨P, P, fun _ => false⟩)], kP0⟩ : AD) = A7 := ⟨_, rfl⟩
  rw [hA7] at HKB H7
  clear hA7 HSV
  have m1 := HMM.out.e1
  have m3 := HMM.out.e3
  have m4 := HMM.out.e4
  have m5 := HMM.out.e5
  have mn := HMM.out.ne
  have HM5 := hide HMM.out.e5
  have hc6 := kb_read H7.out HKB.out HCP.out (c : Int) rfl
  rw [HX.out HCP.out, ← HVV.out] at hc6
  clear HMM
  go_wp2_with fail
  refine hc6.mono ?_
  rintro e w8 ⟨rfl, h, hb⟩
  have HB8 := hide (HB7.out.trans hb)
  have H8 := hide h
  clear h hb H7 HB7 hc6 m1 m3 m4 m5 mn dn dn' dn2 dn2' dl dl'
  have hb9 : Below w8.heap.size w8 (w8.alloc (.cells #[.int .u8 (y.toNat : Int)] 5)) := (Below.refl _ _).alloc (Nat.le_refl _) _
  have H9 := hide (H8.out.below hb9)
  have HB9 := hide (HB8.out.trans (hb9.mono H8.out.base))
  clear hb9 HB8 H8
  have HC7 := hide (kb_write H9.out HKB.out (by omega) c Y (Nat.le_of_lt HCP.out) (by rw [HPL.out]; have := HQ8.out; omega) (by rw [HYZ.out]; have := HCP.out; rw [HPL.out] at this; have := HQ8.out; omega) (by rw [HYZ.out]; omega) (wrap64 (c : Int)) HM5.out)
  go_wp2_with fail
  refine HC7.out.mono ?_
  rintro e w10 ⟨⟨x10, rfl⟩, A10, hk, h, hb⟩
  rw [HYL.out, HYZ.out, k_put HCP.out] at hk
  have HK10 := hide hk
  have H10 := hide h
  have HB10 := hide (HB9.out.trans hb)
  clear hk h hb H9 HB9 HC7 hcv hxor hix
  have hc8 := kb_bad H10.out HK10.out (by rw [List.length_set, HPL.out]; have := HQ8.out; omega) HW1.out
  go_wp2_with fail
  refine hc8.mono ?_
  rintro e w11 ⟨⟨s11, rfl⟩, h, hb⟩
  have H11 := hide h
  have HB11 := hide (HB10.out.trans hb)
  clear h hb H10 HB10 hc8
  have HC9 := hide (kb_write H11.out HK10.out (by omega) c V (by rw [List.length_set]; exact Nat.le_of_lt HCP.out) (by rw [List.length_set, HPL.out]; have := HQ8.out; omega) (by rw [HVZ.out]; have := HCP.out; rw [HPL.out] at this; have := HQ8.out; omega) (by rw [HVZ.out]; omega) (wrap64 (c : Int)) HM5.out)
  go_wp2_with fail
  refine HC9.out.mono ?_
  rintro e w12 ⟨⟨x12, rfl⟩, A12, hk, h, hb⟩
  rw [HVL.out, HVZ.out, k_put (by rw [List.length_set]; exact HCP.out), List.set_set] at hk
  have hk' : KB A12 P 1 := by
    have e : P.set c x = P := by rw [← HX.out HCP.out]; simp
    rw [e] at hk
    exact hk
  have HK12 := hide hk'
  have HB12 := hide (HB11.out.trans hb)
  have hc10 := kb_tmp h hk' t HT.out
  clear hk hk' h hb H11 HB11 HC9 HK10
  go_wp2_with fail
  refine hc10.mono ?_
  rintro e w13 ⟨⟨x13, rfl⟩, A13, hk, h, hb⟩
  have HK13 := hide hk
  have HB13 := hide (HB12.out.trans hb)
  have hc11 := kb_good h q (by rw [HPQ.out]; exact hk) HQ8.out
  clear hk h hb HB12 HK12 hc10
  go_wp2_with fail
  refine hc11.mono ?_
  rintro e w14 ⟨rfl, h, hb⟩
  have HB14 := hide (HB13.out.trans hb)
  have HC12 := hide (kb_write h HK13.out (by omega) (q.size + 8) ⟨#[120]⟩ (by rw [HPL.out]; exact Nat.le_refl _) (by rw [HPL.out]; have := HQ8.out; omega) (by show q.size + 8 + 1 ≤ _; have := HQ8.out; omega) (by decide) N HNL.out)
  clear h hb HB13 hc11
  go_wp2_with fail
  refine HC12.out.mono ?_
  rintro e w15 ⟨⟨x15, rfl⟩, A15, hk, h, hb⟩
  have hk' : KB A15 (P ++ [120]) 2 := by
    rw [List.take_of_length_le (by rw [HPL.out]; exact Nat.le_refl _), List.drop_of_length_le (by rw [HPL.out]; omega), List.append_nil] at hk
    exact hk
  have HK15 := hide hk'
  have HB15 := hide (HB14.out.trans hb)
  have hc13 := kb_bad h hk' (by rw [List.length_append, HPL.out]; have := HQ8.out; show q.size + 8 + 1 ≤ _; omega) HW2.out
  clear hk hk' h hb HB14 HK13 HC12
  go_wp2_with fail
  refine hc13.mono ?_
  rintro e w16 ⟨⟨s16, rfl⟩, h, hb⟩
  have HB16 := hide (HB15.out.trans hb)
  have H16 := hide h
  clear h hb HB15 hc13
  go_wp2_with fail
  refine (kb_trunc H16.out HK15.out (q.size + 7) (by rw [List.length_append, HPL.out]; show _ ≤ q.size + 8 + 1; omega) _ HN1.out).mono ?_
  rintro e w17 ⟨⟨x17, rfl⟩, A17, hk, h, hb⟩
  have HK17 := hide hk
  have HB17 := hide (HB16.out.trans hb)
  have hc14 := kb_bad h hk (by rw [List.length_take]; have := HQ8.out; omega) HW3.out
  clear hk h hb HB16 HK15 H16
  go_wp2_with fail
  refine hc14.mono ?_
  rintro e w18 ⟨⟨s18, rfl⟩, h, hb⟩
  have HB18 := hide (HB17.out.trans hb)
  have hc15 := kb_trunc h HK17.out 0 (Nat.zero_le _) 0 rfl
  clear h hb HB17 hc14 HK17
  go_wp2_with fail
  refine hc15.mono ?_
  rintro e w19 ⟨⟨x19, rfl⟩, A19, hk, h, hb⟩
  have HB19 := hide (HB18.out.trans hb)
  have hc16 := kb_bad h hk (by simp) (by exact short_none (by simp))
  clear hk h hb HB18 hc15
  go_wp2_with fail
  refine hc16.mono ?_
  rintro e w20 ⟨⟨s20, rfl⟩, h, hb⟩
  have HB20 := hide (HB19.out.trans hb)
  clear h hb HB19 hc16
  go_wp2
  go_ret
  exact ⟨rfl, HB20.out⟩
end Go.Proofs.Ytobfijpfdibccaa
