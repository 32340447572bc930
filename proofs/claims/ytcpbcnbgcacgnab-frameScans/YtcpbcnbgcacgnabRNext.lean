/-
  The document's Next.
-/
import Derived.Test.YtcpbcnbgcacgnabRFrame
import Derived.Test.YtcpbcnbgcacgnabFMore
namespace Go.Proofs.Ytcpbcnbgcacgnab
open Go.RowKit C
set_option linter.unusedVariables false
theorem be_take_succ (l : List UInt8) (q : Nat) (h : q < l.length) : be (l.take (q + 1)) = be (l.take q) * 256 + (l[q]).toNat := by
  rw [List.take_succ_eq_append_getElem h, be_snoc]
theorem be_take_lt (l : List UInt8) (q : Nat) : be (l.take q) < 256 ^ q := by
  have h := be_lt (l.take q)
  have : 256 ^ (l.take q).length ≤ 256 ^ q := Nat.pow_le_pow_right (by decide) (by rw [List.length_take]; omega)
  omega
theorem be_take_small (l : List UInt8) (q : Nat) (h : q < 4) : be (l.take q) < 16777216 := by
  have h1 := be_take_lt l q
  have h2 : 256 ^ q ≤ 256 ^ 3 := Nat.pow_le_pow_right (by decide) (by omega)
  exact Nat.lt_of_lt_of_le h1 (Nat.le_trans h2 (by decide))
theorem whole_len {n : Int} {T p : List UInt8} (h : Whole n T p) : be (T.take 4) = p.length := by
  obtain ⟨a1, _⟩ := frame_head h.2.2.2
  rw [a1, be_nb, Nat.mod_eq_of_lt (by have := h.2.2.1; omega)]
theorem doc_none1 (T : List UInt8) (n : Int) (h : 65536 < be (T.take 4)) : wholeT T n = none := by
  rw [wholeT_none]
  intro p hp
  have := whole_len hp
  have := hp.2.2.1
  omega
theorem doc_none2 (T : List UInt8) (n : Int) (h : T.length < room (be (T.take 4))) : wholeT T n = none := by
  rw [wholeT_none]
  intro p hp
  have h1 := whole_len hp
  have h2 := hp.len
  rw [h1] at h
  omega
theorem doc_iff (T : List UInt8) (m s : Nat) (hm : m < 9223372036854775808) (hs : be (T.take 4) = s) (h1 : s ≤ 65536) (h2 : room s ≤ T.length) : wholeT T m = if frameL m ((T.drop 16).take s) = T.take (room s) then some ((T.drop 16).take s) else none := by
  have hr := room_ge s
  have hl : ((T.drop 16).take s).length = s := by rw [List.length_take, List.length_drop]; omega
  split
  · rename_i h
    refine wholeT_some.2 ⟨by omega, by omega, by rw [hl]; exact h1, ?_⟩
    rw [Int.toNat_natCast, h]
    exact List.take_prefix _ _
  · rename_i h
    rw [wholeT_none]
    intro p hp
    have e1 := whole_len hp
    rw [hs] at e1
    have e2 := hp.payload
    unfold payloadL at e2
    rw [hs] at e2
    have e3 := hp.split
    rw [Int.toNat_natCast] at e3
    apply h
    rw [e2]
    have e4 : T.take (room s) = frameL m p := by
      rw [e3, List.take_left' (by rw [frameL_length, e1])]
    rw [e4]
theorem conv_byte (C : Int) (h0 : 0 ≤ C) (h1 : C < 256) (w : World) : (convert 5 3 (.int .u8 C)).run Try.prog w = .ok (.int .i64 C) w := by
  have h := run_convert_int (P := Try.prog) (w := w) 5 3 .u8 C (by kernel_rfl) (by kernel_rfl)
  have e2 : IntKind.i64.wrap C = C := by rw [IntKind.wrap_i64]; omega
  rw [show Try.prog.intKind 3 = .i64 by kernel_rfl, e2] at h
  exact h
theorem wrap_nat (x : Int) (j : Nat) (h : x = (j : Int)) (hj : j < 9223372036854775808) : wrap64 x = (j : Int) := by
  subst h; unfold wrap64; omega
set_option maxHeartbeats 2000000 in
theorem rnext_mid (b : ByteArray) (k m : Nat) (w : World) (hm : m < 9223372036854775808) (hbs : b.size ≤ 281474976710656) (hk : k + 16 ≤ b.size) : Calls Try.prog 10 #[.string b, .int .i64 (k : Int), .int .i64 (m : Int)] w fun e w' => e = .returned (nx b.data.toList k m) ∧ Below w.heap.size w w' := by
  have HM := hide hm
  have HBS := hide hbs
  have HK := hide hk
  have d0 : ((k : Int) == (b.size : Int)) = false := beq_eq_false_iff_ne.2 (by omega)
  have d1 : decide ((k : Int) < 0) = false := decide_eq_false (by omega)
  have d2 : decide ((k : Int) > (b.size : Int)) = false := decide_eq_false (by omega)
  have d3 : decide ((b.size : Int) < (k : Int)) = false := decide_eq_false (by omega)
  have d4 : decide (b.size < k) = false := decide_eq_false (by omega)
  have d5 : decide ((m : Int) < 0) = false := decide_eq_false (by omega)
  obtain ⟨r, hr⟩ : ∃ r : Nat, b.size - k = r := ⟨_, rfl⟩
  have e6 : wrap64 ((b.size : Int) - (k : Int)) = (r : Int) := by unfold wrap64; omega
  have d6 : decide ((r : Int) < 16) = false := decide_eq_false (by omega)
  have HR := hide hr
  obtain ⟨T, hT⟩ : ∃ T : List UInt8, b.data.toList.drop k = T := ⟨_, rfl⟩
  have HT := hide hT
  have HTl : Hid (T.length = r) := by show _ = _; rw [← hT, List.length_drop, str_len]; exact hr
  obtain ⟨M, hM⟩ : ∃ M : Int, (m : Int) = M := ⟨_, rfl⟩
  have HMM := hide hM
  rw [hM] at d5 ⊢
  have e0 : nextA b.data.toList (k : Int) m = match wholeT T m with
      | some p => (p, room p.length, 1)
      | none => ([], 0, 2) := by
    unfold nextA
    rw [if_neg (by rw [str_len]; omega), if_neg (by rw [str_len]; omega), Int.toNat_natCast, hT]
    generalize wholeT T (m : Int) = o
    cases o <;> rfl
  have E0 := hide e0
  obtain ⟨V, hV⟩ : ∃ V : Value, nx b.data.toList (k : Int) M = V := ⟨_, rfl⟩
  have HV := hide hV
  rw [hV]
  clear hV
  clear hm hbs hk hr hT hM e0
  go_enter Try.func10, Try.ntmps10
  go_wp2
  go_loop [9, 10] (fun s i => ∃ q : Nat, q ≤ 4 ∧ i = .int .i64 (q : Int) ∧ s = .int .i64 (be (T.take q) : Int)) (fun _ i => 4 - (intOf i).toNat)
  case atStart => exact ⟨0, by omega, rfl, rfl⟩
  case round =>
    obtain ⟨q, hq, rfl, rfl⟩ := hrel
    by_cases hlt : q < 4
    · have hl := HTl.out
      have hrr := HR.out
      have hkk := HK.out
      have hb4 := be_take_small T q hlt
      have hqT : q < T.length := by omega
      obtain ⟨j, hj⟩ : ∃ j : Nat, k + q = j := ⟨_, rfl⟩
      have hjb : j < b.size := by omega
      have g0 : (0 : Int) ≤ (j : Int) := by omega
      have g1 : (j : Int) < (b.size : Int) := by omega
      have dq : decide ((q : Int) < 4) = true := decide_eq_true (by omega)
      have hw1 : wrap64 ((k : Int) + (q : Int)) = (j : Int) := by have := HBS.out; unfold wrap64; omega
      have hbj : (T[q]).toNat = (b[j]).toNat := by
        have e : T[q]? = b.data.toList[k + q]? := by rw [← HT.out, List.getElem?_drop]
        rw [List.getElem?_eq_getElem hqT, hj, List.getElem?_eq_getElem (by rw [str_len]; exact hjb)] at e
        have e2 := Option.some.inj e
        rw [e2]
        rfl
      obtain ⟨S, hS⟩ : ∃ S : Nat, be (T.take q) = S := ⟨_, rfl⟩
      have hc8 := (b[j]).toNat_lt
      have hw2 : wrap64 (256 * (S : Int)) = 256 * (S : Int) := by unfold wrap64; omega
      have hw3 : wrap64 (256 * (S : Int) + ((b[j]).toNat : Int)) = 256 * (S : Int) + ((b[j]).toNat : Int) := by unfold wrap64; omega
      have hsu := be_take_succ T q hqT
      have HE : Hid ((256 * (S : Int) + ((b[j]).toNat : Int)) = (be (T.take (q + 1)) : Int)) := by show _ = _; rw [hsu, hS, hbj]; clear hsu; omega
      rw [hS]
      clear hS hsu hb4 hbj hj hl hrr hkk hqT
      go_wp2
      go_round
      case rel => exact ⟨q + 1, by omega, by go_num, by rw [← HE.out, hw3]⟩
      case measure => simp [intOf]; omega
    · have hq4 : q = 4 := by omega
      subst hq4
      obtain ⟨s, hs⟩ : ∃ s : Nat, be (T.take 4) = s := ⟨_, rfl⟩
      have dq : decide ((4 : Int) < 4) = false := rfl
      have HS := hide hs
      rw [hs]
      clear hlt hq hs
      by_cases hbig : 65536 < s
      · have e : nextA b.data.toList (k : Int) M = ([], 0, 2) := by rw [← HMM.out, E0.out, doc_none1 T m (by rw [HS.out]; exact hbig)]
        have EV : Hid (V = .tuple #[.string nil8, .int .i64 0, .int .i64 2]) := by show _ = _; rw [← HV.out]; exact nx_of e nil8 rfl 0 rfl
        have b1 : decide ((s : Int) > 65536) = true := decide_eq_true (by omega)
        have b2 : decide ((65536 : Int) < (s : Int)) = true := decide_eq_true (by omega)
        have b3 : decide (65536 < s) = true := decide_eq_true hbig
        clear e hbig
        go_wp2
        go_ret3
        exact ⟨by rw [EV.out]; rfl, Below.refl _ _⟩
      · have b1 : decide ((s : Int) > 65536) = false := decide_eq_false (by omega)
        have b2 : decide ((65536 : Int) < (s : Int)) = false := decide_eq_false (by omega)
        have b3 : decide (65536 < s) = false := decide_eq_false hbig
        obtain ⟨R, hR⟩ : ∃ R : Nat, room s = R := ⟨_, rfl⟩
        have HRR := hide hR
        have hs5 : s ≤ 65536 := by omega
        have ra := fun w => room_any s w (by omega) (s : Int) rfl (R : Int) (by rw [hR])
        have RA := hide ra
        have HBig := hide hs5
        clear hbig hR ra hs5
        by_cases hgt : r < R
        · have e : nextA b.data.toList (k : Int) M = ([], 0, 2) := by rw [← HMM.out, E0.out, doc_none2 T m (by rw [HS.out, HTl.out, HRR.out]; exact hgt)]
          have EV : Hid (V = .tuple #[.string nil8, .int .i64 0, .int .i64 2]) := by show _ = _; rw [← HV.out]; exact nx_of e nil8 rfl 0 rfl
          have c1 : decide ((R : Int) > (r : Int)) = true := decide_eq_true (by omega)
          have c2 : decide ((r : Int) < (R : Int)) = true := decide_eq_true (by omega)
          have c3 : decide (r < R) = true := decide_eq_true hgt
          clear e hgt
          go_wp2_with fail
          refine (RA.out _).mono ?_
          rintro e w1 ⟨rfl, hw1⟩
          obtain rfl := hw1
          go_wp2
          go_ret3
          exact ⟨by rw [EV.out]; rfl, Below.refl _ _⟩
        · have c1 : decide ((R : Int) > (r : Int)) = false := decide_eq_false (by omega)
          have c2 : decide ((r : Int) < (R : Int)) = false := decide_eq_false (by omega)
          have c3 : decide (r < R) = false := decide_eq_false hgt
          have hrg := room_ge s
          rw [HRR.out] at hrg
          have hkk := HK.out
          have hrr := HR.out
          have hbb := HBS.out
          have hbig := HBig.out
          obtain ⟨j1, hj1⟩ : ∃ j : Nat, k + 16 = j := ⟨_, rfl⟩
          obtain ⟨j2, hj2⟩ : ∃ j : Nat, k + 16 + s = j := ⟨_, rfl⟩
          obtain ⟨j3, hj3⟩ : ∃ j : Nat, k + R = j := ⟨_, rfl⟩
          have y1 : (k : Int) + 16 = (j1 : Int) := by clear e6; omega
          have y2 : (j1 : Int) + (s : Int) = (j2 : Int) := by clear e6; omega
          have y3 : (k : Int) + (R : Int) = (j3 : Int) := by clear e6; omega
          have z1 : j1 < 9223372036854775808 := by clear e6; omega
          have z2 : j2 < 9223372036854775808 := by clear e6; omega
          have z3 : j3 < 9223372036854775808 := by clear e6; omega
          have g1 : (0 : Int) ≤ (j1 : Int) := by omega
          have g2 : (j1 : Int) ≤ (j2 : Int) := by omega
          have g3 : (j2 : Int) ≤ (b.size : Int) := by omega
          have g4 : (0 : Int) ≤ (k : Int) := by omega
          have g5 : (k : Int) ≤ (j3 : Int) := by omega
          have g6 : (j3 : Int) ≤ (b.size : Int) := by omega
          obtain ⟨P, hP⟩ : ∃ P : ByteArray, b.extract j1 j2 = P := ⟨_, rfl⟩
          have hPl : P.data.toList = (T.drop 16).take s := by
            rw [← hP, ← hj2, ← hj1, ext_mid, ← HT.out, List.drop_drop]
          have hPs : P.size ≤ 65536 := by rw [← str_len, hPl, List.length_take]; omega
          have fa := fun w => rframe_ok m P w HM.out hPs
          obtain ⟨F, hF⟩ : ∃ F : ByteArray, F = ⟨(frameL m P.data.toList).toArray⟩ := ⟨_, rfl⟩
          rw [← hF, HMM.out] at fa
          have FA := hide fa
          obtain ⟨G, hG⟩ : ∃ G : ByteArray, b.extract k j3 = G := ⟨_, rfl⟩
          have hGl : G.data.toList = T.take R := by rw [← hG, ← hj3, ext_mid, ← HT.out]
          have hi := doc_iff T m s HM.out HS.out hbig (by rw [HTl.out, HRR.out]; omega)
          rw [HRR.out, ← hPl, ← hGl, ← show F.data.toList = frameL m P.data.toList by rw [hF]] at hi
          have HP := hide hP
          have HG := hide hG
          have hRl : (R : Int) = (room P.data.toList.length : Int) := by
            rw [hPl, List.length_take, List.length_drop, HTl.out, Nat.min_eq_left (by omega), HRR.out]
          have w1 := wrap_nat _ _ y1 z1
          have w2 := wrap_nat _ _ y2 z2
          have w3 := wrap_nat _ _ y3 z3
          clear y1 y2 y3 z1 z2 z3
          by_cases heq : F.data.toList = G.data.toList
          · rw [if_pos heq] at hi
            have e : nextA b.data.toList (k : Int) M = (P.data.toList, room P.data.toList.length, 1) := by rw [← HMM.out, E0.out, hi]
            have EV : Hid (V = .tuple #[.string P, .int .i64 (R : Int), .int .i64 1]) := by show _ = _; rw [← HV.out]; exact nx_of e P rfl (R : Int) hRl
            have q1 : (F.toList == G.toList) = true := by rw [beq_iff_eq, ByteArray.toList_eq, ByteArray.toList_eq]; exact heq
            clear e hi heq hRl hGl hG hF hPl hP hPs fa hj1 hj2 hj3 hkk hrr hbb hbig hrg hgt
            go_wp2_with fail
            refine (RA.out _).mono ?_
            rintro e w1 ⟨rfl, hw1⟩
            obtain rfl := hw1
            go_wp2_with fail
            rw [HP.out]
            refine (FA.out _).mono ?_
            rintro e w2 ⟨rfl, hb2⟩
            go_wp2_with fail
            refine (RA.out _).mono ?_
            rintro e w3 ⟨rfl, hw3⟩
            obtain rfl := hw3
            have hG := HG.out
            go_wp2_with fail
            refine (RA.out _).mono ?_
            rintro e w4 ⟨rfl, hw4⟩
            obtain rfl := hw4
            go_wp2
            go_ret3
            exact ⟨by rw [EV.out]; rfl, hb2⟩
          · rw [if_neg heq] at hi
            have e : nextA b.data.toList (k : Int) M = ([], 0, 2) := by rw [← HMM.out, E0.out, hi]
            have EV : Hid (V = .tuple #[.string nil8, .int .i64 0, .int .i64 2]) := by show _ = _; rw [← HV.out]; exact nx_of e nil8 rfl 0 rfl
            have q1 : (F.toList == G.toList) = false := by rw [beq_eq_false_iff_ne, ByteArray.toList_eq, ByteArray.toList_eq]; exact heq
            clear e hi heq hRl hGl hG hF hPl hP hPs fa hj1 hj2 hj3 hkk hrr hbb hbig hrg hgt
            go_wp2_with fail
            refine (RA.out _).mono ?_
            rintro e w1 ⟨rfl, hw1⟩
            obtain rfl := hw1
            go_wp2_with fail
            rw [HP.out]
            refine (FA.out _).mono ?_
            rintro e w2 ⟨rfl, hb2⟩
            go_wp2_with fail
            refine (RA.out _).mono ?_
            rintro e w3 ⟨rfl, hw3⟩
            obtain rfl := hw3
            have hG := HG.out
            go_wp2
            go_ret3
            exact ⟨by rw [EV.out]; rfl, hb2⟩
set_option maxHeartbeats 1000000 in
theorem rnext_any (b : ByteArray) (at_ n : Int) (w : World) (hn : n < 9223372036854775808) (hbs : b.size ≤ 281474976710656) : Calls Try.prog 10 #[.string b, .int .i64 at_, .int .i64 n] w fun e w' => e = .returned (nx b.data.toList at_ n) ∧ Below w.heap.size w w' := by
  by_cases h0 : at_ = (b.size : Int)
  · have e : nextA b.data.toList at_ n = ([], 0, 0) := by unfold nextA; rw [if_pos (by rw [str_len]; exact h0)]
    rw [nx_of e nil8 rfl 0 rfl]
    subst h0
    clear e hn
    go_enter Try.func10, Try.ntmps10
    go_wp2
    go_ret3
    exact ⟨rfl, Below.refl _ _⟩
  · have hq0 : (at_ == (b.size : Int)) = false := beq_eq_false_iff_ne.2 h0
    have el : ¬ at_ = (b.data.toList.length : Int) := by rw [str_len]; exact h0
    by_cases h1 : at_ < 0
    · have e : nextA b.data.toList at_ n = ([], 0, 2) := by unfold nextA; rw [if_neg el, if_pos (.inl h1)]
      rw [nx_of e nil8 rfl 0 rfl]
      have d1 : decide (at_ < 0) = true := decide_eq_true h1
      clear e hn el h0 h1
      go_enter Try.func10, Try.ntmps10
      go_wp2
      go_ret3
      exact ⟨rfl, Below.refl _ _⟩
    · have d1 : decide (at_ < 0) = false := decide_eq_false h1
      by_cases h2 : (b.size : Int) < at_
      · have e : nextA b.data.toList at_ n = ([], 0, 2) := by unfold nextA; rw [if_neg el, if_pos (.inr (by rw [str_len]; exact h2))]
        rw [nx_of e nil8 rfl 0 rfl]
        have d2 : decide (at_ > (b.size : Int)) = true := decide_eq_true h2
        have d3 : decide ((b.size : Int) < at_) = true := decide_eq_true h2
        clear e hn el h0 h1 h2
        go_enter Try.func10, Try.ntmps10
        go_wp2
        go_ret3
        exact ⟨rfl, Below.refl _ _⟩
      · obtain ⟨k, rfl⟩ := Int.eq_ofNat_of_zero_le (show 0 ≤ at_ by omega)
        have d2 : decide ((k : Int) > (b.size : Int)) = false := decide_eq_false (by omega)
        have d3 : decide ((b.size : Int) < (k : Int)) = false := decide_eq_false (by omega)
        have d4 : decide (b.size < k) = false := decide_eq_false (by omega)
        have e0 : nextA b.data.toList (k : Int) n = match wholeT (b.data.toList.drop k) n with
            | some p => (p, room p.length, 1)
            | none => ([], 0, 2) := by
          unfold nextA
          rw [if_neg el, if_neg (by rw [str_len]; omega)]
          rfl
        by_cases h3 : n < 0
        · have e : nextA b.data.toList (k : Int) n = ([], 0, 2) := by rw [e0, none_neg h3]
          rw [nx_of e nil8 rfl 0 rfl]
          have d5 : decide (n < 0) = true := decide_eq_true h3
          clear e e0 hn el h0 h1 h2 h3
          go_enter Try.func10, Try.ntmps10
          go_wp2
          go_ret3
          exact ⟨rfl, Below.refl _ _⟩
        · obtain ⟨m, rfl⟩ := Int.eq_ofNat_of_zero_le (show 0 ≤ n by omega)
          by_cases h4 : b.size - k < 16
          · have e : nextA b.data.toList (k : Int) m = ([], 0, 2) := by
              rw [e0, wholeT_none.2]
              intro q hq
              have q1 := hq.len
              have q2 := room_ge q.length
              rw [List.length_drop, str_len] at q1
              omega
            rw [nx_of e nil8 rfl 0 rfl]
            have d5 : decide ((m : Int) < 0) = false := decide_eq_false h3
            obtain ⟨r, hr⟩ : ∃ r : Nat, b.size - k = r := ⟨_, rfl⟩
            have e6 : wrap64 ((b.size : Int) - (k : Int)) = (r : Int) := by unfold wrap64; omega
            have d6 : decide ((r : Int) < 16) = true := decide_eq_true (by omega)
            clear e e0 hn el h0 h1 h2 h3 hbs h4 hr
            go_enter Try.func10, Try.ntmps10
            go_wp2
            go_ret3
            exact ⟨rfl, Below.refl _ _⟩
          · exact rnext_mid b k m w (by omega) hbs (by omega)
end Go.Proofs.Ytcpbcnbgcacgnab
