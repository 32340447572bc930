/-
  The stable sort: two neighbours exchanged as wholes (printed by gen_rot.py).
-/
import Derived.Test.YtbeoojnofblnjaaGSwap
namespace Go.Proofs.Ytbeoojnofblnjaa
open Go.RowKit S Go.Shelf Go.Sort
set_option linter.unusedVariables false
set_option linter.unusedSimpArgs false
theorem td_app {α : Type} (l : List α) (j : Nat) (Y : List α) : l.take j ++ (l.drop j ++ Y) = l ++ Y := by rw [← List.append_assoc, List.take_append_drop]
set_option maxRecDepth 100000 in
set_option maxHeartbeats 4000000 in
theorem rotate_any (P : Program) (k : Nat) (L : PT P k) (w0 : World) (blk off N cap : Nat) (d0 dk : Array Pen) (hN : d0.size = N) (hz : N ≤ 4000000000000) (R : PRow k w0 blk off d0) (w : World) (S : PSW k w0 blk off dk w) (hs : dk.size = N) (X A B Y : List Pen) (hl : dk.toList = X ++ (A ++ (B ++ Y))) (a m b : Nat) (ha : a = X.length) (hm : m = X.length + A.length) (hb : b = X.length + A.length + B.length) (h1 : 1 ≤ A.length) (h2 : 1 ≤ B.length) :
    Calls P 36 #[.slice (some ⟨blk, off, none⟩) N cap, .int .i64 (a : Int), .int .i64 (m : Int), .int .i64 (b : Int), byID] w fun e w' => e = .returned (.tuple #[]) ∧ ∃ dk', PSW k w0 blk off dk' w' ∧ dk'.size = N ∧ dk'.toList = X ++ (B ++ (A ++ Y)) := by
  have hlen : N = X.length + (A.length + (B.length + Y.length)) := by rw [← hs, size_of hl]; simp
  have CALL := hide (swapRange_any P k L w0 blk off N cap d0 · hN hz R)
  have S0 : Aside (PSW k w0 blk off dk w) := S
  have HL := hide hl
  have hs0 := hide hs
  obtain ⟨i0, hi0⟩ : ∃ i, A.length = i := ⟨_, rfl⟩
  obtain ⟨j0, hj0⟩ : ∃ j, B.length = j := ⟨_, rfl⟩
  have e1 : (m : Int) - (a : Int) = (i0 : Int) := by omega
  have e2 : (b : Int) - (m : Int) = (j0 : Int) := by omega
  have r1 : IntKind.i64.wrap (i0 : Int) = (i0 : Int) := by rw [IntKind.wrap_i64]; omega
  have r2 : IntKind.i64.wrap (j0 : Int) = (j0 : Int) := by rw [IntKind.wrap_i64]; omega
  have hij : i0 + j0 ≤ N := by omega
  have hmN : m + j0 ≤ N := by omega
  have HX : Hid (X.length + i0 = m) := by show _ = _; omega
  have mixed := L.mixed; have t0 := L.t0; have a0 := L.a0; have z0 := L.z0; have v0 := L.v0; have t3 := L.t3; have a3 := L.a3; have z3 := L.z3; have v3 := L.v3; have t4 := L.t4; have a4 := L.a4; have z4 := L.z4; have v4 := L.v4; have tS := L.tS; have aS := L.aS; have zS := L.zS; have vS := L.vS; have tF := L.tF; have aF := L.aF; have zF := L.zF; have vF := L.vF; have tU := L.tU; have aU := L.aU; have zU := L.zU; have vU := L.vU; have aE := L.aE; have zE := L.zE; have uS := run_underlying L.tS; have eIns := L.eIns; have eSym := L.eSym; have eRot := L.eRot; have eSwp := L.eSwp; have eSta := L.eSta; have eC := L.eC
  clear S hl hs ha hb hlen hm
  have HT := hide (show X ++ (B ++ (A ++ Y)) = X ++ (B ++ (A ++ Y)) from rfl)
  generalize hTg : X ++ (B ++ (A ++ Y)) = Tg at HT ⊢
  have HTg := hide hTg
  clear HT hTg
  go_enter L.fRot, Try.ntmps36
  go_wp2
  go_loopg [10, 11] (i0 + j0) (fun kx s10 s11 wr => ∃ (i j : Nat) (dj : Array Pen) (X U V Y : List Pen), s10 = .int .i64 (i : Int) ∧ s11 = .int .i64 (j : Int) ∧ 1 ≤ i ∧ 1 ≤ j ∧ i + j ≤ kx ∧ m + j ≤ N ∧ Hid (X.length + i = m) ∧ Hid (U.length = i) ∧ Hid (V.length = j) ∧ Aside (PSW k w0 blk off dj wr) ∧ Hid (dj.size = N) ∧ Hid (dj.toList = X ++ (U ++ (V ++ Y))) ∧ Hid (X ++ (V ++ (U ++ Y)) = Tg))
  case atStart => exact ⟨i0, j0, dk, X, A, B, Y, rfl, rfl, by omega, by omega, by omega, by omega, HX, hi0, hj0, S0, hs0, HL, HTg⟩
  case round =>
    clear S0 hs0 HX HL HTg e1 e2 r1 r2 hi0 hj0 h1 h2 hij hmN
    obtain ⟨i, j, dj, X, U, V, Y, rfl, rfl, h1, h2, hkx, hmN, HX, HU, HV, S1, hs1, hl1, ht1⟩ := hrel
    obtain ⟨p, hp⟩ : ∃ p, X.length = p := ⟨_, rfl⟩
    have hpi : p + i = m := by have := HX.out; omega
    have ep : (m : Int) - (i : Int) = (p : Int) := by omega
    have rp : IntKind.i64.wrap (p : Int) = (p : Int) := by rw [IntKind.wrap_i64]; omega
    have HP := hide hp
    clear hp
    by_cases hne : i = j
    · subst hne
      have C := CALL.out dj _ S1.out hs1.out X U [] V Y (by rw [hl1.out]; simp) (by rw [HU.out, HV.out]) p m i HP.out.symm (by have := HX.out; have := HU.out; simp; omega) HU.out.symm
      have HC := hide C
      have hd : ((i : Int) != (i : Int)) = false := by simp
      have hd2 : decide ((i : Int) ≠ (i : Int)) = false := by simp
      clear C CALL
      unfold byID at HC ⊢
      go_wp2_with fail
      refine HC.out.mono ?_
      rintro e w2 ⟨rfl, dk2, S2, hs2, hl2⟩
      go_wp2
      go_end0
      exact ⟨rfl, dk2, S2, hs2, by rw [hl2, ← ht1.out]; simp⟩
    · have hd : ((i : Int) != (j : Int)) = true := by simp; omega
      have hd2 : decide ((i : Int) ≠ (j : Int)) = true := by simp; omega
      by_cases hgt : j < i
      · have hg : decide ((j : Int) < (i : Int)) = true := decide_eq_true (by omega)
        have hg2 : decide (j < i) = true := decide_eq_true hgt
        have C := CALL.out dj _ S1.out hs1.out X (U.take j) (U.drop j) V Y (by rw [hl1.out, td_app]) (by rw [List.length_take, HU.out, HV.out]; omega) p m j HP.out.symm (by have := HX.out; have := HU.out; rw [List.length_take, List.length_drop]; omega) (by rw [List.length_take, HU.out]; omega)
        have HC := hide C
        obtain ⟨i', hi'⟩ : ∃ i', i - j = i' := ⟨_, rfl⟩
        have ei : (i : Int) - (j : Int) = (i' : Int) := by omega
        have ri : IntKind.i64.wrap (i' : Int) = (i' : Int) := by rw [IntKind.wrap_i64]; omega
        clear C
        unfold byID at HC ⊢
        go_wp2_with fail
        refine HC.out.mono ?_
        rintro e w2 ⟨rfl, dk2, S2, hs2, hl2⟩
        have S2' : Aside (PSW k w0 blk off dk2 w2) := S2
        clear S2
        go_wp2
        go_roundg (i' + j)
        case measure => omega
        case rel => exact ⟨i', j, dk2, X ++ V, U.drop j, U.take j, Y, by first | rfl | go_num, rfl, by omega, by omega, Nat.le_refl _, by omega, by show _ = _; rw [List.length_append, HV.out]; have := HX.out; omega, by show _ = _; rw [List.length_drop, HU.out]; exact hi', by show _ = _; rw [List.length_take, HU.out]; omega, S2', hs2, by show _ = _; rw [hl2]; simp [List.append_assoc], by show _ = _; rw [← ht1.out, td_app, List.append_assoc]⟩
      · have hg : decide ((j : Int) < (i : Int)) = false := decide_eq_false (by omega)
        have hg2 : decide (j < i) = false := decide_eq_false hgt
        obtain ⟨j', hj'⟩ : ∃ j', j - i = j' := ⟨_, rfl⟩
        obtain ⟨q, hq⟩ : ∃ q, m + j = q := ⟨_, rfl⟩
        obtain ⟨q', hq'⟩ : ∃ q', m + j - i = q' := ⟨_, rfl⟩
        have eq : (m : Int) + (j : Int) = (q : Int) := by omega
        have rq : IntKind.i64.wrap (q : Int) = (q : Int) := by rw [IntKind.wrap_i64]; omega
        have eq' : (q : Int) - (i : Int) = (q' : Int) := by omega
        have rq' : IntKind.i64.wrap (q' : Int) = (q' : Int) := by rw [IntKind.wrap_i64]; omega
        have ej : (j : Int) - (i : Int) = (j' : Int) := by omega
        have rj : IntKind.i64.wrap (j' : Int) = (j' : Int) := by rw [IntKind.wrap_i64]; omega
        have C := CALL.out dj _ S1.out hs1.out X U (V.take j') (V.drop j') Y (by rw [hl1.out, td_app]) (by rw [List.length_drop, HU.out, HV.out]; omega) p q' i HP.out.symm (by have := HX.out; rw [List.length_take, HV.out, HU.out]; omega) HU.out.symm
        have HC := hide C
        clear C
        unfold byID at HC ⊢
        go_wp2_with fail
        refine HC.out.mono ?_
        rintro e w2 ⟨rfl, dk2, S2, hs2, hl2⟩
        have S2' : Aside (PSW k w0 blk off dk2 w2) := S2
        clear S2
        go_wp2
        go_roundg (i + j')
        case measure => omega
        case rel => exact ⟨i, j', dk2, X, V.drop j', V.take j', U ++ Y, rfl, by first | rfl | go_num, by omega, by omega, Nat.le_refl _, by omega, HX, by show _ = _; rw [List.length_drop, HV.out]; omega, by show _ = _; rw [List.length_take, HV.out]; omega, S2', hs2, by show _ = _; rw [hl2], by show _ = _; rw [← ht1.out, td_app]⟩
end Go.Proofs.Ytbeoojnofblnjaa
