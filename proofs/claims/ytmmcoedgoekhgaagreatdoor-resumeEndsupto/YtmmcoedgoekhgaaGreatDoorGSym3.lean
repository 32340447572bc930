/-
  The stable sort: two sorted parts merged (printed by gen_sym3.py).
-/
import Derived.Test.YtmmcoedgoekhgaaGreatDoorGSym2
import Derived.Deep.CutRange
namespace Go.Proofs.YtmmcoedgoekhgaaGreatDoor
set_option maxRecDepth 20000
open Go.RowKit S Go.Shelf Go.Sort
set_option linter.unusedVariables false
set_option linter.unusedSimpArgs false
theorem cut_le {A B : List Pen} (hA : Srt keyP A) (hB : Srt keyP B) {i j : Nat} (h : i = 0 ∨ B.length ≤ j ∨ ∃ x y, A[i - 1]? = some x ∧ B[j]? = some y ∧ x.id ≤ y.id) : ∀ u ∈ A.take i, ∀ v ∈ B.drop j, u.id ≤ v.id := fun u hu v hv => by
  rcases h with rfl | h | ⟨x, y, hx, hy, hxy⟩
  · simp at hu
  · rw [List.drop_of_length_le h] at hv; cases hv
  · obtain ⟨p, hp⟩ := List.mem_iff_getElem?.1 hu
    obtain ⟨q, hq⟩ := List.mem_iff_getElem?.1 hv
    rw [List.getElem?_take] at hp
    split at hp
    · rw [List.getElem?_drop] at hq
      have h1 := srt_get hA hp hx (by omega)
      have h2 := srt_get hB hy hq (by omega)
      omega
    · cases hp
theorem cut_lt {A B : List Pen} (hA : Srt keyP A) (hB : Srt keyP B) {i j : Nat} (h : A.length ≤ i ∨ j = 0 ∨ ∃ x y, A[i]? = some x ∧ B[j - 1]? = some y ∧ y.id < x.id) : ∀ u ∈ A.drop i, ∀ v ∈ B.take j, v.id < u.id := fun u hu v hv => by
  rcases h with h | rfl | ⟨x, y, hx, hy, hxy⟩
  · rw [List.drop_of_length_le h] at hu; cases hu
  · simp at hv
  · obtain ⟨p, hp⟩ := List.mem_iff_getElem?.1 hu
    obtain ⟨q, hq⟩ := List.mem_iff_getElem?.1 hv
    rw [List.getElem?_take] at hq
    split at hq
    · rw [List.getElem?_drop] at hp
      have h1 := srt_get hA hx hp (by omega)
      have h2 := srt_get hB hq hy (by omega)
      omega
    · cases hq
set_option maxRecDepth 100000 in
set_option maxHeartbeats 4000000 in
theorem symBoth_any (P : Program) (k : Nat) (L : PT P k) (w0 : World) (blk off N cap : Nat) (d0 dk : Array Pen) (hN : d0.size = N) (hz : N ≤ 4000000000000) (R : PRow k w0 blk off d0) (w : World) (S : PSW k w0 blk off dk w) (hs : dk.size = N) (X A B Y : List Pen) (hl : dk.toList = X ++ (A ++ (B ++ Y))) (hA : Srt keyP A) (hB : Srt keyP B) (h2 : 2 ≤ A.length) (h3 : 2 ≤ B.length) (a m b : Nat) (ha : a = X.length) (hm : m = a + A.length) (hb : b = m + B.length)
    (IH : ∀ (dk : Array Pen) (w : World), PSW k w0 blk off dk w → dk.size = N → ∀ (X' A' B' Y' : List Pen), dk.toList = X' ++ (A' ++ (B' ++ Y')) → Srt keyP A' → Srt keyP B' → 1 ≤ A'.length → 1 ≤ B'.length → A'.length + B'.length < A.length + B.length → ∀ a m b : Nat, a = X'.length → m = a + A'.length → b = m + B'.length → Calls P 216 #[.slice (some ⟨blk, off, none⟩) N cap, .int .i64 (a : Int), .int .i64 (m : Int), .int .i64 (b : Int), byID] w fun e w' => e = .returned (.tuple #[]) ∧ ∃ dk' M, PSW k w0 blk off dk' w' ∧ dk'.size = N ∧ dk'.toList = X' ++ (M ++ Y') ∧ M.length = A'.length + B'.length ∧ Sorts keyP (A' ++ B') M) :
    Calls P 216 #[.slice (some ⟨blk, off, none⟩) N cap, .int .i64 (a : Int), .int .i64 (m : Int), .int .i64 (b : Int), byID] w fun e w' => e = .returned (.tuple #[]) ∧ ∃ dk' M, PSW k w0 blk off dk' w' ∧ dk'.size = N ∧ dk'.toList = X ++ (M ++ Y) ∧ M.length = A.length + B.length ∧ Sorts keyP (A ++ B) M := by
  have hlen : N = X.length + (A.length + (B.length + Y.length)) := by rw [← hs, size_of hl]; simp
  have CALL := hide (rotate_any P k L w0 blk off N cap d0 · hN hz R)
  have HIH := hide IH
  have S0 : Aside (PSW k w0 blk off dk w) := S
  have HL := hide hl
  have hs0 := hide hs
  obtain ⟨ga, hga⟩ : ∃ g, A.length = g := ⟨_, rfl⟩
  obtain ⟨gb, hgb⟩ : ∃ g, B.length = g := ⟨_, rfl⟩
  have e1 : (m : Int) - (a : Int) = (ga : Int) := by omega
  have r1 : IntKind.i64.wrap (ga : Int) = (ga : Int) := by rw [IntKind.wrap_i64]; omega
  have n1 : ((ga : Int) == 1) = false := by simp; omega
  have n1' : ((ga : Int) = 1) = False := by simp; omega
  have e2 : (b : Int) - (m : Int) = (gb : Int) := by omega
  have r2 : IntKind.i64.wrap (gb : Int) = (gb : Int) := by rw [IntKind.wrap_i64]; omega
  have n2 : ((gb : Int) == 1) = false := by simp; omega
  have n2' : ((gb : Int) = 1) = False := by simp; omega
  have hbN : b ≤ N := by omega
  have HA := hide ha
  have HM := hide hm
  have HB := hide hb
  have HN := hide hN
  have HAs := hide hA
  have HBs := hide hB
  have HGA := hide hga
  have HGB := hide hgb
  have GE : Hid (2 ≤ ga ∧ 2 ≤ gb ∧ m = a + ga ∧ b = m + gb) := ⟨by omega, by omega, by omega, by omega⟩
  obtain ⟨sm, hsm⟩ : ∃ s, a + b = s := ⟨_, rfl⟩
  obtain ⟨mid, hmid⟩ : ∃ h, sm / 2 = h := ⟨_, rfl⟩
  have esm : (a : Int) + (b : Int) = (sm : Int) := by omega
  have rsm : IntKind.i64.wrap (sm : Int) = (sm : Int) := by rw [IntKind.wrap_i64]; omega
  have usm : IntKind.u64.wrap (sm : Int) = (sm : Int) := by rw [IntKind.wrap_u64]; omega
  have msm : (sm : Int) % 18446744073709551616 = (sm : Int) := by omega
  have dsm : (sm : Int) / 2 = (mid : Int) := by omega
  have rmid : IntKind.i64.wrap (mid : Int) = (mid : Int) := by rw [IntKind.wrap_i64]; omega
  have umid : IntKind.u64.wrap (mid : Int) = (mid : Int) := by rw [IntKind.wrap_u64]; omega
  have qmid : IntKind.i64.wrap ((mid : Int) + 1) = (mid : Int) + 1 := by rw [IntKind.wrap_i64]; omega
  obtain ⟨nn, hnn⟩ : ∃ n, mid + m = n := ⟨_, rfl⟩
  have en : (mid : Int) + (m : Int) = (nn : Int) := by omega
  have rn : IntKind.i64.wrap (nn : Int) = (nn : Int) := by rw [IntKind.wrap_i64]; omega
  obtain ⟨pp, hpp⟩ : ∃ p, nn - 1 = p := ⟨_, rfl⟩
  have ep : (nn : Int) - 1 = (pp : Int) := by omega
  have rp : IntKind.i64.wrap (pp : Int) = (pp : Int) := by rw [IntKind.wrap_i64]; omega
  obtain ⟨nb, hnb⟩ : ∃ q, nn - b = q := ⟨_, rfl⟩
  have HNB := hide hnb
  have MID : Hid (a < mid ∧ mid < b ∧ nn = mid + m ∧ pp + 1 = nn ∧ 2 * mid ≤ a + b ∧ a + b ≤ 2 * mid + 1) := ⟨by omega, by omega, by omega, by omega, by omega, by omega⟩
  have mixed := L.mixed; have t0 := L.t0; have a0 := L.a0; have z0 := L.z0; have v0 := L.v0; have t3 := L.t3; have a3 := L.a3; have z3 := L.z3; have v3 := L.v3; have t4 := L.t4; have a4 := L.a4; have z4 := L.z4; have v4 := L.v4; have tS := L.tS; have aS := L.aS; have zS := L.zS; have vS := L.vS; have tF := L.tF; have aF := L.aF; have zF := L.zF; have vF := L.vF; have tU := L.tU; have aU := L.aU; have zU := L.zU; have vU := L.vU; have aE := L.aE; have zE := L.zE; have uS := run_underlying L.tS; have eIns := L.eIns; have eSym := L.eSym; have eRot := L.eRot; have eSwp := L.eSwp; have eSta := L.eSta; have eC := L.eC
  unfold byID at HIH ⊢
  have CALL2 := CALL
  unfold byID at CALL2
  clear S hl hs ha hb hlen hN hm hA hB hga hgb h2 h3 hsm hmid hnn hpp CALL IH
  obtain ⟨C0, hC0⟩ : ∃ C, decide ((mid : Int) < (m : Int)) = C := ⟨_, rfl⟩
  have hC1 : decide (mid < m) = C0 := by rw [← hC0]; simp
  have HC0 := hide hC1
  go_enter L.fSym, Tryz.ntmps216
  go_upto_if 140 with fail
  clear hC0 hC1
  go_cut [20, 21] from 141 to 147 (fun s20 s21 wx => ∃ lo hi : Nat, s20 = .int .i64 (lo : Int) ∧ s21 = .int .i64 (hi : Int) ∧ Hid (lo ≤ hi ∧ a ≤ lo ∧ nn ≤ lo + b ∧ hi ≤ m ∧ hi ≤ mid ∧ (lo = a ∨ lo + b = nn) ∧ (hi = m ∨ hi = mid)) ∧ wx = w)
  case first =>
    have mm := MID.out
    have ge := GE.out
    cases C0 with
    | true =>
      have hmm : mid < m := of_decide_eq_true HC0.out
      have HMM := hide hmm
      have eb : (nn : Int) - (b : Int) = (nb : Int) := by omega
      have rb : IntKind.i64.wrap (nb : Int) = (nb : Int) := by rw [IntKind.wrap_i64]; omega
      clear mm ge hmm
      go_wp2_with fail
      go_meet
      exact ⟨nb, mid, rfl, rfl, (by have mm := MID.out; have ge := GE.out; have hm := HMM.out; have hnb' := HNB.out; exact ⟨by omega, by omega, by omega, by omega, by omega, by omega, by omega⟩), rfl⟩
    | false =>
      have hmm : ¬ mid < m := of_decide_eq_false HC0.out
      have HMM := hide hmm
      clear mm ge hmm
      go_wp2_with fail
      go_meet
      exact ⟨a, m, rfl, rfl, (by have mm := MID.out; have ge := GE.out; have hm := HMM.out; have hnb' := HNB.out; exact ⟨by omega, by omega, by omega, by omega, by omega, by omega, by omega⟩), rfl⟩
  case rest =>
  obtain ⟨lo, hi, rfl, rfl, LH, hwc⟩ := hcut
  obtain rfl := hwc.symm
  clear hwc hnb
  have hlh : lo ≤ hi := LH.out.1
  have hhN : hi ≤ N := by have := LH.out; have := GE.out; omega
  go_wp2
  go_loopg [20, 21] (hi - lo) (fun kx s20 s21 wr => ∃ (st r : Nat) (dj : Array Pen), s20 = .int .i64 (st : Int) ∧ s21 = .int .i64 (r : Int) ∧ lo ≤ st ∧ st ≤ r ∧ r ≤ hi ∧ r - st ≤ kx ∧ Aside (PSW k w0 blk off dj wr) ∧ Hid (dj.size = N) ∧ Hid (dj.toList = X ++ (A ++ (B ++ Y))) ∧ Hid (st = lo ∨ ∃ x y, A[st - 1 - a]? = some x ∧ B[nn - st - m]? = some y ∧ x.id ≤ y.id) ∧ Hid (r = hi ∨ ∃ x y, A[r - a]? = some x ∧ B[nn - 1 - r - m]? = some y ∧ y.id < x.id))
  case atStart => exact ⟨lo, hi, dk, rfl, rfl, Nat.le_refl _, hlh, Nat.le_refl _, Nat.le_refl _, S0, hs0, HL, .inl rfl, .inl rfl⟩
  case round =>
    clear S0 hs0 HL
    obtain ⟨st, r, dj, rfl, rfl, hlo, hsr, hrh, hkx, S1, hs1, hl1, BL, BR⟩ := hrel
    have hNs : dj.size = d0.size := by rw [hs1.out, HN.out]
    by_cases hlt : st < r
    · have hd : decide ((st : Int) < (r : Int)) = true := decide_eq_true (by omega)
      have hd2 : decide (st < r) = true := decide_eq_true hlt
      obtain ⟨s, hs⟩ : ∃ s, st + r = s := ⟨_, rfl⟩
      obtain ⟨c, hc⟩ : ∃ h, s / 2 = h := ⟨_, rfl⟩
      have es : (st : Int) + (r : Int) = (s : Int) := by omega
      have rs : IntKind.i64.wrap (s : Int) = (s : Int) := by rw [IntKind.wrap_i64]; omega
      have us : IntKind.u64.wrap (s : Int) = (s : Int) := by rw [IntKind.wrap_u64]; omega
      have ms : (s : Int) % 18446744073709551616 = (s : Int) := by omega
      have ds : (s : Int) / 2 = (c : Int) := by omega
      have rc : IntKind.i64.wrap (c : Int) = (c : Int) := by rw [IntKind.wrap_i64]; omega
      have uc : IntKind.u64.wrap (c : Int) = (c : Int) := by rw [IntKind.wrap_u64]; omega
      have qc : IntKind.i64.wrap ((c : Int) + 1) = (c : Int) + 1 := by rw [IntKind.wrap_i64]; omega
      have hcc : st ≤ c ∧ c < r := ⟨by omega, by omega⟩
      have lh := LH.out
      have mm := MID.out
      have ge := GE.out
      obtain ⟨pc, hpc⟩ : ∃ q, pp - c = q := ⟨_, rfl⟩
      have epc : (pp : Int) - (c : Int) = (pc : Int) := by omega
      have rpc : IntKind.i64.wrap (pc : Int) = (pc : Int) := by rw [IntKind.wrap_i64]; omega
      obtain ⟨x, hxA⟩ : ∃ x, A[c - a]? = some x := ⟨_, List.getElem?_eq_getElem (by have := HGA.out; omega)⟩
      obtain ⟨y, hyB⟩ : ∃ y, B[pc - m]? = some y := ⟨_, List.getElem?_eq_getElem (by have := HGB.out; omega)⟩
      have hpd : pc < dj.size := by rw [hs1.out]; omega
      have hqd : c < dj.size := by rw [hs1.out]; omega
      have hy : dj[c]! = x := get_in (X := X) (B := A) (Y := B ++ Y) hl1.out (c - a) c (by have := HA.out; omega) hxA
      have hx : dj[pc]! = y := get_in (X := X ++ A) (B := B) (Y := Y) (by rw [hl1.out]; simp [List.append_assoc]) (pc - m) pc (by have := HA.out; have := HGA.out; rw [List.length_append]; omega) hyB
      have hcN : (c : Int) < (N : Int) := by omega
      have hc0 : (0 : Int) ≤ (c : Int) := by omega
      have hpN : (pc : Int) < (N : Int) := by omega
      have hp0 : (0 : Int) ≤ (pc : Int) := by omega
      have HCC := hide hcc
      have HPC : Hid (pc + c = pp) := by show _ = _; omega
      have HXA := hide hxA
      have HYB := hide hyB
      clear hs hc hcc lh mm ge hpc hxA hyB
      by_cases hcmp : y.id < x.id
      · have lpX := S1.out.ld R hNs P (pc) hpd
        have lqX := S1.out.ld R hNs P (c) hqd
        rw [hx] at lpX
        rw [hy] at lqX
        have hcX := fun n os => L.cC y x (grow (wr.drewN n) os)
        have nxX := L.len y
        have nyX := L.len x
        have hvX : decide (cmpP y x < 0) = true := decide_eq_true ((cmpP_lt _ _).2 hcmp)
        obtain ⟨cvX, hcvX⟩ : ∃ c, cmpP y x = c := ⟨_, rfl⟩
        rw [hcvX] at hvX
        simp only [hcvX] at hcX
        generalize (y).enc = cxX at lpX hcX nxX
        generalize (x).enc = cyX at lqX hcX nyX
        clear hcvX
        go_wp2_with fail
        go_quiet_grown (first | (go_at_fn 187; refine Calls.grown_of (hcX _ _)))
        have S2 : Aside (PSW k w0 blk off dj (grow (wr.drewN nq) osq)) := S1.out.grown nq osq
        clear lpX lqX hcX nxX nyX S1
        generalize grow (wr.drewN nq) osq = wt at S2 ⊢
        clear nq osq
        clear hx hy
        go_wp2
        go_roundg (c - st)
        case measure => have := HCC.out; omega
        case rel =>
          have hh := HCC.out
          refine ⟨st, c, dj, rfl, rfl, hlo, by omega, by omega, Nat.le_refl _, S2, hs1, hl1, BL, .inr ⟨x, y, HXA.out, ?_, hcmp⟩⟩
          rw [show nn - 1 - c - m = pc - m by have := HPC.out; have := MID.out; omega]
          exact HYB.out
      · have lpX := S1.out.ld R hNs P (pc) hpd
        have lqX := S1.out.ld R hNs P (c) hqd
        rw [hx] at lpX
        rw [hy] at lqX
        have hcX := fun n os => L.cC y x (grow (wr.drewN n) os)
        have nxX := L.len y
        have nyX := L.len x
        have hvX : decide (cmpP y x < 0) = false := decide_eq_false (fun h => hcmp ((cmpP_lt _ _).1 h))
        obtain ⟨cvX, hcvX⟩ : ∃ c, cmpP y x = c := ⟨_, rfl⟩
        rw [hcvX] at hvX
        simp only [hcvX] at hcX
        generalize (y).enc = cxX at lpX hcX nxX
        generalize (x).enc = cyX at lqX hcX nyX
        clear hcvX
        go_wp2_with fail
        go_quiet_grown (first | (go_at_fn 187; refine Calls.grown_of (hcX _ _)))
        have S2 : Aside (PSW k w0 blk off dj (grow (wr.drewN nq) osq)) := S1.out.grown nq osq
        clear lpX lqX hcX nxX nyX S1
        generalize grow (wr.drewN nq) osq = wt at S2 ⊢
        clear nq osq
        clear hx hy
        go_wp2
        go_roundg (r - (c + 1))
        case measure => have := HCC.out; omega
        case rel =>
          have hh := HCC.out
          refine ⟨c + 1, r, dj, by first | rfl | go_num, rfl, by omega, by omega, hrh, Nat.le_refl _, S2, hs1, hl1, .inr ⟨x, y, ?_, ?_, by omega⟩, BR⟩
          · rw [show c + 1 - 1 - a = c - a by omega]; exact HXA.out
          · rw [show nn - (c + 1) - m = pc - m by have := HPC.out; have := MID.out; omega]; exact HYB.out
    · have hd : decide ((st : Int) < (r : Int)) = false := decide_eq_false (by omega)
      have hd2 : decide (st < r) = false := decide_eq_false hlt
      have hrs : r = st := by omega
      obtain ⟨en', hen⟩ : ∃ e, nn - st = e := ⟨_, rfl⟩
      have lh := LH.out
      have mm := MID.out
      have ge := GE.out
      have hgA := HGA.out
      have hgB := HGB.out
      have ee : (nn : Int) - (st : Int) = (en' : Int) := by omega
      have re : IntKind.i64.wrap (en' : Int) = (en' : Int) := by rw [IntKind.wrap_i64]; omega
      have F1 : Hid (∀ u ∈ A.take (st - a), ∀ v ∈ B.drop (en' - m), u.id ≤ v.id) := cut_le HAs.out HBs.out (by
        rcases BL.out with h | ⟨x, y, hx, hy, hxy⟩
        · rcases lh.2.2.2.2.2.1 with h' | h' <;> omega
        · exact .inr (.inr ⟨x, y, by rw [show st - a - 1 = st - 1 - a by omega]; exact hx, by rw [show en' - m = nn - st - m by omega]; exact hy, hxy⟩))
      have F2 : Hid (∀ u ∈ A.drop (st - a), ∀ v ∈ B.take (en' - m), v.id < u.id) := cut_lt HAs.out HBs.out (by
        rcases BR.out with h | ⟨x, y, hx, hy, hxy⟩
        · rcases lh.2.2.2.2.2.2 with h' | h' <;> omega
        · exact .inr (.inr ⟨x, y, by rw [show st - a = r - a by omega]; exact hx, by rw [show en' - m - 1 = nn - 1 - r - m by omega]; exact hy, hxy⟩))
      obtain ⟨A1, hA1⟩ : ∃ l, A.take (st - a) = l := ⟨_, rfl⟩
      obtain ⟨A2, hA2⟩ : ∃ l, A.drop (st - a) = l := ⟨_, rfl⟩
      obtain ⟨B1, hB1⟩ : ∃ l, B.take (en' - m) = l := ⟨_, rfl⟩
      obtain ⟨B2, hB2⟩ : ∃ l, B.drop (en' - m) = l := ⟨_, rfl⟩
      have hAA : A = A1 ++ A2 := by rw [← hA1, ← hA2, List.take_append_drop]
      have hBB : B = B1 ++ B2 := by rw [← hB1, ← hB2, List.take_append_drop]
      rw [hA1, hB2] at F1
      rw [hA2, hB1] at F2
      have lA1 : A1.length = st - a := by rw [← hA1, List.length_take]; omega
      have lA2 : A2.length = m - st := by rw [← hA2, List.length_drop]; omega
      have lB1 : B1.length = en' - m := by rw [← hB1, List.length_take]; omega
      have lB2 : B2.length = b - en' := by rw [← hB2, List.length_drop]; omega
      have LL : Hid (X.length = a ∧ X.length + A1.length = st ∧ st + A2.length = m ∧ m + B1.length = en' ∧ en' + B2.length = b ∧ st + en' = mid + m ∧ A.length + B.length + a = b) := ⟨by have := HA.out; omega, by have := HA.out; omega, by omega, by omega, by omega, by omega, by omega⟩
      have HAA := hide hAA
      have HBB := hide hBB
      have LS : Hid (mid + 1 ≤ N ∧ st ≤ N ∧ en' ≤ N) := ⟨by omega, by omega, by omega⟩
      have hl2 : Hid (dj.toList = X ++ (A1 ++ (A2 ++ (B1 ++ (B2 ++ Y))))) := by show _ = _; rw [hl1.out, hAA, hBB]; simp [List.append_assoc]
      have sA1 : Hid (Srt keyP A1) := by have := HAs.out; rw [hAA] at this; exact (List.pairwise_append.1 this).1
      have sA2 : Hid (Srt keyP A2) := by have := HAs.out; rw [hAA] at this; exact (List.pairwise_append.1 this).2.1
      have sB1 : Hid (Srt keyP B1) := by have := HBs.out; rw [hBB] at this; exact (List.pairwise_append.1 this).1
      have sB2 : Hid (Srt keyP B2) := by have := HBs.out; rw [hBB] at this; exact (List.pairwise_append.1 this).2.1
      clear hrs hen lh mm ge hgA hgB hA1 hA2 hB1 hB2 hAA hBB lA1 lA2 lB1 lB2 hl1 BL BR hNs hlo hsr hrh hkx
      go_upto_region 39 with fail
      go_cut [185] from 178 to 186 (fun sC wx => ∃ C : Bool, sC = .bool C ∧ Hid (C = true ↔ st < m ∧ m < en') ∧ wx = wr)
      case first =>
        by_cases q1 : st < m
        · have g1 : decide ((st : Int) < (m : Int)) = true := decide_eq_true (by omega)
          have g2 : decide (st < m) = true := decide_eq_true q1
          by_cases q2 : m < en'
          · have g3 : decide ((m : Int) < (en' : Int)) = true := decide_eq_true (by omega)
            have g4 : decide (m < en') = true := decide_eq_true q2
            go_wp2_with fail
            go_meet
            exact ⟨true, rfl, ⟨fun _ => ⟨q1, q2⟩, fun _ => rfl⟩, rfl⟩
          · have g3 : decide ((m : Int) < (en' : Int)) = false := decide_eq_false (by omega)
            have g4 : decide (m < en') = false := decide_eq_false q2
            go_wp2_with fail
            go_meet
            exact ⟨false, rfl, ⟨fun h => (by cases h), fun h => absurd h.2 q2⟩, rfl⟩
        · have g1 : decide ((st : Int) < (m : Int)) = false := decide_eq_false (by omega)
          have g2 : decide (st < m) = false := decide_eq_false q1
          go_wp2_with fail
          go_meet
          exact ⟨false, rfl, ⟨fun h => (by cases h), fun h => absurd h.1 q1⟩, rfl⟩
      case rest =>
      obtain ⟨C, rfl, HCC, hwc⟩ := hcut
      obtain rfl := hwc.symm
      clear hwc
      go_upto_if 185 with fail
      go_cut [] from 186 to 192 (fun wx => ∃ d2 : Array Pen, Aside (PSW k w0 blk off d2 wx) ∧ Hid (d2.size = N) ∧ Hid (d2.toList = X ++ (A1 ++ (B1 ++ (A2 ++ (B2 ++ Y))))))
      case first =>
        cases C with
        | true =>
          have hq : st < m ∧ m < en' := HCC.out.1 rfl
          have C := CALL2.out dj wr S1.out hs1.out (X ++ A1) A2 B1 (B2 ++ Y) (by rw [hl2.out]; simp [List.append_assoc]) st m en' (by have := LL.out; rw [List.length_append]; omega) (by have := LL.out; rw [List.length_append]; omega) (by have := LL.out; rw [List.length_append]; omega) (by have := LL.out; omega) (by have := LL.out; omega)
          have HC := hide C
          clear C S1
          go_wp2_with fail
          refine HC.out.mono ?_
          rintro e w2 ⟨rfl, d2, S2, hs2, hl3⟩
          have S2' : Aside (PSW k w0 blk off d2 w2) := S2
          clear S2
          go_wp2_with fail
          go_meet
          exact ⟨d2, S2', hs2, by show _ = _; rw [hl3]; simp [List.append_assoc]⟩
        | false =>
          have hq : ¬ (st < m ∧ m < en') := fun h => by have := HCC.out.2 h; cases this
          go_wp2_with fail
          go_meet
          refine ⟨dj, S1, hs1, ?_⟩
          show _ = _
          rw [hl2.out]
          have ll := LL.out
          by_cases h : st < m
          · have : B1 = [] := List.length_eq_zero_iff.1 (by have : ¬ m < en' := fun h' => hq ⟨h, h'⟩; omega)
            rw [this]; simp
          · have : A2 = [] := List.length_eq_zero_iff.1 (by omega)
            rw [this]; simp
      case rest =>
      obtain ⟨d2, S2, hs2, hl3⟩ := hcut
      clear S1 hs1 hl2
      generalize hwc : wc = wr2 at S2 ⊢
      clear hwc HCC
      go_upto_region 41 with fail
      go_cut [199] from 192 to 200 (fun sC wx => ∃ C : Bool, sC = .bool C ∧ Hid (C = true ↔ a < st ∧ st < mid) ∧ wx = wr2)
      case first =>
        by_cases q1 : a < st
        · have g1 : decide ((a : Int) < (st : Int)) = true := decide_eq_true (by omega)
          have g2 : decide (a < st) = true := decide_eq_true q1
          by_cases q2 : st < mid
          · have g3 : decide ((st : Int) < (mid : Int)) = true := decide_eq_true (by omega)
            have g4 : decide (st < mid) = true := decide_eq_true q2
            go_wp2_with fail
            go_meet
            exact ⟨true, rfl, ⟨fun _ => ⟨q1, q2⟩, fun _ => rfl⟩, rfl⟩
          · have g3 : decide ((st : Int) < (mid : Int)) = false := decide_eq_false (by omega)
            have g4 : decide (st < mid) = false := decide_eq_false q2
            go_wp2_with fail
            go_meet
            exact ⟨false, rfl, ⟨fun h => (by cases h), fun h => absurd h.2 q2⟩, rfl⟩
        · have g1 : decide ((a : Int) < (st : Int)) = false := decide_eq_false (by omega)
          have g2 : decide (a < st) = false := decide_eq_false q1
          go_wp2_with fail
          go_meet
          exact ⟨false, rfl, ⟨fun h => (by cases h), fun h => absurd h.1 q1⟩, rfl⟩
      case rest =>
      obtain ⟨C, rfl, HCC, hwc⟩ := hcut
      obtain rfl := hwc.symm
      clear hwc
      go_upto_if 199 with fail
      go_cut [] from 200 to 206 (fun wx => ∃ (d3 : Array Pen) (M1 : List Pen), Aside (PSW k w0 blk off d3 wx) ∧ Hid (d3.size = N) ∧ Hid (d3.toList = X ++ (M1 ++ (A2 ++ (B2 ++ Y)))) ∧ Hid (M1.length = A1.length + B1.length) ∧ Hid (Sorts keyP (A1 ++ B1) M1))
      case first =>
        cases C with
        | true =>
          have hq : a < st ∧ st < mid := HCC.out.1 rfl
          have C := HIH.out d2 wr2 S2.out hs2.out X A1 B1 (A2 ++ (B2 ++ Y)) hl3.out sA1.out sB1.out (by have := LL.out; omega) (by have := LL.out; omega) (by have := LL.out; have := MID.out; omega) a st mid (by have := LL.out; omega) (by have := LL.out; omega) (by have := LL.out; omega)
          have HC := hide C
          clear C S2
          go_wp2_with fail
          refine HC.out.mono ?_
          rintro e w2 ⟨rfl, d3, M1, S3, hs3, hl4, hm1, ho1⟩
          have S3' : Aside (PSW k w0 blk off d3 w2) := S3
          clear S3
          go_wp2_with fail
          go_meet
          exact ⟨d3, M1, S3', hs3, hl4, hm1, ho1⟩
        | false =>
          have hq : ¬ (a < st ∧ st < mid) := fun h => by have := HCC.out.2 h; cases this
          go_wp2_with fail
          go_meet
          refine ⟨d2, A1 ++ B1, S2, hs2, ?_, ?_, ?_, Sam.refl _⟩
          · show _ = _; rw [hl3.out]; simp [List.append_assoc]
          · show _ = _; simp
          · have ll := LL.out
            by_cases h : a < st
            · have : B1 = [] := List.length_eq_zero_iff.1 (by have : ¬ st < mid := fun h' => hq ⟨h, h'⟩; omega)
              rw [this, List.append_nil]; exact sA1.out
            · have : A1 = [] := List.length_eq_zero_iff.1 (by omega)
              rw [this, List.nil_append]; exact sB1.out
      case rest =>
      obtain ⟨d3, M1, S3, hs3, hl4, HM1, HO1⟩ := hcut
      clear S2 hs2 hl3
      generalize hwc : wc = wr3 at S3 ⊢
      clear hwc HCC
      go_upto_region 43 with fail
      go_cut [213] from 206 to 214 (fun sC wx => ∃ C : Bool, sC = .bool C ∧ Hid (C = true ↔ mid < en' ∧ en' < b) ∧ wx = wr3)
      case first =>
        by_cases q1 : mid < en'
        · have g1 : decide ((mid : Int) < (en' : Int)) = true := decide_eq_true (by omega)
          have g2 : decide (mid < en') = true := decide_eq_true q1
          by_cases q2 : en' < b
          · have g3 : decide ((en' : Int) < (b : Int)) = true := decide_eq_true (by omega)
            have g4 : decide (en' < b) = true := decide_eq_true q2
            go_wp2_with fail
            go_meet
            exact ⟨true, rfl, ⟨fun _ => ⟨q1, q2⟩, fun _ => rfl⟩, rfl⟩
          · have g3 : decide ((en' : Int) < (b : Int)) = false := decide_eq_false (by omega)
            have g4 : decide (en' < b) = false := decide_eq_false q2
            go_wp2_with fail
            go_meet
            exact ⟨false, rfl, ⟨fun h => (by cases h), fun h => absurd h.2 q2⟩, rfl⟩
        · have g1 : decide ((mid : Int) < (en' : Int)) = false := decide_eq_false (by omega)
          have g2 : decide (mid < en') = false := decide_eq_false q1
          go_wp2_with fail
          go_meet
          exact ⟨false, rfl, ⟨fun h => (by cases h), fun h => absurd h.1 q1⟩, rfl⟩
      case rest =>
      obtain ⟨C, rfl, HCC, hwc⟩ := hcut
      obtain rfl := hwc.symm
      clear hwc
      go_upto_if 213 with fail
      cases C with
      | true =>
        have hq : mid < en' ∧ en' < b := HCC.out.1 rfl
        have C := HIH.out d3 wr3 S3.out hs3.out (X ++ M1) A2 B2 Y (by rw [hl4.out]; simp [List.append_assoc]) sA2.out sB2.out (by have := LL.out; omega) (by have := LL.out; omega) (by have := LL.out; have := MID.out; omega) mid en' b (by have := LL.out; have := HM1.out; rw [List.length_append]; omega) (by have := LL.out; omega) (by have := LL.out; omega)
        have HC := hide C
        clear C S3
        go_wp2_with fail
        refine HC.out.mono ?_
        rintro e w2 ⟨rfl, d4, M2, S4, hs4, hl5, hm2, ho2⟩
        go_wp2
        go_end0
        refine ⟨rfl, d4, M1 ++ M2, S4, hs4, by rw [hl5]; simp [List.append_assoc], ?_, ?_⟩
        · rw [List.length_append, HM1.out, hm2, HAA.out, HBB.out]; simp; omega
        · rw [HAA.out, HBB.out]
          exact merge_halves (by have := HAs.out; rw [HAA.out] at this; exact this) (by have := HBs.out; rw [HBB.out] at this; exact this) F1.out F2.out HO1.out ho2
      | false =>
        have hq : ¬ (mid < en' ∧ en' < b) := fun h => by have := HCC.out.2 h; cases this
        go_wp2
        go_end0
        refine ⟨rfl, d3, M1 ++ (A2 ++ B2), S3.out, hs3.out, by rw [hl4.out]; simp [List.append_assoc], ?_, ?_⟩
        · rw [List.length_append, HM1.out, HAA.out, HBB.out]; simp; omega
        · rw [HAA.out, HBB.out]
          refine merge_halves (by have := HAs.out; rw [HAA.out] at this; exact this) (by have := HBs.out; rw [HBB.out] at this; exact this) F1.out F2.out HO1.out ⟨?_, Sam.refl _⟩
          have ll := LL.out
          by_cases h : mid < en'
          · have : B2 = [] := List.length_eq_zero_iff.1 (by have : ¬ en' < b := fun h' => hq ⟨h, h'⟩; omega)
            rw [this, List.append_nil]; exact sA2.out
          · have : A2 = [] := List.length_eq_zero_iff.1 (by omega)
            rw [this, List.nil_append]; exact sB2.out
end Go.Proofs.YtmmcoedgoekhgaaGreatDoor
