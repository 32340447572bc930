import Derived.Test.YtmmcoedgoekhgaaGreatDoorGIns
/-
  The stable sort: one element merged with a sorted part behind it (printed by gen_sym1.py).
-/
namespace Go.Proofs.YtmmcoedgoekhgaaGreatDoor
set_option maxRecDepth 20000
open Go.RowKit S Go.Shelf Go.Sort
set_option linter.unusedVariables false
set_option linter.unusedSimpArgs false
theorem srt_get {l : List Pen} (h : Srt keyP l) {i j : Nat} {x y : Pen} (hx : l[i]? = some x) (hy : l[j]? = some y) (hij : i ≤ j) : x.id ≤ y.id := by
  rcases Nat.lt_or_eq_of_le hij with hlt | rfl
  · obtain ⟨hi, rfl⟩ := List.getElem?_eq_some_iff.1 hx
    obtain ⟨hj, rfl⟩ := List.getElem?_eq_some_iff.1 hy
    exact List.pairwise_iff_getElem.1 h i j hi hj hlt
  · rw [hx] at hy; cases hy; exact Int.le_refl _
theorem get_in {d : Array Pen} {X B Y : List Pen} {y : Pen} (h : d.toList = X ++ (B ++ Y)) (p q : Nat) (hq : q = X.length + p) (hy : B[p]? = some y) : d[q]! = y := by
  have hp : p < B.length := (List.getElem?_eq_some_iff.1 hy).1
  exact get_of h (by subst hq; rw [List.getElem?_append_right (by omega), show X.length + p - X.length = p by omega, List.getElem?_append_left hp]; exact hy)
set_option maxRecDepth 100000 in
set_option maxHeartbeats 4000000 in
theorem symOne_any (P : Program) (k : Nat) (L : PT P k) (w0 : World) (blk off N cap : Nat) (d0 dk : Array Pen) (hN : d0.size = N) (hz : N ≤ 4000000000000) (R : PRow k w0 blk off d0) (w : World) (S : PSW k w0 blk off dk w) (hs : dk.size = N) (X B Y : List Pen) (x : Pen) (hl : dk.toList = X ++ ([x] ++ (B ++ Y))) (hB : Srt keyP B) (a m b : Nat) (ha : a = X.length) (hm : m = a + 1) (hb : b = a + 1 + B.length) :
    Calls P 216 #[.slice (some ⟨blk, off, none⟩) N cap, .int .i64 (a : Int), .int .i64 (m : Int), .int .i64 (b : Int), byID] w fun e w' => e = .returned (.tuple #[]) ∧ ∃ dk' M, PSW k w0 blk off dk' w' ∧ dk'.size = N ∧ dk'.toList = X ++ (M ++ Y) ∧ M.length = 1 + B.length ∧ Sorts keyP ([x] ++ B) M := by
  have hlen : N = X.length + (1 + (B.length + Y.length)) := by rw [← hs, size_of hl]; simp; omega
  have S0 : Aside (PSW k w0 blk off dk w) := S
  have HL := hide hl
  have hs0 := hide hs
  have hbN : b ≤ N := by omega
  have hmb : m ≤ b := by omega
  have HA := hide ha
  have HM := hide hm
  have HB := hide hb
  have HN := hide hN
  have HBs := hide hB
  have e1 : (m : Int) - (a : Int) = 1 := by omega
  have ham : (a : Int) < (N : Int) := by omega
  have ha0 : (0 : Int) ≤ (a : Int) := by omega
  have haN : a < N := by omega
  have mixed := L.mixed; have t0 := L.t0; have a0 := L.a0; have z0 := L.z0; have v0 := L.v0; have t3 := L.t3; have a3 := L.a3; have z3 := L.z3; have v3 := L.v3; have t4 := L.t4; have a4 := L.a4; have z4 := L.z4; have v4 := L.v4; have tS := L.tS; have aS := L.aS; have zS := L.zS; have vS := L.vS; have tF := L.tF; have aF := L.aF; have zF := L.zF; have vF := L.vF; have tU := L.tU; have aU := L.aU; have zU := L.zU; have vU := L.vU; have aE := L.aE; have zE := L.zE; have uS := run_underlying L.tS; have eIns := L.eIns; have eSym := L.eSym; have eRot := L.eRot; have eSwp := L.eSwp; have eSta := L.eSta; have eC := L.eC
  unfold byID
  clear S hl hs ha hb hlen hN hm hB
  go_enter L.fSym, Tryz.ntmps216
  go_wp2
  go_loopg [10, 11] (b - m) (fun kx s10 s11 wr => ∃ (i j : Nat) (dj : Array Pen), s10 = .int .i64 (i : Int) ∧ s11 = .int .i64 (j : Int) ∧ m ≤ i ∧ i ≤ j ∧ j ≤ b ∧ j - i ≤ kx ∧ Aside (PSW k w0 blk off dj wr) ∧ Hid (dj.size = N) ∧ Hid (dj.toList = X ++ ([x] ++ (B ++ Y))) ∧ Hid (∀ p y, B[p]? = some y → p + m < i → y.id < x.id) ∧ Hid (∀ p y, B[p]? = some y → j ≤ p + m → x.id ≤ y.id))
  case atStart => exact ⟨m, b, dk, rfl, rfl, Nat.le_refl _, hmb, Nat.le_refl _, Nat.le_refl _, S0, hs0, HL, fun p y hy h => by omega, fun p y hy h => by have := (List.getElem?_eq_some_iff.1 hy).1; have := HB.out; have := HM.out; omega⟩
  case round =>
    clear S0 hs0 HL
    obtain ⟨i, j, dj, rfl, rfl, hmi, hij, hjb, hkx, S1, hs1, hl1, H1, H2⟩ := hrel
    have hNs : dj.size = d0.size := by rw [hs1.out, HN.out]
    by_cases hlt : i < j
    · have hd : decide ((i : Int) < (j : Int)) = true := decide_eq_true (by omega)
      have hd2 : decide (i < j) = true := decide_eq_true hlt
      obtain ⟨s, hs⟩ : ∃ s, i + j = s := ⟨_, rfl⟩
      obtain ⟨h, hh⟩ : ∃ h, s / 2 = h := ⟨_, rfl⟩
      have es : (i : Int) + (j : Int) = (s : Int) := by omega
      have rs : IntKind.i64.wrap (s : Int) = (s : Int) := by rw [IntKind.wrap_i64]; omega
      have us : IntKind.u64.wrap (s : Int) = (s : Int) := by rw [IntKind.wrap_u64]; omega
      have ms : (s : Int) % 18446744073709551616 = (s : Int) := by omega
      have ds : (s : Int) / 2 = (h : Int) := by omega
      have rh : IntKind.i64.wrap (h : Int) = (h : Int) := by rw [IntKind.wrap_i64]; omega
      have uh : IntKind.u64.wrap (h : Int) = (h : Int) := by rw [IntKind.wrap_u64]; omega
      have qh : IntKind.i64.wrap ((h : Int) + 1) = (h : Int) + 1 := by rw [IntKind.wrap_i64]; omega
      obtain ⟨y, hyB⟩ : ∃ y, B[h - m]? = some y := ⟨_, List.getElem?_eq_getElem (by have := HB.out; have := HM.out; omega)⟩
      have hpd : h < dj.size := by rw [hs1.out]; omega
      have hqd : a < dj.size := by rw [hs1.out]; exact haN
      have hx : dj[h]! = y := get_in (X := X ++ [x]) (B := B) (Y := Y) (by rw [hl1.out]; simp [List.append_assoc]) (h - m) h (by have := HM.out; have := HA.out; simp; omega) hyB
      have hy : dj[a]! = x := get_of hl1.out (by have := HA.out; rw [this]; simp)
      have hhN : (h : Int) < (N : Int) := by omega
      have hh0 : (0 : Int) ≤ (h : Int) := by omega
      have HH : Hid (i ≤ h ∧ h < j) := ⟨by omega, by omega⟩
      have HYB := hide hyB
      clear hs hh hyB
      by_cases hcmp : y.id < x.id
      · have lpX := S1.out.ld R hNs P (h) hpd
        have lqX := S1.out.ld R hNs P (a) hqd
        rw [hx] at lpX
        rw [hy] at lqX
        have hcX := fun n os => L.cC y x (grow (wr.drewN n) os)
        have nxX := L.len y
        have nyX := L.len x
        have hvX : decide (cmpP y x < 0) = true := decide_eq_true ((cmpP_lt _ _).2 hcmp)
        obtain ⟨cvX, hcvX⟩ : ∃ c, cmpP y x = c := ⟨_, rfl⟩
        rw [hcvX] at hvX
        simp only [hcvX] at hcX
        generalize (y).enc = cxX at lpX hcX nxX
        generalize (x).enc = cyX at lqX hcX nyX
        clear hcvX
        go_wp2_with fail
        go_quiet_grown (first | (go_at_fn 187; refine Calls.grown_of (hcX _ _)))
        have S2 : Aside (PSW k w0 blk off dj (grow (wr.drewN nq) osq)) := S1.out.grown nq osq
        clear lpX lqX hcX nxX nyX S1
        generalize grow (wr.drewN nq) osq = wt at S2 ⊢
        clear nq osq
        clear hx hy
        go_wp2
        go_roundg (j - (h + 1))
        case measure => have := HH.out; omega
        case rel =>
          have hh := HH.out
          refine ⟨h + 1, j, dj, by first | rfl | go_num, rfl, by omega, by omega, hjb, Nat.le_refl _, S2, hs1, hl1, fun p z hz hp => ?_, H2⟩
          have := srt_get HBs.out hz HYB.out (by omega)
          omega
      · have lpX := S1.out.ld R hNs P (h) hpd
        have lqX := S1.out.ld R hNs P (a) hqd
        rw [hx] at lpX
        rw [hy] at lqX
        have hcX := fun n os => L.cC y x (grow (wr.drewN n) os)
        have nxX := L.len y
        have nyX := L.len x
        have hvX : decide (cmpP y x < 0) = false := decide_eq_false (fun h => hcmp ((cmpP_lt _ _).1 h))
        obtain ⟨cvX, hcvX⟩ : ∃ c, cmpP y x = c := ⟨_, rfl⟩
        rw [hcvX] at hvX
        simp only [hcvX] at hcX
        generalize (y).enc = cxX at lpX hcX nxX
        generalize (x).enc = cyX at lqX hcX nyX
        clear hcvX
        go_wp2_with fail
        go_quiet_grown (first | (go_at_fn 187; refine Calls.grown_of (hcX _ _)))
        have S2 : Aside (PSW k w0 blk off dj (grow (wr.drewN nq) osq)) := S1.out.grown nq osq
        clear lpX lqX hcX nxX nyX S1
        generalize grow (wr.drewN nq) osq = wt at S2 ⊢
        clear nq osq
        clear hx hy
        go_wp2
        go_roundg (h - i)
        case measure => have := HH.out; omega
        case rel =>
          have hh := HH.out
          refine ⟨i, h, dj, rfl, rfl, hmi, by omega, by omega, Nat.le_refl _, S2, hs1, hl1, H1, fun p z hz hp => ?_⟩
          have := srt_get HBs.out HYB.out hz (by omega)
          omega
    · have hd : decide ((i : Int) < (j : Int)) = false := decide_eq_false (by omega)
      have hd2 : decide (i < j) = false := decide_eq_false hlt
      have hji : j = i := by omega
      have H2' : Hid (∀ p y, B[p]? = some y → i ≤ p + m → x.id ≤ y.id) := by rw [← hji]; exact H2
      obtain ⟨t0', ht0⟩ : ∃ t, i - m = t := ⟨_, rfl⟩
      obtain ⟨B1, hB1⟩ : ∃ l, B.take t0' = l := ⟨_, rfl⟩
      obtain ⟨B2, hB2⟩ : ∃ l, B.drop t0' = l := ⟨_, rfl⟩
      have hBB : B = B1 ++ B2 := by rw [← hB1, ← hB2, List.take_append_drop]
      have hlB1 : B1.length = t0' := by rw [← hB1, List.length_take]; have := HB.out; have := HM.out; omega
      have M1 : ∀ y ∈ B1, y.id < x.id := fun y hy => by
        rw [← hB1] at hy
        obtain ⟨p, hp⟩ := List.mem_iff_getElem?.1 hy
        rw [List.getElem?_take] at hp
        split at hp
        · exact H1.out p y hp (by omega)
        · cases hp
      have M2 : ∀ y ∈ B2, x.id ≤ y.id := fun y hy => by
        rw [← hB2] at hy
        obtain ⟨p, hp⟩ := List.mem_iff_getElem?.1 hy
        rw [List.getElem?_drop] at hp
        exact H2'.out (t0' + p) y hp (by omega)
      have FIN : Hid (Sorts keyP ([x] ++ B) (B1 ++ ([x] ++ B2))) := by show Sorts _ _ _; rw [hBB]; exact merge_one (by have := HBs.out; rw [hBB] at this; exact this) M1 M2
      have FL : Hid ((B1 ++ ([x] ++ B2)).length = 1 + B.length) := by show _ = _; rw [hBB]; simp; omega
      obtain ⟨z, hz'⟩ : ∃ z, a + t0' = z := ⟨_, rfl⟩
      have ez : (i : Int) - 1 = (z : Int) := by have := HM.out; omega
      have rz : IntKind.i64.wrap (z : Int) = (z : Int) := by rw [IntKind.wrap_i64]; omega
      have hzN : z < N := by have := HM.out; omega
      have HZ := hide hz'
      have hl0 : Hid (dj.toList = X ++ (B1.take 0 ++ (x :: (B1.drop 0 ++ (B2 ++ Y))))) := by show _ = _; rw [hl1.out, hBB]; simp [List.append_assoc]
      have HLB := hide hlB1
      have S1' := S1
      have hs1' := hs1
      clear H1 H2 H2' hji ht0 hB1 hB2 hBB hlB1 M1 M2 hz' hl1 S1 hs1 hNs
      go_wp2
      go_loopg [13] (z - a) (fun kx s13 wr => ∃ (u t : Nat) (dj : Array Pen), s13 = .int .i64 (u : Int) ∧ Hid (u = a + t) ∧ u ≤ z ∧ z - u ≤ kx ∧ Aside (PSW k w0 blk off dj wr) ∧ Hid (dj.size = N) ∧ Hid (dj.toList = X ++ (B1.take t ++ (x :: (B1.drop t ++ (B2 ++ Y))))))
      case atStart => exact ⟨a, 0, dj, rfl, rfl, by have := HZ.out; omega, Nat.le_refl _, S1', hs1', hl0⟩
      case round =>
        clear S1' hs1' hl0
        obtain ⟨u, t, dj, rfl, HU, huz, hkx2, S1, hs1, hl1⟩ := hrel
        have hNs : dj.size = d0.size := by rw [hs1.out, HN.out]
        by_cases hlt2 : u < z
        · have hd3 : decide ((u : Int) < (z : Int)) = true := decide_eq_true (by omega)
          have hd4 : decide (u < z) = true := decide_eq_true hlt2
          obtain ⟨v, hv⟩ : ∃ v, u + 1 = v := ⟨_, rfl⟩
          have ev : (u : Int) + 1 = (v : Int) := by omega
          have rv : IntKind.i64.wrap (v : Int) = (v : Int) := by rw [IntKind.wrap_i64]; omega
          have huN : (u : Int) < (N : Int) := by omega
          have hvN : (v : Int) < (N : Int) := by omega
          have hu0 : (0 : Int) ≤ (u : Int) := by omega
          have hv0 : (0 : Int) ≤ (v : Int) := by omega
          have hpd : u < dj.size := by rw [hs1.out]; omega
          have hqd : v < dj.size := by rw [hs1.out]; omega
          have htB : t < B1.length := by have := HU.out; have := HZ.out; have := HLB.out; omega
          obtain ⟨y, hy, dy, ty⟩ := take_drop_get B1 t htB
          have NX : Hid ((swp dj u v).toList = X ++ (B1.take (t + 1) ++ (x :: (B1.drop (t + 1) ++ (B2 ++ Y))))) := by
            show _ = _
            have := swp_list (d := dj) (X := X ++ B1.take t) (Z := []) (x := x) (y := y) (Y := B1.drop (t + 1) ++ (B2 ++ Y)) (by rw [hl1.out, dy]; simp [List.append_assoc]) u v (by have := HA.out; have := HU.out; rw [List.length_append, List.length_take]; omega) (by have := HA.out; have := HU.out; rw [List.length_append, List.length_take]; simp; omega)
            rw [this, ty]; simp [List.append_assoc]
          have NS : Hid ((swp dj u v).size = N) := by show _ = _; rw [size_swp]; exact hs1.out
          have HV := hide hv
          clear hl1 hy dy ty htB hv hs1
          go_wp2_with fail
          have S3 : Aside (PSW k w0 blk off (swp dj u v) ((wr.drew.setCells blk (off + (u) * k) dj[v]!.enc).setCells blk (off + (v) * k) dj[u]!.enc)) := S1.out.swapped R (u) (v) hpd hqd
          have laX := S1.out.ld1 R hNs P (u) hpd
          have lbX := S1.out.ld1 R hNs P (v) hqd
          have saX := S1.out.st1 R hNs P (u) hpd dj[v]!
          have sbX := S1.out.st2 R hNs P (u) (v) hpd hqd dj[v]! dj[u]!
          have naX : dj[u]!.enc.length = k := L.len _
          have nbX : dj[v]!.enc.length = k := L.len _
          generalize dj[u]!.enc = cIX at S3 laX sbX naX
          generalize dj[v]!.enc = cJX at S3 lbX saX sbX nbX
          clear S1
          go_wp2_with fail
          go_big_region_o
          clear laX lbX saX sbX naX nbX
          generalize (wr.drew.setCells blk (off + (u) * k) cJX).setCells blk (off + (v) * k) cIX = wu at S3 ⊢
          go_wp2
          go_roundg (z - v)
          case measure => have := HV.out; omega
          case rel => exact ⟨v, t + 1, swp dj u v, by first | rfl | go_num, by show _ = _; have := HV.out; have := HU.out; omega, by have := HV.out; omega, Nat.le_refl _, S3, NS, NX⟩
        · have hd3 : decide ((u : Int) < (z : Int)) = false := decide_eq_false (by omega)
          have hd4 : decide (u < z) = false := decide_eq_false hlt2
          have htB : t = B1.length := by have := HU.out; have := HZ.out; have := HLB.out; omega
          go_wp2
          (try simp only [Exit.inBlock, Exit.then])
          refine bodyPost_ret (results_none rfl _ _ _) rfl ?_
          refine ⟨rfl, dj, B1 ++ ([x] ++ B2), S1.out, hs1.out, ?_, FL.out, FIN.out⟩
          rw [hl1.out, htB, List.take_length, List.drop_length]; simp [List.append_assoc]
end Go.Proofs.YtmmcoedgoekhgaaGreatDoor
/-
  The stable sort: a sorted part merged with one element behind it (printed by gen_sym2.py).
-/
namespace Go.Proofs.YtmmcoedgoekhgaaGreatDoor
set_option maxRecDepth 20000
open Go.RowKit S Go.Shelf Go.Sort
set_option linter.unusedVariables false
set_option linter.unusedSimpArgs false
set_option maxRecDepth 100000 in
set_option maxHeartbeats 4000000 in
theorem symLast_any (P : Program) (k : Nat) (L : PT P k) (w0 : World) (blk off N cap : Nat) (d0 dk : Array Pen) (hN : d0.size = N) (hz : N ≤ 4000000000000) (R : PRow k w0 blk off d0) (w : World) (S : PSW k w0 blk off dk w) (hs : dk.size = N) (X A Y : List Pen) (x : Pen) (hl : dk.toList = X ++ (A ++ ([x] ++ Y))) (hA : Srt keyP A) (h2 : 2 ≤ A.length) (a m b : Nat) (ha : a = X.length) (hm : m = a + A.length) (hb : b = m + 1) :
    Calls P 216 #[.slice (some ⟨blk, off, none⟩) N cap, .int .i64 (a : Int), .int .i64 (m : Int), .int .i64 (b : Int), byID] w fun e w' => e = .returned (.tuple #[]) ∧ ∃ dk' M, PSW k w0 blk off dk' w' ∧ dk'.size = N ∧ dk'.toList = X ++ (M ++ Y) ∧ M.length = A.length + 1 ∧ Sorts keyP (A ++ [x]) M := by
  have hlen : N = X.length + (A.length + (1 + Y.length)) := by rw [← hs, size_of hl]; simp; omega
  have S0 : Aside (PSW k w0 blk off dk w) := S
  have HL := hide hl
  have hs0 := hide hs
  have hbN : b ≤ N := by omega
  have ham : a ≤ m := by omega
  obtain ⟨g, hg⟩ : ∃ g, A.length = g := ⟨_, rfl⟩
  have e1 : (m : Int) - (a : Int) = (g : Int) := by omega
  have r1 : IntKind.i64.wrap (g : Int) = (g : Int) := by rw [IntKind.wrap_i64]; omega
  have n1 : ((g : Int) == 1) = false := by simp; omega
  have n2 : ((g : Int) = 1) = False := by simp; omega
  have e2 : (b : Int) - (m : Int) = 1 := by omega
  have HA := hide ha
  have HM := hide hm
  have HB := hide hb
  have HN := hide hN
  have HAs := hide hA
  have hmN : (m : Int) < (N : Int) := by omega
  have hm0 : (0 : Int) ≤ (m : Int) := by omega
  have hmN' : m < N := by omega
  have mixed := L.mixed; have t0 := L.t0; have a0 := L.a0; have z0 := L.z0; have v0 := L.v0; have t3 := L.t3; have a3 := L.a3; have z3 := L.z3; have v3 := L.v3; have t4 := L.t4; have a4 := L.a4; have z4 := L.z4; have v4 := L.v4; have tS := L.tS; have aS := L.aS; have zS := L.zS; have vS := L.vS; have tF := L.tF; have aF := L.aF; have zF := L.zF; have vF := L.vF; have tU := L.tU; have aU := L.aU; have zU := L.zU; have vU := L.vU; have aE := L.aE; have zE := L.zE; have uS := run_underlying L.tS; have eIns := L.eIns; have eSym := L.eSym; have eRot := L.eRot; have eSwp := L.eSwp; have eSta := L.eSta; have eC := L.eC
  unfold byID
  clear S hl hs ha hb hlen hN hm hA hg
  go_enter L.fSym, Tryz.ntmps216
  go_wp2
  go_loopg [14, 15] (m - a) (fun kx s14 s15 wr => ∃ (i j : Nat) (dj : Array Pen), s14 = .int .i64 (i : Int) ∧ s15 = .int .i64 (j : Int) ∧ a ≤ i ∧ i ≤ j ∧ j ≤ m ∧ j - i ≤ kx ∧ Aside (PSW k w0 blk off dj wr) ∧ Hid (dj.size = N) ∧ Hid (dj.toList = X ++ (A ++ ([x] ++ Y))) ∧ Hid (∀ p y, A[p]? = some y → p + a < i → y.id ≤ x.id) ∧ Hid (∀ p y, A[p]? = some y → j ≤ p + a → x.id < y.id))
  case atStart => exact ⟨a, m, dk, rfl, rfl, Nat.le_refl _, ham, Nat.le_refl _, Nat.le_refl _, S0, hs0, HL, fun p y hy h => by omega, fun p y hy h => by have := (List.getElem?_eq_some_iff.1 hy).1; have := HM.out; omega⟩
  case round =>
    clear S0 hs0 HL
    obtain ⟨i, j, dj, rfl, rfl, hmi, hij, hjb, hkx, S1, hs1, hl1, H1, H2⟩ := hrel
    have hNs : dj.size = d0.size := by rw [hs1.out, HN.out]
    by_cases hlt : i < j
    · have hd : decide ((i : Int) < (j : Int)) = true := decide_eq_true (by omega)
      have hd2 : decide (i < j) = true := decide_eq_true hlt
      obtain ⟨s, hs⟩ : ∃ s, i + j = s := ⟨_, rfl⟩
      obtain ⟨h, hh⟩ : ∃ h, s / 2 = h := ⟨_, rfl⟩
      have es : (i : Int) + (j : Int) = (s : Int) := by omega
      have rs : IntKind.i64.wrap (s : Int) = (s : Int) := by rw [IntKind.wrap_i64]; omega
      have us : IntKind.u64.wrap (s : Int) = (s : Int) := by rw [IntKind.wrap_u64]; omega
      have ms : (s : Int) % 18446744073709551616 = (s : Int) := by omega
      have ds : (s : Int) / 2 = (h : Int) := by omega
      have rh : IntKind.i64.wrap (h : Int) = (h : Int) := by rw [IntKind.wrap_i64]; omega
      have uh : IntKind.u64.wrap (h : Int) = (h : Int) := by rw [IntKind.wrap_u64]; omega
      have qh : IntKind.i64.wrap ((h : Int) + 1) = (h : Int) + 1 := by rw [IntKind.wrap_i64]; omega
      obtain ⟨y, hyB⟩ : ∃ y, A[h - a]? = some y := ⟨_, List.getElem?_eq_getElem (by have := HM.out; omega)⟩
      have hqd : h < dj.size := by rw [hs1.out]; omega
      have hpd : m < dj.size := by rw [hs1.out]; exact hmN'
      have hy : dj[h]! = y := get_in (X := X) (B := A) (Y := [x] ++ Y) hl1.out (h - a) h (by have := HA.out; omega) hyB
      have hx : dj[m]! = x := get_next (X := X) (S1 := A) (Y := Y) hl1.out m (by have := HM.out; have := HA.out; omega)
      have hhN : (h : Int) < (N : Int) := by omega
      have hh0 : (0 : Int) ≤ (h : Int) := by omega
      have HH : Hid (i ≤ h ∧ h < j) := ⟨by omega, by omega⟩
      have HYB := hide hyB
      clear hs hh hyB
      by_cases hcmp : x.id < y.id
      · have lpX := S1.out.ld R hNs P (m) hpd
        have lqX := S1.out.ld R hNs P (h) hqd
        rw [hx] at lpX
        rw [hy] at lqX
        have hcX := fun n os => L.cC x y (grow (wr.drewN n) os)
        have nxX := L.len x
        have nyX := L.len y
        have hvX : decide (cmpP x y < 0) = true := decide_eq_true ((cmpP_lt _ _).2 hcmp)
        obtain ⟨cvX, hcvX⟩ : ∃ c, cmpP x y = c := ⟨_, rfl⟩
        rw [hcvX] at hvX
        simp only [hcvX] at hcX
        generalize (x).enc = cxX at lpX hcX nxX
        generalize (y).enc = cyX at lqX hcX nyX
        clear hcvX
        go_wp2_with fail
        go_quiet_grown (first | (go_at_fn 187; refine Calls.grown_of (hcX _ _)))
        have S2 : Aside (PSW k w0 blk off dj (grow (wr.drewN nq) osq)) := S1.out.grown nq osq
        clear lpX lqX hcX nxX nyX S1
        generalize grow (wr.drewN nq) osq = wt at S2 ⊢
        clear nq osq
        clear hx hy
        go_wp2
        go_roundg (h - i)
        case measure => have := HH.out; omega
        case rel =>
          have hh := HH.out
          refine ⟨i, h, dj, rfl, rfl, hmi, by omega, by omega, Nat.le_refl _, S2, hs1, hl1, H1, fun p z hz hp => ?_⟩
          have := srt_get HAs.out HYB.out hz (by omega)
          omega
      · have lpX := S1.out.ld R hNs P (m) hpd
        have lqX := S1.out.ld R hNs P (h) hqd
        rw [hx] at lpX
        rw [hy] at lqX
        have hcX := fun n os => L.cC x y (grow (wr.drewN n) os)
        have nxX := L.len x
        have nyX := L.len y
        have hvX : decide (cmpP x y < 0) = false := decide_eq_false (fun h => hcmp ((cmpP_lt _ _).1 h))
        obtain ⟨cvX, hcvX⟩ : ∃ c, cmpP x y = c := ⟨_, rfl⟩
        rw [hcvX] at hvX
        simp only [hcvX] at hcX
        generalize (x).enc = cxX at lpX hcX nxX
        generalize (y).enc = cyX at lqX hcX nyX
        clear hcvX
        go_wp2_with fail
        go_quiet_grown (first | (go_at_fn 187; refine Calls.grown_of (hcX _ _)))
        have S2 : Aside (PSW k w0 blk off dj (grow (wr.drewN nq) osq)) := S1.out.grown nq osq
        clear lpX lqX hcX nxX nyX S1
        generalize grow (wr.drewN nq) osq = wt at S2 ⊢
        clear nq osq
        clear hx hy
        go_wp2
        go_roundg (j - (h + 1))
        case measure => have := HH.out; omega
        case rel =>
          have hh := HH.out
          refine ⟨h + 1, j, dj, by first | rfl | go_num, rfl, by omega, by omega, hjb, Nat.le_refl _, S2, hs1, hl1, fun p z hz hp => ?_, H2⟩
          have := srt_get HAs.out hz HYB.out (by omega)
          omega
    · have hd : decide ((i : Int) < (j : Int)) = false := decide_eq_false (by omega)
      have hd2 : decide (i < j) = false := decide_eq_false hlt
      have hji : j = i := by omega
      have H2' : Hid (∀ p y, A[p]? = some y → i ≤ p + a → x.id < y.id) := by rw [← hji]; exact H2
      obtain ⟨t0', ht0⟩ : ∃ t, i - a = t := ⟨_, rfl⟩
      obtain ⟨A1, hA1⟩ : ∃ l, A.take t0' = l := ⟨_, rfl⟩
      obtain ⟨A2, hA2⟩ : ∃ l, A.drop t0' = l := ⟨_, rfl⟩
      have hAA : A = A1 ++ A2 := by rw [← hA1, ← hA2, List.take_append_drop]
      have hlA1 : A1.length = t0' := by rw [← hA1, List.length_take]; have := HM.out; omega
      have hlA2 : i + A2.length = m := by rw [← hA2, List.length_drop]; have := HM.out; omega
      have M1 : ∀ y ∈ A1, y.id ≤ x.id := fun y hy => by
        rw [← hA1] at hy
        obtain ⟨p, hp⟩ := List.mem_iff_getElem?.1 hy
        rw [List.getElem?_take] at hp
        split at hp
        · exact H1.out p y hp (by omega)
        · cases hp
      have M2 : ∀ y ∈ A2, x.id < y.id := fun y hy => by
        rw [← hA2] at hy
        obtain ⟨p, hp⟩ := List.mem_iff_getElem?.1 hy
        rw [List.getElem?_drop] at hp
        exact H2'.out (t0' + p) y hp (by omega)
      have FIN : Hid (Sorts keyP (A ++ [x]) (A1 ++ ([x] ++ A2))) := by show Sorts _ _ _; rw [hAA]; exact merge_last (by have := HAs.out; rw [hAA] at this; exact this) M1 M2
      have FL : Hid ((A1 ++ ([x] ++ A2)).length = A.length + 1) := by show _ = _; rw [hAA]; simp; omega
      have HI : Hid (i = X.length + A1.length) := by show _ = _; have := HA.out; omega
      have HL2 := hide hlA2
      have hl0 : Hid (dj.toList = X ++ (A1 ++ (A2.take A2.length ++ (x :: (A2.drop A2.length ++ Y))))) := by show _ = _; rw [hl1.out, hAA, List.take_length, List.drop_length]; simp [List.append_assoc]
      have S1' := S1
      have hs1' := hs1
      have him : i ≤ m := by omega
      clear H1 H2 H2' hji ht0 hA1 hA2 hAA hlA1 M1 M2 hlA2 hl1 S1 hs1 hNs hij hjb
      go_wp2
      go_loopg [17] (m - i) (fun kx s17 wr => ∃ (u t : Nat) (dj : Array Pen), s17 = .int .i64 (u : Int) ∧ Hid (u = i + t) ∧ Hid (t ≤ A2.length) ∧ u ≤ m ∧ u - i ≤ kx ∧ Aside (PSW k w0 blk off dj wr) ∧ Hid (dj.size = N) ∧ Hid (dj.toList = X ++ (A1 ++ (A2.take t ++ (x :: (A2.drop t ++ Y))))))
      case atStart => exact ⟨m, A2.length, dj, rfl, HL2.out.symm, Nat.le_refl _, Nat.le_refl _, Nat.le_refl _, S1', hs1', hl0⟩
      case round =>
        clear S1' hs1' hl0
        obtain ⟨u, t, dj, rfl, HU, HT, hum, hkx2, S1, hs1, hl1⟩ := hrel
        have hNs : dj.size = d0.size := by rw [hs1.out, HN.out]
        by_cases hlt2 : i < u
        · have hd3 : decide ((i : Int) < (u : Int)) = true := decide_eq_true (by omega)
          have hd4 : decide (i < u) = true := decide_eq_true hlt2
          obtain ⟨v, hv⟩ : ∃ v, u - 1 = v := ⟨_, rfl⟩
          obtain ⟨t', ht'⟩ : ∃ t', t = t' + 1 := ⟨t - 1, by have := HU.out; omega⟩
          subst ht'
          have ev : (u : Int) - 1 = (v : Int) := by omega
          have rv : IntKind.i64.wrap (v : Int) = (v : Int) := by rw [IntKind.wrap_i64]; omega
          have huN : (u : Int) < (N : Int) := by omega
          have hvN : (v : Int) < (N : Int) := by omega
          have hu0 : (0 : Int) ≤ (u : Int) := by omega
          have hv0 : (0 : Int) ≤ (v : Int) := by omega
          have hpd : u < dj.size := by rw [hs1.out]; omega
          have hqd : v < dj.size := by rw [hs1.out]; omega
          have htA : t' < A2.length := by have := HT.out; omega
          obtain ⟨y, hy, dy, ty⟩ := take_drop_get A2 t' htA
          have NX : Hid ((swp dj u v).toList = X ++ (A1 ++ (A2.take t' ++ (x :: (A2.drop t' ++ Y))))) := by
            show _ = _
            have := swp_list2 (d := dj) (X := X ++ (A1 ++ A2.take t')) (x := y) (y := x) (Y := A2.drop (t' + 1) ++ Y) (by rw [hl1.out, ty]; simp [List.append_assoc]) v u (by have := HI.out; have := HU.out; rw [List.length_append, List.length_append, List.length_take]; omega) (by have := HI.out; have := HU.out; rw [List.length_append, List.length_append, List.length_take]; omega)
            rw [this, dy]; simp [List.append_assoc]
          have NS : Hid ((swp dj u v).size = N) := by show _ = _; rw [size_swp]; exact hs1.out
          have HV := hide hv
          clear hl1 hy dy ty htA hv hs1
          go_wp2_with fail
          have S3 : Aside (PSW k w0 blk off (swp dj u v) ((wr.drew.setCells blk (off + (u) * k) dj[v]!.enc).setCells blk (off + (v) * k) dj[u]!.enc)) := S1.out.swapped R (u) (v) hpd hqd
          have laX := S1.out.ld1 R hNs P (u) hpd
          have lbX := S1.out.ld1 R hNs P (v) hqd
          have saX := S1.out.st1 R hNs P (u) hpd dj[v]!
          have sbX := S1.out.st2 R hNs P (u) (v) hpd hqd dj[v]! dj[u]!
          have naX : dj[u]!.enc.length = k := L.len _
          have nbX : dj[v]!.enc.length = k := L.len _
          generalize dj[u]!.enc = cIX at S3 laX sbX naX
          generalize dj[v]!.enc = cJX at S3 lbX saX sbX nbX
          clear S1
          go_wp2_with fail
          go_big_region_o
          clear laX lbX saX sbX naX nbX
          generalize (wr.drew.setCells blk (off + (u) * k) cJX).setCells blk (off + (v) * k) cIX = wu at S3 ⊢
          go_wp2
          go_roundg (v - i)
          case measure => have := HV.out; omega
          case rel => exact ⟨v, t', swp dj u v, by first | rfl | go_num, by show _ = _; have := HV.out; have := HU.out; omega, by show _ ≤ _; have := HT.out; omega, by have := HV.out; omega, Nat.le_refl _, S3, NS, NX⟩
        · have hd3 : decide ((i : Int) < (u : Int)) = false := decide_eq_false (by omega)
          have hd4 : decide (i < u) = false := decide_eq_false hlt2
          have htA : t = 0 := by have := HU.out; omega
          go_wp2
          (try simp only [Exit.inBlock, Exit.then])
          refine bodyPost_ret (results_none rfl _ _ _) rfl ?_
          refine ⟨rfl, dj, A1 ++ ([x] ++ A2), S1.out, hs1.out, ?_, FL.out, FIN.out⟩
          rw [hl1.out, htA]; simp [List.append_assoc]
end Go.Proofs.YtmmcoedgoekhgaaGreatDoor
