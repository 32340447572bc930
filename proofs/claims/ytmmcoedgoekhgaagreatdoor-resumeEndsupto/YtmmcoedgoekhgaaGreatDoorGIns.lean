/-
  The stable sort: one part put in order one by one (printed by gen_ins.py).
-/
import Derived.Test.YtmmcoedgoekhgaaGreatDoorGRot
namespace Go.Proofs.YtmmcoedgoekhgaaGreatDoor
set_option maxRecDepth 20000
open Go.RowKit S Go.Shelf Go.Sort
set_option linter.unusedVariables false
set_option linter.unusedSimpArgs false
theorem swp_list2 {d : Array Pen} {X Y : List Pen} {x y : Pen} (h : d.toList = X ++ (x :: (y :: Y))) (i j : Nat) (hi : i = X.length) (hj : j = X.length + 1) : (swp d j i).toList = X ++ (y :: (x :: Y)) := by
  have ex : d[i]! = x := get_of h (by subst hi; simp)
  have ey : d[j]! = y := get_of h (by subst hj; rw [List.getElem?_append_right (by omega), show X.length + 1 - X.length = 0 + 1 by omega, List.getElem?_cons_succ]; simp)
  unfold swp
  rw [ex, ey, Array.toList_setIfInBounds, Array.toList_setIfInBounds, h]
  subst hi hj
  rw [List.set_append_right _ _ (by omega), show X.length + 1 - X.length = 0 + 1 by omega, List.set_cons_succ, List.set_cons_zero, List.set_append_right _ _ (by omega), Nat.sub_self, List.set_cons_zero]
abbrev keyP : Pen → Int := fun p => p.id
theorem get_last {d : Array Pen} {X S1 Y : List Pen} {y : Pen} (h : d.toList = X ++ ((S1 ++ [y]) ++ Y)) (i : Nat) (hi : i = X.length + S1.length) : d[i]! = y :=
  get_of h (by subst hi; rw [List.getElem?_append_right (by omega), show X.length + S1.length - X.length = S1.length by omega, List.getElem?_append_left (by simp), List.getElem?_append_right (by omega)]; simp)
theorem get_next {d : Array Pen} {X S1 Y : List Pen} {x : Pen} (h : d.toList = X ++ (S1 ++ (x :: Y))) (i : Nat) (hi : i = X.length + S1.length) : d[i]! = x :=
  get_of h (by subst hi; rw [List.getElem?_append_right (by omega), show X.length + S1.length - X.length = S1.length by omega, List.getElem?_append_right (by omega)]; simp)
/-- One more element put in its place. -/
theorem ins_done {T S1 S2 : List Pen} {x : Pen} (h : Sorts keyP T (S1 ++ S2)) (h1 : S1 = [] ∨ ∃ S0 y, S1 = S0 ++ [y] ∧ ¬ x.id < y.id) (h2 : ∀ y ∈ S2, x.id < y.id) : Sorts keyP (T ++ [x]) (S1 ++ (x :: S2)) := by
  have h3 : ∀ y ∈ S1, y.id ≤ x.id := by
    rcases h1 with rfl | ⟨S0, y, rfl, hy⟩
    · intro z hz; cases hz
    · intro z hz
      rcases List.mem_append.1 hz with hz | hz
      · have := (List.pairwise_append.1 (List.pairwise_append.1 h.1).1).2.2 z hz y (by simp)
        have : z.id ≤ y.id := this
        omega
      · simp at hz; subst hz; omega
  have := merge_last (key := keyP) (x := x) h.1 h3 h2
  exact ⟨this.1, (h.2.app (Sam.refl [x])).trans this.2⟩
set_option maxRecDepth 100000 in
set_option maxHeartbeats 4000000 in
theorem insertion_any (P : Program) (k : Nat) (L : PT P k) (w0 : World) (blk off N cap : Nat) (d0 dk : Array Pen) (hN : d0.size = N) (hz : N ≤ 4000000000000) (R : PRow k w0 blk off d0) (w : World) (S : PSW k w0 blk off dk w) (hs : dk.size = N) (X A Y : List Pen) (hl : dk.toList = X ++ (A ++ Y)) (a b : Nat) (ha : a = X.length) (hb : b = X.length + A.length) :
    Calls P 215 #[.slice (some ⟨blk, off, none⟩) N cap, .int .i64 (a : Int), .int .i64 (b : Int), byID] w fun e w' => e = .returned (.tuple #[]) ∧ ∃ dk' M, PSW k w0 blk off dk' w' ∧ dk'.size = N ∧ dk'.toList = X ++ (M ++ Y) ∧ M.length = A.length ∧ Sorts keyP A M := by
  have hlen : N = X.length + (A.length + Y.length) := by rw [← hs, size_of hl]; simp
  have S0 : Aside (PSW k w0 blk off dk w) := S
  have HL := hide hl
  have hs0 := hide hs
  have hbN : b ≤ N := by omega
  have hab : a ≤ b := by omega
  have HA := hide ha
  have HB := hide (show b = a + A.length by omega)
  have HN := hide hN
  have r1 : IntKind.i64.wrap ((a : Int) + 1) = (a : Int) + 1 := by rw [IntKind.wrap_i64]; omega
  have mixed := L.mixed; have t0 := L.t0; have a0 := L.a0; have z0 := L.z0; have v0 := L.v0; have t3 := L.t3; have a3 := L.a3; have z3 := L.z3; have v3 := L.v3; have t4 := L.t4; have a4 := L.a4; have z4 := L.z4; have v4 := L.v4; have tS := L.tS; have aS := L.aS; have zS := L.zS; have vS := L.vS; have tF := L.tF; have aF := L.aF; have zF := L.zF; have vF := L.vF; have tU := L.tU; have aU := L.aU; have zU := L.zU; have vU := L.vU; have aE := L.aE; have zE := L.zE; have uS := run_underlying L.tS; have eIns := L.eIns; have eSym := L.eSym; have eRot := L.eRot; have eSwp := L.eSwp; have eSta := L.eSta; have eC := L.eC
  unfold byID
  clear S hl hs ha hb hlen hN
  go_enter L.fIns, Tryz.ntmps215
  go_wp2
  go_loopg [8] (A.length) (fun kx s8 wr => ∃ (i t : Nat) (dj : Array Pen) (S : List Pen), s8 = .int .i64 (i : Int) ∧ 1 ≤ t ∧ Hid (i = a + t) ∧ i ≤ N + 1 ∧ b + 1 - i ≤ kx + 1 ∧ Aside (PSW k w0 blk off dj wr) ∧ Hid (dj.size = N) ∧ Hid (dj.toList = X ++ (S ++ (A.drop t ++ Y))) ∧ Hid (Sorts keyP (A.take t) S) ∧ Hid (S.length = min t A.length))
  case atStart =>
    refine ⟨a + 1, 1, dk, A.take 1, by go_num, Nat.le_refl _, rfl, by omega, by have := HB.out; omega, S0, hs0, by show _ = _; rw [HL.out, td_app], ?_, by show _ = _; simp⟩
    refine ⟨?_, Sam.refl _⟩
    rcases A with _ | ⟨x, A⟩ <;> simp [Srt]
  case round =>
    clear S0 hs0 HL r1
    obtain ⟨i, t, dj, S, rfl, ht1, HI, hiN, hkx, S1, hs1, hl1, HS, HSL⟩ := hrel
    by_cases hlt : i < b
    · have hltz : (i : Int) < (b : Int) := by omega
      have hd : decide ((i : Int) < (b : Int)) = true := decide_eq_true hltz
      have hd2 : decide (i < b) = true := decide_eq_true hlt
      have htA : t < A.length := by have := HB.out; have := HI.out; omega
      obtain ⟨x, hx, dx, tx⟩ := take_drop_get A t htA
      have TX := hide tx
      have hl1' : Hid (dj.toList = X ++ (S ++ (x :: ([] ++ (A.drop (t + 1) ++ Y))))) := by show _ = _; rw [hl1.out, dx]; simp
      have HS' : Hid (Sorts keyP (A.take t) (S ++ [])) := by show Sorts _ _ _; rw [List.append_nil]; exact HS.out
      have hSL : S.length = t := by have := HSL.out; omega
      have HSL2 := hide hSL
      have hS1 := S1
      have hs1' := hs1
      clear hl1 hx dx tx HS HSL hSL S1 hs1
      go_wp2
      go_loopg [9] i (fun k2 s9 wr => ∃ (j : Nat) (dj : Array Pen) (S1 S2 : List Pen), s9 = .int .i64 (j : Int) ∧ a ≤ j ∧ j ≤ i ∧ j ≤ k2 ∧ Aside (PSW k w0 blk off dj wr) ∧ Hid (dj.size = N) ∧ Hid (j = a + S1.length) ∧ Hid (dj.toList = X ++ (S1 ++ (x :: (S2 ++ (A.drop (t + 1) ++ Y))))) ∧ Hid (Sorts keyP (A.take t) (S1 ++ S2)) ∧ Hid (S1.length + S2.length = t) ∧ Hid (∀ y ∈ S2, x.id < y.id))
      case atStart => exact ⟨i, dj, S, [], rfl, by have := HI.out; omega, Nat.le_refl _, Nat.le_refl _, hS1, hs1', by show _ = _; have := HSL2.out; have := HI.out; omega, hl1', HS', by show _ = _; have := HSL2.out; simp; omega, by intro y hy; cases hy⟩
      case round =>
        clear hS1 hs1' hl1' HS' HSL2
        obtain ⟨j, dj, S1l, S2, rfl, haj, hji, hk2, S1, hs1, HJ, hl1, HS1, HSL, H2⟩ := hrel
        have hNs : dj.size = d0.size := by rw [hs1.out, HN.out]
        rcases List.eq_nil_or_concat S1l with hnil | ⟨S0, y, hS0⟩
        · have hja : j = a := by have := HJ.out; rw [hnil] at this; simpa using this
          have hjaz : decide ((j : Int) > (a : Int)) = false := decide_eq_false (by omega)
          have hjaz' : ¬ (a : Int) < (j : Int) := by omega
          have hdr : Aside (PSW k w0 blk off dj wr.drew) := S1.out.drew
          clear S1
          go_wp2_with fail
          go_big_region_o
          go_wp2
          go_roundg (b - (i + 1))
          case measure => omega
          case rel => exact ⟨i + 1, t + 1, dj, S1l ++ (x :: S2), by go_num, by omega, by show _ = _; have := HI.out; omega, by omega, by have := HB.out; omega, hdr, hs1, by show _ = _; rw [hl1.out]; simp [List.append_assoc], by show Sorts _ _ _; rw [TX.out]; exact ins_done HS1.out (.inl hnil) H2.out, by show _ = _; have := HSL.out; simp; omega⟩
        · rw [List.concat_eq_append] at hS0
          obtain ⟨jp, hjp⟩ : ∃ jp, j = jp + 1 := ⟨j - 1, by have := HJ.out; rw [hS0] at this; simp at this; omega⟩
          have hjS : jp = a + S0.length := by have := HJ.out; rw [hS0] at this; simp at this; omega
          have hja : decide ((j : Int) > (a : Int)) = true := decide_eq_true (by omega)
          have hja2 : decide ((a : Int) < (j : Int)) = true := decide_eq_true (by omega)
          have hjaz : (a : Int) < (j : Int) := by omega
          have ej : (j : Int) - 1 = (jp : Int) := by omega
          have hwp : IntKind.i64.wrap (jp : Int) = (jp : Int) := by rw [IntKind.wrap_i64]; omega
          have jz : (j : Int) < (N : Int) := by omega
          have jz1 : (jp : Int) < (N : Int) := by omega
          have p0 : (0 : Int) ≤ (j : Int) := by omega
          have p1 : (0 : Int) ≤ (jp : Int) := by omega
          have HJP := hide hjp
          clear hjp
          have hpd : j < dj.size := by rw [hs1.out]; have := HJP.out; omega
          have hqd : jp < dj.size := by rw [hs1.out]; have := HJP.out; omega
          have hx : dj[j]! = x := get_next hl1.out _ (by have := HA.out; have := HJP.out; rw [hS0]; simp; omega)
          have hy : dj[jp]! = y := get_last (Y := x :: (S2 ++ (A.drop (t + 1) ++ Y))) (by rw [hl1.out, hS0]) _ (by have := HA.out; omega)
          by_cases hcmp : x.id < y.id
          · have NX : Hid ((swp dj (j) jp).toList = X ++ (S0 ++ (x :: ((y :: S2) ++ (A.drop (t + 1) ++ Y))))) := by
              show _ = _
              have := swp_list2 (d := dj) (X := X ++ S0) (x := y) (y := x) (Y := S2 ++ (A.drop (t + 1) ++ Y)) (by rw [hl1.out, hS0]; simp [List.append_assoc]) jp (j) (by have := HA.out; simp; omega) (by have := HA.out; have := HJP.out; simp; omega)
              rw [this]; simp [List.append_assoc]
            have NS : Hid ((swp dj (j) jp).size = N) := by show _ = _; rw [size_swp]; exact hs1.out
            have NH1 : Hid (Sorts keyP (A.take t) (S0 ++ (y :: S2))) := by have := HS1.out; rw [hS0] at this; simpa [List.append_assoc, Hid] using this
            have NSL : Hid (S0.length + (y :: S2).length = t) := by have := HSL.out; rw [hS0] at this; simp at this; show _ = _; simp; omega
            have NH2 : Hid (∀ z ∈ y :: S2, x.id < z.id) := by
              intro z hz
              rcases List.mem_cons.1 hz with rfl | hz
              · exact hcmp
              · exact H2.out z hz
            have HjS := hide hjS
            clear hl1 HS1 HSL H2 hjS HJ hS0
            have lpX := S1.out.ld R hNs P (j) hpd
            have lqX := S1.out.ld R hNs P (jp) hqd
            rw [hx] at lpX
            rw [hy] at lqX
            have hcX := fun n os => L.cC x y (grow (wr.drewN n) os)
            have nxX := L.len x
            have nyX := L.len y
            have hvX : decide (cmpP x y < 0) = true := decide_eq_true ((cmpP_lt _ _).2 hcmp)
            obtain ⟨cvX, hcvX⟩ : ∃ c, cmpP x y = c := ⟨_, rfl⟩
            rw [hcvX] at hvX
            simp only [hcvX] at hcX
            generalize (x).enc = cxX at lpX hcX nxX
            generalize (y).enc = cyX at lqX hcX nyX
            clear hcvX
            go_wp2_with fail
            go_quiet_grown (first | (go_at_fn 187; refine Calls.grown_of (hcX _ _)))
            have S2w : Aside (PSW k w0 blk off dj (grow (wr.drewN nq) osq)) := S1.out.grown nq osq
            clear lpX lqX hcX nxX nyX S1
            generalize grow (wr.drewN nq) osq = wt at S2w ⊢
            clear nq osq
            clear hx hy
            have S3 : Aside (PSW k w0 blk off (swp dj j jp) ((wt.drew.setCells blk (off + (j) * k) dj[jp]!.enc).setCells blk (off + (jp) * k) dj[j]!.enc)) := S2w.out.swapped R (j) (jp) hpd hqd
            have laX := S2w.out.ld1 R hNs P (j) hpd
            have lbX := S2w.out.ld1 R hNs P (jp) hqd
            have saX := S2w.out.st1 R hNs P (j) hpd dj[jp]!
            have sbX := S2w.out.st2 R hNs P (j) (jp) hpd hqd dj[jp]! dj[j]!
            have naX : dj[j]!.enc.length = k := L.len _
            have nbX : dj[jp]!.enc.length = k := L.len _
            generalize dj[j]!.enc = cIX at S3 laX sbX naX
            generalize dj[jp]!.enc = cJX at S3 lbX saX sbX nbX
            clear S2w
            go_wp2_with fail
            go_big_region_o
            clear laX lbX saX sbX naX nbX
            generalize (wt.drew.setCells blk (off + (j) * k) cJX).setCells blk (off + (jp) * k) cIX = wu at S3 ⊢
            go_wp2
            go_roundg jp
            case measure => have := HJP.out; omega
            case rel => exact ⟨jp, swp dj (j) jp, S0, y :: S2, by first | rfl | go_num, by have := HjS.out; omega, by have := HJP.out; omega, Nat.le_refl _, S3, NS, HjS, NX, NH1, NSL, NH2⟩
          · have HS0 := hide hS0
            clear hjS hS0
            have lpX := S1.out.ld R hNs P (j) hpd
            have lqX := S1.out.ld R hNs P (jp) hqd
            rw [hx] at lpX
            rw [hy] at lqX
            have hcX := fun n os => L.cC x y (grow (wr.drewN n) os)
            have nxX := L.len x
            have nyX := L.len y
            have hvX : decide (cmpP x y < 0) = false := decide_eq_false (fun h => hcmp ((cmpP_lt _ _).1 h))
            obtain ⟨cvX, hcvX⟩ : ∃ c, cmpP x y = c := ⟨_, rfl⟩
            rw [hcvX] at hvX
            simp only [hcvX] at hcX
            generalize (x).enc = cxX at lpX hcX nxX
            generalize (y).enc = cyX at lqX hcX nyX
            clear hcvX
            go_wp2_with fail
            go_quiet_grown (first | (go_at_fn 187; refine Calls.grown_of (hcX _ _)))
            have S2w : Aside (PSW k w0 blk off dj (grow (wr.drewN nq) osq)) := S1.out.grown nq osq
            clear lpX lqX hcX nxX nyX S1
            generalize grow (wr.drewN nq) osq = wt at S2w ⊢
            clear nq osq
            clear hx hy
            go_wp2
            go_roundg (b - (i + 1))
            case measure => omega
            case rel => exact ⟨i + 1, t + 1, dj, S1l ++ (x :: S2), by go_num, by omega, by show _ = _; have := HI.out; omega, by omega, by have := HB.out; omega, S2w, hs1, by show _ = _; rw [hl1.out]; simp [List.append_assoc], by show Sorts _ _ _; rw [TX.out]; exact ins_done HS1.out (.inr ⟨S0, y, HS0.out, by omega⟩) H2.out, by show _ = _; have := HSL.out; simp; omega⟩
    · have hd : decide ((i : Int) < (b : Int)) = false := decide_eq_false (by omega)
      have hd2 : decide (i < b) = false := decide_eq_false hlt
      have hle : A.length ≤ t := by have := HB.out; have := HI.out; omega
      go_wp2
      go_end0
      refine ⟨rfl, dj, S, S1.out, hs1.out, ?_, ?_, ?_⟩
      · rw [hl1.out, List.drop_of_length_le hle]; simp
      · rw [HSL.out]; omega
      · have := HS.out; rw [List.take_of_length_le hle] at this; exact this
end Go.Proofs.YtmmcoedgoekhgaaGreatDoor
