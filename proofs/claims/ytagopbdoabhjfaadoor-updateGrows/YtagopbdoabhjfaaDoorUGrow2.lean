/-
  The statement's may (printed by gen_grow2.py).
-/
import Derived.Test.YtagopbdoabhjfaaDoorUGrow1
namespace Go.Proofs.YtagopbdoabhjfaaDoor
open Go.RowKit S
set_option linter.unusedVariables false
set_option linter.unusedSimpArgs false
theorem gone_next {l : List Upd} {j : Nat} {x : Upd} (hx : l[j]? = some x) (id : Int) : goneB (l.take (j + 1)) id = (goneB (l.take j) id || (!(x.kind == 1) && (x.id == id))) := by
  unfold goneB; rw [take_snoc hx, List.any_append]; simp
def mayK (u : Upd) (O : Option Upd) (g : Bool) : Bool := match O with
  | none => false
  | some a => if g = true then false else (u.kind == 3) || eqH (sumU u.hash) a.hash
set_option maxRecDepth 100000 in
set_option maxHeartbeats 4000000 in
theorem may_any (n : Num) (ad1 ad2 : Option Addr) (n1 n2 cap1 cap2 : Nat) (mine others : List Upd) (hn1 : mine.length = n1) (hn2 : others.length = n2) (hz1 : n1 ≤ 140737488351232) (hz2 : n2 ≤ 140737488351232) (u : Upd) (w : World) (hG : Glob n w) (hS1 : Upds w ad1 mine) (hS2 : Upds w ad2 others) : Calls Tryd.prog 15 #[.slice ad1 n1 cap1, .slice ad2 n2 cap2, .agg (tabv u.v 36)] w fun e w' => e = .returned (.bool (mayB mine others u)) ∧ Below w.heap.size w w' := by
  obtain ⟨w3, hW⟩ : ∃ x, w.alloc (.cells (tabv u.v 36) 25) = x := ⟨_, rfl⟩
  have g0 : Has w3 w.heap.size 25 u.v 36 := by rw [← hW]; exact Has.new w 25 u.v 36 _ rfl
  have gb : Below w.heap.size w w3 := by rw [← hW]; exact (Below.refl w.heap.size w).alloc (Nat.le_refl _) _
  have G0 := hide g0
  have HV := hide (fun w : World => valid_any u w)
  cases hv : validB u with
  | false =>
    rw [show mayB mine others u = false by unfold mayB; rw [if_pos hv]]
    rw [hv] at HV
    clear g0 hn1 hn2 hz1 hz2
    go_enter Tryd.func15, Tryd.ntmps15
    go_wp2_with (first | refine wpW_load_at 25 _ rfl (w.heap.size) (0) (by rfl) (by rfl) _ 36 _ (G0.out.at_ 0 (by omega) (fun i hi => by rw [Nat.zero_add])) Tryd.underlying25 rfl infoU ?_ | fail)
    refine (HV.out _).mono ?_
    rintro e w4 ⟨rfl, hb4⟩
    have gb4 := gb.trans (hb4.mono gb.size)
    clear hW gb
    go_wp2
    go_ret
    exact ⟨rfl, gb4⟩
  | true =>
    rw [hv] at HV
    obtain ⟨Y, hY⟩ : ∃ Y, mayB mine others u = Y := ⟨_, rfl⟩
    rw [hY]
    have HY : Hid ((if (u.kind == 1) = true then (u.id == (addsN mine : Int)) else mayK u (others.find? (isAdd u.id)) (goneB mine u.id)) = Y) := by
      show _ = _
      rw [← hY]
      unfold mayB
      rw [hv, if_neg (show ¬(true = false) by decide)]
      rfl
    have HF := hide (fun (w : World) (h : Upds w ad2 others) => find_any ad2 n2 cap2 others hn2 hz2 u.id w h)
    have LS := hide (fun (w : World) (hG : Glob n w) => lsum_any n u.hash w hG)
    have HN := hide hn1
    have hni : (n1 : Int) ≤ 140737488351232 := by omega
    have HZ := hide hz1
    clear g0 hn1 hn2 hz1 hz2 hY hv
    go_enter Tryd.func15, Tryd.ntmps15
    go_wp2_with (first | refine wpW_load_at 25 _ rfl (w.heap.size) (0) (by rfl) (by rfl) _ 36 _ (G0.out.at_ 0 (by omega) (fun i hi => by rw [Nat.zero_add])) Tryd.underlying25 rfl infoU ?_ | fail)
    refine (HV.out _).mono ?_
    rintro e w4 ⟨rfl, hb4⟩
    have gb4 := gb.trans (hb4.mono gb.size)
    have g4 := G0.out.below hb4 G0.out.lt
    clear hW gb hb4 HV G0
    go_wp2
    go_loopw [7, 8, 9] (fun c g i wr => ∃ j : Nat, j ≤ n1 ∧ i = .int .i64 (j : Int) ∧ c = .int .i64 (addsN (mine.take j) : Int) ∧ g = .bool (goneB (mine.take j) u.id) ∧ Has wr w.heap.size 25 u.v 36 ∧ Below w.heap.size w wr) (fun _ _ i _ => n1 - (intOf i).toNat)
    case atStart => exact ⟨0, Nat.zero_le _, rfl, rfl, rfl, g4, gb4⟩
    case round =>
      clear g4 gb4
      obtain ⟨j, hj, rfl, rfl, rfl, g0, gb⟩ := hrel
      by_cases hlt : j < n1
      · have hd : decide ((j : Int) < (n1 : Int)) = true := decide_eq_true (by omega)
        have hd2 : decide (j < n1) = true := decide_eq_true hlt
        have hk0 : (0 : Int) ≤ (j : Int) := by omega
        have hk1 : (j : Int) < (n1 : Int) := by omega
        obtain ⟨s, hs⟩ : ∃ s, mine[j]? = some s := ⟨_, List.getElem?_eq_getElem (by rw [HN.out]; exact hlt)⟩
        obtain ⟨b, o, rfl, hb1, hA⟩ := (hS1.below gb).get j s hs
        have HS := hide hs
        have c0 : wr.cell? ⟨b, o + j * 36, none⟩ = some (.int .i64 s.kind) := hA 0 (by omega)
        have c1 : wr.cell? ⟨b, o + j * 36 + 1, none⟩ = some (.int .i64 s.id) := hA 1 (by omega)
        have d1 : wr.cell? ⟨w.heap.size, 1, none⟩ = some (.int .i64 u.id) := g0.cell 1 (by omega)
        obtain ⟨K, hK⟩ : ∃ K, addsN (mine.take j) = K := ⟨_, rfl⟩
        have hKj : K ≤ j := by rw [← hK]; exact Nat.le_trans (adds_le _) (by rw [List.length_take]; omega)
        have HK := hide hK
        obtain ⟨Gn, hGn⟩ : ∃ g, goneB (mine.take j) u.id = g := ⟨_, rfl⟩
        have HGn := hide hGn
        rw [hK, hGn]
        have hKb : (K : Int) ≤ 140737488351232 := by have := HZ.out; omega
        have hK0 : (0 : Int) ≤ (K : Int) := by omega
        have G0 := hide g0
        clear hK hKj hs hA hb1 hGn g0
        cases k1 : (s.kind == 1) with
        | true =>
          go_wp2
          go_roundw
          case rel => exact ⟨j + 1, by omega, by go_num, by rw [adds_next HS.out _ k1, HK.out, if_pos rfl]; exact int_eq (by omega), by rw [gone_next HS.out, HGn.out, k1]; simp, G0.out, gb⟩
          case measure => simp [intOf]; omega
        | false =>
          go_wp2
          go_quiet (fail)
          cases ki : (s.id == u.id) with
          | true =>
            go_wp2
            go_roundw
            case rel => exact ⟨j + 1, by omega, by go_num, by rw [adds_next HS.out _ k1, HK.out]; simp, by rw [gone_next HS.out, HGn.out, k1, ki]; simp, G0.out, belowD gb nq⟩
            case measure => simp [intOf]; omega
          | false =>
            go_wp2
            go_roundw
            case rel => exact ⟨j + 1, by omega, by go_num, by rw [adds_next HS.out _ k1, HK.out]; simp, by rw [gone_next HS.out, HGn.out, k1, ki]; simp, G0.out, belowD gb nq⟩
            case measure => simp [intOf]; omega
      · have hjn : j = n1 := by omega
        subst hjn
        have hd : decide ((j : Int) < (j : Int)) = false := decide_eq_false (by omega)
        have hd2 : decide (j < j) = false := decide_eq_false (by omega)
        have hfull : mine.take j = mine := by rw [← HN.out]; exact List.take_length
        rw [hfull]
        obtain ⟨K, hK⟩ : ∃ K : Int, (addsN mine : Int) = K := ⟨_, rfl⟩
        obtain ⟨Gn, hGn⟩ : ∃ g, goneB mine u.id = g := ⟨_, rfl⟩
        rw [hK, hGn] at HY ⊢
        have c0 : wr.cell? ⟨w.heap.size, 0, none⟩ = some (.int .i64 u.kind) := g0.cell 0 (by omega)
        have c1 : wr.cell? ⟨w.heap.size, 1, none⟩ = some (.int .i64 u.id) := g0.cell 1 (by omega)
        clear hK hGn hfull
        cases k1 : (u.kind == 1) with
        | true =>
          have HY2 := hide (HY.out.symm.trans (by rw [if_pos k1]))
          go_wp2
          go_ret
          exact ⟨by rw [HY2.out]; rfl, gb⟩
        | false =>
          have HY2 := hide (HY.out.symm.trans (by rw [if_neg (by rw [k1]; decide)]))
          have G0 := hide g0
          obtain ⟨O, hO⟩ : ∃ O, others.find? (isAdd u.id) = O := ⟨_, rfl⟩
          rw [hO] at HF HY2
          clear hO g0
          go_wp2_with fail
          refine (HF.out _ (hS2.below gb)).mono ?_
          rintro e w5 ⟨rfl, hb5⟩
          have G5 := hide (G0.out.below hb5 G0.out.lt)
          have gb5 := gb.trans (hb5.mono gb.size)
          obtain ⟨w6, w7, hW6, q1, hW7, r1, rb⟩ := newU w5 (orZ O)
          have Q1 := hide q1
          have R7 := hide r1
          have G7 := hide (G5.out.below rb G5.out.lt)
          have gb7 := gb5.trans (rb.mono gb5.size)
          have hG7 : Glob n w7 := hG.up gb7 (Nat.le_refl _)
          clear c0 c1 hb5 q1 r1 rb gb gb5 HF
          cases O with
          | none =>
            go_wp2_with (first | refine wpList_storeU rfl _ _ rfl rfl w5.heap.size (orZ none) rfl rfl _ Q1.out ?_)
            try rw [hW7]
            clear hW6 hW7 Q1
            refine wp_region_noPanic ?_
            refine wp_region_held_drew (S := fun wx => Below w7.heap.size w7 wx) (by kernel_rfl) ((Below.refl _ _).drew) (fun hHeld => ?_)
            refine Cu.takeH 0 (some 51) (.bool false) rfl rfl (by kernel_rfl) (by kernel_rfl) (by kernel_rfl) (fun _ _ _ h => h) (by rfl) (fun w hw => by first | rfl | (go_simp; done) | (go_simp; rfl) | (go_simp; omega)) hHeld ?_
            simp only [Act.put, List.setIfInBounds_toArray, List.set_cons_zero, List.set_cons_succ]
            refine Cu.takeH 1 (some 52) (.bool false) rfl rfl (by kernel_rfl) (by kernel_rfl) (by kernel_rfl) (fun _ _ _ h => h) (by rfl) (fun w hw => by first | rfl | (go_simp; done) | (go_simp; rfl) | (go_simp; omega)) hHeld ?_
            simp only [Act.put, List.setIfInBounds_toArray, List.set_cons_zero, List.set_cons_succ]
            refine skH 2 (some 53) rfl hHeld ?_
            simp only [Act.put, List.setIfInBounds_toArray, List.set_cons_zero, List.set_cons_succ]
            refine skH 3 (some 54) rfl hHeld ?_
            simp only [Act.put, List.setIfInBounds_toArray, List.set_cons_zero, List.set_cons_succ]
            refine Cu.takeH 4 (some 55) (.bool false) rfl rfl (by kernel_rfl) (by kernel_rfl) (by kernel_rfl) (fun _ _ _ h => h) (by rfl) (fun w hw => by first | rfl | (go_simp; done) | (go_simp; rfl) | (go_simp; omega)) hHeld ?_
            simp only [Act.put, List.setIfInBounds_toArray, List.set_cons_zero, List.set_cons_succ]
            refine Cu.takeH 5 (some 56) (.bool false) rfl rfl (by kernel_rfl) (by kernel_rfl) (by kernel_rfl) (fun _ _ _ h => h) (by rfl) (fun w hw => by first | rfl | (go_simp; done) | (go_simp; rfl) | (go_simp; omega)) hHeld ?_
            simp only [Act.put, List.setIfInBounds_toArray, List.set_cons_zero, List.set_cons_succ]
            refine skH 6 (some 57) rfl hHeld ?_
            simp only [Act.put, List.setIfInBounds_toArray, List.set_cons_zero, List.set_cons_succ]
            refine skH 7 (some 58) rfl hHeld ?_
            simp only [Act.put, List.setIfInBounds_toArray, List.set_cons_zero, List.set_cons_succ]
            refine skH 8 (some 59) rfl hHeld ?_
            simp only [Act.put, List.setIfInBounds_toArray, List.set_cons_zero, List.set_cons_succ]
            refine skH 9 (some 60) rfl hHeld ?_
            simp only [Act.put, List.setIfInBounds_toArray, List.set_cons_zero, List.set_cons_succ]
            refine skH 10 (some 61) rfl hHeld ?_
            simp only [Act.put, List.setIfInBounds_toArray, List.set_cons_zero, List.set_cons_succ]
            refine skH 11 (some 62) rfl hHeld ?_
            simp only [Act.put, List.setIfInBounds_toArray, List.set_cons_zero, List.set_cons_succ]
            refine skH 12 (some 63) rfl hHeld ?_
            simp only [Act.put, List.setIfInBounds_toArray, List.set_cons_zero, List.set_cons_succ]
            refine skH 13 (some 64) rfl hHeld ?_
            simp only [Act.put, List.setIfInBounds_toArray, List.set_cons_zero, List.set_cons_succ]
            refine skH 14 (some 65) rfl hHeld ?_
            simp only [Act.put, List.setIfInBounds_toArray, List.set_cons_zero, List.set_cons_succ]
            refine skH 15 (some 66) rfl hHeld ?_
            simp only [Act.put, List.setIfInBounds_toArray, List.set_cons_zero, List.set_cons_succ]
            refine skH 16 (some 67) rfl hHeld ?_
            simp only [Act.put, List.setIfInBounds_toArray, List.set_cons_zero, List.set_cons_succ]
            refine Cu.takeH 17 (some 68) (.bool false) rfl rfl (by kernel_rfl) (by kernel_rfl) (by kernel_rfl) (fun _ _ _ h => h) (by rfl) (fun w hw => by first | rfl | (go_simp; done) | (go_simp; rfl) | (go_simp; omega)) hHeld ?_
            simp only [Act.put, List.setIfInBounds_toArray, List.set_cons_zero, List.set_cons_succ]
            refine Cu.takeH 18 (some 6) (.bool false) rfl rfl (by kernel_rfl) (by kernel_rfl) (by kernel_rfl) (fun _ _ _ h => h) (by rfl) (fun w hw => by first | rfl | (go_simp; done) | (go_simp; rfl) | (go_simp; omega)) hHeld ?_
            simp only [Act.put, List.setIfInBounds_toArray, List.set_cons_zero, List.set_cons_succ]
            refine ⟨by kernel_rfl, ?_⟩
            refine NoPanic.normal ?_
            try go_wp2
            go_ret
            exact ⟨by rw [HY2.out]; rfl, gb7.trans (hHeld.mono gb7.size)⟩
          | some a =>
            go_wp2_with (first | refine wpList_storeU rfl _ _ rfl rfl w5.heap.size (orZ (some a)) rfl rfl _ Q1.out ?_)
            try rw [hW7]
            clear hW6 hW7 Q1
            have A7 : Hid (Has w7 w5.heap.size 25 a.v 36) := R7
            generalize w5.heap.size = g7 at A7 ⊢
            cases Gn with
            | true =>
              refine wp_region_noPanic ?_
              refine wp_region_held_drew (S := fun wx => Below w7.heap.size w7 wx) (by kernel_rfl) ((Below.refl _ _).drew) (fun hHeld => ?_)
              refine Cu.takeH 0 (some 51) (.bool true) rfl rfl (by kernel_rfl) (by kernel_rfl) (by kernel_rfl) (fun _ _ _ h => h) (by rfl) (fun w hw => by first | rfl | (go_simp; done) | (go_simp; rfl) | (go_simp; omega)) hHeld ?_
              simp only [Act.put, List.setIfInBounds_toArray, List.set_cons_zero, List.set_cons_succ]
              refine Cu.takeH 1 (some 52) (.bool true) rfl rfl (by kernel_rfl) (by kernel_rfl) (by kernel_rfl) (fun _ _ _ h => h) (by rfl) (fun w hw => by first | rfl | (go_simp; done) | (go_simp; rfl) | (go_simp; omega)) hHeld ?_
              simp only [Act.put, List.setIfInBounds_toArray, List.set_cons_zero, List.set_cons_succ]
              refine Cu.takeH 2 (some 53) (.bool true) rfl rfl (by kernel_rfl) (by kernel_rfl) (by kernel_rfl) (fun _ _ _ h => h) (by rfl) (fun w hw => by first | rfl | (go_simp; done) | (go_simp; rfl) | (go_simp; omega)) hHeld ?_
              simp only [Act.put, List.setIfInBounds_toArray, List.set_cons_zero, List.set_cons_succ]
              refine Cu.takeH 3 (some 54) (.bool false) rfl rfl (by kernel_rfl) (by kernel_rfl) (by kernel_rfl) (fun _ _ _ h => h) (by rfl) (fun w hw => by first | rfl | (go_simp; done) | (go_simp; rfl) | (go_simp; omega)) hHeld ?_
              simp only [Act.put, List.setIfInBounds_toArray, List.set_cons_zero, List.set_cons_succ]
              refine Cu.takeH 4 (some 55) (.bool false) rfl rfl (by kernel_rfl) (by kernel_rfl) (by kernel_rfl) (fun _ _ _ h => h) (by rfl) (fun w hw => by first | rfl | (go_simp; done) | (go_simp; rfl) | (go_simp; omega)) hHeld ?_
              simp only [Act.put, List.setIfInBounds_toArray, List.set_cons_zero, List.set_cons_succ]
              refine Cu.takeH 5 (some 56) (.bool false) rfl rfl (by kernel_rfl) (by kernel_rfl) (by kernel_rfl) (fun _ _ _ h => h) (by rfl) (fun w hw => by first | rfl | (go_simp; done) | (go_simp; rfl) | (go_simp; omega)) hHeld ?_
              simp only [Act.put, List.setIfInBounds_toArray, List.set_cons_zero, List.set_cons_succ]
              refine skH 6 (some 57) rfl hHeld ?_
              simp only [Act.put, List.setIfInBounds_toArray, List.set_cons_zero, List.set_cons_succ]
              refine skH 7 (some 58) rfl hHeld ?_
              simp only [Act.put, List.setIfInBounds_toArray, List.set_cons_zero, List.set_cons_succ]
              refine skH 8 (some 59) rfl hHeld ?_
              simp only [Act.put, List.setIfInBounds_toArray, List.set_cons_zero, List.set_cons_succ]
              refine skH 9 (some 60) rfl hHeld ?_
              simp only [Act.put, List.setIfInBounds_toArray, List.set_cons_zero, List.set_cons_succ]
              refine skH 10 (some 61) rfl hHeld ?_
              simp only [Act.put, List.setIfInBounds_toArray, List.set_cons_zero, List.set_cons_succ]
              refine skH 11 (some 62) rfl hHeld ?_
              simp only [Act.put, List.setIfInBounds_toArray, List.set_cons_zero, List.set_cons_succ]
              refine skH 12 (some 63) rfl hHeld ?_
              simp only [Act.put, List.setIfInBounds_toArray, List.set_cons_zero, List.set_cons_succ]
              refine skH 13 (some 64) rfl hHeld ?_
              simp only [Act.put, List.setIfInBounds_toArray, List.set_cons_zero, List.set_cons_succ]
              refine skH 14 (some 65) rfl hHeld ?_
              simp only [Act.put, List.setIfInBounds_toArray, List.set_cons_zero, List.set_cons_succ]
              refine skH 15 (some 66) rfl hHeld ?_
              simp only [Act.put, List.setIfInBounds_toArray, List.set_cons_zero, List.set_cons_succ]
              refine skH 16 (some 67) rfl hHeld ?_
              simp only [Act.put, List.setIfInBounds_toArray, List.set_cons_zero, List.set_cons_succ]
              refine Cu.takeH 17 (some 68) (.bool false) rfl rfl (by kernel_rfl) (by kernel_rfl) (by kernel_rfl) (fun _ _ _ h => h) (by rfl) (fun w hw => by first | rfl | (go_simp; done) | (go_simp; rfl) | (go_simp; omega)) hHeld ?_
              simp only [Act.put, List.setIfInBounds_toArray, List.set_cons_zero, List.set_cons_succ]
              refine Cu.takeH 18 (some 6) (.bool false) rfl rfl (by kernel_rfl) (by kernel_rfl) (by kernel_rfl) (fun _ _ _ h => h) (by rfl) (fun w hw => by first | rfl | (go_simp; done) | (go_simp; rfl) | (go_simp; omega)) hHeld ?_
              simp only [Act.put, List.setIfInBounds_toArray, List.set_cons_zero, List.set_cons_succ]
              refine ⟨by kernel_rfl, ?_⟩
              refine NoPanic.normal ?_
              try go_wp2
              go_ret
              exact ⟨by rw [HY2.out]; rfl, gb7.trans (hHeld.mono gb7.size)⟩
            | false =>
              cases k3 : (u.kind == 3) with
              | true =>
                refine wp_region_noPanic ?_
                refine wp_region_held_drew (S := fun wx => Below w7.heap.size w7 wx) (by kernel_rfl) ((Below.refl _ _).drew) (fun hHeld => ?_)
                refine Cu.takeH 0 (some 51) (.bool true) rfl rfl (by kernel_rfl) (by kernel_rfl) (by kernel_rfl) (fun _ _ _ h => h) (by rfl) (fun w hw => by first | rfl | (go_simp; done) | (go_simp; rfl) | (go_simp; omega)) hHeld ?_
                simp only [Act.put, List.setIfInBounds_toArray, List.set_cons_zero, List.set_cons_succ]
                refine Cu.takeH 1 (some 52) (.bool true) rfl rfl (by kernel_rfl) (by kernel_rfl) (by kernel_rfl) (fun _ _ _ h => h) (by rfl) (fun w hw => by first | rfl | (go_simp; done) | (go_simp; rfl) | (go_simp; omega)) hHeld ?_
                simp only [Act.put, List.setIfInBounds_toArray, List.set_cons_zero, List.set_cons_succ]
                refine Cu.takeH 2 (some 53) (.bool false) rfl rfl (by kernel_rfl) (by kernel_rfl) (by kernel_rfl) (fun _ _ _ h => h) (by rfl) (fun w hw => by first | rfl | (go_simp; done) | (go_simp; rfl) | (go_simp; omega)) hHeld ?_
                simp only [Act.put, List.setIfInBounds_toArray, List.set_cons_zero, List.set_cons_succ]
                refine Cu.takeH 3 (some 54) (.bool true) rfl rfl (by kernel_rfl) (by kernel_rfl) (by kernel_rfl) (fun _ _ _ h => h) (by rfl) (fun w hw => by first | rfl | (go_simp; done) | (go_simp; rfl) | (go_simp; omega)) hHeld ?_
                simp only [Act.put, List.setIfInBounds_toArray, List.set_cons_zero, List.set_cons_succ]
                refine Cu.takeH 4 (some 55) (.bool true) rfl rfl (by kernel_rfl) (by kernel_rfl) (by kernel_rfl) (fun _ _ _ h => h) (by rfl) (fun w hw => by first | rfl | (go_simp; done) | (go_simp; rfl) | (go_simp; omega)) hHeld ?_
                simp only [Act.put, List.setIfInBounds_toArray, List.set_cons_zero, List.set_cons_succ]
                refine Cu.takeH 5 (some 56) (.bool true) rfl rfl (by kernel_rfl) (by kernel_rfl) (by kernel_rfl) (fun _ _ _ h => h) (by rfl) (fun w hw => by first | rfl | (go_simp; done) | (go_simp; rfl) | (go_simp; omega)) hHeld ?_
                simp only [Act.put, List.setIfInBounds_toArray, List.set_cons_zero, List.set_cons_succ]
                refine Cu.takeH 6 (some 57) (.pointer (some ⟨w.heap.size, 0, none⟩)) rfl rfl (by kernel_rfl) (by kernel_rfl) (by kernel_rfl) (fun _ _ _ h => h) (by rfl) (fun w hw => by first | rfl | (go_simp; done) | (go_simp; rfl) | (go_simp; omega)) hHeld ?_
                simp only [Act.put, List.setIfInBounds_toArray, List.set_cons_zero, List.set_cons_succ]
                refine Cu.takeH 7 (some 58) (.int .i64 u.kind) rfl rfl (by kernel_rfl) (by kernel_rfl) (by kernel_rfl) (fun _ _ _ h => h) (by rfl) (fun w hw => by have c0 : w.cell? ⟨_, 0, none⟩ = some (.int .i64 u.kind) := (G7.out.below hw G7.out.lt).cell 0 (by omega); first | rfl | (go_simp; done) | (go_simp; rfl) | (go_simp; omega)) hHeld ?_
                simp only [Act.put, List.setIfInBounds_toArray, List.set_cons_zero, List.set_cons_succ]
                refine Cu.takeH 8 (some 59) (.bool true) rfl rfl (by kernel_rfl) (by kernel_rfl) (by kernel_rfl) (fun _ _ _ h => h) (by rfl) (fun w hw => by first | rfl | (go_simp; done) | (go_simp; rfl) | (go_simp; omega)) hHeld ?_
                simp only [Act.put, List.setIfInBounds_toArray, List.set_cons_zero, List.set_cons_succ]
                refine Cu.takeH 9 (some 60) (.bool true) rfl rfl (by kernel_rfl) (by kernel_rfl) (by kernel_rfl) (fun _ _ _ h => h) (by rfl) (fun w hw => by first | rfl | (go_simp; done) | (go_simp; rfl) | (go_simp; omega)) hHeld ?_
                simp only [Act.put, List.setIfInBounds_toArray, List.set_cons_zero, List.set_cons_succ]
                refine skH 10 (some 61) rfl hHeld ?_
                simp only [Act.put, List.setIfInBounds_toArray, List.set_cons_zero, List.set_cons_succ]
                refine skH 11 (some 62) rfl hHeld ?_
                simp only [Act.put, List.setIfInBounds_toArray, List.set_cons_zero, List.set_cons_succ]
                refine skH 12 (some 63) rfl hHeld ?_
                simp only [Act.put, List.setIfInBounds_toArray, List.set_cons_zero, List.set_cons_succ]
                refine skH 13 (some 64) rfl hHeld ?_
                simp only [Act.put, List.setIfInBounds_toArray, List.set_cons_zero, List.set_cons_succ]
                refine skH 14 (some 65) rfl hHeld ?_
                simp only [Act.put, List.setIfInBounds_toArray, List.set_cons_zero, List.set_cons_succ]
                refine skH 15 (some 66) rfl hHeld ?_
                simp only [Act.put, List.setIfInBounds_toArray, List.set_cons_zero, List.set_cons_succ]
                refine Cu.takeH 16 (some 67) (.bool true) rfl rfl (by kernel_rfl) (by kernel_rfl) (by kernel_rfl) (fun _ _ _ h => h) (by rfl) (fun w hw => by first | rfl | (go_simp; done) | (go_simp; rfl) | (go_simp; omega)) hHeld ?_
                simp only [Act.put, List.setIfInBounds_toArray, List.set_cons_zero, List.set_cons_succ]
                refine Cu.takeH 17 (some 68) (.bool true) rfl rfl (by kernel_rfl) (by kernel_rfl) (by kernel_rfl) (fun _ _ _ h => h) (by rfl) (fun w hw => by first | rfl | (go_simp; done) | (go_simp; rfl) | (go_simp; omega)) hHeld ?_
                simp only [Act.put, List.setIfInBounds_toArray, List.set_cons_zero, List.set_cons_succ]
                refine Cu.takeH 18 (some 6) (.bool true) rfl rfl (by kernel_rfl) (by kernel_rfl) (by kernel_rfl) (fun _ _ _ h => h) (by rfl) (fun w hw => by first | rfl | (go_simp; done) | (go_simp; rfl) | (go_simp; omega)) hHeld ?_
                simp only [Act.put, List.setIfInBounds_toArray, List.set_cons_zero, List.set_cons_succ]
                refine ⟨by kernel_rfl, ?_⟩
                refine NoPanic.normal ?_
                try go_wp2
                go_ret
                exact ⟨by rw [HY2.out]; unfold mayK; simp [k3], gb7.trans (hHeld.mono gb7.size)⟩
              | false =>
                obtain ⟨R, hR⟩ : ∃ R, eqH (sumU u.hash) a.hash = R := ⟨_, rfl⟩
                have hq : ∀ w : World, (Op.equalIn 10000 23 (.agg (tabv (bv (sumU u.hash)) 32)) (.agg (tabv (bv a.hash) 32))).run Tryd.prog w = .ok R w := fun w => by rw [← hR]; exact eqHD 9998 w _ _
                have HY3 : Hid (Y = R) := HY2.out.trans (by unfold mayK; dsimp only; rw [hR]; simp [k3])
                generalize sumU u.hash = SH at hq LS
                clear hR
                refine wp_region_noPanic ?_
                refine wp_region_held_drew (S := fun wx => Below w7.heap.size w7 wx) (by kernel_rfl) ((Below.refl _ _).drew) (fun hHeld => ?_)
                refine Cu.takeH 0 (some 51) (.bool true) rfl rfl (by kernel_rfl) (by kernel_rfl) (by kernel_rfl) (fun _ _ _ h => h) (by rfl) (fun w hw => by first | rfl | (go_simp; done) | (go_simp; rfl) | (go_simp; omega)) hHeld ?_
                simp only [Act.put, List.setIfInBounds_toArray, List.set_cons_zero, List.set_cons_succ]
                refine Cu.takeH 1 (some 52) (.bool true) rfl rfl (by kernel_rfl) (by kernel_rfl) (by kernel_rfl) (fun _ _ _ h => h) (by rfl) (fun w hw => by first | rfl | (go_simp; done) | (go_simp; rfl) | (go_simp; omega)) hHeld ?_
                simp only [Act.put, List.setIfInBounds_toArray, List.set_cons_zero, List.set_cons_succ]
                refine Cu.takeH 2 (some 53) (.bool false) rfl rfl (by kernel_rfl) (by kernel_rfl) (by kernel_rfl) (fun _ _ _ h => h) (by rfl) (fun w hw => by first | rfl | (go_simp; done) | (go_simp; rfl) | (go_simp; omega)) hHeld ?_
                simp only [Act.put, List.setIfInBounds_toArray, List.set_cons_zero, List.set_cons_succ]
                refine Cu.takeH 3 (some 54) (.bool true) rfl rfl (by kernel_rfl) (by kernel_rfl) (by kernel_rfl) (fun _ _ _ h => h) (by rfl) (fun w hw => by first | rfl | (go_simp; done) | (go_simp; rfl) | (go_simp; omega)) hHeld ?_
                simp only [Act.put, List.setIfInBounds_toArray, List.set_cons_zero, List.set_cons_succ]
                refine Cu.takeH 4 (some 55) (.bool true) rfl rfl (by kernel_rfl) (by kernel_rfl) (by kernel_rfl) (fun _ _ _ h => h) (by rfl) (fun w hw => by first | rfl | (go_simp; done) | (go_simp; rfl) | (go_simp; omega)) hHeld ?_
                simp only [Act.put, List.setIfInBounds_toArray, List.set_cons_zero, List.set_cons_succ]
                refine Cu.takeH 5 (some 56) (.bool true) rfl rfl (by kernel_rfl) (by kernel_rfl) (by kernel_rfl) (fun _ _ _ h => h) (by rfl) (fun w hw => by first | rfl | (go_simp; done) | (go_simp; rfl) | (go_simp; omega)) hHeld ?_
                simp only [Act.put, List.setIfInBounds_toArray, List.set_cons_zero, List.set_cons_succ]
                refine Cu.takeH 6 (some 57) (.pointer (some ⟨w.heap.size, 0, none⟩)) rfl rfl (by kernel_rfl) (by kernel_rfl) (by kernel_rfl) (fun _ _ _ h => h) (by rfl) (fun w hw => by first | rfl | (go_simp; done) | (go_simp; rfl) | (go_simp; omega)) hHeld ?_
                simp only [Act.put, List.setIfInBounds_toArray, List.set_cons_zero, List.set_cons_succ]
                refine Cu.takeH 7 (some 58) (.int .i64 u.kind) rfl rfl (by kernel_rfl) (by kernel_rfl) (by kernel_rfl) (fun _ _ _ h => h) (by rfl) (fun w hw => by have c0 : w.cell? ⟨_, 0, none⟩ = some (.int .i64 u.kind) := (G7.out.below hw G7.out.lt).cell 0 (by omega); first | rfl | (go_simp; done) | (go_simp; rfl) | (go_simp; omega)) hHeld ?_
                simp only [Act.put, List.setIfInBounds_toArray, List.set_cons_zero, List.set_cons_succ]
                refine Cu.takeH 8 (some 59) (.bool false) rfl rfl (by kernel_rfl) (by kernel_rfl) (by kernel_rfl) (fun _ _ _ h => h) (by rfl) (fun w hw => by first | rfl | (go_simp; done) | (go_simp; rfl) | (go_simp; omega)) hHeld ?_
                simp only [Act.put, List.setIfInBounds_toArray, List.set_cons_zero, List.set_cons_succ]
                refine Cu.takeH 9 (some 60) (.bool false) rfl rfl (by kernel_rfl) (by kernel_rfl) (by kernel_rfl) (fun _ _ _ h => h) (by rfl) (fun w hw => by first | rfl | (go_simp; done) | (go_simp; rfl) | (go_simp; omega)) hHeld ?_
                simp only [Act.put, List.setIfInBounds_toArray, List.set_cons_zero, List.set_cons_succ]
                refine Cu.takeH 10 (some 61) (.pointer (some ⟨w.heap.size, 3, none⟩)) rfl rfl (by kernel_rfl) (by kernel_rfl) (by kernel_rfl) (fun _ _ _ h => h) (by rfl) (fun w hw => by first | rfl | (go_simp; done) | (go_simp; rfl) | (go_simp; omega)) hHeld ?_
                simp only [Act.put, List.setIfInBounds_toArray, List.set_cons_zero, List.set_cons_succ]
                refine Cu.takeH 11 (some 62) (.agg (tabv (bv u.hash) 32)) rfl rfl (by kernel_rfl) (by kernel_rfl) (by kernel_rfl) (fun _ _ _ h => h) (by rfl) (fun w hw => run_load_at w 23 _ rfl _ 3 (by rfl) (bv u.hash) 32 _ ((G7.out.below hw G7.out.lt).at_hash) Tryd.underlying23 rfl info26) hHeld ?_
                simp only [Act.put, List.setIfInBounds_toArray, List.set_cons_zero, List.set_cons_succ]
                refine Cu.takeH 13 (some 64) (.pointer (some ⟨g7, 3, none⟩)) rfl rfl (by kernel_rfl) (by kernel_rfl) (by kernel_rfl) (fun _ _ _ h => h) (by rfl) (fun w hw => by first | rfl | (go_simp; done) | (go_simp; rfl) | (go_simp; omega)) hHeld ?_
                simp only [Act.put, List.setIfInBounds_toArray, List.set_cons_zero, List.set_cons_succ]
                refine Cu.takeH 14 (some 65) (.agg (tabv (bv a.hash) 32)) rfl rfl (by kernel_rfl) (by kernel_rfl) (by kernel_rfl) (fun _ _ _ h => h) (by rfl) (fun w hw => run_load_at w 23 _ rfl _ 3 (by rfl) (bv a.hash) 32 _ ((A7.out.below hw A7.out.lt).at_hash) Tryd.underlying23 rfl info26) hHeld ?_
                simp only [Act.put, List.setIfInBounds_toArray, List.set_cons_zero, List.set_cons_succ]
                refine wpAnyH_ready (rs := [12]) (by kernel_rfl) (by simp) (AllReadyH.cons rfl (fun K hK => ?_) AllReadyH.nil)
                rw [if_pos (by rfl)]
                go_simp
                refine (LS.out _ (hG7.up hHeld (Nat.le_refl _))).mono ?_
                rintro e w9 ⟨rfl, hb9⟩
                try go_wp2_with fail
                refine hK.out _ _ (hHeld.trans (hb9.mono hHeld.size)) (fun hH => ?_)
                clear hK K hHeld
                have hHeld := hH
                clear hH
                refine Cu.takeH 15 (some 66) (.bool R) rfl rfl (by kernel_rfl) (by kernel_rfl) (by kernel_rfl) (fun _ _ _ h => h) (by rfl) (fun w hw => run_eqH w _ _ _ _ R rfl rfl rfl (hq w)) hHeld ?_
                simp only [Act.put, List.setIfInBounds_toArray, List.set_cons_zero, List.set_cons_succ]
                refine Cu.takeH 16 (some 67) (.bool R) rfl rfl (by kernel_rfl) (by kernel_rfl) (by kernel_rfl) (fun _ _ _ h => h) (by rfl) (fun w hw => by first | rfl | (go_simp; done) | (go_simp; rfl) | (go_simp; omega)) hHeld ?_
                simp only [Act.put, List.setIfInBounds_toArray, List.set_cons_zero, List.set_cons_succ]
                refine Cu.takeH 17 (some 68) (.bool R) rfl rfl (by kernel_rfl) (by kernel_rfl) (by kernel_rfl) (fun _ _ _ h => h) (by rfl) (fun w hw => by first | rfl | (go_simp; done) | (go_simp; rfl) | (go_simp; omega)) hHeld ?_
                simp only [Act.put, List.setIfInBounds_toArray, List.set_cons_zero, List.set_cons_succ]
                refine Cu.takeH 18 (some 6) (.bool R) rfl rfl (by kernel_rfl) (by kernel_rfl) (by kernel_rfl) (fun _ _ _ h => h) (by rfl) (fun w hw => by first | rfl | (go_simp; done) | (go_simp; rfl) | (go_simp; omega)) hHeld ?_
                simp only [Act.put, List.setIfInBounds_toArray, List.set_cons_zero, List.set_cons_succ]
                refine ⟨by kernel_rfl, ?_⟩
                refine NoPanic.normal ?_
                try go_wp2
                go_ret
                exact ⟨by rw [HY3.out]; rfl, gb7.trans (hHeld.mono gb7.size)⟩
end Go.Proofs.YtagopbdoabhjfaaDoor
