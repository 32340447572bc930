/-
  The document's shelf: Put (printed by gen_rput.py).
-/
import Derived.Test.YtocojkafdgmgdaaDoorPRefG
import Derived.Test.YtocojkafdgmgdaaDoorPApp
namespace Go.Proofs.YtocojkafdgmgdaaDoor
open Go.RowKit S
set_option linter.unusedVariables false
set_option linter.unusedSimpArgs false
def outL (l : List Slot) (L : Nat) (s : Slot) (j : Nat) : List Slot := (List.range j).map fun i => if i = L then s else atA l i
theorem outL_next (l : List Slot) (L : Nat) (s : Slot) (j : Nat) : outL l L s j ++ [if j = L then s else atA l j] = outL l L s (j + 1) := by unfold outL; rw [List.range_succ, List.map_append]; rfl
theorem outL_len (l : List Slot) (L : Nat) (s : Slot) (j : Nat) : (outL l L s j).length = j := by simp [outL]
theorem put_ask {l : List Slot} {n : Nat} {x : Int} {h : Nat → UInt8} (hn : l.length = n) (hA0 : ¬ askedA n x = 0) : putA l x h = ([], askedA n x) := by
  unfold putA askedA at *
  rw [hn]
  by_cases h1 : 49 < n
  · rw [if_pos h1, if_pos h1]
  · rw [if_neg h1, if_neg h1]
    rw [if_neg h1] at hA0
    by_cases h2 : isN x = false
    · rw [if_pos h2, if_pos h2]
    · rw [if_neg h2] at hA0
      exact absurd rfl hA0
theorem ask_ok {n : Nat} {x : Int} (hA0 : askedA n x = 0) : ¬ 49 < n ∧ isN x = true := by
  unfold askedA at hA0
  by_cases h1 : 49 < n
  · rw [if_pos h1] at hA0; exact absurd hA0 (by decide)
  · rw [if_neg h1] at hA0
    cases hx : isN x with
    | true => exact ⟨h1, rfl⟩
    | false => rw [hx, if_pos rfl] at hA0; exact absurd hA0 (by decide)
set_option maxRecDepth 100000 in
set_option maxHeartbeats 4000000 in
theorem rput_any (ad : Option Addr) (n cap : Nat) (l : List Slot) (hn : l.length = n) (x : Int) (h : Nat → UInt8) (w : World) (hS : Slots w ad l) : Calls Tryd.prog 17 #[.slice ad n cap, .int .i64 x, .agg (tabv (bv h) 32)] w fun e w' => (∃ v, e = .returned (.tuple #[v, .int .i64 (putA l x h).2]) ∧ OwnS w.heap.size w' v (putA l x h).1) ∧ Below w.heap.size w w' := by
  obtain ⟨w3, hW⟩ : ∃ w3, w.alloc (.cells (tabv (bv h) 32) 23) = w3 := ⟨_, rfl⟩
  have g0 : Has w3 w.heap.size 23 (bv h) 32 := by rw [← hW]; exact Has.new w 23 (bv h) 32 _ rfl
  have gb : Below w.heap.size w w3 := by rw [← hW]; exact (Below.refl w.heap.size w).alloc (Nat.le_refl _) _
  have AS := fun w => rasked_any ad n cap x w
  by_cases hA0 : askedA n x = 0
  case neg =>
    rw [put_ask hn hA0]
    obtain ⟨E, hE⟩ : ∃ E, askedA n x = E := ⟨_, rfl⟩
    rw [hE] at AS hA0 ⊢
    have hne : (E != 0) = true := by simpa using hA0
    have AS := hide AS
    clear hE hA0
    go_enter Tryd.func17, Tryd.ntmps17
    go_wp2_with fail
    refine (AS.out _).mono ?_
    rintro e w1 ⟨rfl, rfl⟩
    go_wp2
    go_ret2
    exact ⟨⟨_, rfl, OwnS.nil _ _⟩, gb⟩
  obtain ⟨hl, hx⟩ := ask_ok hA0
  rw [hA0] at AS
  have AS := hide AS
  clear hA0
  have e2 : levelA x = ((lvl (place x.toNat) 48 : Int), 0) := by unfold levelA; rw [if_pos hx]
  have e : putA l x h = if (List.range (lvl (place x.toNat) 48)).all (okAt l h x) = true then (withA l (lvl (place x.toNat) 48) ⟨x, h, true⟩, 0) else ([], 100) := by
    unfold putA; rw [if_neg (by omega), if_neg (by rw [hx]; decide)]
  have hL := lvl_le 48 (place x.toNat)
  obtain ⟨L, hLL⟩ : ∃ L, lvl (place x.toNat) 48 = L := ⟨_, rfl⟩
  rw [hLL] at e e2 hL
  obtain ⟨A, hA⟩ : ∃ A, putA l x h = A := ⟨_, rfl⟩
  rw [hA] at e ⊢
  have E := hide e
  have SLv := rLevel_any x
  rw [e2] at SLv
  have SLv := hide SLv
  clear hx e e2 hLL hA
  go_enter Tryd.func17, Tryd.ntmps17
  go_wp2_with fail
  refine (AS.out _).mono ?_
  rintro e w1 ⟨rfl, rfl⟩
  go_wp2_with fail
  refine (SLv.out _).mono ?_
  rintro e w1 ⟨rfl, hb1⟩
  have k0 := g0.below hb1 g0.lt
  have kb := gb.trans (hb1.mono gb.size)
  clear g0 gb hb1 hW
  obtain ⟨b0, hb0⟩ : ∃ b, w.heap.size = b := ⟨_, rfl⟩
  rw [hb0] at k0 ⊢
  go_wp2
  go_loopw [11, 12] (fun v11 v12 wr => ∃ j : Nat, j ≤ 49 ∧ v12 = .int .i64 (j : Int) ∧ OwnS (b0 + 1) wr v11 (outL l L ⟨x, h, true⟩ j) ∧ Hid (∀ i, i < j → i < L → okAt l h x i = true) ∧ Has wr b0 23 (bv h) 32 ∧ Below w.heap.size w wr) (fun _ i _ => 49 - (intOf i).toNat)
  case atStart => exact ⟨0, by omega, rfl, OwnS.nil _ _, hide (fun i hi => by omega), k0, kb⟩
  case round =>
    clear k0 kb
    obtain ⟨j, hj, rfl, o11, HJ, q0, kb⟩ := hrel
    by_cases hlt : j < 49
    · have hd : decide ((j : Int) < 49) = true := decide_eq_true (by omega)
      have hk0 : (0 : Int) ≤ (j : Int) := by omega
      have hSr := hS.below kb
      go_wp2_with fail
      refine (rat_any ad n cap l hn j _ hSr).mono ?_
      rintro e w5 ⟨rfl, hb5⟩
      have q0 := q0.below hb5 q0.lt
      have o11 := o11.below hb5 (Nat.le_refl _)
      have kb := kb.trans (hb5.mono kb.size)
      clear hSr hb5
      obtain ⟨s, hs⟩ : ∃ s, atA l j = s := ⟨_, rfl⟩
      have HS := hide hs
      rw [hs]
      clear hs
      obtain ⟨w6, hW6⟩ : ∃ w6, w5.alloc (.cells (tabv Slot.zero.v 34) 37) = w6 := ⟨_, rfl⟩
      obtain ⟨G, hG⟩ : ∃ G, w5.heap.size = G := ⟨_, rfl⟩
      have q1 : Has w6 G 37 Slot.zero.v 34 := by rw [← hW6, ← hG]; exact Has.new w5 37 Slot.zero.v 34 _ rfl
      have hb6 : Below w5.heap.size w5 w6 := by rw [← hW6]; exact (Below.refl _ _).alloc (Nat.le_refl _) _
      rw [← zero34] at hW6
      obtain ⟨w7, hW7⟩ : ∃ w7, w6.setRow G (tabv s.v 34) = w7 := ⟨_, rfl⟩
      have q7 : Has w7 G 37 s.v 34 := by rw [← hW7]; exact q1.row _ _ rfl
      have hb7 : Below w5.heap.size w5 w7 := by rw [← hW7]; exact below_setRow hb6 (by omega) _
      have HW7 := hide hW7
      have Hq1 := hide q1
      clear hW7 q1 hb6
      have hbz : b0 < w5.heap.size := q0.lt
      rcases Nat.lt_trichotomy j L with hjL | hjL | hjL
      · have dl : decide (j < L) = true := decide_eq_true hjL
        have de : ((j : Int) == (L : Int)) = false := by simp; omega
        have tobe : (if j = L then (⟨x, h, true⟩ : Slot) else atA l j) = s := by rw [if_neg (by omega), HS.out]
        have c33 : w7.cell? ⟨G, 33, none⟩ = some (.bool s.full) := q7.cell 33 (by omega)
        cases hf : s.full with
        | false =>
          rw [hf] at c33
          have hok : okAt l h x j = true := by unfold okAt; rw [HS.out, hf]; rfl
          have HOK := hide hok
          clear hf hok
          have q0 := q0.below hb7 q0.lt
          have o11 := o11.below hb7 (Nat.le_refl _)
          have kb := kb.trans (hb7.mono kb.size)
          obtain ⟨v9, w20, w21, hA1, hA2, o9, hkeep, hbl⟩ := appS_step w7 (b0 + 1) u11 (outL l L ⟨x, h, true⟩ j) s o11 (by rw [outL_len]; omega) (by have := q0.lt; omega)
          rw [show outL l L ⟨x, h, true⟩ j ++ [s] = outL l L ⟨x, h, true⟩ (j + 1) from by rw [← outL_next, tobe]] at o9
          have q0n := q0.below hbl (by omega)
          have kbn := kb.trans (hbl.mono (by omega))
          have HA1 := hide hA1
          have HA2 := hide hA2
          have O9 := hide o9
          have Hqy := hide q7
          clear hA1 hA2 hkeep hbl o9
          go_wp2_with (first | (refine wpList_storeS rfl _ _ rfl rfl G s rfl rfl _ Hq1.out ?_; rw [HW7.out]) | refine wpList_load_part rfl 37 _ rfl G 0 rfl 37 _ 34 34 _ Hqy.out (by omega) Tryd.underlying37 rfl infoS (Slot.v s) (fun i hi => by rw [Nat.zero_add]) ?_ | refine wpList_slice1 rfl 25 _ rfl (.agg (tabv (Slot.v s) 34)) rfl HA1.out ?_ | refine wpList_app rfl _ _ _ rfl HA2.out ?_)
          go_roundw
          case rel => exact ⟨j + 1, by omega, by go_num, O9.out, hide (fun i hi hiL => if he : i = j then he ▸ HOK.out else HJ.out i (by omega) hiL), q0n, kbn⟩
          case measure => simp [intOf]; omega
        | true =>
          rw [hf] at c33
          have hok : okAt l h x j = agreeB h x s := by unfold okAt; rw [HS.out, hf]; rfl
          have HOK := hide hok
          have c0 : w7.cell? ⟨G, 0, none⟩ = some (.int .i64 s.idx) := q7.cell 0 (by omega)
          clear hf hok
          have q0 := q0.below hb7 q0.lt
          have o11 := o11.below hb7 (Nat.le_refl _)
          have kb := kb.trans (hb7.mono kb.size)
          have Hq0 := hide q0
          go_wp2_with (first | (refine wpList_storeS rfl _ _ rfl rfl G s rfl rfl _ Hq1.out ?_; rw [HW7.out]) | refine wpList_load_part rfl 23 _ rfl b0 0 rfl 23 _ 32 32 _ Hq0.out (by omega) Tryd.underlying23 rfl info26 (bv h) (fun i hi => by rw [Nat.zero_add]) ?_)
          refine (rDerive_any num h x s.idx _).mono ?_
          unfold agreeB at HOK
          obtain ⟨D, hD⟩ : ∃ D, deriveA h x s.idx = D := ⟨_, rfl⟩
          rw [hD] at HOK ⊢
          clear hD
          rintro e w8 ⟨rfl, hb8⟩
          obtain ⟨D1, D2⟩ := D
          clear c33 c0 Hq0 hW6
          have q0 := q0.below hb8 q0.lt
          have o11 := o11.below hb8 (Nat.le_refl _)
          have kb := kb.trans (hb8.mono kb.size)
          have q8 := q7.below hb8 q7.lt
          clear hb8 q7
          obtain ⟨w9, hW9⟩ : ∃ w9, w8.alloc (.cells (tabv (fun _ => .int .u8 0) 32) 23) = w9 := ⟨_, rfl⟩
          obtain ⟨G2, hG2⟩ : ∃ G2, w8.heap.size = G2 := ⟨_, rfl⟩
          have p9 : Has w9 G2 23 (fun _ => .int .u8 0) 32 := by rw [← hW9, ← hG2]; exact Has.new w8 23 _ 32 _ rfl
          have hb9 : Below w8.heap.size w8 w9 := by rw [← hW9]; exact (Below.refl _ _).alloc (Nat.le_refl _) _
          rw [zero32] at hW9
          obtain ⟨w10, hW10⟩ : ∃ w10, w9.setRow G2 (tabv (bv D1) 32) = w10 := ⟨_, rfl⟩
          have p10 : Has w10 G2 23 (bv D1) 32 := by rw [← hW10]; exact p9.row _ _ rfl
          have hb10 : Below w8.heap.size w8 w10 := by rw [← hW10]; exact below_setRow hb9 (by omega) _
          have q0 := q0.below hb10 q0.lt
          have o11 := o11.below hb10 (Nat.le_refl _)
          have kb := kb.trans (hb10.mono kb.size)
          have q10 := q8.below hb10 q8.lt
          have HW10 := hide hW10
          have Hp9 := hide p9
          have Hp10 := hide p10
          have Hq10 := hide q10
          clear hW10 p9 hb9 hb10 p10 q8
          have hq : ∀ w : World, (Op.equalIn 10000 23 (.agg (tabv (bv D1) 32)) (.agg (tabv (bv s.sec) 32))).run Tryd.prog w = .ok (eqH D1 s.sec) w := fun w => eqHD 9998 w D1 s.sec
          have hgt := guard26
          have HOK2 := HOK.out
          simp only at HOK2
          clear HOK
          by_cases hD2 : D2 = 0
          · subst hD2
            cases hc : eqH D1 s.sec with
            | true =>
              rw [hc] at hq HOK2
              have HOK3 : Hid (okAt l h x j = true) := hide HOK2
              clear HOK2 hc
              obtain ⟨v9, w20, w21, hA1, hA2, o9, hkeep, hbl⟩ := appS_step w10 (b0 + 1) u11 (outL l L ⟨x, h, true⟩ j) s o11 (by rw [outL_len]; omega) (by have := q0.lt; omega)
              rw [show outL l L ⟨x, h, true⟩ j ++ [s] = outL l L ⟨x, h, true⟩ (j + 1) from by rw [← outL_next, tobe]] at o9
              have q0n := q0.below hbl (by omega)
              have kbn := kb.trans (hbl.mono (by omega))
              have HA1 := hide hA1
              have HA2 := hide hA2
              have O9 := hide o9
              have Hqy := hide Hq10.out
              clear hA1 hA2 hkeep hbl o9
              go_wp2_with (first | (refine wpList_storeH rfl _ _ rfl rfl G2 D1 rfl rfl _ Hp9.out ?_; rw [HW10.out]) | refine wpList_load_want (by rfl) 23 _ rfl G2 0 rfl 23 _ 32 32 _ Hp10.out (by omega) Tryd.underlying23 rfl info26 (bv D1) (fun i hi => by rw [Nat.zero_add]) ?_ | refine wpList_load_want (by rfl) 23 _ rfl G 1 rfl 37 _ 34 32 _ Hq10.out (by omega) Tryd.underlying23 rfl info26 (bv s.sec) (fun i hi => s.v_sec i hi) ?_ | refine wpList_load_part rfl 37 _ rfl G 0 rfl 37 _ 34 34 _ Hqy.out (by omega) Tryd.underlying37 rfl infoS (Slot.v s) (fun i hi => by rw [Nat.zero_add]) ?_ | refine wpList_slice1 rfl 25 _ rfl (.agg (tabv (Slot.v s) 34)) rfl HA1.out ?_ | refine wpList_app rfl _ _ _ rfl HA2.out ?_)
              go_roundw
              case rel => exact ⟨j + 1, by omega, by go_num, O9.out, hide (fun i hi hiL => if he : i = j then he ▸ HOK3.out else HJ.out i (by omega) hiL), q0n, kbn⟩
              case measure => simp [intOf]; omega
            | false =>
              rw [hc] at hq HOK2
              clear hc
              go_wp2_with (first | (refine wpList_storeH rfl _ _ rfl rfl G2 D1 rfl rfl _ Hp9.out ?_; rw [HW10.out]) | refine wpList_load_want (by rfl) 23 _ rfl G2 0 rfl 23 _ 32 32 _ Hp10.out (by omega) Tryd.underlying23 rfl info26 (bv D1) (fun i hi => by rw [Nat.zero_add]) ?_ | refine wpList_load_want (by rfl) 23 _ rfl G 1 rfl 37 _ 34 32 _ Hq10.out (by omega) Tryd.underlying23 rfl info26 (bv s.sec) (fun i hi => s.v_sec i hi) ?_)
              go_ret2
              have hA : A = ([], 100) := by
                rw [E.out, if_neg]
                intro hall
                rw [List.all_eq_true] at hall
                rw [hall j (List.mem_range.2 hjL)] at HOK2
                exact absurd HOK2 (by simp)
              rw [hA]
              exact ⟨⟨_, rfl, OwnS.nil _ _⟩, kb⟩
          · have hne : (D2 != 0) = true := by simpa using hD2
            rw [decide_eq_false hD2] at HOK2
            go_wp2_with (first | (refine wpList_storeH rfl _ _ rfl rfl G2 D1 rfl rfl _ Hp9.out ?_; rw [HW10.out]))
            go_ret2
            have hA : A = ([], 100) := by
              rw [E.out, if_neg]
              intro hall
              rw [List.all_eq_true] at hall
              rw [hall j (List.mem_range.2 hjL)] at HOK2
              exact absurd HOK2 (by simp)
            rw [hA]
            exact ⟨⟨_, rfl, OwnS.nil _ _⟩, kb⟩
      · subst hjL
        have dl : decide (j < j) = false := decide_eq_false (by omega)
        have dl2 : decide ((j : Int) < (j : Int)) = false := decide_eq_false (by omega)
        have de : ((j : Int) == (j : Int)) = true := by simp
        obtain ⟨w8, hW8⟩ : ∃ w8, w7.setRow G (tabv (Slot.v ⟨x, h, true⟩) 34) = w8 := ⟨_, rfl⟩
        have q8 : Has w8 G 37 (Slot.v ⟨x, h, true⟩) 34 := by rw [← hW8]; exact q7.row _ _ rfl
        have hb8 : Below w5.heap.size w5 w8 := by rw [← hW8]; exact below_setRow hb7 (by omega) _
        have q07 := q0.below hb7 q0.lt
        have Hq07 := hide q07
        have Hq7 := hide q7
        have HW8 := hide hW8
        clear hW8 q07 q7
        have q0 := q0.below hb8 q0.lt
        have o11 := o11.below hb8 (Nat.le_refl _)
        have kb := kb.trans (hb8.mono kb.size)
        obtain ⟨v9, w20, w21, hA1, hA2, o9, hkeep, hbl⟩ := appS_step w8 (b0 + 1) u11 (outL l j ⟨x, h, true⟩ j) ⟨x, h, true⟩ o11 (by rw [outL_len]; omega) (by have := q0.lt; omega)
        rw [show outL l j ⟨x, h, true⟩ j ++ [⟨x, h, true⟩] = outL l j ⟨x, h, true⟩ (j + 1) from by rw [← outL_next, if_pos rfl]] at o9
        have q0n := q0.below hbl (by omega)
        have kbn := kb.trans (hbl.mono (by omega))
        have HA1 := hide hA1
        have HA2 := hide hA2
        have O9 := hide o9
        have Hqy := hide q8
        clear hA1 hA2 hkeep hbl o9
        go_wp2_with (first | (refine wpList_storeS rfl _ _ rfl rfl G s rfl rfl _ Hq1.out ?_; rw [HW7.out]) | refine wpList_load_part rfl 23 _ rfl b0 0 rfl 23 _ 32 32 _ Hq07.out (by omega) Tryd.underlying23 rfl info26 (bv h) (fun i hi => by rw [Nat.zero_add]) ?_ | refine wpList_buildS rfl _ _ true rfl x h rfl rfl ?_ | (refine wpList_storeS rfl _ _ rfl rfl G ⟨x, h, true⟩ rfl rfl _ Hq7.out ?_; rw [HW8.out]) | refine wpList_load_part rfl 37 _ rfl G 0 rfl 37 _ 34 34 _ Hqy.out (by omega) Tryd.underlying37 rfl infoS (Slot.v ⟨x, h, true⟩) (fun i hi => by rw [Nat.zero_add]) ?_ | refine wpList_slice1 rfl 25 _ rfl (.agg (tabv (Slot.v ⟨x, h, true⟩) 34)) rfl HA1.out ?_ | refine wpList_app rfl _ _ _ rfl HA2.out ?_)
        go_roundw
        case rel => exact ⟨j + 1, by omega, by go_num, O9.out, hide (fun i hi hiL => HJ.out i (by omega) hiL), q0n, kbn⟩
        case measure => simp [intOf]; omega
      · have dl : decide (j < L) = false := decide_eq_false (by omega)
        have de : ((j : Int) == (L : Int)) = false := by simp; omega
        have tobe : (if j = L then (⟨x, h, true⟩ : Slot) else atA l j) = s := by rw [if_neg (by omega), HS.out]
        have q0 := q0.below hb7 q0.lt
        have o11 := o11.below hb7 (Nat.le_refl _)
        have kb := kb.trans (hb7.mono kb.size)
        obtain ⟨v9, w20, w21, hA1, hA2, o9, hkeep, hbl⟩ := appS_step w7 (b0 + 1) u11 (outL l L ⟨x, h, true⟩ j) s o11 (by rw [outL_len]; omega) (by have := q0.lt; omega)
        rw [show outL l L ⟨x, h, true⟩ j ++ [s] = outL l L ⟨x, h, true⟩ (j + 1) from by rw [← outL_next, tobe]] at o9
        have q0n := q0.below hbl (by omega)
        have kbn := kb.trans (hbl.mono (by omega))
        have HA1 := hide hA1
        have HA2 := hide hA2
        have O9 := hide o9
        have Hqy := hide q7
        clear hA1 hA2 hkeep hbl o9
        go_wp2_with (first | (refine wpList_storeS rfl _ _ rfl rfl G s rfl rfl _ Hq1.out ?_; rw [HW7.out]) | refine wpList_load_part rfl 37 _ rfl G 0 rfl 37 _ 34 34 _ Hqy.out (by omega) Tryd.underlying37 rfl infoS (Slot.v s) (fun i hi => by rw [Nat.zero_add]) ?_ | refine wpList_slice1 rfl 25 _ rfl (.agg (tabv (Slot.v s) 34)) rfl HA1.out ?_ | refine wpList_app rfl _ _ _ rfl HA2.out ?_)
        go_roundw
        case rel => exact ⟨j + 1, by omega, by go_num, O9.out, hide (fun i hi hiL => HJ.out i (by omega) hiL), q0n, kbn⟩
        case measure => simp [intOf]; omega
    · have hj9 : j = 49 := by omega
      subst hj9
      have hd : decide (((49 : Nat) : Int) < 49) = false := by decide
      have hA : A = (withA l L ⟨x, h, true⟩, 0) := by rw [E.out, if_pos (by rw [List.all_eq_true]; exact fun i hi => HJ.out i (by have := List.mem_range.1 hi; omega) (List.mem_range.1 hi))]
      subst hA
      have O := hide (o11.mono (show w.heap.size ≤ b0 + 1 by omega))
      go_wp2
      go_ret2
      rw [hb0] at O
      exact ⟨⟨_, rfl, O.out⟩, hb0 ▸ kb⟩
end Go.Proofs.YtocojkafdgmgdaaDoor
