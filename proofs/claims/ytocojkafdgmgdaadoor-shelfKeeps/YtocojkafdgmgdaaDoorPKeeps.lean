/-
  The walk of ShelfKeeps (printed by gen_keeps.py).
-/
import Derived.Test.YtocojkafdgmgdaaDoorPKeepsM
import Derived.Test.YtocojkafdgmgdaaDoorPApp
namespace Go.Proofs.YtocojkafdgmgdaaDoor
open Go.RowKit S
set_option linter.unusedVariables false
set_option linter.unusedSimpArgs false
theorem own_next {P : List (Nat → UInt8)} {s root SEC : Nat → UInt8} {N : Nat} (hN : P.length = N) (h : ∀ n, n < P.length → eqH (P.getD n hz) (secretOf step root n) = true) (hS : secretOf step root N = SEC) (hs : eqH s SEC = true) : ∀ n, n < (P ++ [s]).length → eqH ((P ++ [s]).getD n hz) (secretOf step root n) = true := fun n hn => by
  rw [List.length_append] at hn
  have hn : n < P.length + 1 := hn
  by_cases e : n = P.length
  · subst e; rw [getD_new, hN, hS]; exact hs
  · rw [getD_old (by omega)]; exact h n (by omega)
set_option maxRecDepth 100000 in
set_option maxHeartbeats 16000000 in
theorem keeps_walk (root : Nat → UInt8) (k sp : Int) (other : Nat → UInt8) (w : World) (hG : Glob num w) : Calls Tryd.prog 3 #[.agg (tabv (bv root) 32), .int .i64 k, .int .i64 sp, .agg (tabv (bv other) 32)] w fun e w' => e = .returned (.bool true) ∧ Below w.heap.size w w' := by
  obtain ⟨w0, hW0⟩ : ∃ y, (w.alloc (.cells (tabv (bv root) 32) 23)).alloc (.cells (tabv (bv other) 32) 23) = y := ⟨_, rfl⟩
  have q0 : Has w0 w.heap.size 23 (bv root) 32 := by rw [← hW0]; exact (Has.new w 23 (bv root) 32 _ rfl).old _
  have q1 : Has w0 (w.heap.size + 1) 23 (bv other) 32 := by
    rw [← hW0]
    have := Has.new (w.alloc (.cells (tabv (bv root) 32) 23)) 23 (bv other) 32 _ rfl
    rw [size_alloc] at this
    exact this
  have kb : Below w.heap.size w w0 := by rw [← hW0]; exact ((Below.refl w.heap.size w).alloc (Nat.le_refl _) _).alloc (by simp) _
  have hz0 : w0.heap.size = w.heap.size + 2 := by rw [← hW0]; simp
  have hGl : Glob num w0 := hG.below kb hG.2.2
  obtain ⟨b0, hb0⟩ : ∃ y, w.heap.size = y := ⟨_, rfl⟩
  obtain ⟨b1, hb1⟩ : ∃ y, w.heap.size + 1 = y := ⟨_, rfl⟩
  rw [hb0] at q0
  rw [hb1] at q1
  have HB : b0 + 2 ≤ w0.heap.size ∧ b1 = b0 + 1 := by omega
  obtain ⟨K, hK1, hK2⟩ := and_mask k 128 (by omega) (by omega)
  have hK1 : bits .and .i64 k 127 = (K : Int) := hK1
  have hK3 : K ≤ 127 := by omega
  have HK3 := hide hK3
  clear hK2 hK3
  go_enter Tryd.func3, Tryd.ntmps3
  go_wp2_with fail
  refine (pfirst_any _ hGl).mono ?_
  rintro e w1 ⟨rfl, hb2⟩
  have q0 := q0.below hb2 q0.lt
  have q1 := q1.below hb2 q1.lt
  have hGl := hGl.up hb2
  have kb := kb.trans (hb2.mono kb.size)
  clear hb2
  clear hW0
  try rw [hb0]
  try rw [hb1]
  have hb01 := HB.2
  clear HB hz0
  subst hb01
  go_wp2
  go_loopw [9, 10, 11, 12] (fun v9 v10 v11 v12 wr => ∃ (l : List Slot) (P : List (Nat → UInt8)) (o : Bool), P.length ≤ K ∧ v12 = .int .i64 (P.length : Int) ∧ v11 = .bool o ∧ OwnS 0 wr v9 l ∧ OwnH (b0 + 2) wr v10 P ∧ ShelfIs l P ∧ Hid (o = true → ∀ n, n < P.length → eqH (P.getD n hz) (secretOf step root n) = true) ∧ Has wr b0 23 (bv root) 32 ∧ Has wr (b0 + 1) 23 (bv other) 32 ∧ Glob num wr ∧ Below w.heap.size w wr) (fun _ _ _ i _ => K - (intOf i).toNat)
  case atStart => exact ⟨[], [], true, Nat.zero_le _, rfl, rfl, OwnS.nil _ _, OwnH.nil _ _, ShelfIs.nil, hide (fun _ n hn => by simp at hn), q0, q1, hGl, kb⟩
  case round =>
    clear q0 q1 hGl kb
    obtain ⟨l, P, o, hPK, rfl, rfl, o9, o10, hSI, HO, q0, q1, hGl, kb⟩ := hrel
    have HSI := hide hSI
    clear hSI
    have hP128 : P.length < 128 := by have := HK3.out; omega
    by_cases hlt : P.length < K
    · have hd : decide ((P.length : Int) < (K : Int)) = true := decide_eq_true (by omega)
      have hd2 : decide (P.length < K) = true := decide_eq_true hlt
      have hk0 : (0 : Int) ≤ (P.length : Int) := by omega
      obtain ⟨N, hN⟩ : ∃ N, P.length = N := ⟨_, rfl⟩
      have SS := sSecret_any num root (N : Int)
      rw [secret_nat (by omega)] at SS
      obtain ⟨SEC, hSEC⟩ : ∃ S, secretOf step root N = S := ⟨_, rfl⟩
      rw [hSEC] at SS
      have HSEC := hide hSEC
      have SS := hide SS
      clear hSEC
      rw [hN] at hd hd2 hk0 hlt hP128 hPK ⊢
      have HN := hide hN
      clear hN
      have Hq0 := hide q0
      go_wp2_with (first | refine wpList_load_part rfl 23 _ rfl b0 0 rfl 23 _ 32 32 _ Hq0.out (by omega) Tryd.underlying23 rfl info26 (bv root) (fun i hi => by rw [Nat.zero_add]) ?_)
      clear Hq0
      refine (SS.out _ hGl).mono ?_
      rintro e w101 ⟨rfl, hb102⟩
      have q0 := q0.below hb102 q0.lt
      have q1 := q1.below hb102 q1.lt
      have o9 := o9.below hb102 (Nat.le_refl _)
      have o10 := o10.below hb102 (Nat.le_refl _)
      have hGl := hGl.up hb102
      have kb := kb.trans (hb102.mono kb.size)
      clear hb102
      by_cases hsp : (N : Int) = sp
      · subst hsp
        have dsp : ((N : Int) == (N : Int)) = true := by simp
        have HQ : ∀ w : World, (Op.equalIn 10000 23 (.agg (tabv (bv SEC) 32)) (.agg (tabv (bv other) 32))).run Tryd.prog w = .ok (eqH SEC other) w := fun w => eqHD 9998 w SEC other
        have hgt := guard26
        cases o with
        | true =>
          cases hc : eqH SEC other with
          | true =>
            obtain ⟨B13, hB13⟩ : ∃ g, w101.heap.size = g := ⟨_, rfl⟩
            obtain ⟨w11, hz11⟩ : ∃ y, w101.alloc (.cells (tabv (fun _ => .int .u8 0) 32) 23) = y := ⟨_, rfl⟩
            have q11 : Has w11 B13 23 (fun _ => .int .u8 0) 32 := by rw [← hz11, ← hB13]; exact Has.new _ 23 (fun _ => .int .u8 0) 32 _ rfl
            have hb11 : Below w101.heap.size w101 w11 := by rw [← hz11]; exact (Below.refl _ _).alloc (Nat.le_refl _) _
            rw [zero32] at hz11
            obtain ⟨w12, hz12⟩ : ∃ y, w11.setRow B13 (tabv (bv SEC) 32) = y := ⟨_, rfl⟩
            have q12 : Has w12 B13 23 (bv SEC) 32 := by rw [← hz12]; exact q11.row _ _ rfl
            have hb12 : Below w101.heap.size w101 w12 := by rw [← hz12]; exact below_setRow hb11 (by omega) _
            obtain ⟨w13, hz13⟩ : ∃ y, w12.setRow B13 (tabv (bv other) 32) = y := ⟨_, rfl⟩
            have q13 : Has w13 B13 23 (bv other) 32 := by rw [← hz13]; exact q12.row _ _ rfl
            have hb13 : Below w101.heap.size w101 w13 := by rw [← hz13]; exact below_setRow hb12 (by omega) _
            have q1a := q1.below hb12 q1.lt
            have Hq1a := hide q1a
            have Hz13 := hide hz13
            clear hz13 q1a
            have Hq11 := hide q11
            have Hq12 := hide q12
            have Hz12 := hide hz12
            clear hz12 q11
            have q0 := q0.below hb13 q0.lt
            have q1 := q1.below hb13 q1.lt
            have o9 := o9.below hb13 (Nat.le_refl _)
            have o10 := o10.below hb13 (Nat.le_refl _)
            have hGl := hGl.up hb13
            have kb := kb.trans (hb13.mono kb.size)
            have qs := q13
            have Hqf := hide qs
            clear hb11 hb12 hb13 q13 q12
            have OWN := hide (eqH_symm hc)
            rw [hc] at HQ
            clear hc
            obtain ⟨ad9, cap9, e9, s9, -, -⟩ := o9.slots
            have hlN : lv N ≤ 48 := lv_le N
            have hpo : putA l (N : Int) other = if (List.range (lv N)).all (okAt l other (N : Int)) = true then (withA l (lv N) ⟨(N : Int), other, true⟩, 0) else ([], 100) := put_of (l := l) (n := N) (h := other) HSI.out.len (by omega)
            subst e9
            by_cases hall : ∀ j, j < lv N → okAt l other (N : Int) j = true
            · have PA := fun w => put_any ad9 l.length cap9 l rfl (N : Int) other w
              have hP2 : putA l (N : Int) other = (withA l (lv N) ⟨(N : Int), other, true⟩, 0) := by
                rw [hpo, if_pos (by rw [List.all_eq_true]; exact fun j hj => hall j (List.mem_range.1 hj))]
              rw [hP2] at PA
              have hSI2 : ShelfIs (withA l (lv N) ⟨(N : Int), other, true⟩) (P ++ [other]) := by
                have := HSI.out.put (by rw [HN.out]; exact hP128) (s := other) (by rw [HN.out]; exact hall)
                rw [HN.out] at this
                exact this
              have hlen := withA_length l (lv N) ⟨(N : Int), other, true⟩
              obtain ⟨l2, hl2⟩ : ∃ l2, withA l (lv N) ⟨(N : Int), other, true⟩ = l2 := ⟨_, rfl⟩
              rw [hl2] at PA hSI2 hlen
              have HL := hide hlen
              have HS2 := hide hSI2
              have PA := hide PA
              clear hP2 hpo hall hSI2 hlen hl2
              go_wp2_with (first | (refine wpList_storeH rfl _ _ rfl rfl B13 SEC rfl rfl _ Hq11.out ?_; rw [Hz12.out]) | refine wpList_load_want (by rfl) 23 _ rfl B13 0 rfl 23 _ 32 32 _ Hq12.out (by omega) Tryd.underlying23 rfl info26 (bv SEC) (fun i hi => by rw [Nat.zero_add]) ?_ | refine wpList_load_want (by rfl) 23 _ rfl (b0 + 1) 0 rfl 23 _ 32 32 _ Hq1a.out (by omega) Tryd.underlying23 rfl info26 (bv other) (fun i hi => by rw [Nat.zero_add]) ?_ | refine wpList_load_part rfl 23 _ rfl (b0 + 1) 0 rfl 23 _ 32 32 _ Hq1a.out (by omega) Tryd.underlying23 rfl info26 (bv other) (fun i hi => by rw [Nat.zero_add]) ?_ | (refine wpList_storeH rfl _ _ rfl rfl B13 other rfl rfl _ Hq12.out ?_; rw [Hz13.out]) | refine wpList_load_part rfl 23 _ rfl B13 0 rfl 23 _ 32 32 _ Hqf.out (by omega) Tryd.underlying23 rfl info26 (bv other) (fun i hi => by rw [Nat.zero_add]) ?_)
              clear hz11
              have h10 : ∀ g, u10.ownBlock = some g → g < w13.heap.size := fun g hg => (o10.lt g hg).2
              refine (PA.out _ hGl s9).mono ?_
              rintro e w921 ⟨⟨v2, rfl, o2⟩, hb922⟩
              have q0 := q0.below hb922 q0.lt
              have q1 := q1.below hb922 q1.lt
              have o9 := o9.below hb922 (Nat.le_refl _)
              have o10 := o10.below hb922 (Nat.le_refl _)
              have qs := qs.below hb922 qs.lt
              have s9 := s9.below hb922
              have hGl := hGl.up hb922
              have kb := kb.trans (hb922.mono kb.size)
              clear hb922
              clear s9 o9
              obtain ⟨ad2, cap2, rfl, -, -⟩ := o2.slotsN HL.out
              have hfresh : ∀ g, (Value.slice ad2 49 cap2).ownBlock = some g → w13.heap.size ≤ g := fun g hg => (o2.lt g hg).1
              have hbig : b0 + 2 ≤ w921.heap.size := by have := q1.lt; omega
              obtain ⟨v10n, w20, w21, hA1, hA2, o10n, hkeep, hbl⟩ := appH_step w921 (b0 + 2) u10 P other o10 (by rw [HN.out]; omega) hbig
              have o2n : OwnS 0 w21 (.slice ad2 49 cap2) l2 := (o2.mono (Nat.zero_le _)).same fun g hg => hkeep g (o2.lt g hg).2 (fun e => by have := hfresh g hg; have := h10 g e; omega)
              have q0n := q0.below hbl (by omega)
              have q1n := q1.below hbl (by omega)
              have kbn := kb.trans (hbl.mono (by omega))
              have hGn : Glob num w21 := hG.up kbn
              have HA1 := hide hA1
              have HA2 := hide hA2
              have O2 := hide o2n
              have O10 := hide o10n
              clear hA1 hA2 hfresh h10 hkeep hbl o2n o10n o2
              have Hqs := hide qs
              go_wp2_with (first | refine wpList_load_part rfl 23 _ rfl B13 0 rfl 23 _ 32 32 _ Hqs.out (by omega) Tryd.underlying23 rfl info26 (bv other) (fun i hi => by rw [Nat.zero_add]) ?_ | refine wpList_slice1 rfl 26 _ rfl (.agg (tabv (bv other) 32)) rfl HA1.out ?_ | refine wpList_app rfl _ _ _ rfl HA2.out ?_)
              go_roundw
              case rel => exact ⟨l2, P ++ [other], true, by rw [List.length_append, HN.out]; exact hlt, by rw [List.length_append, HN.out]; go_num, rfl, O2.out, O10.out, HS2.out, hide (fun h => own_next HN.out (HO.out (by first | rfl | trivial)) HSEC.out OWN.out), q0n, q1n, hGn, kbn⟩
              case measure => simp [intOf]; omega
            · have hx := HSI.out.own (by rw [HN.out]; exact hP128) (root := root) (s := other) (HO.out (by first | rfl | trivial)) (by rw [HN.out, HSEC.out]; exact OWN.out)
              rw [HN.out] at hx
              exact absurd hx hall
          | false =>
            obtain ⟨B13, hB13⟩ : ∃ g, w101.heap.size = g := ⟨_, rfl⟩
            obtain ⟨w11, hz11⟩ : ∃ y, w101.alloc (.cells (tabv (fun _ => .int .u8 0) 32) 23) = y := ⟨_, rfl⟩
            have q11 : Has w11 B13 23 (fun _ => .int .u8 0) 32 := by rw [← hz11, ← hB13]; exact Has.new _ 23 (fun _ => .int .u8 0) 32 _ rfl
            have hb11 : Below w101.heap.size w101 w11 := by rw [← hz11]; exact (Below.refl _ _).alloc (Nat.le_refl _) _
            rw [zero32] at hz11
            obtain ⟨w12, hz12⟩ : ∃ y, w11.setRow B13 (tabv (bv SEC) 32) = y := ⟨_, rfl⟩
            have q12 : Has w12 B13 23 (bv SEC) 32 := by rw [← hz12]; exact q11.row _ _ rfl
            have hb12 : Below w101.heap.size w101 w12 := by rw [← hz12]; exact below_setRow hb11 (by omega) _
            obtain ⟨w13, hz13⟩ : ∃ y, w12.setRow B13 (tabv (bv other) 32) = y := ⟨_, rfl⟩
            have q13 : Has w13 B13 23 (bv other) 32 := by rw [← hz13]; exact q12.row _ _ rfl
            have hb13 : Below w101.heap.size w101 w13 := by rw [← hz13]; exact below_setRow hb12 (by omega) _
            have q1a := q1.below hb12 q1.lt
            have Hq1a := hide q1a
            have Hz13 := hide hz13
            clear hz13 q1a
            have Hq11 := hide q11
            have Hq12 := hide q12
            have Hz12 := hide hz12
            clear hz12 q11
            have q0 := q0.below hb13 q0.lt
            have q1 := q1.below hb13 q1.lt
            have o9 := o9.below hb13 (Nat.le_refl _)
            have o10 := o10.below hb13 (Nat.le_refl _)
            have hGl := hGl.up hb13
            have kb := kb.trans (hb13.mono kb.size)
            have qs := q13
            have Hqf := hide qs
            clear hb11 hb12 hb13 q13 q12
            rw [hc] at HQ
            clear hc
            obtain ⟨ad9, cap9, e9, s9, -, -⟩ := o9.slots
            have hlN : lv N ≤ 48 := lv_le N
            have hpo : putA l (N : Int) other = if (List.range (lv N)).all (okAt l other (N : Int)) = true then (withA l (lv N) ⟨(N : Int), other, true⟩, 0) else ([], 100) := put_of (l := l) (n := N) (h := other) HSI.out.len (by omega)
            subst e9
            by_cases hall : ∀ j, j < lv N → okAt l other (N : Int) j = true
            · have PA := fun w => put_any ad9 l.length cap9 l rfl (N : Int) other w
              have hP2 : putA l (N : Int) other = (withA l (lv N) ⟨(N : Int), other, true⟩, 0) := by
                rw [hpo, if_pos (by rw [List.all_eq_true]; exact fun j hj => hall j (List.mem_range.1 hj))]
              rw [hP2] at PA
              have hSI2 : ShelfIs (withA l (lv N) ⟨(N : Int), other, true⟩) (P ++ [other]) := by
                have := HSI.out.put (by rw [HN.out]; exact hP128) (s := other) (by rw [HN.out]; exact hall)
                rw [HN.out] at this
                exact this
              have hlen := withA_length l (lv N) ⟨(N : Int), other, true⟩
              obtain ⟨l2, hl2⟩ : ∃ l2, withA l (lv N) ⟨(N : Int), other, true⟩ = l2 := ⟨_, rfl⟩
              rw [hl2] at PA hSI2 hlen
              have HL := hide hlen
              have HS2 := hide hSI2
              have PA := hide PA
              clear hP2 hpo hall hSI2 hlen hl2
              go_wp2_with (first | (refine wpList_storeH rfl _ _ rfl rfl B13 SEC rfl rfl _ Hq11.out ?_; rw [Hz12.out]) | refine wpList_load_want (by rfl) 23 _ rfl B13 0 rfl 23 _ 32 32 _ Hq12.out (by omega) Tryd.underlying23 rfl info26 (bv SEC) (fun i hi => by rw [Nat.zero_add]) ?_ | refine wpList_load_want (by rfl) 23 _ rfl (b0 + 1) 0 rfl 23 _ 32 32 _ Hq1a.out (by omega) Tryd.underlying23 rfl info26 (bv other) (fun i hi => by rw [Nat.zero_add]) ?_ | refine wpList_load_part rfl 23 _ rfl (b0 + 1) 0 rfl 23 _ 32 32 _ Hq1a.out (by omega) Tryd.underlying23 rfl info26 (bv other) (fun i hi => by rw [Nat.zero_add]) ?_ | (refine wpList_storeH rfl _ _ rfl rfl B13 other rfl rfl _ Hq12.out ?_; rw [Hz13.out]) | refine wpList_load_part rfl 23 _ rfl B13 0 rfl 23 _ 32 32 _ Hqf.out (by omega) Tryd.underlying23 rfl info26 (bv other) (fun i hi => by rw [Nat.zero_add]) ?_)
              clear hz11
              have h10 : ∀ g, u10.ownBlock = some g → g < w13.heap.size := fun g hg => (o10.lt g hg).2
              refine (PA.out _ hGl s9).mono ?_
              rintro e w931 ⟨⟨v2, rfl, o2⟩, hb932⟩
              have q0 := q0.below hb932 q0.lt
              have q1 := q1.below hb932 q1.lt
              have o9 := o9.below hb932 (Nat.le_refl _)
              have o10 := o10.below hb932 (Nat.le_refl _)
              have qs := qs.below hb932 qs.lt
              have s9 := s9.below hb932
              have hGl := hGl.up hb932
              have kb := kb.trans (hb932.mono kb.size)
              clear hb932
              clear s9 o9
              obtain ⟨ad2, cap2, rfl, -, -⟩ := o2.slotsN HL.out
              have hfresh : ∀ g, (Value.slice ad2 49 cap2).ownBlock = some g → w13.heap.size ≤ g := fun g hg => (o2.lt g hg).1
              have hbig : b0 + 2 ≤ w931.heap.size := by have := q1.lt; omega
              obtain ⟨v10n, w20, w21, hA1, hA2, o10n, hkeep, hbl⟩ := appH_step w931 (b0 + 2) u10 P other o10 (by rw [HN.out]; omega) hbig
              have o2n : OwnS 0 w21 (.slice ad2 49 cap2) l2 := (o2.mono (Nat.zero_le _)).same fun g hg => hkeep g (o2.lt g hg).2 (fun e => by have := hfresh g hg; have := h10 g e; omega)
              have q0n := q0.below hbl (by omega)
              have q1n := q1.below hbl (by omega)
              have kbn := kb.trans (hbl.mono (by omega))
              have hGn : Glob num w21 := hG.up kbn
              have HA1 := hide hA1
              have HA2 := hide hA2
              have O2 := hide o2n
              have O10 := hide o10n
              clear hA1 hA2 hfresh h10 hkeep hbl o2n o10n o2
              have Hqs := hide qs
              go_wp2_with (first | refine wpList_load_part rfl 23 _ rfl B13 0 rfl 23 _ 32 32 _ Hqs.out (by omega) Tryd.underlying23 rfl info26 (bv other) (fun i hi => by rw [Nat.zero_add]) ?_ | refine wpList_slice1 rfl 26 _ rfl (.agg (tabv (bv other) 32)) rfl HA1.out ?_ | refine wpList_app rfl _ _ _ rfl HA2.out ?_)
              go_roundw
              case rel => exact ⟨l2, P ++ [other], false, by rw [List.length_append, HN.out]; exact hlt, by rw [List.length_append, HN.out]; go_num, rfl, O2.out, O10.out, HS2.out, hide (fun h => by cases h), q0n, q1n, hGn, kbn⟩
              case measure => simp [intOf]; omega
            · have PA := fun w => put_any ad9 l.length cap9 l rfl (N : Int) other w
              have hP2 : putA l (N : Int) other = ([], 100) := by
                rw [hpo, if_neg (fun h => hall fun j hj => List.all_eq_true.1 h j (List.mem_range.2 hj))]
              rw [hP2] at PA
              have PA := hide PA
              clear hP2 hpo hall
              go_wp2_with (first | (refine wpList_storeH rfl _ _ rfl rfl B13 SEC rfl rfl _ Hq11.out ?_; rw [Hz12.out]) | refine wpList_load_want (by rfl) 23 _ rfl B13 0 rfl 23 _ 32 32 _ Hq12.out (by omega) Tryd.underlying23 rfl info26 (bv SEC) (fun i hi => by rw [Nat.zero_add]) ?_ | refine wpList_load_want (by rfl) 23 _ rfl (b0 + 1) 0 rfl 23 _ 32 32 _ Hq1a.out (by omega) Tryd.underlying23 rfl info26 (bv other) (fun i hi => by rw [Nat.zero_add]) ?_ | refine wpList_load_part rfl 23 _ rfl (b0 + 1) 0 rfl 23 _ 32 32 _ Hq1a.out (by omega) Tryd.underlying23 rfl info26 (bv other) (fun i hi => by rw [Nat.zero_add]) ?_ | (refine wpList_storeH rfl _ _ rfl rfl B13 other rfl rfl _ Hq12.out ?_; rw [Hz13.out]) | refine wpList_load_part rfl 23 _ rfl B13 0 rfl 23 _ 32 32 _ Hqf.out (by omega) Tryd.underlying23 rfl info26 (bv other) (fun i hi => by rw [Nat.zero_add]) ?_)
              clear hz11
              refine (PA.out _ hGl s9).mono ?_
              rintro e w931 ⟨⟨v2, rfl, o2⟩, hb932⟩
              have q0 := q0.below hb932 q0.lt
              have q1 := q1.below hb932 q1.lt
              have o9 := o9.below hb932 (Nat.le_refl _)
              have o10 := o10.below hb932 (Nat.le_refl _)
              have qs := qs.below hb932 qs.lt
              have s9 := s9.below hb932
              have hGl := hGl.up hb932
              have kb := kb.trans (hb932.mono kb.size)
              clear hb932
              obtain ⟨ad2, cap2, rfl, -, -⟩ := o2.slotsN (n := 0) rfl
              clear o2 qs
              rw [← HN.out] at hP128
              clear hlt hd hd2 hPK
              obtain ⟨ad10, cap10, rfl, s10⟩ := o10.slots
              clear o9 o10
              obtain ⟨n9, hn9⟩ : ∃ n, l.length = n := ⟨_, rfl⟩
              have G1 := fun x w => get_any ad9 n9 cap9 l hn9 x w
              rw [hn9]
              obtain ⟨m, hm⟩ : ∃ m, P.length = m := ⟨_, rfl⟩
              rw [hm] at hP128 ⊢
              have Hm := hide hm
              clear hm hn9
              have G1 := hide G1
              clear q0 q1
              go_wp2
              go_loopw [17] (fun v17 wr => ∃ j : Nat, j ≤ m ∧ v17 = .int .i64 (j : Int) ∧ Slots wr ad9 l ∧ Hashes wr ad10 P ∧ Glob num wr ∧ Below w.heap.size w wr) (fun i _ => m - (intOf i).toNat)
              case atStart => exact ⟨0, Nat.zero_le _, rfl, s9, s10, hGl, kb⟩
              case round =>
                clear s9 s10 hGl kb
                obtain ⟨j, hj, rfl, s9, s10, hGl, kb⟩ := hrel
                by_cases hjm : j < m
                · have hd : decide ((j : Int) < (m : Int)) = true := decide_eq_true (by omega)
                  have hd2 : decide (j < m) = true := decide_eq_true hjm
                  have hk0 : (0 : Int) ≤ (j : Int) := by omega
                  have hk1 : (j : Int) < (m : Int) := by omega
                  have hg := HSI.out.get (by rw [Hm.out]; exact hP128) (n := j) (by rw [Hm.out]; exact hjm)
                  have G2 := hide (G1.out (j : Int))
                  obtain ⟨X, hX⟩ : ∃ X, getA l (j : Int) = X := ⟨_, rfl⟩
                  rw [hX] at hg G2
                  obtain ⟨F, E⟩ := X
                  obtain ⟨hE, hF⟩ := hg
                  obtain rfl : E = 0 := hE
                  obtain ⟨p, hp⟩ : ∃ p, P[j]? = some p := ⟨_, List.getElem?_eq_getElem (by rw [Hm.out]; exact hjm)⟩
                  rw [List.getD_eq_getElem?_getD, hp] at hF
                  have hF : eqH F p = true := hF
                  have hqf : ∀ w : World, (Op.equalIn 10000 23 (.agg (tabv (bv F) 32)) (.agg (tabv (bv p) 32))).run Tryd.prog w = .ok true w := fun w => by rw [eqHD 9998 w F p, hF]
                  have hgt := guard26
                  have Hp := hide hp
                  clear hF hX hp
                  go_wp2_with fail
                  refine (G2.out _ hGl s9).mono ?_
                  rintro e w1001 ⟨rfl, hb1002⟩
                  have s9 := s9.below hb1002
                  have s10 := s10.below hb1002
                  have hGl := hGl.up hb1002
                  have kb := kb.trans (hb1002.mono kb.size)
                  clear hb1002
                  have hn1005 := Has.new w1001 23 (fun _ => .int .u8 0) 32 _ rfl
                  rw [zero32] at hn1005
                  obtain ⟨b1004, hb1004⟩ : ∃ g, w1001.heap.size = g := ⟨_, rfl⟩
                  obtain ⟨w1003, hz1006⟩ : ∃ x, (w1001.alloc (.cells (tabv (fun _ => .int .u8 0) 32) 23)).setRow w1001.heap.size (tabv (bv F) 32) = x := ⟨_, rfl⟩
                  have hbx : Below w1001.heap.size w1001 w1003 := by rw [← hz1006]; exact below_setRow ((Below.refl _ _).alloc (Nat.le_refl _) _) (Nat.le_refl _) _
                  have s9 := s9.below hbx
                  have s10 := s10.below hbx
                  have hGl := hGl.up hbx
                  have kb := kb.trans (hbx.mono kb.size)
                  have q5 : Has w1003 b1004 23 (bv F) 32 := by rw [zero32] at hz1006; rw [← hz1006, ← hb1004]; exact hn1005.row _ _ rfl
                  rw [zero32] at hz1006
                  have Hhn1005 := hide hn1005
                  have Hhz1006 := hide hz1006
                  have Hhb1004 := hide hb1004
                  clear hn1005 hz1006 hb1004 hbx
                  obtain ⟨b10, of10, rfl, hb10, hA10⟩ := s10.get j _ Hp.out
                  have HA10 := hide hA10
                  clear hA10 hb10
                  go_wp2_with (first | (refine wpList_storeH rfl _ _ rfl rfl w1001.heap.size (F) rfl rfl _ Hhn1005.out ?_; rw [Hhz1006.out]))
                  rw [Hhb1004.out]
                  have Hq5 := hide q5
                  clear q5
                  refine wp_region_quiet_lit (by kernel_rfl) (by kernel_rfl) ?_
                  go_big_quiet_want
                  refine quiet_value (fun w' hw' => run_load_part w' 23 _ rfl b1004 0 rfl 23 _ 32 32 _ (by obtain ⟨m, rfl⟩ := hw'; exact Hq5.out.drewN m) (by omega) Tryd.underlying23 rfl info26 (bv F) (fun i hi => by rw [Nat.zero_add])) ?_
                  simp only [Act.put, List.setIfInBounds_toArray, List.set_cons_succ, List.set_cons_zero]
                  go_big_quiet_on
                  iterate 3 (go_big_quiet_step (fail))
                  go_big_quiet_want
                  refine quiet_value (fun w' hw' => run_load_at w' 23 _ rfl b10 (of10 + j * 32) (by rfl) (bv p) 32 _ (by obtain ⟨m, rfl⟩ := hw'; exact HA10.out) Tryd.underlying23 rfl info26) ?_
                  simp only [Act.put, List.setIfInBounds_toArray, List.set_cons_succ, List.set_cons_zero]
                  go_big_quiet_on
                  iterate 5 (go_big_quiet_step (fail))
                  refine wpQuiet_nil ?_
                  intro _ hw'
                  obtain ⟨nq, rfl⟩ := hw'
                  have hbd := belowD (Below.refl w1003.heap.size w1003) nq
                  have s9 := s9.below hbd
                  have s10 := s10.below hbd
                  have hGl := hGl.up hbd
                  have kb := kb.trans (hbd.mono kb.size)
                  generalize World.drewN _ nq = wz at s9 s10 hGl kb ⊢
                  clear hbd HA10 Hq5
                  go_wp2
                  go_roundw
                  case rel => exact ⟨j + 1, by omega, by go_num, s9, s10, hGl, kb⟩
                  case measure => simp [intOf]; omega
                · have hjm2 : j = m := by omega
                  subst hjm2
                  have hd : decide ((j : Int) < (j : Int)) = false := decide_eq_false (by omega)
                  have hd2 : decide (j < j) = false := decide_eq_false (by omega)
                  clear s10
                  have hji : (j : Int) < 128 := by omega
                  go_wp2
                  go_loopw [20] (fun v20 wr => ∃ i : Nat, i ≤ j + 5 ∧ j ≤ i ∧ v20 = .int .i64 (i : Int) ∧ Slots wr ad9 l ∧ Glob num wr ∧ Below w.heap.size w wr) (fun i _ => j + 5 - (intOf i).toNat)
                  case atStart => exact ⟨j, by omega, Nat.le_refl _, rfl, s9, hGl, kb⟩
                  case round =>
                    clear s9 hGl kb
                    obtain ⟨i, hi, hi2, rfl, s9, hGl, kb⟩ := hrel
                    by_cases him : i < j + 5
                    · have hd3 : decide ((i : Int) < (j : Int) + 5) = true := decide_eq_true (by omega)
                      have hk0 : (0 : Int) ≤ (i : Int) := by omega
                      have hi3 : (i : Int) < 1000 := by omega
                      have hg := HSI.out.later (by rw [Hm.out]; omega) (n := i) (by rw [Hm.out]; exact hi2) (by omega)
                      have G2 := G1.out (i : Int)
                      rw [hg] at G2
                      have G2 := hide G2
                      have hqz : ∀ w : World, (Op.equalIn 10000 23 (.agg (tabv (bv (fun _ => (0 : UInt8))) 32)) (.agg (tabv (fun _ => .int .u8 0) 32))).run Tryd.prog w = .ok true w := fun w => by have := eqHD 9998 w (fun _ => 0) (fun _ => 0); rw [eqH_refl] at this; exact this
                      rw [zero32] at hqz
                      have hgt := guard26
                      clear hg
                      go_wp2_with fail
                      refine (G2.out _ hGl s9).mono ?_
                      rintro e w1007 ⟨rfl, hb1008⟩
                      have s9 := s9.below hb1008
                      have hGl := hGl.up hb1008
                      have kb := kb.trans (hb1008.mono kb.size)
                      clear hb1008
                      have hn1011 := Has.new w1007 23 (fun _ => .int .u8 0) 32 _ rfl
                      rw [zero32] at hn1011
                      obtain ⟨b1010, hb1010⟩ : ∃ g, w1007.heap.size = g := ⟨_, rfl⟩
                      obtain ⟨w1009, hz1012⟩ : ∃ x, (w1007.alloc (.cells (tabv (fun _ => .int .u8 0) 32) 23)).setRow w1007.heap.size (tabv (bv (fun _ => (0 : UInt8))) 32) = x := ⟨_, rfl⟩
                      have hbx : Below w1007.heap.size w1007 w1009 := by rw [← hz1012]; exact below_setRow ((Below.refl _ _).alloc (Nat.le_refl _) _) (Nat.le_refl _) _
                      have s9 := s9.below hbx
                      have hGl := hGl.up hbx
                      have kb := kb.trans (hbx.mono kb.size)
                      have q6 : Has w1009 b1010 23 (bv (fun _ => (0 : UInt8))) 32 := by rw [zero32] at hz1012; rw [← hz1012, ← hb1010]; exact hn1011.row _ _ rfl
                      rw [zero32] at hz1012
                      have Hhn1011 := hide hn1011
                      have Hhz1012 := hide hz1012
                      have Hhb1010 := hide hb1010
                      clear hn1011 hz1012 hb1010 hbx
                      have Hq6 := hide q6
                      go_wp2_with (first | (refine wpList_storeH rfl _ _ rfl rfl w1007.heap.size ((fun _ => (0 : UInt8))) rfl rfl _ Hhn1011.out ?_; rw [Hhz1012.out]) | refine wpList_load_want (by rfl) 23 _ rfl b1010 0 rfl 23 _ 32 32 _ Hq6.out (by omega) Tryd.underlying23 rfl info26 ((bv (fun _ => (0 : UInt8)))) (fun i hi => by rw [Nat.zero_add]) ?_ | (rw [Hhb1010.out]; refine wpList_load_want (by rfl) 23 _ rfl b1010 0 rfl 23 _ 32 32 _ Hq6.out (by omega) Tryd.underlying23 rfl info26 ((bv (fun _ => (0 : UInt8)))) (fun i hi => by rw [Nat.zero_add]) ?_))
                      go_roundw
                      case rel => exact ⟨i + 1, by omega, by omega, by go_num, s9, hGl, kb⟩
                      case measure => simp [intOf]; omega
                    · have hd3 : decide ((i : Int) < (j : Int) + 5) = false := decide_eq_false (by omega)
                      go_wp2
                      go_ret
                      exact ⟨by simp, kb⟩
        | false =>
          obtain ⟨B13, hB13⟩ : ∃ g, w101.heap.size = g := ⟨_, rfl⟩
          obtain ⟨w11, hz11⟩ : ∃ y, w101.alloc (.cells (tabv (fun _ => .int .u8 0) 32) 23) = y := ⟨_, rfl⟩
          have q11 : Has w11 B13 23 (fun _ => .int .u8 0) 32 := by rw [← hz11, ← hB13]; exact Has.new _ 23 (fun _ => .int .u8 0) 32 _ rfl
          have hb11 : Below w101.heap.size w101 w11 := by rw [← hz11]; exact (Below.refl _ _).alloc (Nat.le_refl _) _
          rw [zero32] at hz11
          obtain ⟨w12, hz12⟩ : ∃ y, w11.setRow B13 (tabv (bv SEC) 32) = y := ⟨_, rfl⟩
          have q12 : Has w12 B13 23 (bv SEC) 32 := by rw [← hz12]; exact q11.row _ _ rfl
          have hb12 : Below w101.heap.size w101 w12 := by rw [← hz12]; exact below_setRow hb11 (by omega) _
          obtain ⟨w13, hz13⟩ : ∃ y, w12.setRow B13 (tabv (bv other) 32) = y := ⟨_, rfl⟩
          have q13 : Has w13 B13 23 (bv other) 32 := by rw [← hz13]; exact q12.row _ _ rfl
          have hb13 : Below w101.heap.size w101 w13 := by rw [← hz13]; exact below_setRow hb12 (by omega) _
          have q1a := q1.below hb12 q1.lt
          have Hq1a := hide q1a
          have Hz13 := hide hz13
          clear hz13 q1a
          have Hq11 := hide q11
          have Hq12 := hide q12
          have Hz12 := hide hz12
          clear hz12 q11
          have q0 := q0.below hb13 q0.lt
          have q1 := q1.below hb13 q1.lt
          have o9 := o9.below hb13 (Nat.le_refl _)
          have o10 := o10.below hb13 (Nat.le_refl _)
          have hGl := hGl.up hb13
          have kb := kb.trans (hb13.mono kb.size)
          have qs := q13
          have Hqf := hide qs
          clear hb11 hb12 hb13 q13 q12
          obtain ⟨ad9, cap9, e9, s9, -, -⟩ := o9.slots
          have hlN : lv N ≤ 48 := lv_le N
          have hpo : putA l (N : Int) other = if (List.range (lv N)).all (okAt l other (N : Int)) = true then (withA l (lv N) ⟨(N : Int), other, true⟩, 0) else ([], 100) := put_of (l := l) (n := N) (h := other) HSI.out.len (by omega)
          subst e9
          by_cases hall : ∀ j, j < lv N → okAt l other (N : Int) j = true
          · have PA := fun w => put_any ad9 l.length cap9 l rfl (N : Int) other w
            have hP2 : putA l (N : Int) other = (withA l (lv N) ⟨(N : Int), other, true⟩, 0) := by
              rw [hpo, if_pos (by rw [List.all_eq_true]; exact fun j hj => hall j (List.mem_range.1 hj))]
            rw [hP2] at PA
            have hSI2 : ShelfIs (withA l (lv N) ⟨(N : Int), other, true⟩) (P ++ [other]) := by
              have := HSI.out.put (by rw [HN.out]; exact hP128) (s := other) (by rw [HN.out]; exact hall)
              rw [HN.out] at this
              exact this
            have hlen := withA_length l (lv N) ⟨(N : Int), other, true⟩
            obtain ⟨l2, hl2⟩ : ∃ l2, withA l (lv N) ⟨(N : Int), other, true⟩ = l2 := ⟨_, rfl⟩
            rw [hl2] at PA hSI2 hlen
            have HL := hide hlen
            have HS2 := hide hSI2
            have PA := hide PA
            clear hP2 hpo hall hSI2 hlen hl2
            go_wp2_with (first | (refine wpList_storeH rfl _ _ rfl rfl B13 SEC rfl rfl _ Hq11.out ?_; rw [Hz12.out]) | refine wpList_load_want (by rfl) 23 _ rfl B13 0 rfl 23 _ 32 32 _ Hq12.out (by omega) Tryd.underlying23 rfl info26 (bv SEC) (fun i hi => by rw [Nat.zero_add]) ?_ | refine wpList_load_want (by rfl) 23 _ rfl (b0 + 1) 0 rfl 23 _ 32 32 _ Hq1a.out (by omega) Tryd.underlying23 rfl info26 (bv other) (fun i hi => by rw [Nat.zero_add]) ?_ | refine wpList_load_part rfl 23 _ rfl (b0 + 1) 0 rfl 23 _ 32 32 _ Hq1a.out (by omega) Tryd.underlying23 rfl info26 (bv other) (fun i hi => by rw [Nat.zero_add]) ?_ | (refine wpList_storeH rfl _ _ rfl rfl B13 other rfl rfl _ Hq12.out ?_; rw [Hz13.out]) | refine wpList_load_part rfl 23 _ rfl B13 0 rfl 23 _ 32 32 _ Hqf.out (by omega) Tryd.underlying23 rfl info26 (bv other) (fun i hi => by rw [Nat.zero_add]) ?_)
            clear hz11
            have h10 : ∀ g, u10.ownBlock = some g → g < w13.heap.size := fun g hg => (o10.lt g hg).2
            refine (PA.out _ hGl s9).mono ?_
            rintro e w941 ⟨⟨v2, rfl, o2⟩, hb942⟩
            have q0 := q0.below hb942 q0.lt
            have q1 := q1.below hb942 q1.lt
            have o9 := o9.below hb942 (Nat.le_refl _)
            have o10 := o10.below hb942 (Nat.le_refl _)
            have qs := qs.below hb942 qs.lt
            have s9 := s9.below hb942
            have hGl := hGl.up hb942
            have kb := kb.trans (hb942.mono kb.size)
            clear hb942
            clear s9 o9
            obtain ⟨ad2, cap2, rfl, -, -⟩ := o2.slotsN HL.out
            have hfresh : ∀ g, (Value.slice ad2 49 cap2).ownBlock = some g → w13.heap.size ≤ g := fun g hg => (o2.lt g hg).1
            have hbig : b0 + 2 ≤ w941.heap.size := by have := q1.lt; omega
            obtain ⟨v10n, w20, w21, hA1, hA2, o10n, hkeep, hbl⟩ := appH_step w941 (b0 + 2) u10 P other o10 (by rw [HN.out]; omega) hbig
            have o2n : OwnS 0 w21 (.slice ad2 49 cap2) l2 := (o2.mono (Nat.zero_le _)).same fun g hg => hkeep g (o2.lt g hg).2 (fun e => by have := hfresh g hg; have := h10 g e; omega)
            have q0n := q0.below hbl (by omega)
            have q1n := q1.below hbl (by omega)
            have kbn := kb.trans (hbl.mono (by omega))
            have hGn : Glob num w21 := hG.up kbn
            have HA1 := hide hA1
            have HA2 := hide hA2
            have O2 := hide o2n
            have O10 := hide o10n
            clear hA1 hA2 hfresh h10 hkeep hbl o2n o10n o2
            have Hqs := hide qs
            go_wp2_with (first | refine wpList_load_part rfl 23 _ rfl B13 0 rfl 23 _ 32 32 _ Hqs.out (by omega) Tryd.underlying23 rfl info26 (bv other) (fun i hi => by rw [Nat.zero_add]) ?_ | refine wpList_slice1 rfl 26 _ rfl (.agg (tabv (bv other) 32)) rfl HA1.out ?_ | refine wpList_app rfl _ _ _ rfl HA2.out ?_)
            go_roundw
            case rel => exact ⟨l2, P ++ [other], false, by rw [List.length_append, HN.out]; exact hlt, by rw [List.length_append, HN.out]; go_num, rfl, O2.out, O10.out, HS2.out, hide (fun h => by cases h), q0n, q1n, hGn, kbn⟩
            case measure => simp [intOf]; omega
          · have PA := fun w => put_any ad9 l.length cap9 l rfl (N : Int) other w
            have hP2 : putA l (N : Int) other = ([], 100) := by
              rw [hpo, if_neg (fun h => hall fun j hj => List.all_eq_true.1 h j (List.mem_range.2 hj))]
            rw [hP2] at PA
            have PA := hide PA
            clear hP2 hpo hall
            go_wp2_with (first | (refine wpList_storeH rfl _ _ rfl rfl B13 SEC rfl rfl _ Hq11.out ?_; rw [Hz12.out]) | refine wpList_load_want (by rfl) 23 _ rfl B13 0 rfl 23 _ 32 32 _ Hq12.out (by omega) Tryd.underlying23 rfl info26 (bv SEC) (fun i hi => by rw [Nat.zero_add]) ?_ | refine wpList_load_want (by rfl) 23 _ rfl (b0 + 1) 0 rfl 23 _ 32 32 _ Hq1a.out (by omega) Tryd.underlying23 rfl info26 (bv other) (fun i hi => by rw [Nat.zero_add]) ?_ | refine wpList_load_part rfl 23 _ rfl (b0 + 1) 0 rfl 23 _ 32 32 _ Hq1a.out (by omega) Tryd.underlying23 rfl info26 (bv other) (fun i hi => by rw [Nat.zero_add]) ?_ | (refine wpList_storeH rfl _ _ rfl rfl B13 other rfl rfl _ Hq12.out ?_; rw [Hz13.out]) | refine wpList_load_part rfl 23 _ rfl B13 0 rfl 23 _ 32 32 _ Hqf.out (by omega) Tryd.underlying23 rfl info26 (bv other) (fun i hi => by rw [Nat.zero_add]) ?_)
            clear hz11
            refine (PA.out _ hGl s9).mono ?_
            rintro e w941 ⟨⟨v2, rfl, o2⟩, hb942⟩
            have q0 := q0.below hb942 q0.lt
            have q1 := q1.below hb942 q1.lt
            have o9 := o9.below hb942 (Nat.le_refl _)
            have o10 := o10.below hb942 (Nat.le_refl _)
            have qs := qs.below hb942 qs.lt
            have s9 := s9.below hb942
            have hGl := hGl.up hb942
            have kb := kb.trans (hb942.mono kb.size)
            clear hb942
            obtain ⟨ad2, cap2, rfl, -, -⟩ := o2.slotsN (n := 0) rfl
            clear o2 qs
            rw [← HN.out] at hP128
            clear hlt hd hd2 hPK
            obtain ⟨ad10, cap10, rfl, s10⟩ := o10.slots
            clear o9 o10
            obtain ⟨n9, hn9⟩ : ∃ n, l.length = n := ⟨_, rfl⟩
            have G1 := fun x w => get_any ad9 n9 cap9 l hn9 x w
            rw [hn9]
            obtain ⟨m, hm⟩ : ∃ m, P.length = m := ⟨_, rfl⟩
            rw [hm] at hP128 ⊢
            have Hm := hide hm
            clear hm hn9
            have G1 := hide G1
            clear q0 q1
            go_wp2
            go_loopw [17] (fun v17 wr => ∃ j : Nat, j ≤ m ∧ v17 = .int .i64 (j : Int) ∧ Slots wr ad9 l ∧ Hashes wr ad10 P ∧ Glob num wr ∧ Below w.heap.size w wr) (fun i _ => m - (intOf i).toNat)
            case atStart => exact ⟨0, Nat.zero_le _, rfl, s9, s10, hGl, kb⟩
            case round =>
              clear s9 s10 hGl kb
              obtain ⟨j, hj, rfl, s9, s10, hGl, kb⟩ := hrel
              by_cases hjm : j < m
              · have hd : decide ((j : Int) < (m : Int)) = true := decide_eq_true (by omega)
                have hd2 : decide (j < m) = true := decide_eq_true hjm
                have hk0 : (0 : Int) ≤ (j : Int) := by omega
                have hk1 : (j : Int) < (m : Int) := by omega
                have hg := HSI.out.get (by rw [Hm.out]; exact hP128) (n := j) (by rw [Hm.out]; exact hjm)
                have G2 := hide (G1.out (j : Int))
                obtain ⟨X, hX⟩ : ∃ X, getA l (j : Int) = X := ⟨_, rfl⟩
                rw [hX] at hg G2
                obtain ⟨F, E⟩ := X
                obtain ⟨hE, hF⟩ := hg
                obtain rfl : E = 0 := hE
                obtain ⟨p, hp⟩ : ∃ p, P[j]? = some p := ⟨_, List.getElem?_eq_getElem (by rw [Hm.out]; exact hjm)⟩
                rw [List.getD_eq_getElem?_getD, hp] at hF
                have hF : eqH F p = true := hF
                have hqf : ∀ w : World, (Op.equalIn 10000 23 (.agg (tabv (bv F) 32)) (.agg (tabv (bv p) 32))).run Tryd.prog w = .ok true w := fun w => by rw [eqHD 9998 w F p, hF]
                have hgt := guard26
                have Hp := hide hp
                clear hF hX hp
                go_wp2_with fail
                refine (G2.out _ hGl s9).mono ?_
                rintro e w1101 ⟨rfl, hb1102⟩
                have s9 := s9.below hb1102
                have s10 := s10.below hb1102
                have hGl := hGl.up hb1102
                have kb := kb.trans (hb1102.mono kb.size)
                clear hb1102
                have hn1105 := Has.new w1101 23 (fun _ => .int .u8 0) 32 _ rfl
                rw [zero32] at hn1105
                obtain ⟨b1104, hb1104⟩ : ∃ g, w1101.heap.size = g := ⟨_, rfl⟩
                obtain ⟨w1103, hz1106⟩ : ∃ x, (w1101.alloc (.cells (tabv (fun _ => .int .u8 0) 32) 23)).setRow w1101.heap.size (tabv (bv F) 32) = x := ⟨_, rfl⟩
                have hbx : Below w1101.heap.size w1101 w1103 := by rw [← hz1106]; exact below_setRow ((Below.refl _ _).alloc (Nat.le_refl _) _) (Nat.le_refl _) _
                have s9 := s9.below hbx
                have s10 := s10.below hbx
                have hGl := hGl.up hbx
                have kb := kb.trans (hbx.mono kb.size)
                have q5 : Has w1103 b1104 23 (bv F) 32 := by rw [zero32] at hz1106; rw [← hz1106, ← hb1104]; exact hn1105.row _ _ rfl
                rw [zero32] at hz1106
                have Hhn1105 := hide hn1105
                have Hhz1106 := hide hz1106
                have Hhb1104 := hide hb1104
                clear hn1105 hz1106 hb1104 hbx
                obtain ⟨b10, of10, rfl, hb10, hA10⟩ := s10.get j _ Hp.out
                have HA10 := hide hA10
                clear hA10 hb10
                go_wp2_with (first | (refine wpList_storeH rfl _ _ rfl rfl w1101.heap.size (F) rfl rfl _ Hhn1105.out ?_; rw [Hhz1106.out]))
                rw [Hhb1104.out]
                have Hq5 := hide q5
                clear q5
                refine wp_region_quiet_lit (by kernel_rfl) (by kernel_rfl) ?_
                go_big_quiet_want
                refine quiet_value (fun w' hw' => run_load_part w' 23 _ rfl b1104 0 rfl 23 _ 32 32 _ (by obtain ⟨m, rfl⟩ := hw'; exact Hq5.out.drewN m) (by omega) Tryd.underlying23 rfl info26 (bv F) (fun i hi => by rw [Nat.zero_add])) ?_
                simp only [Act.put, List.setIfInBounds_toArray, List.set_cons_succ, List.set_cons_zero]
                go_big_quiet_on
                iterate 3 (go_big_quiet_step (fail))
                go_big_quiet_want
                refine quiet_value (fun w' hw' => run_load_at w' 23 _ rfl b10 (of10 + j * 32) (by rfl) (bv p) 32 _ (by obtain ⟨m, rfl⟩ := hw'; exact HA10.out) Tryd.underlying23 rfl info26) ?_
                simp only [Act.put, List.setIfInBounds_toArray, List.set_cons_succ, List.set_cons_zero]
                go_big_quiet_on
                iterate 5 (go_big_quiet_step (fail))
                refine wpQuiet_nil ?_
                intro _ hw'
                obtain ⟨nq, rfl⟩ := hw'
                have hbd := belowD (Below.refl w1103.heap.size w1103) nq
                have s9 := s9.below hbd
                have s10 := s10.below hbd
                have hGl := hGl.up hbd
                have kb := kb.trans (hbd.mono kb.size)
                generalize World.drewN _ nq = wz at s9 s10 hGl kb ⊢
                clear hbd HA10 Hq5
                go_wp2
                go_roundw
                case rel => exact ⟨j + 1, by omega, by go_num, s9, s10, hGl, kb⟩
                case measure => simp [intOf]; omega
              · have hjm2 : j = m := by omega
                subst hjm2
                have hd : decide ((j : Int) < (j : Int)) = false := decide_eq_false (by omega)
                have hd2 : decide (j < j) = false := decide_eq_false (by omega)
                clear s10
                have hji : (j : Int) < 128 := by omega
                go_wp2
                go_loopw [20] (fun v20 wr => ∃ i : Nat, i ≤ j + 5 ∧ j ≤ i ∧ v20 = .int .i64 (i : Int) ∧ Slots wr ad9 l ∧ Glob num wr ∧ Below w.heap.size w wr) (fun i _ => j + 5 - (intOf i).toNat)
                case atStart => exact ⟨j, by omega, Nat.le_refl _, rfl, s9, hGl, kb⟩
                case round =>
                  clear s9 hGl kb
                  obtain ⟨i, hi, hi2, rfl, s9, hGl, kb⟩ := hrel
                  by_cases him : i < j + 5
                  · have hd3 : decide ((i : Int) < (j : Int) + 5) = true := decide_eq_true (by omega)
                    have hk0 : (0 : Int) ≤ (i : Int) := by omega
                    have hi3 : (i : Int) < 1000 := by omega
                    have hg := HSI.out.later (by rw [Hm.out]; omega) (n := i) (by rw [Hm.out]; exact hi2) (by omega)
                    have G2 := G1.out (i : Int)
                    rw [hg] at G2
                    have G2 := hide G2
                    have hqz : ∀ w : World, (Op.equalIn 10000 23 (.agg (tabv (bv (fun _ => (0 : UInt8))) 32)) (.agg (tabv (fun _ => .int .u8 0) 32))).run Tryd.prog w = .ok true w := fun w => by have := eqHD 9998 w (fun _ => 0) (fun _ => 0); rw [eqH_refl] at this; exact this
                    rw [zero32] at hqz
                    have hgt := guard26
                    clear hg
                    go_wp2_with fail
                    refine (G2.out _ hGl s9).mono ?_
                    rintro e w1107 ⟨rfl, hb1108⟩
                    have s9 := s9.below hb1108
                    have hGl := hGl.up hb1108
                    have kb := kb.trans (hb1108.mono kb.size)
                    clear hb1108
                    have hn1111 := Has.new w1107 23 (fun _ => .int .u8 0) 32 _ rfl
                    rw [zero32] at hn1111
                    obtain ⟨b1110, hb1110⟩ : ∃ g, w1107.heap.size = g := ⟨_, rfl⟩
                    obtain ⟨w1109, hz1112⟩ : ∃ x, (w1107.alloc (.cells (tabv (fun _ => .int .u8 0) 32) 23)).setRow w1107.heap.size (tabv (bv (fun _ => (0 : UInt8))) 32) = x := ⟨_, rfl⟩
                    have hbx : Below w1107.heap.size w1107 w1109 := by rw [← hz1112]; exact below_setRow ((Below.refl _ _).alloc (Nat.le_refl _) _) (Nat.le_refl _) _
                    have s9 := s9.below hbx
                    have hGl := hGl.up hbx
                    have kb := kb.trans (hbx.mono kb.size)
                    have q6 : Has w1109 b1110 23 (bv (fun _ => (0 : UInt8))) 32 := by rw [zero32] at hz1112; rw [← hz1112, ← hb1110]; exact hn1111.row _ _ rfl
                    rw [zero32] at hz1112
                    have Hhn1111 := hide hn1111
                    have Hhz1112 := hide hz1112
                    have Hhb1110 := hide hb1110
                    clear hn1111 hz1112 hb1110 hbx
                    have Hq6 := hide q6
                    go_wp2_with (first | (refine wpList_storeH rfl _ _ rfl rfl w1107.heap.size ((fun _ => (0 : UInt8))) rfl rfl _ Hhn1111.out ?_; rw [Hhz1112.out]) | refine wpList_load_want (by rfl) 23 _ rfl b1110 0 rfl 23 _ 32 32 _ Hq6.out (by omega) Tryd.underlying23 rfl info26 ((bv (fun _ => (0 : UInt8)))) (fun i hi => by rw [Nat.zero_add]) ?_ | (rw [Hhb1110.out]; refine wpList_load_want (by rfl) 23 _ rfl b1110 0 rfl 23 _ 32 32 _ Hq6.out (by omega) Tryd.underlying23 rfl info26 ((bv (fun _ => (0 : UInt8)))) (fun i hi => by rw [Nat.zero_add]) ?_))
                    go_roundw
                    case rel => exact ⟨i + 1, by omega, by omega, by go_num, s9, hGl, kb⟩
                    case measure => simp [intOf]; omega
                  · have hd3 : decide ((i : Int) < (j : Int) + 5) = false := decide_eq_false (by omega)
                    go_wp2
                    go_ret
                    exact ⟨by simp, kb⟩
      · have dsp : ((N : Int) == sp) = false := by simpa using hsp
        clear hsp
        cases o with
        | true =>
          obtain ⟨B13, hB13⟩ : ∃ g, w101.heap.size = g := ⟨_, rfl⟩
          obtain ⟨w11, hz11⟩ : ∃ y, w101.alloc (.cells (tabv (fun _ => .int .u8 0) 32) 23) = y := ⟨_, rfl⟩
          have q11 : Has w11 B13 23 (fun _ => .int .u8 0) 32 := by rw [← hz11, ← hB13]; exact Has.new _ 23 (fun _ => .int .u8 0) 32 _ rfl
          have hb11 : Below w101.heap.size w101 w11 := by rw [← hz11]; exact (Below.refl _ _).alloc (Nat.le_refl _) _
          rw [zero32] at hz11
          obtain ⟨w12, hz12⟩ : ∃ y, w11.setRow B13 (tabv (bv SEC) 32) = y := ⟨_, rfl⟩
          have q12 : Has w12 B13 23 (bv SEC) 32 := by rw [← hz12]; exact q11.row _ _ rfl
          have hb12 : Below w101.heap.size w101 w12 := by rw [← hz12]; exact below_setRow hb11 (by omega) _
          have Hq11 := hide q11
          have Hq12 := hide q12
          have Hz12 := hide hz12
          clear hz12 q11
          have q0 := q0.below hb12 q0.lt
          have q1 := q1.below hb12 q1.lt
          have o9 := o9.below hb12 (Nat.le_refl _)
          have o10 := o10.below hb12 (Nat.le_refl _)
          have hGl := hGl.up hb12
          have kb := kb.trans (hb12.mono kb.size)
          have qs := q12
          have Hqf := hide qs
          clear hb11 hb12 q12
          have OWN := hide (eqH_refl SEC)
          obtain ⟨ad9, cap9, e9, s9, -, -⟩ := o9.slots
          have hlN : lv N ≤ 48 := lv_le N
          have hpo : putA l (N : Int) SEC = if (List.range (lv N)).all (okAt l SEC (N : Int)) = true then (withA l (lv N) ⟨(N : Int), SEC, true⟩, 0) else ([], 100) := put_of (l := l) (n := N) (h := SEC) HSI.out.len (by omega)
          subst e9
          by_cases hall : ∀ j, j < lv N → okAt l SEC (N : Int) j = true
          · have PA := fun w => put_any ad9 l.length cap9 l rfl (N : Int) SEC w
            have hP2 : putA l (N : Int) SEC = (withA l (lv N) ⟨(N : Int), SEC, true⟩, 0) := by
              rw [hpo, if_pos (by rw [List.all_eq_true]; exact fun j hj => hall j (List.mem_range.1 hj))]
            rw [hP2] at PA
            have hSI2 : ShelfIs (withA l (lv N) ⟨(N : Int), SEC, true⟩) (P ++ [SEC]) := by
              have := HSI.out.put (by rw [HN.out]; exact hP128) (s := SEC) (by rw [HN.out]; exact hall)
              rw [HN.out] at this
              exact this
            have hlen := withA_length l (lv N) ⟨(N : Int), SEC, true⟩
            obtain ⟨l2, hl2⟩ : ∃ l2, withA l (lv N) ⟨(N : Int), SEC, true⟩ = l2 := ⟨_, rfl⟩
            rw [hl2] at PA hSI2 hlen
            have HL := hide hlen
            have HS2 := hide hSI2
            have PA := hide PA
            clear hP2 hpo hall hSI2 hlen hl2
            go_wp2_with (first | (refine wpList_storeH rfl _ _ rfl rfl B13 SEC rfl rfl _ Hq11.out ?_; rw [Hz12.out]) | refine wpList_load_part rfl 23 _ rfl B13 0 rfl 23 _ 32 32 _ Hqf.out (by omega) Tryd.underlying23 rfl info26 (bv SEC) (fun i hi => by rw [Nat.zero_add]) ?_)
            clear hz11
            have h10 : ∀ g, u10.ownBlock = some g → g < w12.heap.size := fun g hg => (o10.lt g hg).2
            refine (PA.out _ hGl s9).mono ?_
            rintro e w901 ⟨⟨v2, rfl, o2⟩, hb902⟩
            have q0 := q0.below hb902 q0.lt
            have q1 := q1.below hb902 q1.lt
            have o9 := o9.below hb902 (Nat.le_refl _)
            have o10 := o10.below hb902 (Nat.le_refl _)
            have qs := qs.below hb902 qs.lt
            have s9 := s9.below hb902
            have hGl := hGl.up hb902
            have kb := kb.trans (hb902.mono kb.size)
            clear hb902
            clear s9 o9
            obtain ⟨ad2, cap2, rfl, -, -⟩ := o2.slotsN HL.out
            have hfresh : ∀ g, (Value.slice ad2 49 cap2).ownBlock = some g → w12.heap.size ≤ g := fun g hg => (o2.lt g hg).1
            have hbig : b0 + 2 ≤ w901.heap.size := by have := q1.lt; omega
            obtain ⟨v10n, w20, w21, hA1, hA2, o10n, hkeep, hbl⟩ := appH_step w901 (b0 + 2) u10 P SEC o10 (by rw [HN.out]; omega) hbig
            have o2n : OwnS 0 w21 (.slice ad2 49 cap2) l2 := (o2.mono (Nat.zero_le _)).same fun g hg => hkeep g (o2.lt g hg).2 (fun e => by have := hfresh g hg; have := h10 g e; omega)
            have q0n := q0.below hbl (by omega)
            have q1n := q1.below hbl (by omega)
            have kbn := kb.trans (hbl.mono (by omega))
            have hGn : Glob num w21 := hG.up kbn
            have HA1 := hide hA1
            have HA2 := hide hA2
            have O2 := hide o2n
            have O10 := hide o10n
            clear hA1 hA2 hfresh h10 hkeep hbl o2n o10n o2
            have Hqs := hide qs
            go_wp2_with (first | refine wpList_load_part rfl 23 _ rfl B13 0 rfl 23 _ 32 32 _ Hqs.out (by omega) Tryd.underlying23 rfl info26 (bv SEC) (fun i hi => by rw [Nat.zero_add]) ?_ | refine wpList_slice1 rfl 26 _ rfl (.agg (tabv (bv SEC) 32)) rfl HA1.out ?_ | refine wpList_app rfl _ _ _ rfl HA2.out ?_)
            go_roundw
            case rel => exact ⟨l2, P ++ [SEC], true, by rw [List.length_append, HN.out]; exact hlt, by rw [List.length_append, HN.out]; go_num, rfl, O2.out, O10.out, HS2.out, hide (fun h => own_next HN.out (HO.out (by first | rfl | trivial)) HSEC.out OWN.out), q0n, q1n, hGn, kbn⟩
            case measure => simp [intOf]; omega
          · have hx := HSI.out.own (by rw [HN.out]; exact hP128) (root := root) (s := SEC) (HO.out (by first | rfl | trivial)) (by rw [HN.out, HSEC.out]; exact OWN.out)
            rw [HN.out] at hx
            exact absurd hx hall
        | false =>
          obtain ⟨B13, hB13⟩ : ∃ g, w101.heap.size = g := ⟨_, rfl⟩
          obtain ⟨w11, hz11⟩ : ∃ y, w101.alloc (.cells (tabv (fun _ => .int .u8 0) 32) 23) = y := ⟨_, rfl⟩
          have q11 : Has w11 B13 23 (fun _ => .int .u8 0) 32 := by rw [← hz11, ← hB13]; exact Has.new _ 23 (fun _ => .int .u8 0) 32 _ rfl
          have hb11 : Below w101.heap.size w101 w11 := by rw [← hz11]; exact (Below.refl _ _).alloc (Nat.le_refl _) _
          rw [zero32] at hz11
          obtain ⟨w12, hz12⟩ : ∃ y, w11.setRow B13 (tabv (bv SEC) 32) = y := ⟨_, rfl⟩
          have q12 : Has w12 B13 23 (bv SEC) 32 := by rw [← hz12]; exact q11.row _ _ rfl
          have hb12 : Below w101.heap.size w101 w12 := by rw [← hz12]; exact below_setRow hb11 (by omega) _
          have Hq11 := hide q11
          have Hq12 := hide q12
          have Hz12 := hide hz12
          clear hz12 q11
          have q0 := q0.below hb12 q0.lt
          have q1 := q1.below hb12 q1.lt
          have o9 := o9.below hb12 (Nat.le_refl _)
          have o10 := o10.below hb12 (Nat.le_refl _)
          have hGl := hGl.up hb12
          have kb := kb.trans (hb12.mono kb.size)
          have qs := q12
          have Hqf := hide qs
          clear hb11 hb12 q12
          obtain ⟨ad9, cap9, e9, s9, -, -⟩ := o9.slots
          have hlN : lv N ≤ 48 := lv_le N
          have hpo : putA l (N : Int) SEC = if (List.range (lv N)).all (okAt l SEC (N : Int)) = true then (withA l (lv N) ⟨(N : Int), SEC, true⟩, 0) else ([], 100) := put_of (l := l) (n := N) (h := SEC) HSI.out.len (by omega)
          subst e9
          by_cases hall : ∀ j, j < lv N → okAt l SEC (N : Int) j = true
          · have PA := fun w => put_any ad9 l.length cap9 l rfl (N : Int) SEC w
            have hP2 : putA l (N : Int) SEC = (withA l (lv N) ⟨(N : Int), SEC, true⟩, 0) := by
              rw [hpo, if_pos (by rw [List.all_eq_true]; exact fun j hj => hall j (List.mem_range.1 hj))]
            rw [hP2] at PA
            have hSI2 : ShelfIs (withA l (lv N) ⟨(N : Int), SEC, true⟩) (P ++ [SEC]) := by
              have := HSI.out.put (by rw [HN.out]; exact hP128) (s := SEC) (by rw [HN.out]; exact hall)
              rw [HN.out] at this
              exact this
            have hlen := withA_length l (lv N) ⟨(N : Int), SEC, true⟩
            obtain ⟨l2, hl2⟩ : ∃ l2, withA l (lv N) ⟨(N : Int), SEC, true⟩ = l2 := ⟨_, rfl⟩
            rw [hl2] at PA hSI2 hlen
            have HL := hide hlen
            have HS2 := hide hSI2
            have PA := hide PA
            clear hP2 hpo hall hSI2 hlen hl2
            go_wp2_with (first | (refine wpList_storeH rfl _ _ rfl rfl B13 SEC rfl rfl _ Hq11.out ?_; rw [Hz12.out]) | refine wpList_load_part rfl 23 _ rfl B13 0 rfl 23 _ 32 32 _ Hqf.out (by omega) Tryd.underlying23 rfl info26 (bv SEC) (fun i hi => by rw [Nat.zero_add]) ?_)
            clear hz11
            have h10 : ∀ g, u10.ownBlock = some g → g < w12.heap.size := fun g hg => (o10.lt g hg).2
            refine (PA.out _ hGl s9).mono ?_
            rintro e w911 ⟨⟨v2, rfl, o2⟩, hb912⟩
            have q0 := q0.below hb912 q0.lt
            have q1 := q1.below hb912 q1.lt
            have o9 := o9.below hb912 (Nat.le_refl _)
            have o10 := o10.below hb912 (Nat.le_refl _)
            have qs := qs.below hb912 qs.lt
            have s9 := s9.below hb912
            have hGl := hGl.up hb912
            have kb := kb.trans (hb912.mono kb.size)
            clear hb912
            clear s9 o9
            obtain ⟨ad2, cap2, rfl, -, -⟩ := o2.slotsN HL.out
            have hfresh : ∀ g, (Value.slice ad2 49 cap2).ownBlock = some g → w12.heap.size ≤ g := fun g hg => (o2.lt g hg).1
            have hbig : b0 + 2 ≤ w911.heap.size := by have := q1.lt; omega
            obtain ⟨v10n, w20, w21, hA1, hA2, o10n, hkeep, hbl⟩ := appH_step w911 (b0 + 2) u10 P SEC o10 (by rw [HN.out]; omega) hbig
            have o2n : OwnS 0 w21 (.slice ad2 49 cap2) l2 := (o2.mono (Nat.zero_le _)).same fun g hg => hkeep g (o2.lt g hg).2 (fun e => by have := hfresh g hg; have := h10 g e; omega)
            have q0n := q0.below hbl (by omega)
            have q1n := q1.below hbl (by omega)
            have kbn := kb.trans (hbl.mono (by omega))
            have hGn : Glob num w21 := hG.up kbn
            have HA1 := hide hA1
            have HA2 := hide hA2
            have O2 := hide o2n
            have O10 := hide o10n
            clear hA1 hA2 hfresh h10 hkeep hbl o2n o10n o2
            have Hqs := hide qs
            go_wp2_with (first | refine wpList_load_part rfl 23 _ rfl B13 0 rfl 23 _ 32 32 _ Hqs.out (by omega) Tryd.underlying23 rfl info26 (bv SEC) (fun i hi => by rw [Nat.zero_add]) ?_ | refine wpList_slice1 rfl 26 _ rfl (.agg (tabv (bv SEC) 32)) rfl HA1.out ?_ | refine wpList_app rfl _ _ _ rfl HA2.out ?_)
            go_roundw
            case rel => exact ⟨l2, P ++ [SEC], false, by rw [List.length_append, HN.out]; exact hlt, by rw [List.length_append, HN.out]; go_num, rfl, O2.out, O10.out, HS2.out, hide (fun h => by cases h), q0n, q1n, hGn, kbn⟩
            case measure => simp [intOf]; omega
          · have PA := fun w => put_any ad9 l.length cap9 l rfl (N : Int) SEC w
            have hP2 : putA l (N : Int) SEC = ([], 100) := by
              rw [hpo, if_neg (fun h => hall fun j hj => List.all_eq_true.1 h j (List.mem_range.2 hj))]
            rw [hP2] at PA
            have PA := hide PA
            clear hP2 hpo hall
            go_wp2_with (first | (refine wpList_storeH rfl _ _ rfl rfl B13 SEC rfl rfl _ Hq11.out ?_; rw [Hz12.out]) | refine wpList_load_part rfl 23 _ rfl B13 0 rfl 23 _ 32 32 _ Hqf.out (by omega) Tryd.underlying23 rfl info26 (bv SEC) (fun i hi => by rw [Nat.zero_add]) ?_)
            clear hz11
            refine (PA.out _ hGl s9).mono ?_
            rintro e w911 ⟨⟨v2, rfl, o2⟩, hb912⟩
            have q0 := q0.below hb912 q0.lt
            have q1 := q1.below hb912 q1.lt
            have o9 := o9.below hb912 (Nat.le_refl _)
            have o10 := o10.below hb912 (Nat.le_refl _)
            have qs := qs.below hb912 qs.lt
            have s9 := s9.below hb912
            have hGl := hGl.up hb912
            have kb := kb.trans (hb912.mono kb.size)
            clear hb912
            obtain ⟨ad2, cap2, rfl, -, -⟩ := o2.slotsN (n := 0) rfl
            clear o2 qs
            rw [← HN.out] at hP128
            clear hlt hd hd2 hPK
            obtain ⟨ad10, cap10, rfl, s10⟩ := o10.slots
            clear o9 o10
            obtain ⟨n9, hn9⟩ : ∃ n, l.length = n := ⟨_, rfl⟩
            have G1 := fun x w => get_any ad9 n9 cap9 l hn9 x w
            rw [hn9]
            obtain ⟨m, hm⟩ : ∃ m, P.length = m := ⟨_, rfl⟩
            rw [hm] at hP128 ⊢
            have Hm := hide hm
            clear hm hn9
            have G1 := hide G1
            clear q0 q1
            go_wp2
            go_loopw [17] (fun v17 wr => ∃ j : Nat, j ≤ m ∧ v17 = .int .i64 (j : Int) ∧ Slots wr ad9 l ∧ Hashes wr ad10 P ∧ Glob num wr ∧ Below w.heap.size w wr) (fun i _ => m - (intOf i).toNat)
            case atStart => exact ⟨0, Nat.zero_le _, rfl, s9, s10, hGl, kb⟩
            case round =>
              clear s9 s10 hGl kb
              obtain ⟨j, hj, rfl, s9, s10, hGl, kb⟩ := hrel
              by_cases hjm : j < m
              · have hd : decide ((j : Int) < (m : Int)) = true := decide_eq_true (by omega)
                have hd2 : decide (j < m) = true := decide_eq_true hjm
                have hk0 : (0 : Int) ≤ (j : Int) := by omega
                have hk1 : (j : Int) < (m : Int) := by omega
                have hg := HSI.out.get (by rw [Hm.out]; exact hP128) (n := j) (by rw [Hm.out]; exact hjm)
                have G2 := hide (G1.out (j : Int))
                obtain ⟨X, hX⟩ : ∃ X, getA l (j : Int) = X := ⟨_, rfl⟩
                rw [hX] at hg G2
                obtain ⟨F, E⟩ := X
                obtain ⟨hE, hF⟩ := hg
                obtain rfl : E = 0 := hE
                obtain ⟨p, hp⟩ : ∃ p, P[j]? = some p := ⟨_, List.getElem?_eq_getElem (by rw [Hm.out]; exact hjm)⟩
                rw [List.getD_eq_getElem?_getD, hp] at hF
                have hF : eqH F p = true := hF
                have hqf : ∀ w : World, (Op.equalIn 10000 23 (.agg (tabv (bv F) 32)) (.agg (tabv (bv p) 32))).run Tryd.prog w = .ok true w := fun w => by rw [eqHD 9998 w F p, hF]
                have hgt := guard26
                have Hp := hide hp
                clear hF hX hp
                go_wp2_with fail
                refine (G2.out _ hGl s9).mono ?_
                rintro e w1201 ⟨rfl, hb1202⟩
                have s9 := s9.below hb1202
                have s10 := s10.below hb1202
                have hGl := hGl.up hb1202
                have kb := kb.trans (hb1202.mono kb.size)
                clear hb1202
                have hn1205 := Has.new w1201 23 (fun _ => .int .u8 0) 32 _ rfl
                rw [zero32] at hn1205
                obtain ⟨b1204, hb1204⟩ : ∃ g, w1201.heap.size = g := ⟨_, rfl⟩
                obtain ⟨w1203, hz1206⟩ : ∃ x, (w1201.alloc (.cells (tabv (fun _ => .int .u8 0) 32) 23)).setRow w1201.heap.size (tabv (bv F) 32) = x := ⟨_, rfl⟩
                have hbx : Below w1201.heap.size w1201 w1203 := by rw [← hz1206]; exact below_setRow ((Below.refl _ _).alloc (Nat.le_refl _) _) (Nat.le_refl _) _
                have s9 := s9.below hbx
                have s10 := s10.below hbx
                have hGl := hGl.up hbx
                have kb := kb.trans (hbx.mono kb.size)
                have q5 : Has w1203 b1204 23 (bv F) 32 := by rw [zero32] at hz1206; rw [← hz1206, ← hb1204]; exact hn1205.row _ _ rfl
                rw [zero32] at hz1206
                have Hhn1205 := hide hn1205
                have Hhz1206 := hide hz1206
                have Hhb1204 := hide hb1204
                clear hn1205 hz1206 hb1204 hbx
                obtain ⟨b10, of10, rfl, hb10, hA10⟩ := s10.get j _ Hp.out
                have HA10 := hide hA10
                clear hA10 hb10
                go_wp2_with (first | (refine wpList_storeH rfl _ _ rfl rfl w1201.heap.size (F) rfl rfl _ Hhn1205.out ?_; rw [Hhz1206.out]))
                rw [Hhb1204.out]
                have Hq5 := hide q5
                clear q5
                refine wp_region_quiet_lit (by kernel_rfl) (by kernel_rfl) ?_
                go_big_quiet_want
                refine quiet_value (fun w' hw' => run_load_part w' 23 _ rfl b1204 0 rfl 23 _ 32 32 _ (by obtain ⟨m, rfl⟩ := hw'; exact Hq5.out.drewN m) (by omega) Tryd.underlying23 rfl info26 (bv F) (fun i hi => by rw [Nat.zero_add])) ?_
                simp only [Act.put, List.setIfInBounds_toArray, List.set_cons_succ, List.set_cons_zero]
                go_big_quiet_on
                iterate 3 (go_big_quiet_step (fail))
                go_big_quiet_want
                refine quiet_value (fun w' hw' => run_load_at w' 23 _ rfl b10 (of10 + j * 32) (by rfl) (bv p) 32 _ (by obtain ⟨m, rfl⟩ := hw'; exact HA10.out) Tryd.underlying23 rfl info26) ?_
                simp only [Act.put, List.setIfInBounds_toArray, List.set_cons_succ, List.set_cons_zero]
                go_big_quiet_on
                iterate 5 (go_big_quiet_step (fail))
                refine wpQuiet_nil ?_
                intro _ hw'
                obtain ⟨nq, rfl⟩ := hw'
                have hbd := belowD (Below.refl w1203.heap.size w1203) nq
                have s9 := s9.below hbd
                have s10 := s10.below hbd
                have hGl := hGl.up hbd
                have kb := kb.trans (hbd.mono kb.size)
                generalize World.drewN _ nq = wz at s9 s10 hGl kb ⊢
                clear hbd HA10 Hq5
                go_wp2
                go_roundw
                case rel => exact ⟨j + 1, by omega, by go_num, s9, s10, hGl, kb⟩
                case measure => simp [intOf]; omega
              · have hjm2 : j = m := by omega
                subst hjm2
                have hd : decide ((j : Int) < (j : Int)) = false := decide_eq_false (by omega)
                have hd2 : decide (j < j) = false := decide_eq_false (by omega)
                clear s10
                have hji : (j : Int) < 128 := by omega
                go_wp2
                go_loopw [20] (fun v20 wr => ∃ i : Nat, i ≤ j + 5 ∧ j ≤ i ∧ v20 = .int .i64 (i : Int) ∧ Slots wr ad9 l ∧ Glob num wr ∧ Below w.heap.size w wr) (fun i _ => j + 5 - (intOf i).toNat)
                case atStart => exact ⟨j, by omega, Nat.le_refl _, rfl, s9, hGl, kb⟩
                case round =>
                  clear s9 hGl kb
                  obtain ⟨i, hi, hi2, rfl, s9, hGl, kb⟩ := hrel
                  by_cases him : i < j + 5
                  · have hd3 : decide ((i : Int) < (j : Int) + 5) = true := decide_eq_true (by omega)
                    have hk0 : (0 : Int) ≤ (i : Int) := by omega
                    have hi3 : (i : Int) < 1000 := by omega
                    have hg := HSI.out.later (by rw [Hm.out]; omega) (n := i) (by rw [Hm.out]; exact hi2) (by omega)
                    have G2 := G1.out (i : Int)
                    rw [hg] at G2
                    have G2 := hide G2
                    have hqz : ∀ w : World, (Op.equalIn 10000 23 (.agg (tabv (bv (fun _ => (0 : UInt8))) 32)) (.agg (tabv (fun _ => .int .u8 0) 32))).run Tryd.prog w = .ok true w := fun w => by have := eqHD 9998 w (fun _ => 0) (fun _ => 0); rw [eqH_refl] at this; exact this
                    rw [zero32] at hqz
                    have hgt := guard26
                    clear hg
                    go_wp2_with fail
                    refine (G2.out _ hGl s9).mono ?_
                    rintro e w1207 ⟨rfl, hb1208⟩
                    have s9 := s9.below hb1208
                    have hGl := hGl.up hb1208
                    have kb := kb.trans (hb1208.mono kb.size)
                    clear hb1208
                    have hn1211 := Has.new w1207 23 (fun _ => .int .u8 0) 32 _ rfl
                    rw [zero32] at hn1211
                    obtain ⟨b1210, hb1210⟩ : ∃ g, w1207.heap.size = g := ⟨_, rfl⟩
                    obtain ⟨w1209, hz1212⟩ : ∃ x, (w1207.alloc (.cells (tabv (fun _ => .int .u8 0) 32) 23)).setRow w1207.heap.size (tabv (bv (fun _ => (0 : UInt8))) 32) = x := ⟨_, rfl⟩
                    have hbx : Below w1207.heap.size w1207 w1209 := by rw [← hz1212]; exact below_setRow ((Below.refl _ _).alloc (Nat.le_refl _) _) (Nat.le_refl _) _
                    have s9 := s9.below hbx
                    have hGl := hGl.up hbx
                    have kb := kb.trans (hbx.mono kb.size)
                    have q6 : Has w1209 b1210 23 (bv (fun _ => (0 : UInt8))) 32 := by rw [zero32] at hz1212; rw [← hz1212, ← hb1210]; exact hn1211.row _ _ rfl
                    rw [zero32] at hz1212
                    have Hhn1211 := hide hn1211
                    have Hhz1212 := hide hz1212
                    have Hhb1210 := hide hb1210
                    clear hn1211 hz1212 hb1210 hbx
                    have Hq6 := hide q6
                    go_wp2_with (first | (refine wpList_storeH rfl _ _ rfl rfl w1207.heap.size ((fun _ => (0 : UInt8))) rfl rfl _ Hhn1211.out ?_; rw [Hhz1212.out]) | refine wpList_load_want (by rfl) 23 _ rfl b1210 0 rfl 23 _ 32 32 _ Hq6.out (by omega) Tryd.underlying23 rfl info26 ((bv (fun _ => (0 : UInt8)))) (fun i hi => by rw [Nat.zero_add]) ?_ | (rw [Hhb1210.out]; refine wpList_load_want (by rfl) 23 _ rfl b1210 0 rfl 23 _ 32 32 _ Hq6.out (by omega) Tryd.underlying23 rfl info26 ((bv (fun _ => (0 : UInt8)))) (fun i hi => by rw [Nat.zero_add]) ?_))
                    go_roundw
                    case rel => exact ⟨i + 1, by omega, by omega, by go_num, s9, hGl, kb⟩
                    case measure => simp [intOf]; omega
                  · have hd3 : decide ((i : Int) < (j : Int) + 5) = false := decide_eq_false (by omega)
                    go_wp2
                    go_ret
                    exact ⟨by simp, kb⟩
    · have hPe : P.length = K := by omega
      have hd : decide ((P.length : Int) < (K : Int)) = false := decide_eq_false (by omega)
      have hd2 : decide (P.length < K) = false := decide_eq_false hlt
      subst hPe
      obtain ⟨ad9, cap9, rfl, s9, -, -⟩ := o9.slots
      obtain ⟨ad10, cap10, rfl, s10⟩ := o10.slots
      clear o9 o10
      obtain ⟨n9, hn9⟩ : ∃ n, l.length = n := ⟨_, rfl⟩
      have G1 := fun x w => get_any ad9 n9 cap9 l hn9 x w
      rw [hn9]
      obtain ⟨m, hm⟩ : ∃ m, P.length = m := ⟨_, rfl⟩
      rw [hm] at hP128 ⊢
      have Hm := hide hm
      clear hm hn9
      have G1 := hide G1
      clear q0 q1
      go_wp2
      go_loopw [17] (fun v17 wr => ∃ j : Nat, j ≤ m ∧ v17 = .int .i64 (j : Int) ∧ Slots wr ad9 l ∧ Hashes wr ad10 P ∧ Glob num wr ∧ Below w.heap.size w wr) (fun i _ => m - (intOf i).toNat)
      case atStart => exact ⟨0, Nat.zero_le _, rfl, s9, s10, hGl, kb⟩
      case round =>
        clear s9 s10 hGl kb
        obtain ⟨j, hj, rfl, s9, s10, hGl, kb⟩ := hrel
        by_cases hjm : j < m
        · have hd : decide ((j : Int) < (m : Int)) = true := decide_eq_true (by omega)
          have hd2 : decide (j < m) = true := decide_eq_true hjm
          have hk0 : (0 : Int) ≤ (j : Int) := by omega
          have hk1 : (j : Int) < (m : Int) := by omega
          have hg := HSI.out.get (by rw [Hm.out]; exact hP128) (n := j) (by rw [Hm.out]; exact hjm)
          have G2 := hide (G1.out (j : Int))
          obtain ⟨X, hX⟩ : ∃ X, getA l (j : Int) = X := ⟨_, rfl⟩
          rw [hX] at hg G2
          obtain ⟨F, E⟩ := X
          obtain ⟨hE, hF⟩ := hg
          obtain rfl : E = 0 := hE
          obtain ⟨p, hp⟩ : ∃ p, P[j]? = some p := ⟨_, List.getElem?_eq_getElem (by rw [Hm.out]; exact hjm)⟩
          rw [List.getD_eq_getElem?_getD, hp] at hF
          have hF : eqH F p = true := hF
          have hqf : ∀ w : World, (Op.equalIn 10000 23 (.agg (tabv (bv F) 32)) (.agg (tabv (bv p) 32))).run Tryd.prog w = .ok true w := fun w => by rw [eqHD 9998 w F p, hF]
          have hgt := guard26
          have Hp := hide hp
          clear hF hX hp
          go_wp2_with fail
          refine (G2.out _ hGl s9).mono ?_
          rintro e w1301 ⟨rfl, hb1302⟩
          have s9 := s9.below hb1302
          have s10 := s10.below hb1302
          have hGl := hGl.up hb1302
          have kb := kb.trans (hb1302.mono kb.size)
          clear hb1302
          have hn1305 := Has.new w1301 23 (fun _ => .int .u8 0) 32 _ rfl
          rw [zero32] at hn1305
          obtain ⟨b1304, hb1304⟩ : ∃ g, w1301.heap.size = g := ⟨_, rfl⟩
          obtain ⟨w1303, hz1306⟩ : ∃ x, (w1301.alloc (.cells (tabv (fun _ => .int .u8 0) 32) 23)).setRow w1301.heap.size (tabv (bv F) 32) = x := ⟨_, rfl⟩
          have hbx : Below w1301.heap.size w1301 w1303 := by rw [← hz1306]; exact below_setRow ((Below.refl _ _).alloc (Nat.le_refl _) _) (Nat.le_refl _) _
          have s9 := s9.below hbx
          have s10 := s10.below hbx
          have hGl := hGl.up hbx
          have kb := kb.trans (hbx.mono kb.size)
          have q5 : Has w1303 b1304 23 (bv F) 32 := by rw [zero32] at hz1306; rw [← hz1306, ← hb1304]; exact hn1305.row _ _ rfl
          rw [zero32] at hz1306
          have Hhn1305 := hide hn1305
          have Hhz1306 := hide hz1306
          have Hhb1304 := hide hb1304
          clear hn1305 hz1306 hb1304 hbx
          obtain ⟨b10, of10, rfl, hb10, hA10⟩ := s10.get j _ Hp.out
          have HA10 := hide hA10
          clear hA10 hb10
          go_wp2_with (first | (refine wpList_storeH rfl _ _ rfl rfl w1301.heap.size (F) rfl rfl _ Hhn1305.out ?_; rw [Hhz1306.out]))
          rw [Hhb1304.out]
          have Hq5 := hide q5
          clear q5
          refine wp_region_quiet_lit (by kernel_rfl) (by kernel_rfl) ?_
          go_big_quiet_want
          refine quiet_value (fun w' hw' => run_load_part w' 23 _ rfl b1304 0 rfl 23 _ 32 32 _ (by obtain ⟨m, rfl⟩ := hw'; exact Hq5.out.drewN m) (by omega) Tryd.underlying23 rfl info26 (bv F) (fun i hi => by rw [Nat.zero_add])) ?_
          simp only [Act.put, List.setIfInBounds_toArray, List.set_cons_succ, List.set_cons_zero]
          go_big_quiet_on
          iterate 3 (go_big_quiet_step (fail))
          go_big_quiet_want
          refine quiet_value (fun w' hw' => run_load_at w' 23 _ rfl b10 (of10 + j * 32) (by rfl) (bv p) 32 _ (by obtain ⟨m, rfl⟩ := hw'; exact HA10.out) Tryd.underlying23 rfl info26) ?_
          simp only [Act.put, List.setIfInBounds_toArray, List.set_cons_succ, List.set_cons_zero]
          go_big_quiet_on
          iterate 5 (go_big_quiet_step (fail))
          refine wpQuiet_nil ?_
          intro _ hw'
          obtain ⟨nq, rfl⟩ := hw'
          have hbd := belowD (Below.refl w1303.heap.size w1303) nq
          have s9 := s9.below hbd
          have s10 := s10.below hbd
          have hGl := hGl.up hbd
          have kb := kb.trans (hbd.mono kb.size)
          generalize World.drewN _ nq = wz at s9 s10 hGl kb ⊢
          clear hbd HA10 Hq5
          go_wp2
          go_roundw
          case rel => exact ⟨j + 1, by omega, by go_num, s9, s10, hGl, kb⟩
          case measure => simp [intOf]; omega
        · have hjm2 : j = m := by omega
          subst hjm2
          have hd : decide ((j : Int) < (j : Int)) = false := decide_eq_false (by omega)
          have hd2 : decide (j < j) = false := decide_eq_false (by omega)
          clear s10
          have hji : (j : Int) < 128 := by omega
          go_wp2
          go_loopw [20] (fun v20 wr => ∃ i : Nat, i ≤ j + 5 ∧ j ≤ i ∧ v20 = .int .i64 (i : Int) ∧ Slots wr ad9 l ∧ Glob num wr ∧ Below w.heap.size w wr) (fun i _ => j + 5 - (intOf i).toNat)
          case atStart => exact ⟨j, by omega, Nat.le_refl _, rfl, s9, hGl, kb⟩
          case round =>
            clear s9 hGl kb
            obtain ⟨i, hi, hi2, rfl, s9, hGl, kb⟩ := hrel
            by_cases him : i < j + 5
            · have hd3 : decide ((i : Int) < (j : Int) + 5) = true := decide_eq_true (by omega)
              have hk0 : (0 : Int) ≤ (i : Int) := by omega
              have hi3 : (i : Int) < 1000 := by omega
              have hg := HSI.out.later (by rw [Hm.out]; omega) (n := i) (by rw [Hm.out]; exact hi2) (by omega)
              have G2 := G1.out (i : Int)
              rw [hg] at G2
              have G2 := hide G2
              have hqz : ∀ w : World, (Op.equalIn 10000 23 (.agg (tabv (bv (fun _ => (0 : UInt8))) 32)) (.agg (tabv (fun _ => .int .u8 0) 32))).run Tryd.prog w = .ok true w := fun w => by have := eqHD 9998 w (fun _ => 0) (fun _ => 0); rw [eqH_refl] at this; exact this
              rw [zero32] at hqz
              have hgt := guard26
              clear hg
              go_wp2_with fail
              refine (G2.out _ hGl s9).mono ?_
              rintro e w1307 ⟨rfl, hb1308⟩
              have s9 := s9.below hb1308
              have hGl := hGl.up hb1308
              have kb := kb.trans (hb1308.mono kb.size)
              clear hb1308
              have hn1311 := Has.new w1307 23 (fun _ => .int .u8 0) 32 _ rfl
              rw [zero32] at hn1311
              obtain ⟨b1310, hb1310⟩ : ∃ g, w1307.heap.size = g := ⟨_, rfl⟩
              obtain ⟨w1309, hz1312⟩ : ∃ x, (w1307.alloc (.cells (tabv (fun _ => .int .u8 0) 32) 23)).setRow w1307.heap.size (tabv (bv (fun _ => (0 : UInt8))) 32) = x := ⟨_, rfl⟩
              have hbx : Below w1307.heap.size w1307 w1309 := by rw [← hz1312]; exact below_setRow ((Below.refl _ _).alloc (Nat.le_refl _) _) (Nat.le_refl _) _
              have s9 := s9.below hbx
              have hGl := hGl.up hbx
              have kb := kb.trans (hbx.mono kb.size)
              have q6 : Has w1309 b1310 23 (bv (fun _ => (0 : UInt8))) 32 := by rw [zero32] at hz1312; rw [← hz1312, ← hb1310]; exact hn1311.row _ _ rfl
              rw [zero32] at hz1312
              have Hhn1311 := hide hn1311
              have Hhz1312 := hide hz1312
              have Hhb1310 := hide hb1310
              clear hn1311 hz1312 hb1310 hbx
              have Hq6 := hide q6
              go_wp2_with (first | (refine wpList_storeH rfl _ _ rfl rfl w1307.heap.size ((fun _ => (0 : UInt8))) rfl rfl _ Hhn1311.out ?_; rw [Hhz1312.out]) | refine wpList_load_want (by rfl) 23 _ rfl b1310 0 rfl 23 _ 32 32 _ Hq6.out (by omega) Tryd.underlying23 rfl info26 ((bv (fun _ => (0 : UInt8)))) (fun i hi => by rw [Nat.zero_add]) ?_ | (rw [Hhb1310.out]; refine wpList_load_want (by rfl) 23 _ rfl b1310 0 rfl 23 _ 32 32 _ Hq6.out (by omega) Tryd.underlying23 rfl info26 ((bv (fun _ => (0 : UInt8)))) (fun i hi => by rw [Nat.zero_add]) ?_))
              go_roundw
              case rel => exact ⟨i + 1, by omega, by omega, by go_num, s9, hGl, kb⟩
              case measure => simp [intOf]; omega
            · have hd3 : decide ((i : Int) < (j : Int) + 5) = false := decide_eq_false (by omega)
              go_wp2
              go_ret
              exact ⟨by simp, kb⟩
end Go.Proofs.YtocojkafdgmgdaaDoor
