/-
  ScriptApart: the walk.
-/
import Derived.Test.YtepgoehpjafbhaaGreatDoorSAe
namespace Go.Proofs.YtepgoehpjafbhaaGreatDoor
open Go.RowKit S
set_option linter.unusedVariables false
set_option linter.unusedSimpArgs false
theorem wpList_slice2 {P : Program} {ops : Array Oper} {rest : List Oper} {o : Oper} {a : Act} {w w' : World} {Q : Exit → Act → World → Prop} {v : Value} (hg : o.guard = none) (T : TypeId) (x1 x2 : Operand) (ho : o.op = .buildSlice T 2 #[(0, x1), (1, x2)]) (y1 y2 : Value) (hy1 : a.eval x1 = y1) (hy2 : a.eval x2 = y2) (h : (Instr.buildSlice T 2 #[(0, y1), (1, y2)]).run P w = .ok v w') (k : wpList P ops Q rest (a.put o.dst v) w') : wpList P ops Q (o :: rest) a w :=
  wpList_plain hg fun K hK => wpRun (by simp [execOp, ho, hy1, hy2, h, Result.andThen]) (hK _ _ k)
set_option maxRecDepth 100000 in
set_option maxHeartbeats 40000000 in
theorem apart_walk {F : Int → List UInt8} (n0 : Int) (x : ByteArray) (w : World) (hE : EnvW False w.heap.size F w) (hS : Sm F) (hn : -9223372036854775808 ≤ n0 ∧ n0 ≤ 9223372036854775807) (hx : x.size ≤ 140737488351232) :
    Calls Tryz.prog 5 #[.int .i64 n0, .string x] w fun e w' => e = .returned (.bool true) ∧ Below w.heap.size w w' := by
  have p0 := lhead_any w hE hS (Nat.le_refl _)
  have HE := hide hE
  have HS := hide hS
  clear hE hS
  go_enter Tryz.func5, Tryz.ntmps5
  go_wp2_with fail
  refine p0.mono ?_
  rintro e w1 ⟨rfl, b1⟩
  have HB1 := hide b1
  have hs1 := b1.size
  clear p0 b1
  go_upto_if 28 with fail
  go_cut [1] (fun s1 wx => ∃ t : List UInt8, t.length ≤ 60 ∧ s1 = .string (bs t) ∧ wx = w1)
  case first =>
    as_aux_lemma =>
      by_cases hg : (60 : Int) < (x.size : Int)
      · have hd : decide ((60 : Int) < (x.size : Int)) = true := decide_eq_true hg
        have hz : (x.data.toList.take 60).length ≤ 60 := by rw [List.length_take]; omega
        have hxe : x.extract 0 60 = bs (x.data.toList.take 60) := by have h := bs_extract x.data.toList 0 60; rw [List.drop_zero] at h; exact h
        go_wp2
        go_meet
        exact ⟨_, hz, by rw [← hxe], rfl⟩
      · have hd : decide ((60 : Int) < (x.size : Int)) = false := decide_eq_false hg
        go_wp2
        go_meet
        exact ⟨x.data.toList, by have : x.size = x.data.toList.length := rfl; omega, rfl, rfl⟩
  case rest =>
  obtain ⟨t, ht, rfl, hwc⟩ := hcut
  obtain rfl := hwc.symm
  clear hx
  obtain ⟨R, hR⟩ : ∃ R, n0.tmod 5 = R := ⟨_, rfl⟩
  have hR1 : R < 5 := by rw [← hR]; exact Int.tmod_lt_of_pos _ (by omega)
  have hR2 : -5 < R := by rw [← hR]; exact Int.lt_tmod_of_pos _ (by omega)
  go_upto_if 34 with fail
  go_cut [5] (fun s5 wx => ∃ m : Nat, m ≤ 4 ∧ s5 = .int .i64 m ∧ wx = w1)
  case first =>
    as_aux_lemma =>
      by_cases hRn : R < 0
      · have hdn : decide (R < 0) = true := decide_eq_true hRn
        go_wp2
        go_meet
        exact ⟨(-R).toNat, by omega, by congr 1; omega, rfl⟩
      · have hdn : decide (R < 0) = false := decide_eq_false hRn
        go_wp2
        go_meet
        exact ⟨R.toNat, by omega, by congr 1; omega, rfl⟩
  case rest =>
  obtain ⟨m, hm, rfl, hwc2⟩ := hcut
  obtain rfl := hwc2.symm
  clear hR hR1 hR2 R
  obtain ⟨T, hT⟩ : ∃ T, bs t = T := ⟨_, rfl⟩
  rw [hT]
  go_wp2
  go_loopw [6, 7] (fun v6 v7 wr => ∃ i : Nat, i ≤ m + 1 ∧ v7 = .int .i64 i ∧ OwnF w.heap.size wr v6 (ftsA t 0 i) ∧ Below w.heap.size w wr ∧ w.heap.size ≤ wr.heap.size) (fun _ v7 _ => m + 1 - (Lib.intOf v7).toNat)
  case atStart => exact ⟨0, by omega, rfl, OwnF.nil _ _, HB1.out, hs1⟩
  case round =>
    obtain ⟨i, hi, rfl, hO, hbr, hsr⟩ := hrel
    have HO := hide hO
    have HBr := hide hbr
    clear hO hbr
    by_cases hlt : i ≤ m
    · have hd : decide ((i : Int) ≤ (m : Int)) = true := decide_eq_true (by omega)
      have hl := ftsA_len t i 0
      obtain ⟨v', wa, wb, e1, e2, hO2, hk2, b2, hv2, _⟩ := appF_at wr w.heap.size _ (ftsA t 0 i) (ftA t i) HO.out (ftok_A t i ht (by omega)).2 (by rw [hl]; omega) hsr
      have hC1 : tabv (ftA t i) 4 = #[.string T, .int .i64 (i : Int), .int .i64 2, .string T] := by rw [← hT]; rfl
      rw [hC1] at e1
      have HO2 : Hid (OwnF w.heap.size wb v' (ftsA t 0 (i + 1))) := hide (by have e := ftsA_push t i 0; rw [Nat.zero_add] at e; rw [e]; exact hO2)
      have HB2 : Hid (Below w.heap.size w wb) := hide (HBr.out.trans b2)
      have hs2 : w.heap.size ≤ wb.heap.size := by have := b2.size; omega
      have E1 := hide e1
      have E2 := hide e2
      have hbF := builtAf T (i : Int)
      have HBF := hide hbF
      clear hl hO2 hk2 b2 hv2 hC1 e1 e2 hbF
      go_wp2_with (first
        | refine wpW_build (by rfl) 49 _ rfl [(0, .string T), (1, .int .i64 (i : Int)), (2, .int .i64 2), (3, .string T)] (by first | rfl | (simp [Act.eval, Act.put]; done)) _ HBF.out ?_
        | refine wpList_slice1 rfl 31 _ rfl (.agg #[.string T, .int .i64 (i : Int), .int .i64 2, .string T]) (by rfl) E1.out ?_
        | (at_builtin; refine wpList_app rfl _ _ _ rfl E2.out ?_)
        | fail)
      refine ⟨⟨i + 1, by omega, by go_num, HO2.out, HB2.out, hs2⟩, ?_⟩
      simp [Lib.intOf]; omega
    · have hd : decide ((i : Int) ≤ (m : Int)) = false := decide_eq_false (by omega)
      obtain rfl : i = m + 1 := by omega
      have hl := ftsA_len t (m + 1) 0
      obtain ⟨adf, cf, hv6, hsh⟩ := HO.out.shape
      rcases hsh with h | ⟨kf, rfl, hkf, hkf2, hAf⟩
      · rw [h] at hl; cases hl
      rw [hl] at hv6
      subst hv6
      have HAf := hide hAf
      clear hAf hl
      obtain ⟨w2, hw2⟩ : ∃ z, wr.alloc (.cells #[.int .i64 0, .int .i64 0, .int .i64 0, .int .i64 0, .int .u8 0, .int .u8 0, .int .u8 0, .int .u8 0, .int .u8 0, .int .u8 0, .int .u8 0, .int .u8 0, .int .u8 0, .int .u8 0, .int .u8 0, .int .u8 0, .int .u8 0, .int .u8 0, .int .u8 0, .int .u8 0, .int .u8 0, .int .u8 0, .int .u8 0, .int .u8 0, .int .u8 0, .int .u8 0, .int .u8 0, .int .u8 0, .int .u8 0, .int .u8 0, .int .u8 0, .int .u8 0, .int .u8 0, .int .u8 0, .int .u8 0, .int .u8 0, .string ⟨#[]⟩, .string ⟨#[]⟩, .slice none 0 0] 33) = z := ⟨_, rfl⟩
      have b2 : Below wr.heap.size wr w2 := by rw [← hw2]; exact (Below.refl _ wr).alloc (Nat.le_refl _) _
      have s2 : w2.heap.size = wr.heap.size + 1 := by rw [← hw2, size_alloc]
      have hN2 : Has w2 wr.heap.size 33 zS 39 := by rw [← hw2]; exact Has.new wr _ _ 39 _ rfl
      have HbS := hide (builtAs kf (m + 1) cf)
      have HP : Hid (One 39 (stA (slV kf (m + 1) cf))) := hide (fun j hj => ((pz_S 0 (by omega)).one.upd 173 (slV kf (m + 1) cf) rfl) (135 + j) (by omega))
      have HW2 := hide hw2
      have HN2 := hide hN2
      have hN3 := hN2.row (tabv (stA (slV kf (m + 1) cf)) 39) _ rfl
      have b3 : Below wr.heap.size wr (w2.setRow wr.heap.size (tabv (stA (slV kf (m + 1) cf)) 39)) := below_setRow b2 (Nat.le_refl _) _
      have s3 : (w2.setRow wr.heap.size (tabv (stA (slV kf (m + 1) cf)) 39)).heap.size = wr.heap.size + 1 := by rw [← s2]; simp [World.setRow]
      have HN3 := hide hN3
      have HB3 := hide b3
      have HS3 := hide s3
      clear hw2 b2 s2 hN2 hN3 b3 s3
      go_upto_region 14 with (first
        | rw [HW2.out]
        | refine wpW_build (by rfl) 33 _ rfl [(0, .int .i64 12), (3, .int .i64 3), (7, slV kf (m + 1) cf)] (by first | rfl | (simp [Act.eval, Act.put]; done)) _ HbS.out ?_
        | refine wpList_store_part rfl 33 _ _ rfl rfl wr.heap.size 0 (stA (slV kf (m + 1) cf)) 39 (by rfl) (by rfl) 33 zS 39 HN2.out (by omega) infoS HP.out (stA (slV kf (m + 1) cf)) (fun i hi => by unfold splice; rw [if_pos (by omega), Nat.sub_zero]) ?_
        | fail)
      generalize hw3 : World.setRow w2 wr.heap.size (tabv (stA (slV kf (m + 1) cf)) 39) = w3 at HN3 HB3 HS3 ⊢
      have hs3 := HS3.out
      have hs3w : w.heap.size ≤ w3.heap.size := by omega
      have HBw3 : Hid (Below w.heap.size w w3) := hide (HBr.out.trans (HB3.out.mono hsr))
      have hFZ : FsZ w3 (some ⟨kf, 0, none⟩) (ftsA t 0 (m + 1)) := ⟨ftsA_ok t ht (m + 1) (by omega), .inr ⟨kf, rfl, by omega, fun i g hg => (HAf.out i g hg).blk (HB3.out.block kf hkf2)⟩⟩
      have HFZ3 := hide hFZ
      clear hFZ HBr HO HAf HN2 HW2 HbS HP
      obtain ⟨D2, hD2⟩ : ∃ d, tabv (stA (slV kf (m + 1) cf)) 39 = d := ⟨_, rfl⟩
      obtain ⟨D3, hD3⟩ : ∃ d, tabv (mvA (slV kf (m + 1) cf) 0) 41 = d := ⟨_, rfl⟩
      obtain ⟨D4, hD4⟩ : ∃ d, tabv (mvA (slV kf (m + 1) cf) 1) 41 = d := ⟨_, rfl⟩
      obtain ⟨D5, hD5⟩ : ∃ d, tabv (cmA (slV kf (m + 1) cf) 0) 176 = d := ⟨_, rfl⟩
      obtain ⟨D6, hD6⟩ : ∃ d, tabv (cmA (slV kf (m + 1) cf) 1) 176 = d := ⟨_, rfl⟩
      have g3 := builtAm0 kf (m + 1) cf
      have g4 := builtAm1 kf (m + 1) cf
      have g5 := builtAc0 kf (m + 1) cf
      have g6 := builtAc1 kf (m + 1) cf
      rw [hD2, hD3] at g3
      rw [hD2, hD4] at g4
      rw [hD3, hD5] at g5
      rw [hD4, hD6] at g6
      have G3 := hide g3
      have G4 := hide g4
      have G5 := hide g5
      have G6 := hide g6
      have e4 := run_sliceC2 w3 (cmA (slV kf (m + 1) cf) 0) (cmA (slV kf (m + 1) cf) 1)
      obtain ⟨q0, q1⟩ := two_at w3 (cmA (slV kf (m + 1) cf) 0) (cmA (slV kf (m + 1) cf) 1) 40
      obtain ⟨w4, hw4⟩ : ∃ z, w3.alloc (.cells (tabv (cmA (slV kf (m + 1) cf) 0) 176 ++ tabv (cmA (slV kf (m + 1) cf) 1) 176) 40) = z := ⟨_, rfl⟩
      have b4 : Below w3.heap.size w3 w4 := by rw [← hw4]; exact (Below.refl _ w3).alloc (Nat.le_refl _) _
      have s4 : w4.heap.size = w3.heap.size + 1 := by rw [← hw4, size_alloc]
      rw [hw4] at e4 q0 q1
      rw [hD5, hD6] at e4
      have E4 := hide e4
      have hl0 := ftsA_len t (m + 1) 0
      have hFZ4 := HFZ3.out.below b4
      have HCZ4 : Hid (CsZ w4 w3.heap.size (fun _ => slV kf (m + 1) cf) (csX t (m + 1))) := hide ⟨by omega, fun i c hc => by
        match i, hc with
        | 0, hc => cases hc; exact ⟨by rw [Nat.zero_mul]; exact q0, rfl, some ⟨kf, 0, none⟩, cf, by rw [hl0], hFZ4⟩
        | 1, hc => cases hc; exact ⟨by rw [Nat.one_mul]; exact q1, rfl, some ⟨kf, 0, none⟩, cf, by rw [hl0], hFZ4⟩⟩
      have HB4 : Hid (Below w.heap.size w w4) := hide (HBw3.out.trans (b4.mono hs3w))
      have HE4 : Hid (EnvW False w.heap.size F w4) := hide (HE.out.below HB4.out)
      have hFI : FsIn w4 (some ⟨kf, 0, none⟩) (ftsA t 0 (m + 1)) := ⟨hFZ4.1, hFZ4.2.imp id fun ⟨k, h1, h2, h3⟩ => ⟨k, 0, h1, h2, fun i g hg => by rw [Nat.zero_add]; exact h3 i g hg⟩⟩
      have hCI : CsIn w4 (some ⟨w3.heap.size, 0, none⟩) (cmdsX t (m + 1) (slV kf (m + 1) cf)) := ⟨fun i c hc => by
        match i, hc with
        | 0, hc => cases hc; exact ⟨(pz_S 0 (by omega)).ok.upd173 _, (pz_S 0 (by omega)).one.upd _ _ rfl, by show (ftsA t 0 (m + 1)).length ≤ _; rw [hl0]; omega, some ⟨kf, 0, none⟩, cf, by show slV kf (m + 1) cf = .slice _ (ftsA t 0 (m + 1)).length _; rw [hl0], hFI⟩
        | 1, hc => cases hc; exact ⟨(pz_S 1 (by omega)).ok.upd173 _, (pz_S 1 (by omega)).one.upd _ _ rfl, by show (ftsA t 0 (m + 1)).length ≤ _; rw [hl0]; omega, some ⟨kf, 0, none⟩, cf, by show slV kf (m + 1) cf = .slice _ (ftsA t 0 (m + 1)).length _; rw [hl0], hFI⟩, .inr ⟨w3.heap.size, 0, rfl, by omega, fun i c hc => by
        match i, hc with
        | 0, hc => cases hc; exact q0
        | 1, hc => cases hc; exact q1⟩⟩
      have p2 := print_any (some ⟨w3.heap.size, 0, none⟩) 2 (cmdsX t (m + 1) (slV kf (m + 1) cf)) w4 HE4.out (by omega) hCI (by show 2 ≤ _; omega)
      rw [print_X HS.out t ht (m + 1) (by omega)] at p2
      obtain ⟨TX, hTX⟩ : ∃ z, bs (textX F t (m + 1)) = z := ⟨_, rfl⟩
      have p2' : Calls Tryz.prog 12 #[slV w3.heap.size 2 2] w4 fun e w' => e = .returned (.tuple #[.string TX, .int .i64 0]) ∧ Below w4.heap.size w4 w' := p2.mono fun e w' ⟨h1, _, h3⟩ => ⟨by rw [h1, ← hTX], h3⟩
      clear p2 hCI hFI hFZ4 q0 q1 hw4 e4 g3 g4 g5 g6 HFZ3
      have HB5p := hide (show w.heap.size ≤ w4.heap.size by omega)
      have HS4 := hide s4
      clear hs3 s4
      have HA3 := hide HN3.out.at0
      have HD2 := hide hD2
      clear hD2 hD3 hD4 hD5 hD6
      go_wp2_with (first
        | (refine wpW_load_at 33 _ rfl wr.heap.size 0 (by rfl) (by rfl) _ 39 _ HA3.out Tryz.underlying33 rfl infoS ?_; rw [HD2.out])
        | refine wpW_build (by rfl) 35 #[(0, Operand.const (Value.int .i64 1)), (2, Operand.tmp 51)] rfl [(0, .int .i64 1), (2, .agg D2)] (by first | rfl | (simp [Act.eval, Act.put]; done)) _ G3.out ?_
        | refine wpW_build (by rfl) 40 #[(0, Operand.const (Value.int .i64 2)), (2, Operand.tmp 52)] rfl [(0, .int .i64 2), (2, .agg D3)] (by first | rfl | (simp [Act.eval, Act.put]; done)) _ G5.out ?_
        | refine wpW_build (by rfl) 35 #[(0, Operand.const (Value.int .i64 1)), (1, Operand.const (Value.int .i64 1)), (2, Operand.tmp 54)] rfl [(0, .int .i64 1), (1, .int .i64 1), (2, .agg D2)] (by first | rfl | (simp [Act.eval, Act.put]; done)) _ G4.out ?_
        | refine wpW_build (by rfl) 40 #[(0, Operand.const (Value.int .i64 2)), (2, Operand.tmp 55)] rfl [(0, .int .i64 2), (2, .agg D4)] (by first | rfl | (simp [Act.eval, Act.put]; done)) _ G6.out ?_
        | refine wpList_slice2 rfl 25 _ _ rfl (.agg D5) (.agg D6) (by rfl) (by rfl) E4.out ?_
        | fail)
      refine p2'.mono ?_
      rintro e w5 ⟨rfl, b5⟩
      have HB5 : Hid (Below w.heap.size w w5) := hide (HB4.out.trans (b5.mono HB5p.out))
      have hs5 : w.heap.size ≤ w5.heap.size := HB5.out.size
      have HCZ5 := hide (HCZ4.out.below b5)
      have hl5 : w3.heap.size + 1 ≤ w5.heap.size := by have := b5.size; have := HS4.out; omega
      have HE5 : Hid (EnvW False w.heap.size F w5) := hide (HE.out.below HB5.out)
      clear p2' b5 G3 G4 G5 G6 E4 HCZ4 HA3 HD2 HE4
      have p3 := parse_all (textX F t (m + 1)) w5 HE5.out.env hs5 (by have := textX_len HS.out t ht (m + 1) (by omega); omega) (.inr (textT_X HS.out t m (by omega)))
      rw [parse_X HS.out t ht m (by omega), hTX] at p3
      have p3' : Calls Tryz.prog 11 #[.string TX] w5 fun e w' => ∃ ad n cap gs, e = .returned (.tuple #[.slice ad n cap, .int .i64 0]) ∧ Cmds w5.heap.size w' (.slice ad n cap) gs (csX t (m + 1)) ∧ Below w5.heap.size w5 w' := p3
      clear p3
      go_wp2_with fail
      refine p3'.mono ?_
      rintro e w6 ⟨ad6, n6, cap6, gs6, rfl, hC6, b6⟩
      obtain ⟨ka, ca, x0, cx0, x1, cx1, ga0, ga1, hv6a, tw6⟩ := hC6.two
      cases hv6a
      have HB6 : Hid (Below w.heap.size w w6) := hide (HB5.out.trans (b6.mono hs5))
      have HB56 := hide b6
      have hs6 : w5.heap.size ≤ w6.heap.size := b6.size
      have HE6 : Hid (EnvW False w.heap.size F w6) := hide (HE.out.below HB6.out)
      have T6 := hide tw6
      clear p3' b6 hC6 tw6
      have p4 := parse_all (textX F t (m + 1)) w6 HE6.out.env (by omega) (by have := textX_len HS.out t ht (m + 1) (by omega); omega) (.inr (textT_X HS.out t m (by omega)))
      rw [parse_X HS.out t ht m (by omega), hTX] at p4
      have p4' : Calls Tryz.prog 11 #[.string TX] w6 fun e w' => ∃ ad n cap gs, e = .returned (.tuple #[.slice ad n cap, .int .i64 0]) ∧ Cmds w6.heap.size w' (.slice ad n cap) gs (csX t (m + 1)) ∧ Below w6.heap.size w6 w' := p4
      clear p4
      go_wp2_with fail
      refine p4'.mono ?_
      rintro e w7 ⟨ad7, n7, cap7, gs7, rfl, hC7, b7⟩
      obtain ⟨kb, cb, y0, cy0, y1, cy1, gb0, gb1, hv7b, tw7⟩ := hC7.two
      cases hv7b
      have HB7 : Hid (Below w.heap.size w w7) := hide (HB6.out.trans (b7.mono (by omega)))
      have HB67 := hide b7
      have hs7 : w6.heap.size ≤ w7.heap.size := b7.size
      have U7 := hide tw7
      have hka := T6.out.oc.lt ka rfl
      have hxa := T6.out.ox.lt x0 rfl
      have hya := T6.out.oy.lt x1 rfl
      have T7 : Hid (Tw t (m + 1) w5.heap.size w7 ka cap6 x0 cx0 x1 cx1 ga0 ga1) := hide (T6.out.same (b7.block ka hka.2) (b7.block x0 hxa.2) (b7.block x1 hya.2))
      have HCZ7 := hide (HCZ5.out.below (HB56.out.trans (b7.mono hs6)))
      have ZA : Hid (CsZ w7 ka (fun i => if i = 0 then slV x0 (m + 1) cx0 else slV x1 (m + 1) cx1) (csX t (m + 1))) := hide (Tw.csz ht hm T7.out.e0 T7.out.e1 (by omega) (by omega) (by omega) (T7.out.oc.at_ (by simp)).2.2 (T7.out.ox.at_ (fts_ne t m)).2.2 (T7.out.oy.at_ (fts_ne t m)).2.2)
      clear p4' b7 hC7 tw7
      have HKA := hide hka
      have HXA := hide hxa
      have HYA := hide hya
      clear hka hxa hya
      have c1 : Calls Tryz.prog 14 #[slV ka 2 cap6, slV w3.heap.size 2 2] w7 fun e w' => e = .returned (.bool true) ∧ Below w7.heap.size w7 w' := same_yes ka w3.heap.size _ _ cap6 2 (csX t (m + 1)) w7 (csX_pz t (m + 1) (by omega)) ZA.out HCZ7.out (by show 2 ≤ _; omega)
      go_wp2_with fail
      refine c1.mono ?_
      rintro e w8 ⟨rfl, b8⟩
      have HB78 := hide b8
      have hs8 : w7.heap.size ≤ w8.heap.size := b8.size
      have hkb := U7.out.oc.lt kb rfl
      have hxb := U7.out.ox.lt y0 rfl
      have hyb := U7.out.oy.lt y1 rfl
      have HKB := hide hkb
      have HXB := hide hxb
      have HYB := hide hyb
      have U8 : Hid (Tw t (m + 1) w6.heap.size w8 kb cap7 y0 cy0 y1 cy1 gb0 gb1) := hide (U7.out.same (b8.block kb hkb.2) (b8.block y0 hxb.2) (b8.block y1 hyb.2))
      have HCZ8 := hide (HCZ7.out.below b8)
      have ZB : Hid (CsZ w8 kb (fun i => if i = 0 then slV y0 (m + 1) cy0 else slV y1 (m + 1) cy1) (csX t (m + 1))) := hide (Tw.csz ht hm U8.out.e0 U8.out.e1 (by omega) (by omega) (by omega) (U8.out.oc.at_ (by simp)).2.2 (U8.out.ox.at_ (fts_ne t m)).2.2 (U8.out.oy.at_ (fts_ne t m)).2.2)
      clear c1 b8 hkb hxb hyb
      have c2 : Calls Tryz.prog 14 #[slV kb 2 cap7, slV w3.heap.size 2 2] w8 fun e w' => e = .returned (.bool true) ∧ Below w8.heap.size w8 w' := same_yes kb w3.heap.size _ _ cap7 2 (csX t (m + 1)) w8 (csX_pz t (m + 1) (by omega)) ZB.out HCZ8.out (by show 2 ≤ _; omega)
      go_wp2_with fail
      refine c2.mono ?_
      rintro e w9 ⟨rfl, b9⟩
      have HB79 : Hid (Below w7.heap.size w7 w9) := hide (HB78.out.trans (b9.mono hs8))
      have hs9 : w7.heap.size ≤ w9.heap.size := HB79.out.size
      clear c2 b9
      have T9 : Hid (Tw t (m + 1) w5.heap.size w9 ka cap6 x0 cx0 x1 cx1 ga0 ga1) := hide (T7.out.same (HB79.out.block ka (by have := HKA.out.2; omega)) (HB79.out.block x0 (by have := HXA.out.2; omega)) (HB79.out.block x1 (by have := HYA.out.2; omega)))
      obtain ⟨fx, hHx, hlx, hcm, hbx, hb0, hfx⟩ := T9.out.ox.has
      have A0 := hide ((T9.out.oc.at_ (by simp)).2.2 0 ga0 rfl)
      have G173 : ga0 173 = slV x0 (m + 1) cx0 := by rw [T9.out.e0 173 (by omega)]; rfl
      have HG := hide G173
      have HFx := hide hfx
      have hka9 : ka < w9.heap.size := (T9.out.oc.lt ka rfl).2
      have hkx := T9.out.kx
      have HHx := hide hHx
      clear G173 hfx hHx
      go_wp2
      go_loopw [16] (fun v wx => ∃ i : Nat, i ≤ m + 1 ∧ v = .int .i64 i ∧ Kp x0 x0 w9 wx ∧ Has wx x0 49 (fun j => if j < i * 4 then ftW [111, 110, 101] (j % 4) else fx j) (cx0 * 4)) (fun v _ => m + 1 - (Lib.intOf v).toNat)
      case atStart => exact ⟨0, by omega, rfl, Kp.refl _ _ _, HHx.out.congr _ fun j hj => by rw [if_neg (by omega)]⟩
      case round =>
        obtain ⟨i, hi2, rfl, hK, hH⟩ := hrel
        have HK := hide hK
        have HH := hide hH
        clear hK hH
        by_cases hlt2 : i ≤ m
        · have hd2 : decide ((i : Int) ≤ (m : Int)) = true := decide_eq_true (by omega)
          have c173 : wr.cell? ⟨ka, 173, none⟩ = some (slV x0 (m + 1) cx0) := by
            have q := (A0.out.blk (HK.out.block ka hka9 hkx hkx)) 173 (by omega)
            rw [HG.out, Nat.zero_mul, Nat.zero_add] at q
            exact q
          have HbW : Hid (Tryz.prog.built 49 [(0, .string { data := #[111, 110, 101] })] = some (tabv (ftW [111, 110, 101]) 4)) := hide (builtW _)
          have Hone := hide (one_ftW [111, 110, 101])
          have Hco : Hid (∀ q, q < cx0 * 4 → splice (fun j => if j < i * 4 then ftW [111, 110, 101] (j % 4) else fx j) (i * 4) (ftW [111, 110, 101]) 4 q = (fun j => if j < (i + 1) * 4 then ftW [111, 110, 101] (j % 4) else fx j) q) := hide (fun q hq => by
            unfold splice
            by_cases h1 : i * 4 ≤ q ∧ q < i * 4 + 4
            · rw [if_pos (by omega)]
              show _ = if q < (i + 1) * 4 then _ else _
              rw [if_pos (by omega), show q - i * 4 = q % 4 by omega]
            · rw [if_neg (by omega)]
              show (if q < i * 4 then _ else _) = if q < (i + 1) * 4 then _ else _
              by_cases h2 : q < i * 4
              · rw [if_pos h2, if_pos (by omega)]
              · rw [if_neg h2, if_neg (by omega)])
          have HK2 : Hid (Kp x0 x0 w9 (wr.setRow x0 (tabv (fun j => if j < (i + 1) * 4 then ftW [111, 110, 101] (j % 4) else fx j) (cx0 * 4)))) := hide (HK.out.trans ⟨rfl, rfl, rfl, by simp [World.setRow], fun q hq h1 _ => setRow_other wr x0 q _ h1⟩)
          have HH2 := hide (HH.out.row (tabv (fun j => if j < (i + 1) * 4 then ftW [111, 110, 101] (j % 4) else fx j) (cx0 * 4)) (fun j => if j < (i + 1) * 4 then ftW [111, 110, 101] (j % 4) else fx j) rfl)
          go_wp2_with (first
            | refine wpW_build (by rfl) 49 _ rfl [(0, .string { data := #[111, 110, 101] })] (by first | rfl | (simp [Act.eval, Act.put]; done)) _ HbW.out ?_
            | refine wpList_store_part rfl 49 _ _ rfl rfl x0 (i * 4) (ftW [111, 110, 101]) 4 (by rfl) (by rfl) 49 (fun j => if j < i * 4 then ftW [111, 110, 101] (j % 4) else fx j) (cx0 * 4) HH.out (by omega) infoF Hone.out (fun j => if j < (i + 1) * 4 then ftW [111, 110, 101] (j % 4) else fx j) Hco.out ?_
            | fail)
          refine ⟨⟨i + 1, by omega, by go_num, HK2.out, HH2.out⟩, ?_⟩
          simp [Lib.intOf]; omega
        · have hd2 : decide ((i : Int) ≤ (m : Int)) = false := decide_eq_false (by omega)
          obtain rfl : i = m + 1 := by omega
          have hsr9 : w9.heap.size ≤ wr.heap.size := HK.out.size
          have hx0l := T9.out.ox.lt x0 rfl
          have hx1l := T9.out.oy.lt x1 rfl
          have hxy9 := T9.out.xy
          have hky9 := T9.out.ky
          have hoc : OwnC w5.heap.size wr (slV ka 2 cap6) [ga0, ga1] := T9.out.oc.same fun q e => by cases e; exact HK.out.block ka hka9 hkx hkx
          have hox : OwnF w5.heap.size wr (slV x0 (m + 1) cx0) (List.replicate (m + 1) (ftW [111, 110, 101])) := by
            have e := OwnF.of_has (B := w5.heap.size) (l := List.replicate (m + 1) (ftW [111, 110, 101])) HH.out (by rw [List.length_replicate]; exact hcm) hbx hb0 (fun i g hg j hj => by
              have hi := (List.getElem?_eq_some_iff.1 hg).1
              rw [List.length_replicate] at hi
              rw [List.getElem?_replicate_of_lt hi] at hg
              cases hg
              show (if i * 4 + j < (m + 1) * 4 then _ else _) = _
              rw [if_pos (by omega), show (i * 4 + j) % 4 = j by omega])
            rw [List.length_replicate] at e
            exact e
          have hoy : OwnF w5.heap.size wr (slV x1 (m + 1) cx1) (ftsA t 0 (m + 1)) := T9.out.oy.same fun q e => by cases e; exact HK.out.block x1 hx1l.2 (fun e => hxy9 e.symm) (fun e => hxy9 e.symm)
          have hkb6 := HKB.out
          have hxb6 := HXB.out
          have hyb6 := HYB.out
          have hxa6 := HXA.out
          have hya6 := HYA.out
          have hka6 := HKA.out
          have hU9 := U7.out.same (HB79.out.block kb hkb6.2) (HB79.out.block y0 hxb6.2) (HB79.out.block y1 hyb6.2)
          have hUr : Tw t (m + 1) w6.heap.size wr kb cap7 y0 cy0 y1 cy1 gb0 gb1 := hU9.same (HK.out.block kb (by omega) (by omega) (by omega)) (HK.out.block y0 (by omega) (by omega) (by omega)) (HK.out.block y1 (by omega) (by omega) (by omega))
          have hL5 := HCZ5.out.cw
          have hL9 := (HCZ7.out.cw).below HB79.out
          have hLr : Cw t m wr w3.heap.size kf cf kf cf (cmA (slV kf (m + 1) cf) 0) (cmA (slV kf (m + 1) cf) 1) := hL9.same hsr9 (HK.out.block _ hL9.hk (by omega) (by omega)) (HK.out.block _ hL9.hx (by have := hL5.hx; omega) (by have := hL5.hx; omega)) (HK.out.block _ hL9.hx (by have := hL5.hx; omega) (by have := hL5.hx; omega))
          have hBr : Below w.heap.size w wr := (HB7.out.trans (HB79.out.mono (by omega))).trans (HK.out.below (by omega) (by omega) (by omega))
          have hc349 : wr.cell? ⟨ka, 349, none⟩ = some (slV x1 (m + 1) cx1) := by
            have q := (hoc.at_ (by simp)).2.2 1 ga1 rfl 173 (by omega)
            rw [T9.out.e1 173 (by omega)] at q
            exact q
          have hg0 : ga0 173 = slV x0 (m + 1) cx0 := HG.out
          have hg1 : ga1 173 = slV x1 (m + 1) cx1 := by rw [T9.out.e1 173 (by omega)]; rfl
          have hxC : x0 < w6.heap.size ∧ x1 < w6.heap.size ∧ ka < w6.heap.size := ⟨hxa6.2, hya6.2, hka6.2⟩
          have hLB : w3.heap.size < w5.heap.size ∧ kf < w5.heap.size := ⟨hL5.hk, hL5.hx⟩
          have s1 : Calls Tryz.prog 15 #[slV x1 (m + 1) cx1, slV kf (m + 1) cf] wr fun e w' => e = .returned (.bool true) ∧ Below wr.heap.size wr w' := by
            have hl := ftsA_len t (m + 1) 0
            have q := sameFates_yes (some ⟨x1, 0, none⟩) (some ⟨kf, 0, none⟩) cx1 cf (ftsA t 0 (m + 1)) wr ⟨ftsA_ok t ht (m + 1) (by omega), .inr ⟨x1, rfl, by omega, (hoy.at_ (fts_ne t m)).2.2⟩⟩ (hLr.fsz ht hm) (by rw [hl]; omega)
            rw [hl] at q
            exact q
          have C349 := hide hc349
          have FACT := hide (And.intro hoc (And.intro hox (And.intro hoy (And.intro hUr (And.intro hLr (And.intro hBr (And.intro hxC (And.intro hLB (And.intro hg0 (And.intro hg1 (And.intro hkx (And.intro hky9 hxy9))))))))))))
          clear hoc hox hoy hUr hLr hBr hxC hLB hg0 hg1 hkx hky9 hxy9 hU9 hL5 hL9 hx0l hx1l hkb6 hxb6 hyb6 hxa6 hya6 hka6 hc349 HK HH HKA HXA HYA HKB HXB HYB T9 T7 T6 U7 U8 HCZ5 HCZ7 HCZ8 ZA ZB HB79 HB78 HG HFx HHx A0 hka9 hlx hcm hbx hb0
          have c349 := C349.out
          go_wp2_with fail
          refine s1.mono ?_
          rintro e wa ⟨rfl, ba⟩
          have HBa := hide ba
          clear s1 ba c349 C349
          have s2 : Calls Tryz.prog 14 #[slV kb 2 cap7, slV w3.heap.size 2 2] wa fun e w' => e = .returned (.bool true) ∧ Below wa.heap.size wa w' := by
            obtain ⟨hoc, hox, hoy, hUr, hLr, hBr, hxC, hLB, hg0, hg1, n1, n2, n3⟩ := FACT.out
            exact same_yes kb w3.heap.size _ _ cap7 2 (csX t (m + 1)) wa (csX_pz t (m + 1) (by omega)) ((hUr.cw.below HBa.out).csz ht hm) ((hLr.below HBa.out).csz ht hm) (by show 2 ≤ _; omega)
          go_wp2_with fail
          refine s2.mono ?_
          rintro e wb ⟨rfl, bb⟩
          have HBb : Hid (Below wr.heap.size wr wb) := hide (HBa.out.trans (bb.mono HBa.out.size))
          clear s2 bb
          have HFIVE := hide (by
            obtain ⟨hoc, hox, hoy, hUr, hLr, hBr, hxC, hLB, hg0, hg1, n1, n2, n3⟩ := FACT.out
            have b := HBb.out
            exact five ht hm (hoc.below b (Nat.le_refl _)) (hox.below b (Nat.le_refl _)) (hoy.below b (Nat.le_refl _)) hg0 hg1 n1 n2 n3 (hUr.same (b.block kb (hUr.oc.lt kb rfl).2) (b.block y0 (hUr.ox.lt y0 rfl).2) (b.block y1 (hUr.oy.lt y1 rfl).2)) hxC.1 hxC.2.1 hxC.2.2 hs6 (hLr.below b) hLB.1 hLB.2)
          have HBq : Hid (Below w.heap.size w wb) := hide (by
            obtain ⟨hoc, hox, hoy, hUr, hLr, hBr, hxC, hLB, hg0, hg1, n1, n2, n3⟩ := FACT.out
            exact hBr.trans (HBb.out.mono hBr.size))
          clear FACT HBa HBb
          obtain ⟨gx, dx, v1, u1, gy, dy, v2, u2, gz, dz, v3, u3, gw, dw, v4, u4, gv, dv, v5, u5, r1, q1, r2, q2, r3, q3, r4, q4, r5, q5, ca0, ca1, cb0, bu, hLu, hBu, hlt5, z1, z2, z3, z4, z5, z6⟩ := HFIVE.out
          clear HFIVE
          have k2 := builtW ⟨#[116, 119, 111]⟩
          have k3 := builtW ⟨#[116, 104, 114, 101, 101]⟩
          have k4 := builtW ⟨#[102, 111, 117, 114]⟩
          have k9 := builtK 99
          have k8 := builtK 98
          obtain ⟨F2, hF2⟩ : ∃ d, tabv (ftW [116, 119, 111]) 4 = d := ⟨_, rfl⟩
          obtain ⟨F3, hF3⟩ : ∃ d, tabv (ftW [116, 104, 114, 101, 101]) 4 = d := ⟨_, rfl⟩
          obtain ⟨F4, hF4⟩ : ∃ d, tabv (ftW [102, 111, 117, 114]) 4 = d := ⟨_, rfl⟩
          obtain ⟨C9, hC9⟩ : ∃ d, tabv (cmK 99) 176 = d := ⟨_, rfl⟩
          obtain ⟨C8, hC8⟩ : ∃ d, tabv (cmK 98) 176 = d := ⟨_, rfl⟩
          have K2 : Hid (Tryz.prog.built 49 [(0, .string ⟨#[116, 119, 111]⟩)] = some F2) := hide (by rw [← hF2]; exact k2)
          have K3 : Hid (Tryz.prog.built 49 [(0, .string ⟨#[116, 104, 114, 101, 101]⟩)] = some F3) := hide (by rw [← hF3]; exact k3)
          have K4 : Hid (Tryz.prog.built 49 [(0, .string ⟨#[102, 111, 117, 114]⟩)] = some F4) := hide (by rw [← hF4]; exact k4)
          rw [hC9] at k9 r4
          rw [hC8] at k8 r5
          rw [hF2] at r1
          rw [hF3] at r2
          rw [hF4] at r3
          have K9 := hide k9
          have K8 := hide k8
          have R1 := hide r1
          have R2 := hide r2
          have R3 := hide r3
          have R4 := hide r4
          have R5 := hide r5
          have Q1 := hide q1
          have Q2 := hide q2
          have Q3 := hide q3
          have Q4 := hide q4
          have Q5 := hide q5
          have ZZ := hide (And.intro z1 (And.intro z2 (And.intro z3 (And.intro z4 (And.intro z5 z6)))))
          have HBu : Hid (Below w.heap.size w u5) := hide (HBq.out.trans (bu.mono hs5))
          have HBQ := hide hBu
          have HLQ := hide hLu
          have HLT := hide hlt5
          clear k2 k3 k4 k8 k9 hF2 hF3 hF4 hC8 hC9 r1 r2 r3 r4 r5 q1 q2 q3 q4 q5 z1 z2 z3 z4 z5 z6 bu hBu hLu hlt5
          go_upto_region 29 with (first
            | refine wpW_build (by rfl) 49 _ rfl [(0, .string ⟨#[116, 119, 111]⟩)] (by first | rfl | (simp [Act.eval, Act.put]; done)) _ K2.out ?_
            | refine wpList_slice1 rfl 31 _ rfl (.agg F2) (by rfl) R1.out ?_
            | (at_builtin; refine wpList_app rfl _ _ _ rfl Q1.out ?_)
            | fail)
          clear ca0 K2 R1 Q1
          go_upto_region 30 with (first
            | refine wpW_build (by rfl) 49 _ rfl [(0, .string ⟨#[116, 104, 114, 101, 101]⟩)] (by first | rfl | (simp [Act.eval, Act.put]; done)) _ K3.out ?_
            | refine wpList_slice1 rfl 31 _ rfl (.agg F3) (by rfl) R2.out ?_
            | (at_builtin; refine wpList_app rfl _ _ _ rfl Q2.out ?_)
            | fail)
          clear ca1 K3 R2 Q2
          go_upto_region 31 with (first
            | refine wpW_build (by rfl) 49 _ rfl [(0, .string ⟨#[102, 111, 117, 114]⟩)] (by first | rfl | (simp [Act.eval, Act.put]; done)) _ K4.out ?_
            | refine wpList_slice1 rfl 31 _ rfl (.agg F4) (by rfl) R3.out ?_
            | (at_builtin; refine wpList_app rfl _ _ _ rfl Q3.out ?_)
            | fail)
          clear cb0 K4 R3 Q3
          go_upto_region 32 with (first
            | refine wpW_build (by rfl) 40 _ rfl [(0, .int .i64 99)] (by first | rfl | (simp [Act.eval, Act.put]; done)) _ K9.out ?_
            | refine wpList_slice1 rfl 25 _ rfl (.agg C9) (by rfl) R4.out ?_
            | (at_builtin; refine wpList_app rfl _ _ _ rfl Q4.out ?_)
            | fail)
          clear K9 R4 Q4
          go_upto_region 33 with (first
            | refine wpW_build (by rfl) 40 _ rfl [(0, .int .i64 98)] (by first | rfl | (simp [Act.eval, Act.put]; done)) _ K8.out ?_
            | refine wpList_slice1 rfl 25 _ rfl (.agg C8) (by rfl) R5.out ?_
            | (at_builtin; refine wpList_app rfl _ _ _ rfl Q5.out ?_)
            | fail)
          clear K8 R5 Q5
          have hE5u : EnvW False w.heap.size F u5 := HE.out.below HBu.out
          have hsu : w.heap.size ≤ u5.heap.size := HBu.out.size
          have p5 := parse_all (textX F t (m + 1)) u5 hE5u.env hsu (by have := textX_len HS.out t ht (m + 1) (by omega); omega) (.inr (textT_X HS.out t m (by omega)))
          rw [parse_X HS.out t ht m (by omega), hTX] at p5
          have p5' : Calls Tryz.prog 11 #[.string TX] u5 fun e w' => ∃ ad n cap gs, e = .returned (.tuple #[.slice ad n cap, .int .i64 0]) ∧ Cmds u5.heap.size w' (.slice ad n cap) gs (csX t (m + 1)) ∧ Below u5.heap.size u5 w' := p5
          clear p5 hE5u
          go_wp2_with fail
          refine p5'.mono ?_
          rintro e u6 ⟨ad9, n9, cap9, gs9, rfl, hC9, b9⟩
          obtain ⟨kc, cc, c0, cc0, c1, cc1, gc0, gc1, hv9, tw9⟩ := hC9.two
          cases hv9
          have HB9 := hide b9
          have T9c := hide tw9
          clear p5' hC9 tw9
          have hcell : ∀ {a b : World} {k o : Nat}, b.heap[k]? = a.heap[k]? → b.cell? ⟨k, o, none⟩ = a.cell? ⟨k, o, none⟩ := fun {a b k o} e => by unfold World.cell?; rw [e]
          have z1 : u6.cell? ⟨gx, 0, none⟩ = some (.string ⟨#[111, 110, 101]⟩) := (hcell (b9.block gx HLT.out.1)).trans ZZ.out.1
          have z2 : u6.cell? ⟨gx, (m + 1) * 4, none⟩ = some (.string ⟨#[116, 119, 111]⟩) := (hcell (b9.block gx HLT.out.1)).trans ZZ.out.2.1
          have z3 : u6.cell? ⟨gy, (m + 1) * 4, none⟩ = some (.string ⟨#[116, 104, 114, 101, 101]⟩) := (hcell (b9.block gy HLT.out.2.1)).trans ZZ.out.2.2.1
          have z4 : u6.cell? ⟨gz, (m + 1) * 4, none⟩ = some (.string ⟨#[102, 111, 117, 114]⟩) := (hcell (b9.block gz HLT.out.2.2.1)).trans ZZ.out.2.2.2.1
          have z5 : u6.cell? ⟨gw, 352, none⟩ = some (.int .i64 99) := (hcell (b9.block gw HLT.out.2.2.2.1)).trans ZZ.out.2.2.2.2.1
          have z6 : u6.cell? ⟨gv, 352, none⟩ = some (.int .i64 98) := (hcell (b9.block gv HLT.out.2.2.2.2)).trans ZZ.out.2.2.2.2.2
          clear b9 hcell ZZ HLT
          have t1 : Calls Tryz.prog 14 #[slV kb 2 cap7, slV w3.heap.size 2 2] u6 fun e w' => e = .returned (.bool true) ∧ Below u6.heap.size u6 w' := same_yes kb w3.heap.size _ _ cap7 2 (csX t (m + 1)) u6 (csX_pz t (m + 1) (by omega)) ((HBQ.out.below HB9.out).csz ht hm) ((HLQ.out.below HB9.out).csz ht hm) (by show 2 ≤ _; omega)
          go_wp2_with fail
          refine t1.mono ?_
          rintro e u7 ⟨rfl, b7⟩
          have HB7u := hide b7
          clear t1 b7 z1 z2 z3 z4 z5 z6
          have t2 : Calls Tryz.prog 14 #[slV kc 2 cap9, slV w3.heap.size 2 2] u7 fun e w' => e = .returned (.bool true) ∧ Below u7.heap.size u7 w' := same_yes kc w3.heap.size _ _ cap9 2 (csX t (m + 1)) u7 (csX_pz t (m + 1) (by omega)) ((T9c.out.cw.below HB7u.out).csz ht hm) (((HLQ.out.below HB9.out).below HB7u.out).csz ht hm) (by show 2 ≤ _; omega)
          go_wp2_with fail
          refine t2.mono ?_
          rintro e u8 ⟨rfl, b8⟩
          have hfin : Below w.heap.size w u8 := (HBu.out.trans (HB9.out.mono hsu)).trans ((HB7u.out.trans (b8.mono HB7u.out.size)).mono (Nat.le_trans hsu HB9.out.size))
          clear t2 b8
          go_wp2
          go_ret
          exact ⟨rfl, hfin⟩
end Go.Proofs.YtepgoehpjafbhaaGreatDoor
