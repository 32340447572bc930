/-
  head: what every statement asks first.
-/
import Derived.Test.YtepgoehpjafbhaaGreatDoorSHm
namespace Go.Proofs.YtepgoehpjafbhaaGreatDoor
open Go.RowKit S
set_option linter.unusedVariables false
set_option linter.unusedSimpArgs false
abbrev one1 (k : Nat) : Value := .slice (some ⟨k, 0, none⟩) 1 1
set_option maxRecDepth 100000 in
theorem builtF : Tryz.prog.built 49 [(0, .string ⟨#[102]⟩), (1, .int .i64 2), (2, .int .i64 2), (3, .string ⟨#[97, 0]⟩)] = some (tabv gH 4) := by kernel_rfl
set_option maxRecDepth 100000 in
theorem builtS (k : Nat) : Tryz.prog.built 33 [(0, .int .i64 12), (7, one1 k)] = some (tabv (fun i => cmdH (one1 k) (135 + i)) 39) := by kernel_rfl
set_option maxRecDepth 100000 in
theorem builtM (k : Nat) : Tryz.prog.built 35 [(0, .int .i64 1), (2, .agg (tabv (fun i => cmdH (one1 k) (135 + i)) 39))] = some (tabv (fun i => cmdH (one1 k) (133 + i)) 41) := by kernel_rfl
set_option maxRecDepth 100000 in
theorem builtC (k : Nat) : Tryz.prog.built 40 [(0, .int .i64 2), (2, .agg (tabv (fun i => cmdH (one1 k) (133 + i)) 41))] = some (tabv (cmdH (one1 k)) 176) := by kernel_rfl
set_option maxRecDepth 100000 in
theorem builtN : Tryz.prog.built 40 [(0, .int .i64 10)] = some (tabv cmdN 176) := by kernel_rfl
set_option maxRecDepth 100000 in
theorem builtH : Tryz.prog.built 30 [(0, .int .u8 171)] = some (tabv (bv hAb) 32) := by kernel_rfl
theorem Has.at0 {w : World} {g : Nat} {t : TypeId} {f : Nat → Value} {m : Nat} (h : Has w g t f m) : At w g 0 f m := h.at_ 0 (by omega) (fun i hi => by rw [Nat.zero_add])
set_option maxRecDepth 100000 in
set_option maxHeartbeats 40000000 in
theorem lhead_any {B : Nat} {F : Int → List UInt8} (w : World) (hE : EnvW False B F w) (hS : Sm F) (hB : B ≤ w.heap.size) :
    Calls Tryz.prog 9 #[] w fun e w' => e = .returned (.bool true) ∧ Below w.heap.size w w' := by
  have HS := hide hS
  have p1 := parse_all hd1 w hE.env hB (by decide) (.inr (textT_1 F))
  rw [head_1 hS] at p1
  have p1' : Calls Tryz.prog 11 #[.string (bs hd1)] w fun e w' => ∃ ad n cap gs, e = .returned (.tuple #[.slice ad n cap, .int .i64 0]) ∧ Cmds w.heap.size w' (.slice ad n cap) gs [(cmdA, []), (cmdB, [])] ∧ Below w.heap.size w w' := p1
  clear p1
  have HE := hide hE
  clear hE hS
  go_enter Tryz.func9, Tryz.ntmps9
  go_wp2_with fail
  refine p1'.mono ?_
  rintro e w1 ⟨ad, n, cap, gs, rfl, hC1, b1⟩
  obtain ⟨k, c1, hv, hk1, hk2, hcell⟩ := hC1.row (by simp)
  cases hv
  have HX := hide hcell
  have HB1 := hide b1
  have hs1 := b1.size
  clear p1' hC1 hcell b1
  obtain ⟨w2, hw2⟩ : ∃ x, w1.alloc (.cells (tabv gH 4) 49) = x := ⟨_, rfl⟩
  have b2 : Below w1.heap.size w1 w2 := by rw [← hw2]; exact (Below.refl _ w1).alloc (Nat.le_refl _) _
  have s2 : w2.heap.size = w1.heap.size + 1 := by rw [← hw2, size_alloc]
  have hN2 : Has w2 w1.heap.size 49 gH 4 := by rw [← hw2]; exact Has.new w1 _ _ 4 _ rfl
  have e2 : (Instr.buildSlice 31 1 #[(0, .agg (tabv gH 4))]).run Tryz.prog w1 = .ok (one1 w1.heap.size) w2 := by rw [run_sliceF, hw2]
  obtain ⟨w3, hw3⟩ : ∃ x, w2.alloc (.cells (tabv (cmdH (one1 w1.heap.size)) 176) 40) = x := ⟨_, rfl⟩
  have b3 : Below w2.heap.size w2 w3 := by rw [← hw3]; exact (Below.refl _ w2).alloc (Nat.le_refl _) _
  have s3 : w3.heap.size = w2.heap.size + 1 := by rw [← hw3, size_alloc]
  have hN3 : Has w3 w2.heap.size 40 (cmdH (one1 w1.heap.size)) 176 := by rw [← hw3]; exact Has.new w2 _ _ 176 _ rfl
  have e3 : (Instr.buildSlice 25 1 #[(0, .agg (tabv (cmdH (one1 w1.heap.size)) 176))]).run Tryz.prog w2 = .ok (one1 w2.heap.size) w3 := by rw [run_sliceC, hw3]
  have b13 : Below w1.heap.size w1 w3 := b2.trans (b3.mono (by omega))
  have HE3 : Hid (EnvW False B F w3) := hide (HE.out.below ((HB1.out.mono hB).trans (b13.mono (by omega))))
  have hc3 : CsIn w3 (some ⟨w2.heap.size, 0, none⟩) [(cmdH (one1 w1.heap.size), [gH])] := csin_one (cdok_H _) (one_H _ rfl) (by simp) rfl (fsin_one ftok_gH one_gH (by omega) (hN2.below b3 hN2.lt).at0) hN3.lt hN3.at0
  have p2 := print_any (some ⟨w2.heap.size, 0, none⟩) 1 [(cmdH (one1 w1.heap.size), [gH])] w3 HE3.out (by omega) hc3 (by simp)
  rw [head_2 HS.out] at p2
  obtain ⟨H2, hH2⟩ : ∃ H2, bs hd2 = H2 := ⟨_, rfl⟩
  have hq2 : H2.toList = [115, 116, 101, 112, 32, 48, 32, 99, 114, 97, 115, 104, 32, 48, 32, 114, 101, 112, 108, 97, 99, 101, 32, 34, 102, 34, 32, 50, 32, 34, 97, 92, 120, 48, 48, 34, 10] := by rw [← hH2]; exact bs_list _
  have p2' : Calls Tryz.prog 12 #[one1 w2.heap.size] w3 fun e w' => e = .returned (.tuple #[.string H2, .int .i64 0]) ∧ Below w3.heap.size w3 w' := p2.mono fun e w' ⟨h1, _, h3⟩ => ⟨by rw [h1, ← hH2], h3⟩
  have HQ2 := hide hq2
  clear p2 hH2 hq2
  have HB3 : Hid (Below w.heap.size w w3) := hide (HB1.out.trans (b13.mono (by omega)))
  have HB13 := hide b13
  obtain ⟨C1, hC1⟩ : ∃ c, tabv gH 4 = c := ⟨_, rfl⟩
  obtain ⟨C2, hC2⟩ : ∃ c, tabv (fun i => cmdH (one1 w1.heap.size) (135 + i)) 39 = c := ⟨_, rfl⟩
  obtain ⟨C3, hC3⟩ : ∃ c, tabv (fun i => cmdH (one1 w1.heap.size) (133 + i)) 41 = c := ⟨_, rfl⟩
  obtain ⟨C4, hC4⟩ : ∃ c, tabv (cmdH (one1 w1.heap.size)) 176 = c := ⟨_, rfl⟩
  have f1 : Tryz.prog.built 49 [(0, .string ⟨#[102]⟩), (1, .int .i64 2), (2, .int .i64 2), (3, .string ⟨#[97, 0]⟩)] = some C1 := by rw [← hC1]; exact builtF
  have f2 : Tryz.prog.built 33 [(0, .int .i64 12), (7, one1 w1.heap.size)] = some C2 := by rw [← hC2]; exact builtS _
  have f3 : Tryz.prog.built 35 [(0, .int .i64 1), (2, .agg C2)] = some C3 := by rw [← hC2, ← hC3]; exact builtM _
  have f4 : Tryz.prog.built 40 [(0, .int .i64 2), (2, .agg C3)] = some C4 := by rw [← hC3, ← hC4]; exact builtC _
  rw [hC1] at e2
  rw [hC4] at e3
  have F1 := hide f1
  have F2 := hide f2
  have F3 := hide f3
  have F4 := hide f4
  have E2 := hide e2
  have E3 := hide e3
  clear hw2 b2 hN2 hw3 b3 hN3 b13 hc3 hC1 hC2 hC3 hC4 f1 f2 f3 f4 e2 e3
  go_wp2_with (first
    | refine wpW_build (by rfl) 49 _ rfl [(0, .string ⟨#[102]⟩), (1, .int .i64 2), (2, .int .i64 2), (3, .string ⟨#[97, 0]⟩)] (by first | rfl | (simp [Act.eval, Act.put]; done)) _ F1.out ?_
    | refine wpList_slice1 rfl 31 _ rfl (.agg C1) (by rfl) E2.out ?_
    | refine wpW_build (by rfl) 33 _ rfl [(0, .int .i64 12), (7, one1 w1.heap.size)] (by first | rfl | (simp [Act.eval, Act.put]; done)) _ F2.out ?_
    | refine wpW_build (by rfl) 35 _ rfl [(0, .int .i64 1), (2, .agg C2)] (by first | rfl | (simp [Act.eval, Act.put]; done)) _ F3.out ?_
    | refine wpW_build (by rfl) 40 _ rfl [(0, .int .i64 2), (2, .agg C3)] (by first | rfl | (simp [Act.eval, Act.put]; done)) _ F4.out ?_
    | refine wpList_slice1 rfl 25 _ rfl (.agg C4) (by rfl) E3.out ?_
    | fail)
  rw [s2] at p2'
  refine p2'.mono ?_
  rintro e w4 ⟨rfl, b4⟩
  have HB4 : Hid (Below w.heap.size w w4) := hide (HB3.out.trans (b4.mono (by omega)))
  have HB14 : Hid (Below w1.heap.size w1 w4) := hide (HB13.out.trans (b4.mono (by omega)))
  have HE4 : Hid (EnvW False B F w4) := hide (HE.out.below (HB4.out.mono hB))
  have s4 := b4.size
  clear p2' b4 F1 F2 F3 F4 E2 E3 HE3 HB3 HB13
  have p3 := parse_all hd3 w4 HE4.out.env (by omega) (by decide) (.inr (textT_3 F))
  rw [head_3 HS.out] at p3
  have p3' : Calls Tryz.prog 11 #[.string (bs hd3)] w4 fun e w' => ∃ ad n cap, e = .returned (.tuple #[.slice ad n cap, .int .i64 250]) ∧ Below w4.heap.size w4 w' := p3.mono fun e w' ⟨ad, n, cap, gs, h1, _, h3⟩ => ⟨ad, n, cap, h1, h3⟩
  clear p3
  go_wp2_with fail
  refine p3'.mono ?_
  rintro e w5 ⟨ad3, n3, cap3, rfl, b5⟩
  have HB5 : Hid (Below w.heap.size w w5) := hide (HB4.out.trans (b5.mono (by omega)))
  have HB15 : Hid (Below w1.heap.size w1 w5) := hide (HB14.out.trans (b5.mono (by omega)))
  have HE5 : Hid (EnvW False B F w5) := hide (HE.out.below (HB5.out.mono hB))
  have s5 := b5.size
  clear p3' b5
  obtain ⟨w6, hw6⟩ : ∃ x, w5.alloc (.cells (tabv cmdN 176) 40) = x := ⟨_, rfl⟩
  have b6 : Below w5.heap.size w5 w6 := by rw [← hw6]; exact (Below.refl _ w5).alloc (Nat.le_refl _) _
  have s6 : w6.heap.size = w5.heap.size + 1 := by rw [← hw6, size_alloc]
  have hN6 : Has w6 w5.heap.size 40 cmdN 176 := by rw [← hw6]; exact Has.new w5 _ _ 176 _ rfl
  have e6 : (Instr.buildSlice 25 1 #[(0, .agg (tabv cmdN 176))]).run Tryz.prog w5 = .ok (one1 w5.heap.size) w6 := by rw [run_sliceC, hw6]
  have HB6 : Hid (Below w.heap.size w w6) := hide (HB5.out.trans (b6.mono (by omega)))
  have HB16 : Hid (Below w1.heap.size w1 w6) := hide (HB15.out.trans (b6.mono (by omega)))
  have HE6 : Hid (EnvW False B F w6) := hide (HE.out.below (HB6.out.mono hB))
  have hc6 : CsIn w6 (some ⟨w5.heap.size, 0, none⟩) [(cmdN, [])] := csin_one (ad := none) (cap := 0) cdok_N one_N (by simp) rfl (fsin_nil _ _) hN6.lt hN6.at0
  have p4 := print_any (some ⟨w5.heap.size, 0, none⟩) 1 [(cmdN, [])] w6 HE6.out (by omega) hc6 (by simp)
  rw [head_4] at p4
  obtain ⟨H4, hH4⟩ : ∃ H4, bs [] = H4 := ⟨_, rfl⟩
  have p4' : Calls Tryz.prog 12 #[one1 w5.heap.size] w6 fun e w' => e = .returned (.tuple #[.string H4, .int .i64 250]) ∧ Below w6.heap.size w6 w' := p4.mono fun e w' ⟨h1, _, h3⟩ => ⟨by rw [h1, ← hH4], h3⟩
  clear p4 hH4
  obtain ⟨C5, hC5⟩ : ∃ c, tabv cmdN 176 = c := ⟨_, rfl⟩
  have f5 : Tryz.prog.built 40 [(0, .int .i64 10)] = some C5 := by rw [← hC5]; exact builtN
  rw [hC5] at e6
  have F5 := hide f5
  have E6 := hide e6
  clear hw6 b6 hN6 hc6 hC5 f5 e6
  go_wp2_with (first
    | refine wpW_build (by rfl) 40 _ rfl [(0, .int .i64 10)] (by first | rfl | (simp [Act.eval, Act.put]; done)) _ F5.out ?_
    | refine wpList_slice1 rfl 25 _ rfl (.agg C5) (by rfl) E6.out ?_
    | fail)
  refine p4'.mono ?_
  rintro e w7 ⟨rfl, b7⟩
  have HB7 : Hid (Below w.heap.size w w7) := hide (HB6.out.trans (b7.mono (by omega)))
  have HB17 : Hid (Below w1.heap.size w1 w7) := hide (HB16.out.trans (b7.mono (by omega)))
  have s7 := b7.size
  clear p4' b7 E6 F5
  have hq2 := HQ2.out
  have x0 : w7.cell? ⟨k, 0, none⟩ = some (.int .i64 2) := by rw [HB17.out.cell hk2]; exact HX.out 0 (cmdA, []) rfl 0 (by omega) (by omega)
  have x1 : w7.cell? ⟨k, 133, none⟩ = some (.int .i64 4) := by rw [HB17.out.cell hk2]; exact HX.out 0 (cmdA, []) rfl 133 (by omega) (by omega)
  have x2 : w7.cell? ⟨k, 134, none⟩ = some (.int .i64 1) := by rw [HB17.out.cell hk2]; exact HX.out 0 (cmdA, []) rfl 134 (by omega) (by omega)
  have x3 : w7.cell? ⟨k, 176, none⟩ = some (.int .i64 9) := by rw [HB17.out.cell hk2]; exact HX.out 1 (cmdB, []) rfl 0 (by omega) (by omega)
  go_wp2_with fail
  refine (quote_any [34] _ (by simp)).mono ?_
  rintro e w8 ⟨rfl, b8⟩
  have HB8 : Hid (Below w.heap.size w w8) := hide (HB7.out.trans (b8.mono (by omega)))
  have s8 := b8.size
  clear b8
  rw [head_q]
  have hqq : (bs [34, 92, 34, 34]).toList = [34, 92, 34, 34] := bs_list _
  have p9 := hex_any hAb w8
  obtain ⟨C6, hC6⟩ : ∃ c, tabv (bv hAb) 32 = c := ⟨_, rfl⟩
  rw [hC6] at p9
  have f6 : Tryz.prog.built 30 [(0, .int .u8 171)] = some C6 := by rw [← hC6]; exact builtH
  have F6 := hide f6
  clear hC6 f6
  go_wp2_with (first
    | refine wpW_build (by rfl) 30 _ rfl [(0, .int .u8 171)] (by first | rfl | (simp [Act.eval, Act.put]; done)) _ F6.out ?_
    | fail)
  refine p9.mono ?_
  rintro e w9 ⟨rfl, b9⟩
  have HB9 : Hid (Below w.heap.size w w9) := hide (HB8.out.trans (b9.mono (by omega)))
  have hz : (bs (hexL hAb)).size = 64 := by rw [bs_size, hexL_len]
  have hx4 : (bs (hexL hAb)).extract 0 4 = bs [97, 98, 48, 48] := by kernel_rfl
  have hq4 : (bs [97, 98, 48, 48]).toList = [97, 98, 48, 48] := bs_list _
  clear b9
  go_wp2
  go_ret
  exact ⟨rfl, HB9.out⟩
end Go.Proofs.YtepgoehpjafbhaaGreatDoor
