/-
  LedgerNever: the book's step (printed by gen_never7.py).
-/
import Derived.Test.YtbeoojnofblnjaaGNever6
import Derived.Test.YtbeoojnofblnjaaGLast
namespace Go.Proofs.Ytbeoojnofblnjaa
open Go.RowKit S Go.Shelf Go.Sort
set_option linter.unusedVariables false
set_option linter.unusedSimpArgs false
theorem cell_same {w w' : World} {p : Addr} (h : w'.heap[p.block]? = w.heap[p.block]?) : w'.cell? p = w.cell? p := by unfold World.cell?; rw [h]
set_option maxRecDepth 100000 in
set_option maxHeartbeats 4000000 in
theorem nstep0_any (B g : Nat) (b0 b1 : Int) (bd0 : 0 ≤ b0 ∧ b0 ≤ 576460752303423487) (bd1 : 0 ≤ b1 ∧ b1 ≤ 576460752303423487) (Kd Sd N : Int) (hS : bits .and .i64 Sd 1 = 0) (w : World) (hNS : NS B g b0 b1 w) : Calls Try.prog 6 #[.pointer (some ⟨g, 0, none⟩), .agg #[.int .i64 Kd, .int .i64 Sd, .int .i64 N]] w fun e w' => e = .returned (.bool true) ∧ NS B g b0 b1 w' ∧ Below B w w' := by
  obtain ⟨v0, v1, l0, l1, f0, f1, hB, hN, z0, z1⟩ := hNS
  obtain ⟨ad0, c0, rfl, u0, _, k0, _⟩ := hB.o0.upds
  obtain ⟨ad1, c1, rfl, u1, _, k1, _⟩ := hB.o1.upds
  obtain ⟨n0, hn0⟩ : ∃ n, l0.length = n := ⟨_, rfl⟩
  obtain ⟨n1, hn1⟩ : ∃ n, l1.length = n := ⟨_, rfl⟩
  rw [hn0] at k0 z0
  rw [hn1] at k1 z1
  rw [hn0, hn1] at hB
  have hsp := spend_never bd0 bd1 hN
  obtain ⟨L, hL⟩ : ∃ L, leftN b0 l0 l1 f0 f1 = L := ⟨_, rfl⟩
  rw [hL] at hsp
  obtain ⟨na, hna⟩ : ∃ na, addsN l0 = na := ⟨_, rfl⟩
  have SP := hide (fun (v : World) (hH : Has v g 30 (bkv (.slice ad0 n0 c0) (.slice ad1 n1 c1) f0 f1 b0 b1) 6) (x0 : Upds v ad0 l0) (x1 : Upds v ad1 l1) => hsp.1 ▸ bspend0_any g ad0 ad1 n0 c0 n1 c1 l0 l1 hn0 hn1 (by omega) (by omega) k0 k1 f0 f1 b0 b1 v hH x0 x1)
  have RM := hide (fun (v : World) (hH : Has v g 30 (bkv (.slice ad0 n0 c0) (.slice ad1 n1 c1) f0 f1 b0 b1) 6) (x0 : Upds v ad0 l0) (x1 : Upds v ad1 l1) => remov0_any g ad0 ad1 n0 c0 n1 c1 l0 l1 hn0 hn1 z0 z1 f0 f1 (by have := hN.c0; omega) (by have := hN.c1; omega) b0 b1 v hH x0 x1)
  have AD := hide (fun (v : World) (x : Upds v ad0 l0) => hna ▸ ladds_any ad0 n0 c0 l0 hn0 (by omega) v x)
  have HL : Hid (0 ≤ L ∧ L ≤ b0 + b1 ∧ b0 + b1 ≤ 1152921504606846974) := ⟨hsp.2.1, by have := hsp.2.2; omega, by omega⟩
  have HLN := hide hL
  have HNA : Hid (addsN l0 = na ∧ na ≤ n0) := ⟨hna, by rw [← hna, ← hn0]; exact adds_le _⟩
  have HB := hide hB
  have HN := hide hN
  have HU0 := hide u0
  have HU1 := hide u1
  have HZ : Hid (l0.length ≤ 2048 ∧ l1.length ≤ 2048) := ⟨by omega, by omega⟩
  have HS0 := hide hn0
  have HF : Hid (f0 ≤ n0 ∧ f1 ≤ n1 ∧ n0 ≤ 2048 ∧ n1 ≤ 2048) := ⟨by have := hN.c0; omega, by have := hN.c1; omega, z0, z1⟩
  have zAB : IntKind.i64.wrap (b0 + b1) = b0 + b1 := by rw [IntKind.wrap_i64]; omega
  have HGW : Hid (g < w.heap.size ∧ B ≤ g) := ⟨hB.arr.lt, hB.ge⟩
  obtain ⟨w1, hW1⟩ : ∃ x, w.alloc (.cells #[.int .i64 Kd, .int .i64 Sd, .int .i64 N] 35) = x := ⟨_, rfl⟩
  have r1 : Has w1 w.heap.size 35 (stv Kd Sd N) 3 := by rw [← hW1]; exact Has.new w 35 (stv Kd Sd N) 3 _ rfl
  have hb1 : Below w.heap.size w w1 := by rw [← hW1]; exact (Below.refl w.heap.size w).alloc (Nat.le_refl _) _
  have q0 : w1.cell? ⟨w.heap.size, 0, none⟩ = some (.int .i64 Kd) := r1.cell 0 (by omega)
  have q1 : w1.cell? ⟨w.heap.size, 1, none⟩ = some (.int .i64 Sd) := r1.cell 1 (by omega)
  have R1 := hide r1
  have HB1 := hide hb1
  have hz0 : (n0 : Int) ≤ 2048 := by omega
  have hz1 : (n1 : Int) ≤ 2048 := by omega
  have HAN : Hid (∀ wx, Below w.heap.size w wx → NB B g b0 b1 (.slice ad0 n0 c0) (.slice ad1 n1 c1) l0 l1 f0 f1 wx ∧ Upds wx ad0 l0 ∧ Upds wx ad1 l1) := fun wx hx => ⟨hB.below hx, u0.below hx, u1.below hx⟩
  have HOW : Hid (∀ k, (Value.slice ad0 n0 c0).ownBlock = some k → g < k ∧ k < w.heap.size) := fun k hk => by have := hB.o0.lt k hk; exact ⟨by omega, this.2⟩
  clear hsp hL hna hB hN u0 u1 hn0 hn1 z0 z1 k0 k1 bd0 bd1 r1 hb1 HU0 HU1 HB
  go_enter Try.func6, Try.ntmps6
  go_upto_region 1 with fail
  generalize hgO : w.heap.size = gO at R1 q0 q1 HB1 HGW HAN HOW ⊢
  clear hgO
  cases k1 : (Kd == 1) with
  | true =>
    go_wp2_with fail
    refine (SP.out _ (HAN.out _ HB1.out).1.arr (HAN.out _ HB1.out).2.1 (HAN.out _ HB1.out).2.2).mono ?_
    rintro e w2 ⟨rfl, hc2⟩
    have r2 := R1.out.below hc2 R1.out.lt
    have hb2 : Below gO w w2 := HB1.out.trans (hc2.mono (by have := R1.out.lt; omega))
    have A2 := hide (HAN.out _ hb2).1.arr
    have hLn : decide (L < 0) = false := decide_eq_false (by have := HL.out; omega)
    have hLm : decide (b0 + b1 < L) = false := decide_eq_false (by have := HL.out; omega)
    clear hc2 q0 q1 hW1
    go_wp2
    refine wp_region_noPanic ?_
    refine wp_region_held_drew (S := fun wx => Below w2.heap.size w2 wx) (by kernel_rfl) ((Below.refl _ _).drew) (fun hHeld => ?_)
    generalize hwe : World.drew w2 = w3 at hHeld ⊢
    refine takeH 0 (some 18) (.int .i64 L) rfl rfl (by kernel_rfl) (by kernel_rfl) (by kernel_rfl) (fun _ _ _ h => h) (by rfl) (fun w hw => by first | rfl | (go_simp; done) | (go_simp; rfl) | (go_simp; omega)) hHeld ?_
    simp only [Act.put, List.setIfInBounds_toArray, List.set_cons_zero, List.set_cons_succ]
    refine takeH 1 (some 19) (.bool false) rfl rfl (by kernel_rfl) (by kernel_rfl) (by kernel_rfl) (fun _ _ _ h => h) (by rfl) (fun w hw => by have z := hLn; first | rfl | (go_simp; done) | (go_simp; rfl) | (go_simp; omega)) hHeld ?_
    simp only [Act.put, List.setIfInBounds_toArray, List.set_cons_zero, List.set_cons_succ]
    refine takeH 2 (some 20) (.bool false) rfl rfl (by kernel_rfl) (by kernel_rfl) (by kernel_rfl) (fun _ _ _ h => h) (by rfl) (fun w hw => by first | rfl | (go_simp; done) | (go_simp; rfl) | (go_simp; omega)) hHeld ?_
    simp only [Act.put, List.setIfInBounds_toArray, List.set_cons_zero, List.set_cons_succ]
    refine takeH 3 (some 21) (.int .i64 L) rfl rfl (by kernel_rfl) (by kernel_rfl) (by kernel_rfl) (fun _ _ _ h => h) (by rfl) (fun w hw => by first | rfl | (go_simp; done) | (go_simp; rfl) | (go_simp; omega)) hHeld ?_
    simp only [Act.put, List.setIfInBounds_toArray, List.set_cons_zero, List.set_cons_succ]
    refine takeH 4 (some 22) (.pointer (some ⟨g, 0, none⟩)) rfl rfl (by kernel_rfl) (by kernel_rfl) (by kernel_rfl) (fun _ _ _ h => h) (by rfl) (fun w hw => by first | rfl | (go_simp; done) | (go_simp; rfl) | (go_simp; omega)) hHeld ?_
    simp only [Act.put, List.setIfInBounds_toArray, List.set_cons_zero, List.set_cons_succ]
    refine takeH 5 (some 23) (.pointer (some ⟨g, 0, none⟩)) rfl rfl (by kernel_rfl) (by kernel_rfl) (by kernel_rfl) (fun _ _ _ h => h) (by rfl) (fun w hw => by first | rfl | (go_simp; done) | (go_simp; rfl) | (go_simp; omega)) hHeld ?_
    simp only [Act.put, List.setIfInBounds_toArray, List.set_cons_zero, List.set_cons_succ]
    refine takeH 6 (some 24) (.pointer (some ⟨g, 4, none⟩)) rfl rfl (by kernel_rfl) (by kernel_rfl) (by kernel_rfl) (fun _ _ _ h => h) (by rfl) (fun w hw => by first | rfl | (go_simp; done) | (go_simp; rfl) | (go_simp; omega)) hHeld ?_
    simp only [Act.put, List.setIfInBounds_toArray, List.set_cons_zero, List.set_cons_succ]
    refine takeH 7 (some 25) (.pointer (some ⟨g, 4, none⟩)) rfl rfl (by kernel_rfl) (by kernel_rfl) (by kernel_rfl) (fun _ _ _ h => h) (by rfl) (fun w hw => by first | rfl | (go_simp; done) | (go_simp; rfl) | (go_simp; omega)) hHeld ?_
    simp only [Act.put, List.setIfInBounds_toArray, List.set_cons_zero, List.set_cons_succ]
    refine takeH 8 (some 26) (.int .i64 b0) rfl rfl (by kernel_rfl) (by kernel_rfl) (by kernel_rfl) (fun _ _ _ h => h) (by rfl) (fun w hw => by have c : w.cell? ⟨g, 4, none⟩ = some (.int .i64 b0) := (A2.out.below hw A2.out.lt).cell 4 (by omega); first | (go_simp; done) | (go_simp; rfl)) hHeld ?_
    simp only [Act.put, List.setIfInBounds_toArray, List.set_cons_zero, List.set_cons_succ]
    refine takeH 9 (some 27) (.pointer (some ⟨g, 0, none⟩)) rfl rfl (by kernel_rfl) (by kernel_rfl) (by kernel_rfl) (fun _ _ _ h => h) (by rfl) (fun w hw => by first | rfl | (go_simp; done) | (go_simp; rfl) | (go_simp; omega)) hHeld ?_
    simp only [Act.put, List.setIfInBounds_toArray, List.set_cons_zero, List.set_cons_succ]
    refine takeH 10 (some 28) (.pointer (some ⟨g, 0, none⟩)) rfl rfl (by kernel_rfl) (by kernel_rfl) (by kernel_rfl) (fun _ _ _ h => h) (by rfl) (fun w hw => by first | rfl | (go_simp; done) | (go_simp; rfl) | (go_simp; omega)) hHeld ?_
    simp only [Act.put, List.setIfInBounds_toArray, List.set_cons_zero, List.set_cons_succ]
    refine takeH 11 (some 29) (.pointer (some ⟨g, 4, none⟩)) rfl rfl (by kernel_rfl) (by kernel_rfl) (by kernel_rfl) (fun _ _ _ h => h) (by rfl) (fun w hw => by first | rfl | (go_simp; done) | (go_simp; rfl) | (go_simp; omega)) hHeld ?_
    simp only [Act.put, List.setIfInBounds_toArray, List.set_cons_zero, List.set_cons_succ]
    refine takeH 12 (some 30) (.pointer (some ⟨g, 5, none⟩)) rfl rfl (by kernel_rfl) (by kernel_rfl) (by kernel_rfl) (fun _ _ _ h => h) (by rfl) (fun w hw => by first | rfl | (go_simp; done) | (go_simp; rfl) | (go_simp; omega)) hHeld ?_
    simp only [Act.put, List.setIfInBounds_toArray, List.set_cons_zero, List.set_cons_succ]
    refine takeH 13 (some 31) (.int .i64 b1) rfl rfl (by kernel_rfl) (by kernel_rfl) (by kernel_rfl) (fun _ _ _ h => h) (by rfl) (fun w hw => by have c : w.cell? ⟨g, 5, none⟩ = some (.int .i64 b1) := (A2.out.below hw A2.out.lt).cell 5 (by omega); first | (go_simp; done) | (go_simp; rfl)) hHeld ?_
    simp only [Act.put, List.setIfInBounds_toArray, List.set_cons_zero, List.set_cons_succ]
    refine takeH 14 (some 32) (.int .i64 (b0 + b1)) rfl rfl (by kernel_rfl) (by kernel_rfl) (by kernel_rfl) (fun _ _ _ h => h) (by rfl) (fun w hw => by have z := zAB; first | rfl | (go_simp; done) | (go_simp; rfl) | (go_simp; omega)) hHeld ?_
    simp only [Act.put, List.setIfInBounds_toArray, List.set_cons_zero, List.set_cons_succ]
    refine takeH 15 (some 33) (.bool false) rfl rfl (by kernel_rfl) (by kernel_rfl) (by kernel_rfl) (fun _ _ _ h => h) (by rfl) (fun w hw => by have z := hLm; first | rfl | (go_simp; done) | (go_simp; rfl) | (go_simp; omega)) hHeld ?_
    simp only [Act.put, List.setIfInBounds_toArray, List.set_cons_zero, List.set_cons_succ]
    refine takeH 16 (some 34) (.bool false) rfl rfl (by kernel_rfl) (by kernel_rfl) (by kernel_rfl) (fun _ _ _ h => h) (by rfl) (fun w hw => by first | rfl | (go_simp; done) | (go_simp; rfl) | (go_simp; omega)) hHeld ?_
    simp only [Act.put, List.setIfInBounds_toArray, List.set_cons_zero, List.set_cons_succ]
    refine ⟨by kernel_rfl, ?_⟩
    refine NoPanic.normal ?_
    have hb3 : Below gO w w3 := hb2.trans (hHeld.mono (by have := r2.lt; omega))
    have r3 := r2.below hHeld r2.lt
    clear hHeld hwe hb2 r2 A2 hLn hLm
    have cS : w3.cell? ⟨g, 0, none⟩ = some (.slice ad0 n0 c0) := (HAN.out _ hb3).1.arr.cell 0 (by omega)
    by_cases hpos : 0 < L
    · obtain ⟨m, hm⟩ : ∃ m : Nat, L = (m : Int) + 1 := ⟨(L - 1).toNat, by omega⟩
      have hd1 : decide (0 < L) = true := decide_eq_true hpos
      have zL : IntKind.i64.wrap (L - 1) = (m : Int) := by rw [IntKind.wrap_i64]; have := HL.out; omega
      have HM := hide hm
      clear hm
      by_cases hlt : n0 < 2048
      · have hd2 : decide ((n0 : Int) < 2048) = true := decide_eq_true (by omega)
        have hd3 : decide (n0 < 2048) = true := decide_eq_true hlt
        obtain ⟨p, hp, MDx⟩ := mod_any N m (by have := HL.out; have := HM.out; omega)
        have MD := hide MDx
        have zP : IntKind.i64.wrap (1 + (p : Int)) = 1 + (p : Int) := by rw [IntKind.wrap_i64]; have := HL.out; have := HM.out; omega
        obtain ⟨uA, huA⟩ : ∃ u : Upd, u = ⟨1, (na : Int), 1 + (p : Int), fun _ => 0, nilB⟩ := ⟨_, rfl⟩
        have haA : addB uA = true := by rw [huA]; exact nval1 (by have := HNA.out; omega) (by have := HL.out; have := HM.out; omega)
        have NVN : Hid (Nv b0 b1 (l0 ++ [uA]) l1 f0 f1) := (HN.out.add (u := uA) haA (by rw [HNA.out.1, huA]) (by rw [HLN.out, huA, HM.out]; show 1 + (p : Int) ≤ _; omega))
        have HUA := hide huA
        clear huA haA MDx hp
        obtain ⟨wd, hwd⟩ : ∃ x, World.drew w3 = x := ⟨_, rfl⟩
        have hbd : Below gO w wd := by rw [← hwd]; exact hb3.drew
        have hq1 : Hid (Has wd gO 35 (stv Kd Sd N) 3) := by rw [← hwd]; exact r3.below (Below.refl _ _).drew r3.lt
        have HBd := hide (HAN.out wd hbd).1
        have hq2 : Hid (Has wd g 30 (bkv (.slice ad0 n0 c0) (.slice ad1 n1 c1) f0 f1 b0 b1) 6) := HBd.out.arr
        have BD : Hid (Below B w wd) := hbd.mono (by have := HGW.out; omega)

        have UW := hide (HAN.out wd hbd).2.1
        obtain ⟨q, cp, wQ, hr2, ho2, hgr, hgg⟩ := run_appL wd (g + 1) (.slice ad0 n0 c0) l0 uA 25 HBd.out.o0 (by have := HS0.out; omega) (by have := HGW.out; have := HBd.out.arr.lt; omega)
        rw [HS0.out] at hr2 ho2
        have HR2 := hide hr2
        have HO2 := hide ho2
        have HGR := hide hgr
        have HGG := hide hgg
        have hnb : Hid (∀ k, (Value.slice ad0 n0 c0).ownBlock = some k → g < k ∧ k ≠ gO) := fun k hk => by have := HOW.out k hk; exact ⟨this.1, by omega⟩
        have HZN : Hid ((l0 ++ [uA]).length ≤ 2048) := by show _ ≤ _; rw [List.length_append, HS0.out]; simp; omega
        clear hr2 ho2 hgr hgg hbd
        clear r3 hb3
        go_wp2
        refine wp_region_noPanic ?_
        refine wp_region_T (S := fun wx => Has wx gO 35 (stv Kd Sd N) 3 ∧ Has wx g 30 (bkv (.slice ad0 n0 c0) (.slice ad1 n1 c1) f0 f1 b0 b1) 6) 27 (by kernel_rfl) (by rw [hwd]; exact ⟨hq1.out, hq2.out⟩) (fun hHeld => ?_)
        rw [hwd] at hHeld ⊢
        refine takeT 0 (some 47) (.pointer (some ⟨g, 0, none⟩)) rfl rfl (by kernel_rfl) (by kernel_rfl) (by kernel_rfl) (by kernel_rfl) (by decide) (fun _ _ _ h => h) (by rfl) (fun w hw => by first | rfl | (go_simp; done) | (go_simp; rfl) | (go_simp; omega)) hHeld ?_
        simp only [Act.put, List.setIfInBounds_toArray, List.set_cons_zero, List.set_cons_succ]
        refine takeT 1 (some 48) (.int .i64 0) rfl rfl (by kernel_rfl) (by kernel_rfl) (by kernel_rfl) (by kernel_rfl) (by decide) (fun _ _ _ h => h) (by rfl) (fun w hw => by first | rfl | (go_simp; done) | (go_simp; rfl) | (go_simp; omega)) hHeld ?_
        simp only [Act.put, List.setIfInBounds_toArray, List.set_cons_zero, List.set_cons_succ]
        refine takeT 2 (some 49) (.pointer (some ⟨g, 0, none⟩)) rfl rfl (by kernel_rfl) (by kernel_rfl) (by kernel_rfl) (by kernel_rfl) (by decide) (fun _ _ _ h => h) (by rfl) (fun w hw => by first | rfl | (go_simp; done) | (go_simp; rfl) | (go_simp; omega)) hHeld ?_
        simp only [Act.put, List.setIfInBounds_toArray, List.set_cons_zero, List.set_cons_succ]
        refine takeT 3 (some 50) (.int .i64 0) rfl rfl (by kernel_rfl) (by kernel_rfl) (by kernel_rfl) (by kernel_rfl) (by decide) (fun _ _ _ h => h) (by rfl) (fun w hw => by first | rfl | (go_simp; done) | (go_simp; rfl) | (go_simp; omega)) hHeld ?_
        simp only [Act.put, List.setIfInBounds_toArray, List.set_cons_zero, List.set_cons_succ]
        refine takeT 4 (some 51) (.pointer (some ⟨g, 0, none⟩)) rfl rfl (by kernel_rfl) (by kernel_rfl) (by kernel_rfl) (by kernel_rfl) (by decide) (fun _ _ _ h => h) (by rfl) (fun w hw => by first | rfl | (go_simp; done) | (go_simp; rfl) | (go_simp; omega)) hHeld ?_
        simp only [Act.put, List.setIfInBounds_toArray, List.set_cons_zero, List.set_cons_succ]
        refine takeT 5 (some 52) (.pointer (some ⟨g, 0, none⟩)) rfl rfl (by kernel_rfl) (by kernel_rfl) (by kernel_rfl) (by kernel_rfl) (by decide) (fun _ _ _ h => h) (by rfl) (fun w hw => by first | rfl | (go_simp; done) | (go_simp; rfl) | (go_simp; omega)) hHeld ?_
        simp only [Act.put, List.setIfInBounds_toArray, List.set_cons_zero, List.set_cons_succ]
        refine takeT 6 (some 53) (.pointer (some ⟨g, 0, none⟩)) rfl rfl (by kernel_rfl) (by kernel_rfl) (by kernel_rfl) (by kernel_rfl) (by decide) (fun _ _ _ h => h) (by rfl) (fun w hw => by first | rfl | (go_simp; done) | (go_simp; rfl) | (go_simp; omega)) hHeld ?_
        simp only [Act.put, List.setIfInBounds_toArray, List.set_cons_zero, List.set_cons_succ]
        refine takeT 7 (some 54) (.slice ad0 n0 c0) rfl rfl (by kernel_rfl) (by kernel_rfl) (by kernel_rfl) (by kernel_rfl) (by decide) (fun _ _ _ h => h) (by rfl) (fun w hw => by have c : w.cell? ⟨g, 0, none⟩ = some (.slice ad0 n0 c0) := hw.2.cell 0 (by omega); first | (go_simp; done) | (go_simp; rfl)) hHeld ?_
        simp only [Act.put, List.setIfInBounds_toArray, List.set_cons_zero, List.set_cons_succ]
        refine takeT 8 (some 55) (.pointer (some ⟨g, 0, none⟩)) rfl rfl (by kernel_rfl) (by kernel_rfl) (by kernel_rfl) (by kernel_rfl) (by decide) (fun _ _ _ h => h) (by rfl) (fun w hw => by first | rfl | (go_simp; done) | (go_simp; rfl) | (go_simp; omega)) hHeld ?_
        simp only [Act.put, List.setIfInBounds_toArray, List.set_cons_zero, List.set_cons_succ]
        refine takeT 9 (some 56) (.int .i64 0) rfl rfl (by kernel_rfl) (by kernel_rfl) (by kernel_rfl) (by kernel_rfl) (by decide) (fun _ _ _ h => h) (by rfl) (fun w hw => by first | rfl | (go_simp; done) | (go_simp; rfl) | (go_simp; omega)) hHeld ?_
        simp only [Act.put, List.setIfInBounds_toArray, List.set_cons_zero, List.set_cons_succ]
        refine takeT 10 (some 57) (.pointer (some ⟨g, 0, none⟩)) rfl rfl (by kernel_rfl) (by kernel_rfl) (by kernel_rfl) (by kernel_rfl) (by decide) (fun _ _ _ h => h) (by rfl) (fun w hw => by first | rfl | (go_simp; done) | (go_simp; rfl) | (go_simp; omega)) hHeld ?_
        simp only [Act.put, List.setIfInBounds_toArray, List.set_cons_zero, List.set_cons_succ]
        refine takeT 11 (some 58) (.pointer (some ⟨g, 0, none⟩)) rfl rfl (by kernel_rfl) (by kernel_rfl) (by kernel_rfl) (by kernel_rfl) (by decide) (fun _ _ _ h => h) (by rfl) (fun w hw => by first | rfl | (go_simp; done) | (go_simp; rfl) | (go_simp; omega)) hHeld ?_
        simp only [Act.put, List.setIfInBounds_toArray, List.set_cons_zero, List.set_cons_succ]
        refine takeT 12 (some 59) (.pointer (some ⟨g, 0, none⟩)) rfl rfl (by kernel_rfl) (by kernel_rfl) (by kernel_rfl) (by kernel_rfl) (by decide) (fun _ _ _ h => h) (by rfl) (fun w hw => by first | rfl | (go_simp; done) | (go_simp; rfl) | (go_simp; omega)) hHeld ?_
        simp only [Act.put, List.setIfInBounds_toArray, List.set_cons_zero, List.set_cons_succ]
        refine takeT 13 (some 60) (.slice ad0 n0 c0) rfl rfl (by kernel_rfl) (by kernel_rfl) (by kernel_rfl) (by kernel_rfl) (by decide) (fun _ _ _ h => h) (by rfl) (fun w hw => by have c : w.cell? ⟨g, 0, none⟩ = some (.slice ad0 n0 c0) := hw.2.cell 0 (by omega); first | (go_simp; done) | (go_simp; rfl)) hHeld ?_
        simp only [Act.put, List.setIfInBounds_toArray, List.set_cons_zero, List.set_cons_succ]
        refine takeT 15 (some 62) (.pointer (some ⟨gO, 2, none⟩)) rfl rfl (by kernel_rfl) (by kernel_rfl) (by kernel_rfl) (by kernel_rfl) (by decide) (fun _ _ _ h => h) (by rfl) (fun w hw => by first | rfl | (go_simp; done) | (go_simp; rfl) | (go_simp; omega)) hHeld ?_
        simp only [Act.put, List.setIfInBounds_toArray, List.set_cons_zero, List.set_cons_succ]
        refine takeT 16 (some 63) (.int .i64 N) rfl rfl (by kernel_rfl) (by kernel_rfl) (by kernel_rfl) (by kernel_rfl) (by decide) (fun _ _ _ h => h) (by rfl) (fun w hw => by have c : w.cell? ⟨gO, 2, none⟩ = some (.int .i64 N) := hw.1.cell 2 (by omega); first | (go_simp; done) | (go_simp; rfl)) hHeld ?_
        simp only [Act.put, List.setIfInBounds_toArray, List.set_cons_zero, List.set_cons_succ]
        refine takeT 17 (some 64) (.int .i64 L) rfl rfl (by kernel_rfl) (by kernel_rfl) (by kernel_rfl) (by kernel_rfl) (by decide) (fun _ _ _ h => h) (by rfl) (fun w hw => by first | rfl | (go_simp; done) | (go_simp; rfl) | (go_simp; omega)) hHeld ?_
        simp only [Act.put, List.setIfInBounds_toArray, List.set_cons_zero, List.set_cons_succ]
        refine takeT 18 (some 65) (.int .i64 (m : Int)) rfl rfl (by kernel_rfl) (by kernel_rfl) (by kernel_rfl) (by kernel_rfl) (by decide) (fun _ _ _ h => h) (by rfl) (fun w hw => by have z := zL; first | rfl | (go_simp; done) | (go_simp; rfl) | (go_simp; omega)) hHeld ?_
        simp only [Act.put, List.setIfInBounds_toArray, List.set_cons_zero, List.set_cons_succ]
        refine takeP [26, 25] 24 (some 71) (.pointer (some ⟨g, 0, none⟩)) rfl rfl (by kernel_rfl) (by kernel_rfl) (by kernel_rfl) (by kernel_rfl) (by kernel_rfl) (by decide) (fun _ _ _ h => h) (by rfl) (fun w hw => by first | rfl | (go_simp; done) | (go_simp; rfl) | (go_simp; omega)) hHeld ?_
        simp only [Act.put, List.setIfInBounds_toArray, List.set_cons_zero, List.set_cons_succ]
        refine takeP [26] 25 (some 72) (.pointer (some ⟨g, 0, none⟩)) rfl rfl (by kernel_rfl) (by kernel_rfl) (by kernel_rfl) (by kernel_rfl) (by kernel_rfl) (by decide) (fun _ _ _ h => h) (by rfl) (fun w hw => by first | rfl | (go_simp; done) | (go_simp; rfl) | (go_simp; omega)) hHeld ?_
        simp only [Act.put, List.setIfInBounds_toArray, List.set_cons_zero, List.set_cons_succ]
        refine readyT 14 (by kernel_rfl) rfl (by rfl) (fun K hK => ?_)
        go_simp
        refine (AD.out _ UW.out).mono ?_
        rintro e wx ⟨rfl, hx⟩
        obtain rfl := hx.symm
        try go_wp2_with fail
        refine hK.out _ _ (fun _ => hHeld) (fun hH => ?_)
        clear hK hH
        refine readyT 19 (by kernel_rfl) rfl (by rfl) (fun K hK => ?_)
        go_simp
        refine (MD.out _).mono ?_
        rintro e wx ⟨rfl, hx⟩
        obtain rfl := hx.symm
        try go_wp2_with fail
        refine hK.out _ _ (fun _ => hHeld) (fun hH => ?_)
        clear hK hH
        refine takeT 20 (some 67) (.int .i64 (1 + (p : Int))) rfl rfl (by kernel_rfl) (by kernel_rfl) (by kernel_rfl) (by kernel_rfl) (by decide) (fun _ _ _ h => h) (by rfl) (fun w hw => by have z := zP; first | rfl | (go_simp; done) | (go_simp; rfl) | (go_simp; omega)) hHeld ?_
        simp only [Act.put, List.setIfInBounds_toArray, List.set_cons_zero, List.set_cons_succ]
        refine takeT 21 (some 68) (.agg (tabv uA.v 36)) rfl rfl (by kernel_rfl) (by kernel_rfl) (by kernel_rfl) (by kernel_rfl) (by decide) (fun _ _ _ h => h) (by rfl) (fun w hw => by rw [HUA.out]; exact run_buildQ w 43 _ rfl [(0, .int .i64 1), (1, .int .i64 (na : Int)), (2, .int .i64 (1 + (p : Int)))] (by first | (simp [Act.eval]; done) | rfl) _ (built_uN _ _)) hHeld ?_
        simp only [Act.put, List.setIfInBounds_toArray, List.set_cons_zero, List.set_cons_succ]
        refine readyT 22 (by kernel_rfl) rfl (by rfl) (fun K hK => ?_)
        refine wpRun (v := .slice (some ⟨wd.heap.size, 0, none⟩) 1 1) (w' := wd.alloc (.cells (tabv uA.v 36) 43)) (by have := run_sliceU wd uA; simp [execOp, this, Act.eval, Result.andThen]) ?_
        simp only [Act.put, List.setIfInBounds_toArray, List.set_cons_zero, List.set_cons_succ]
        refine hK.out _ _ (fun _ => ⟨hHeld.1.old _, hHeld.2.old _⟩) (fun hH => ?_)
        clear hHeld
        have hHeld := hH (by decide)
        clear hK hH
        refine readyT 23 (by kernel_rfl) rfl (by rfl) (fun K hK => ?_)
        refine wpRunS _ _ _ rfl (.slice (some ⟨q, 0, none⟩) (n0 + 1) cp) HR2.out ?_
        simp only [Act.put, List.setIfInBounds_toArray, List.set_cons_zero, List.set_cons_succ]
        have x2 : Has wQ gO 35 (stv Kd Sd N) 3 := by
          unfold Has; rw [HGR.out.block gO hHeld.1.lt (fun e => (hnb.out gO e.symm).2 rfl)]; exact hHeld.1
        have y2 : Has wQ g 30 (bkv (.slice ad0 n0 c0) (.slice ad1 n1 c1) f0 f1 b0 b1) 6 := by
          unfold Has; rw [HGR.out.block g hHeld.2.lt (fun e => by have := (hnb.out g e.symm).1; omega)]; exact hHeld.2
        refine hK.out _ _ (fun _ => ⟨x2, y2⟩) (fun hH => ?_)
        clear hHeld
        have hHeld := hH (by decide)
        clear hK hH
        refine takeT 26 (some 73) (.pointer (some ⟨g, 0, none⟩)) rfl rfl (by kernel_rfl) (by kernel_rfl) (by kernel_rfl) (by kernel_rfl) (by decide) (fun _ _ _ h => h) (by rfl) (fun w hw => by first | rfl | (go_simp; done) | (go_simp; rfl) | (go_simp; omega)) hHeld ?_
        simp only [Act.put, List.setIfInBounds_toArray, List.set_cons_zero, List.set_cons_succ]
        have cg : wQ.cell? ⟨g, 0, none⟩ = some (.slice ad0 n0 c0) := y2.cell 0 (by omega)
        have fg := y2.frozen 0
        have GSN := hide (HBd.out.app0 HO2.out HGR.out HGG.out y2)
        refine readyT 27 (by kernel_rfl) rfl (by rfl) (fun K hK => ?_)
        go_simp
        refine hK.out _ _ (fun x => absurd rfl x) (fun _ => ?_)
        clear hK
        refine ⟨by kernel_rfl, ?_⟩
        refine NoPanic.normal ?_
        generalize hw3 : World.setCell wQ ⟨g, 0, none⟩ (.slice (some ⟨q, 0, none⟩) (n0 + 1) cp) = w4 at GSN ⊢
        clear hw3 cg fg x2 y2 HR2 HO2 HGR HGG hHeld
        try go_wp2
        go_ret
        exact ⟨rfl, ⟨_, _, _, _, _, _, GSN.out.1, NVN.out, HZN.out, HZ.out.2⟩, BD.out.trans GSN.out.2⟩
      · have hd2 : decide ((n0 : Int) < 2048) = false := decide_eq_false (by omega)
        have hd3 : decide (n0 < 2048) = false := decide_eq_false hlt
        go_wp2
        go_ret
        exact ⟨rfl, ⟨_, _, l0, l1, f0, f1, (HAN.out _ hb3).1, HN.out, HZ.out.1, HZ.out.2⟩, (hb3).mono (by have := HGW.out; omega)⟩
    · have hd1 : decide (0 < L) = false := decide_eq_false hpos
      go_wp2
      go_ret
      exact ⟨rfl, ⟨_, _, l0, l1, f0, f1, (HAN.out _ hb3).1, HN.out, HZ.out.1, HZ.out.2⟩, (hb3).mono (by have := HGW.out; omega)⟩
  | false =>
    cases k2 : (Kd == 2) with
    | true =>
      have HKK : Hid (Kd = 2 ∨ Kd = 3) := by first | exact .inl (by simpa using k2) | exact .inr (by simpa using k3)
      go_wp2_with fail
      refine (RM.out _ (HAN.out _ HB1.out).1.arr (HAN.out _ HB1.out).2.1 (HAN.out _ HB1.out).2.2).mono ?_
      rintro e w2 ⟨v, rfl, ⟨ids, hO, hln, hmem⟩, hc2⟩
      have r2 := R1.out.below hc2 R1.out.lt
      have hsz1 : gO < w1.heap.size := R1.out.lt
      have hb2 : Below gO w w2 := HB1.out.trans (hc2.mono (by omega))
      clear hc2 q0 q1 hW1
      have cS : w2.cell? ⟨g, 0, none⟩ = some (.slice ad0 n0 c0) := (HAN.out _ hb2).1.arr.cell 0 (by omega)
      obtain ⟨nz, hnz⟩ : ∃ n, ids.length = n := ⟨_, rfl⟩
      by_cases hpos : 0 < nz
      · obtain ⟨m, hm⟩ : ∃ m : Nat, nz = m + 1 := ⟨nz - 1, by omega⟩
        have hnzb : nz ≤ 2048 := by have := HF.out; omega
        obtain ⟨p, hp, MDx⟩ := mod_any N m (by omega)
        obtain ⟨z, hz⟩ : ∃ z, ids[p]? = some z := ⟨_, List.getElem?_eq_getElem (by omega)⟩
        obtain ⟨gz, cz, rfl, hcz, hgz1, hgz2⟩ := hO.get hz
        rw [hnz]
        obtain ⟨i, u, hi1, hi2, hi3, hi4⟩ := hmem z (List.mem_of_getElem? hz)
        have hd0 : decide (0 < (nz : Int)) = true := decide_eq_true (by omega)
        have hd1 : decide (0 < nz) = true := decide_eq_true hpos
        have zL : IntKind.i64.wrap ((nz : Int) - 1) = (m : Int) := by rw [IntKind.wrap_i64]; omega
        have hPm : Hid ((p : Int) < (nz : Int)) := by show _ < _; omega
        have MD := hide MDx
        have hzb : (nz : Int) ≤ 2048 := by omega
        by_cases hlt : n0 < 2048
        · have hd2 : decide ((n0 : Int) < 2048) = true := decide_eq_true (by omega)
          have hd3 : decide (n0 < 2048) = true := decide_eq_true hlt
          obtain ⟨uA, huA⟩ : ∃ u : Upd, u = ⟨Kd, z, 0, fun _ => 0, nilB⟩ := ⟨_, rfl⟩
          have hidz := HN.out.i1 i u hi2 hi3
          have hle := adds_le (l1.take i)
          rw [List.length_take] at hle
          have hvA : validB uA = true := by rw [huA]; exact nval2 HKK.out (by have := HF.out; omega)
          have NVN : Hid (Nv b0 b1 (l0 ++ [uA]) l1 f0 f1) := (HN.out.rem (r := uA) (u := u) (k := i) hvA (by rw [huA]; show Kd ≠ 1; have := HKK.out; omega) hi2 hi3 (by rw [huA]; exact hi4.symm) hi1)
          have HUA := hide huA
          have hcz' := hide hcz
          clear huA hvA hidz hle MDx hp hz hO hmem hln hi1 hi2 hi3 hi4 hm hnzb hcz
          obtain ⟨wd, hwd⟩ : ∃ x, World.drew w2 = x := ⟨_, rfl⟩
          have hbd : Below gO w wd := by rw [← hwd]; exact hb2.drew
          have hq1 : Hid (Has wd gO 35 (stv Kd Sd N) 3) := by rw [← hwd]; exact r2.below (Below.refl _ _).drew r2.lt
          have HBd := hide (HAN.out wd hbd).1
          have hq2 : Hid (Has wd g 30 (bkv (.slice ad0 n0 c0) (.slice ad1 n1 c1) f0 f1 b0 b1) 6) := HBd.out.arr
          have BD : Hid (Below B w wd) := hbd.mono (by have := HGW.out; omega)

          have hqz : Hid (wd.cell? ⟨gz, p, none⟩ = some (.int .i64 z)) := by rw [← hwd]; exact ((Below.refl _ _).drew.cell (World.block_lt_of_cell? _ _ hcz'.out)).trans hcz'.out
          have hnz : Hid (∀ k, (Value.slice ad0 n0 c0).ownBlock = some k → k ≠ gz) := fun k hk => by have := HOW.out k hk; omega
          obtain ⟨q, cp, wQ, hr2, ho2, hgr, hgg⟩ := run_appL wd (g + 1) (.slice ad0 n0 c0) l0 uA 25 HBd.out.o0 (by have := HS0.out; omega) (by have := HGW.out; have := HBd.out.arr.lt; omega)
          rw [HS0.out] at hr2 ho2
          have HR2 := hide hr2
          have HO2 := hide ho2
          have HGR := hide hgr
          have HGG := hide hgg
          have hnb : Hid (∀ k, (Value.slice ad0 n0 c0).ownBlock = some k → g < k ∧ k ≠ gO) := fun k hk => by have := HOW.out k hk; exact ⟨this.1, by omega⟩
          have HZN : Hid ((l0 ++ [uA]).length ≤ 2048) := by show _ ≤ _; rw [List.length_append, HS0.out]; simp; omega
          clear hr2 ho2 hgr hgg hbd
          clear r2 hb2 hcz' hgz1 hgz2
          go_wp2
          refine wp_region_noPanic ?_
          refine wp_region_T (S := fun wx => Has wx gO 35 (stv Kd Sd N) 3 ∧ Has wx g 30 (bkv (.slice ad0 n0 c0) (.slice ad1 n1 c1) f0 f1 b0 b1) 6 ∧ wx.cell? ⟨gz, p, none⟩ = some (.int .i64 z)) 25 (by kernel_rfl) (by rw [hwd]; exact ⟨hq1.out, hq2.out, hqz.out⟩) (fun hHeld => ?_)
          rw [hwd] at hHeld ⊢
          refine takeT 0 (some 93) (.pointer (some ⟨g, 0, none⟩)) rfl rfl (by kernel_rfl) (by kernel_rfl) (by kernel_rfl) (by kernel_rfl) (by decide) (fun _ _ _ h => h) (by rfl) (fun w hw => by first | rfl | (go_simp; done) | (go_simp; rfl) | (go_simp; omega)) hHeld ?_
          simp only [Act.put, List.setIfInBounds_toArray, List.set_cons_zero, List.set_cons_succ]
          refine takeT 1 (some 94) (.int .i64 0) rfl rfl (by kernel_rfl) (by kernel_rfl) (by kernel_rfl) (by kernel_rfl) (by decide) (fun _ _ _ h => h) (by rfl) (fun w hw => by first | rfl | (go_simp; done) | (go_simp; rfl) | (go_simp; omega)) hHeld ?_
          simp only [Act.put, List.setIfInBounds_toArray, List.set_cons_zero, List.set_cons_succ]
          refine takeT 2 (some 95) (.pointer (some ⟨g, 0, none⟩)) rfl rfl (by kernel_rfl) (by kernel_rfl) (by kernel_rfl) (by kernel_rfl) (by decide) (fun _ _ _ h => h) (by rfl) (fun w hw => by first | rfl | (go_simp; done) | (go_simp; rfl) | (go_simp; omega)) hHeld ?_
          simp only [Act.put, List.setIfInBounds_toArray, List.set_cons_zero, List.set_cons_succ]
          refine takeT 3 (some 96) (.int .i64 0) rfl rfl (by kernel_rfl) (by kernel_rfl) (by kernel_rfl) (by kernel_rfl) (by decide) (fun _ _ _ h => h) (by rfl) (fun w hw => by first | rfl | (go_simp; done) | (go_simp; rfl) | (go_simp; omega)) hHeld ?_
          simp only [Act.put, List.setIfInBounds_toArray, List.set_cons_zero, List.set_cons_succ]
          refine takeT 4 (some 97) (.pointer (some ⟨g, 0, none⟩)) rfl rfl (by kernel_rfl) (by kernel_rfl) (by kernel_rfl) (by kernel_rfl) (by decide) (fun _ _ _ h => h) (by rfl) (fun w hw => by first | rfl | (go_simp; done) | (go_simp; rfl) | (go_simp; omega)) hHeld ?_
          simp only [Act.put, List.setIfInBounds_toArray, List.set_cons_zero, List.set_cons_succ]
          refine takeT 5 (some 98) (.pointer (some ⟨g, 0, none⟩)) rfl rfl (by kernel_rfl) (by kernel_rfl) (by kernel_rfl) (by kernel_rfl) (by decide) (fun _ _ _ h => h) (by rfl) (fun w hw => by first | rfl | (go_simp; done) | (go_simp; rfl) | (go_simp; omega)) hHeld ?_
          simp only [Act.put, List.setIfInBounds_toArray, List.set_cons_zero, List.set_cons_succ]
          refine takeT 6 (some 99) (.pointer (some ⟨g, 0, none⟩)) rfl rfl (by kernel_rfl) (by kernel_rfl) (by kernel_rfl) (by kernel_rfl) (by decide) (fun _ _ _ h => h) (by rfl) (fun w hw => by first | rfl | (go_simp; done) | (go_simp; rfl) | (go_simp; omega)) hHeld ?_
          simp only [Act.put, List.setIfInBounds_toArray, List.set_cons_zero, List.set_cons_succ]
          refine takeT 7 (some 100) (.slice ad0 n0 c0) rfl rfl (by kernel_rfl) (by kernel_rfl) (by kernel_rfl) (by kernel_rfl) (by decide) (fun _ _ _ h => h) (by rfl) (fun w hw => by have c : w.cell? ⟨g, 0, none⟩ = some (.slice ad0 n0 c0) := hw.2.1.cell 0 (by omega); first | (go_simp; done) | (go_simp; rfl)) hHeld ?_
          simp only [Act.put, List.setIfInBounds_toArray, List.set_cons_zero, List.set_cons_succ]
          refine takeT 8 (some 101) (.pointer (some ⟨gO, 0, none⟩)) rfl rfl (by kernel_rfl) (by kernel_rfl) (by kernel_rfl) (by kernel_rfl) (by decide) (fun _ _ _ h => h) (by rfl) (fun w hw => by first | rfl | (go_simp; done) | (go_simp; rfl) | (go_simp; omega)) hHeld ?_
          simp only [Act.put, List.setIfInBounds_toArray, List.set_cons_zero, List.set_cons_succ]
          refine takeT 9 (some 102) (.int .i64 Kd) rfl rfl (by kernel_rfl) (by kernel_rfl) (by kernel_rfl) (by kernel_rfl) (by decide) (fun _ _ _ h => h) (by rfl) (fun w hw => by have c : w.cell? ⟨gO, 0, none⟩ = some (.int .i64 Kd) := hw.1.cell 0 (by omega); first | (go_simp; done) | (go_simp; rfl)) hHeld ?_
          simp only [Act.put, List.setIfInBounds_toArray, List.set_cons_zero, List.set_cons_succ]
          refine takeT 10 (some 103) (.slice (some ⟨gz, 0, none⟩) nz cz) rfl rfl (by kernel_rfl) (by kernel_rfl) (by kernel_rfl) (by kernel_rfl) (by decide) (fun _ _ _ h => h) (by rfl) (fun w hw => by first | rfl | (go_simp; done) | (go_simp; rfl) | (go_simp; omega)) hHeld ?_
          simp only [Act.put, List.setIfInBounds_toArray, List.set_cons_zero, List.set_cons_succ]
          refine takeT 11 (some 104) (.pointer (some ⟨gO, 2, none⟩)) rfl rfl (by kernel_rfl) (by kernel_rfl) (by kernel_rfl) (by kernel_rfl) (by decide) (fun _ _ _ h => h) (by rfl) (fun w hw => by first | rfl | (go_simp; done) | (go_simp; rfl) | (go_simp; omega)) hHeld ?_
          simp only [Act.put, List.setIfInBounds_toArray, List.set_cons_zero, List.set_cons_succ]
          refine takeT 12 (some 105) (.int .i64 N) rfl rfl (by kernel_rfl) (by kernel_rfl) (by kernel_rfl) (by kernel_rfl) (by decide) (fun _ _ _ h => h) (by rfl) (fun w hw => by have c : w.cell? ⟨gO, 2, none⟩ = some (.int .i64 N) := hw.1.cell 2 (by omega); first | (go_simp; done) | (go_simp; rfl)) hHeld ?_
          simp only [Act.put, List.setIfInBounds_toArray, List.set_cons_zero, List.set_cons_succ]
          refine takeT 13 (some 106) (.slice (some ⟨gz, 0, none⟩) nz cz) rfl rfl (by kernel_rfl) (by kernel_rfl) (by kernel_rfl) (by kernel_rfl) (by decide) (fun _ _ _ h => h) (by rfl) (fun w hw => by first | rfl | (go_simp; done) | (go_simp; rfl) | (go_simp; omega)) hHeld ?_
          simp only [Act.put, List.setIfInBounds_toArray, List.set_cons_zero, List.set_cons_succ]
          refine takeT 14 (some 107) (.int .i64 (nz : Int)) rfl rfl (by kernel_rfl) (by kernel_rfl) (by kernel_rfl) (by kernel_rfl) (by decide) (fun _ _ _ h => h) (by rfl) (fun w hw => by first | rfl | (go_simp; done) | (go_simp; rfl) | (go_simp; omega)) hHeld ?_
          simp only [Act.put, List.setIfInBounds_toArray, List.set_cons_zero, List.set_cons_succ]
          refine takeT 15 (some 108) (.int .i64 (m : Int)) rfl rfl (by kernel_rfl) (by kernel_rfl) (by kernel_rfl) (by kernel_rfl) (by decide) (fun _ _ _ h => h) (by rfl) (fun w hw => by have z := zL; first | rfl | (go_simp; done) | (go_simp; rfl) | (go_simp; omega)) hHeld ?_
          simp only [Act.put, List.setIfInBounds_toArray, List.set_cons_zero, List.set_cons_succ]
          refine takeP [24, 23] 22 (some 115) (.pointer (some ⟨g, 0, none⟩)) rfl rfl (by kernel_rfl) (by kernel_rfl) (by kernel_rfl) (by kernel_rfl) (by kernel_rfl) (by decide) (fun _ _ _ h => h) (by rfl) (fun w hw => by first | rfl | (go_simp; done) | (go_simp; rfl) | (go_simp; omega)) hHeld ?_
          simp only [Act.put, List.setIfInBounds_toArray, List.set_cons_zero, List.set_cons_succ]
          refine takeP [24] 23 (some 116) (.pointer (some ⟨g, 0, none⟩)) rfl rfl (by kernel_rfl) (by kernel_rfl) (by kernel_rfl) (by kernel_rfl) (by kernel_rfl) (by decide) (fun _ _ _ h => h) (by rfl) (fun w hw => by first | rfl | (go_simp; done) | (go_simp; rfl) | (go_simp; omega)) hHeld ?_
          simp only [Act.put, List.setIfInBounds_toArray, List.set_cons_zero, List.set_cons_succ]
          refine readyT 16 (by kernel_rfl) rfl (by rfl) (fun K hK => ?_)
          go_simp
          refine (MD.out _).mono ?_
          rintro e wx ⟨rfl, hx⟩
          obtain rfl := hx.symm
          try go_wp2_with fail
          refine hK.out _ _ (fun _ => hHeld) (fun hH => ?_)
          clear hK hH
          refine takeT 17 (some 110) (.pointer (some ⟨gz, p, none⟩)) rfl rfl (by kernel_rfl) (by kernel_rfl) (by kernel_rfl) (by kernel_rfl) (by decide) (fun _ _ _ h => h) (by rfl) (fun w hw => by have p0 : (0 : Int) ≤ (p : Int) := (by omega); have p1 : (p : Int) < (nz : Int) := hPm.out; first | rfl | (go_simp; done) | (go_simp; rfl) | (go_simp; omega)) hHeld ?_
          simp only [Act.put, List.setIfInBounds_toArray, List.set_cons_zero, List.set_cons_succ]
          refine takeT 18 (some 111) (.int .i64 z) rfl rfl (by kernel_rfl) (by kernel_rfl) (by kernel_rfl) (by kernel_rfl) (by decide) (fun _ _ _ h => h) (by rfl) (fun w hw => by have c := hw.2.2; first | (go_simp; done) | (go_simp; rfl)) hHeld ?_
          simp only [Act.put, List.setIfInBounds_toArray, List.set_cons_zero, List.set_cons_succ]
          refine takeT 19 (some 112) (.agg (tabv uA.v 36)) rfl rfl (by kernel_rfl) (by kernel_rfl) (by kernel_rfl) (by kernel_rfl) (by decide) (fun _ _ _ h => h) (by rfl) (fun w hw => by rw [HUA.out]; exact run_buildQ w 43 _ rfl [(0, .int .i64 Kd), (1, .int .i64 z)] (by first | (simp [Act.eval]; done) | rfl) _ (built_uR _ _)) hHeld ?_
          simp only [Act.put, List.setIfInBounds_toArray, List.set_cons_zero, List.set_cons_succ]
          refine readyT 20 (by kernel_rfl) rfl (by rfl) (fun K hK => ?_)
          refine wpRun (v := .slice (some ⟨wd.heap.size, 0, none⟩) 1 1) (w' := wd.alloc (.cells (tabv uA.v 36) 43)) (by have := run_sliceU wd uA; simp [execOp, this, Act.eval, Result.andThen]) ?_
          simp only [Act.put, List.setIfInBounds_toArray, List.set_cons_zero, List.set_cons_succ]
          refine hK.out _ _ (fun _ => ⟨hHeld.1.old _, hHeld.2.1.old _, (cell_same (heap_alloc_old wd _ (World.block_lt_of_cell? _ _ hHeld.2.2))).trans hHeld.2.2⟩) (fun hH => ?_)
          clear hHeld
          have hHeld := hH (by decide)
          clear hK hH
          refine readyT 21 (by kernel_rfl) rfl (by rfl) (fun K hK => ?_)
          refine wpRunS _ _ _ rfl (.slice (some ⟨q, 0, none⟩) (n0 + 1) cp) HR2.out ?_
          simp only [Act.put, List.setIfInBounds_toArray, List.set_cons_zero, List.set_cons_succ]
          have x2 : Has wQ gO 35 (stv Kd Sd N) 3 := by
            unfold Has; rw [HGR.out.block gO hHeld.1.lt (fun e => (hnb.out gO e.symm).2 rfl)]; exact hHeld.1
          have y2 : Has wQ g 30 (bkv (.slice ad0 n0 c0) (.slice ad1 n1 c1) f0 f1 b0 b1) 6 := by
            unfold Has; rw [HGR.out.block g hHeld.2.1.lt (fun e => by have := (hnb.out g e.symm).1; omega)]; exact hHeld.2.1
          have z2 : wQ.cell? ⟨gz, p, none⟩ = some (.int .i64 z) := (cell_same (HGR.out.block gz (World.block_lt_of_cell? _ _ hHeld.2.2) (fun e => (hnz.out gz e.symm) rfl))).trans hHeld.2.2
          refine hK.out _ _ (fun _ => ⟨x2, y2, z2⟩) (fun hH => ?_)
          clear hHeld
          have hHeld := hH (by decide)
          clear hK hH
          refine takeT 24 (some 117) (.pointer (some ⟨g, 0, none⟩)) rfl rfl (by kernel_rfl) (by kernel_rfl) (by kernel_rfl) (by kernel_rfl) (by decide) (fun _ _ _ h => h) (by rfl) (fun w hw => by first | rfl | (go_simp; done) | (go_simp; rfl) | (go_simp; omega)) hHeld ?_
          simp only [Act.put, List.setIfInBounds_toArray, List.set_cons_zero, List.set_cons_succ]
          have cg : wQ.cell? ⟨g, 0, none⟩ = some (.slice ad0 n0 c0) := y2.cell 0 (by omega)
          have fg := y2.frozen 0
          have GSN := hide (HBd.out.app0 HO2.out HGR.out HGG.out y2)
          refine readyT 25 (by kernel_rfl) rfl (by rfl) (fun K hK => ?_)
          go_simp
          refine hK.out _ _ (fun x => absurd rfl x) (fun _ => ?_)
          clear hK
          refine ⟨by kernel_rfl, ?_⟩
          refine NoPanic.normal ?_
          generalize hw3 : World.setCell wQ ⟨g, 0, none⟩ (.slice (some ⟨q, 0, none⟩) (n0 + 1) cp) = w4 at GSN ⊢
          clear hw3 cg fg x2 y2 HR2 HO2 HGR HGG hHeld
          try go_wp2
          go_ret
          exact ⟨rfl, ⟨_, _, _, _, _, _, GSN.out.1, NVN.out, HZN.out, HZ.out.2⟩, BD.out.trans GSN.out.2⟩
        · have hd2 : decide ((n0 : Int) < 2048) = false := decide_eq_false (by omega)
          have hd3 : decide (n0 < 2048) = false := decide_eq_false hlt
          go_wp2
          go_ret
          exact ⟨rfl, ⟨_, _, l0, l1, f0, f1, (HAN.out _ hb2).1, HN.out, HZ.out.1, HZ.out.2⟩, (hb2).mono (by have := HGW.out; omega)⟩
      · obtain rfl : nz = 0 := by omega
        obtain ⟨adz, cz, rfl⟩ := hO.len
        rw [hnz]
        go_wp2
        go_ret
        exact ⟨rfl, ⟨_, _, l0, l1, f0, f1, (HAN.out _ hb2).1, HN.out, HZ.out.1, HZ.out.2⟩, (hb2).mono (by have := HGW.out; omega)⟩
    | false =>
      cases k3 : (Kd == 3) with
      | true =>
        have HKK : Hid (Kd = 2 ∨ Kd = 3) := by first | exact .inl (by simpa using k2) | exact .inr (by simpa using k3)
        go_wp2_with fail
        refine (RM.out _ (HAN.out _ HB1.out).1.arr (HAN.out _ HB1.out).2.1 (HAN.out _ HB1.out).2.2).mono ?_
        rintro e w2 ⟨v, rfl, ⟨ids, hO, hln, hmem⟩, hc2⟩
        have r2 := R1.out.below hc2 R1.out.lt
        have hsz1 : gO < w1.heap.size := R1.out.lt
        have hb2 : Below gO w w2 := HB1.out.trans (hc2.mono (by omega))
        clear hc2 q0 q1 hW1
        have cS : w2.cell? ⟨g, 0, none⟩ = some (.slice ad0 n0 c0) := (HAN.out _ hb2).1.arr.cell 0 (by omega)
        obtain ⟨nz, hnz⟩ : ∃ n, ids.length = n := ⟨_, rfl⟩
        by_cases hpos : 0 < nz
        · obtain ⟨m, hm⟩ : ∃ m : Nat, nz = m + 1 := ⟨nz - 1, by omega⟩
          have hnzb : nz ≤ 2048 := by have := HF.out; omega
          obtain ⟨p, hp, MDx⟩ := mod_any N m (by omega)
          obtain ⟨z, hz⟩ : ∃ z, ids[p]? = some z := ⟨_, List.getElem?_eq_getElem (by omega)⟩
          obtain ⟨gz, cz, rfl, hcz, hgz1, hgz2⟩ := hO.get hz
          rw [hnz]
          obtain ⟨i, u, hi1, hi2, hi3, hi4⟩ := hmem z (List.mem_of_getElem? hz)
          have hd0 : decide (0 < (nz : Int)) = true := decide_eq_true (by omega)
          have hd1 : decide (0 < nz) = true := decide_eq_true hpos
          have zL : IntKind.i64.wrap ((nz : Int) - 1) = (m : Int) := by rw [IntKind.wrap_i64]; omega
          have hPm : Hid ((p : Int) < (nz : Int)) := by show _ < _; omega
          have MD := hide MDx
          have hzb : (nz : Int) ≤ 2048 := by omega
          by_cases hlt : n0 < 2048
          · have hd2 : decide ((n0 : Int) < 2048) = true := decide_eq_true (by omega)
            have hd3 : decide (n0 < 2048) = true := decide_eq_true hlt
            obtain ⟨uA, huA⟩ : ∃ u : Upd, u = ⟨Kd, z, 0, fun _ => 0, nilB⟩ := ⟨_, rfl⟩
            have hidz := HN.out.i1 i u hi2 hi3
            have hle := adds_le (l1.take i)
            rw [List.length_take] at hle
            have hvA : validB uA = true := by rw [huA]; exact nval2 HKK.out (by have := HF.out; omega)
            have NVN : Hid (Nv b0 b1 (l0 ++ [uA]) l1 f0 f1) := (HN.out.rem (r := uA) (u := u) (k := i) hvA (by rw [huA]; show Kd ≠ 1; have := HKK.out; omega) hi2 hi3 (by rw [huA]; exact hi4.symm) hi1)
            have HUA := hide huA
            have hcz' := hide hcz
            clear huA hvA hidz hle MDx hp hz hO hmem hln hi1 hi2 hi3 hi4 hm hnzb hcz
            obtain ⟨wd, hwd⟩ : ∃ x, World.drew w2 = x := ⟨_, rfl⟩
            have hbd : Below gO w wd := by rw [← hwd]; exact hb2.drew
            have hq1 : Hid (Has wd gO 35 (stv Kd Sd N) 3) := by rw [← hwd]; exact r2.below (Below.refl _ _).drew r2.lt
            have HBd := hide (HAN.out wd hbd).1
            have hq2 : Hid (Has wd g 30 (bkv (.slice ad0 n0 c0) (.slice ad1 n1 c1) f0 f1 b0 b1) 6) := HBd.out.arr
            have BD : Hid (Below B w wd) := hbd.mono (by have := HGW.out; omega)

            have hqz : Hid (wd.cell? ⟨gz, p, none⟩ = some (.int .i64 z)) := by rw [← hwd]; exact ((Below.refl _ _).drew.cell (World.block_lt_of_cell? _ _ hcz'.out)).trans hcz'.out
            have hnz : Hid (∀ k, (Value.slice ad0 n0 c0).ownBlock = some k → k ≠ gz) := fun k hk => by have := HOW.out k hk; omega
            obtain ⟨q, cp, wQ, hr2, ho2, hgr, hgg⟩ := run_appL wd (g + 1) (.slice ad0 n0 c0) l0 uA 25 HBd.out.o0 (by have := HS0.out; omega) (by have := HGW.out; have := HBd.out.arr.lt; omega)
            rw [HS0.out] at hr2 ho2
            have HR2 := hide hr2
            have HO2 := hide ho2
            have HGR := hide hgr
            have HGG := hide hgg
            have hnb : Hid (∀ k, (Value.slice ad0 n0 c0).ownBlock = some k → g < k ∧ k ≠ gO) := fun k hk => by have := HOW.out k hk; exact ⟨this.1, by omega⟩
            have HZN : Hid ((l0 ++ [uA]).length ≤ 2048) := by show _ ≤ _; rw [List.length_append, HS0.out]; simp; omega
            clear hr2 ho2 hgr hgg hbd
            clear r2 hb2 hcz' hgz1 hgz2
            go_wp2
            refine wp_region_noPanic ?_
            refine wp_region_T (S := fun wx => Has wx gO 35 (stv Kd Sd N) 3 ∧ Has wx g 30 (bkv (.slice ad0 n0 c0) (.slice ad1 n1 c1) f0 f1 b0 b1) 6 ∧ wx.cell? ⟨gz, p, none⟩ = some (.int .i64 z)) 25 (by kernel_rfl) (by rw [hwd]; exact ⟨hq1.out, hq2.out, hqz.out⟩) (fun hHeld => ?_)
            rw [hwd] at hHeld ⊢
            refine takeT 0 (some 93) (.pointer (some ⟨g, 0, none⟩)) rfl rfl (by kernel_rfl) (by kernel_rfl) (by kernel_rfl) (by kernel_rfl) (by decide) (fun _ _ _ h => h) (by rfl) (fun w hw => by first | rfl | (go_simp; done) | (go_simp; rfl) | (go_simp; omega)) hHeld ?_
            simp only [Act.put, List.setIfInBounds_toArray, List.set_cons_zero, List.set_cons_succ]
            refine takeT 1 (some 94) (.int .i64 0) rfl rfl (by kernel_rfl) (by kernel_rfl) (by kernel_rfl) (by kernel_rfl) (by decide) (fun _ _ _ h => h) (by rfl) (fun w hw => by first | rfl | (go_simp; done) | (go_simp; rfl) | (go_simp; omega)) hHeld ?_
            simp only [Act.put, List.setIfInBounds_toArray, List.set_cons_zero, List.set_cons_succ]
            refine takeT 2 (some 95) (.pointer (some ⟨g, 0, none⟩)) rfl rfl (by kernel_rfl) (by kernel_rfl) (by kernel_rfl) (by kernel_rfl) (by decide) (fun _ _ _ h => h) (by rfl) (fun w hw => by first | rfl | (go_simp; done) | (go_simp; rfl) | (go_simp; omega)) hHeld ?_
            simp only [Act.put, List.setIfInBounds_toArray, List.set_cons_zero, List.set_cons_succ]
            refine takeT 3 (some 96) (.int .i64 0) rfl rfl (by kernel_rfl) (by kernel_rfl) (by kernel_rfl) (by kernel_rfl) (by decide) (fun _ _ _ h => h) (by rfl) (fun w hw => by first | rfl | (go_simp; done) | (go_simp; rfl) | (go_simp; omega)) hHeld ?_
            simp only [Act.put, List.setIfInBounds_toArray, List.set_cons_zero, List.set_cons_succ]
            refine takeT 4 (some 97) (.pointer (some ⟨g, 0, none⟩)) rfl rfl (by kernel_rfl) (by kernel_rfl) (by kernel_rfl) (by kernel_rfl) (by decide) (fun _ _ _ h => h) (by rfl) (fun w hw => by first | rfl | (go_simp; done) | (go_simp; rfl) | (go_simp; omega)) hHeld ?_
            simp only [Act.put, List.setIfInBounds_toArray, List.set_cons_zero, List.set_cons_succ]
            refine takeT 5 (some 98) (.pointer (some ⟨g, 0, none⟩)) rfl rfl (by kernel_rfl) (by kernel_rfl) (by kernel_rfl) (by kernel_rfl) (by decide) (fun _ _ _ h => h) (by rfl) (fun w hw => by first | rfl | (go_simp; done) | (go_simp; rfl) | (go_simp; omega)) hHeld ?_
            simp only [Act.put, List.setIfInBounds_toArray, List.set_cons_zero, List.set_cons_succ]
            refine takeT 6 (some 99) (.pointer (some ⟨g, 0, none⟩)) rfl rfl (by kernel_rfl) (by kernel_rfl) (by kernel_rfl) (by kernel_rfl) (by decide) (fun _ _ _ h => h) (by rfl) (fun w hw => by first | rfl | (go_simp; done) | (go_simp; rfl) | (go_simp; omega)) hHeld ?_
            simp only [Act.put, List.setIfInBounds_toArray, List.set_cons_zero, List.set_cons_succ]
            refine takeT 7 (some 100) (.slice ad0 n0 c0) rfl rfl (by kernel_rfl) (by kernel_rfl) (by kernel_rfl) (by kernel_rfl) (by decide) (fun _ _ _ h => h) (by rfl) (fun w hw => by have c : w.cell? ⟨g, 0, none⟩ = some (.slice ad0 n0 c0) := hw.2.1.cell 0 (by omega); first | (go_simp; done) | (go_simp; rfl)) hHeld ?_
            simp only [Act.put, List.setIfInBounds_toArray, List.set_cons_zero, List.set_cons_succ]
            refine takeT 8 (some 101) (.pointer (some ⟨gO, 0, none⟩)) rfl rfl (by kernel_rfl) (by kernel_rfl) (by kernel_rfl) (by kernel_rfl) (by decide) (fun _ _ _ h => h) (by rfl) (fun w hw => by first | rfl | (go_simp; done) | (go_simp; rfl) | (go_simp; omega)) hHeld ?_
            simp only [Act.put, List.setIfInBounds_toArray, List.set_cons_zero, List.set_cons_succ]
            refine takeT 9 (some 102) (.int .i64 Kd) rfl rfl (by kernel_rfl) (by kernel_rfl) (by kernel_rfl) (by kernel_rfl) (by decide) (fun _ _ _ h => h) (by rfl) (fun w hw => by have c : w.cell? ⟨gO, 0, none⟩ = some (.int .i64 Kd) := hw.1.cell 0 (by omega); first | (go_simp; done) | (go_simp; rfl)) hHeld ?_
            simp only [Act.put, List.setIfInBounds_toArray, List.set_cons_zero, List.set_cons_succ]
            refine takeT 10 (some 103) (.slice (some ⟨gz, 0, none⟩) nz cz) rfl rfl (by kernel_rfl) (by kernel_rfl) (by kernel_rfl) (by kernel_rfl) (by decide) (fun _ _ _ h => h) (by rfl) (fun w hw => by first | rfl | (go_simp; done) | (go_simp; rfl) | (go_simp; omega)) hHeld ?_
            simp only [Act.put, List.setIfInBounds_toArray, List.set_cons_zero, List.set_cons_succ]
            refine takeT 11 (some 104) (.pointer (some ⟨gO, 2, none⟩)) rfl rfl (by kernel_rfl) (by kernel_rfl) (by kernel_rfl) (by kernel_rfl) (by decide) (fun _ _ _ h => h) (by rfl) (fun w hw => by first | rfl | (go_simp; done) | (go_simp; rfl) | (go_simp; omega)) hHeld ?_
            simp only [Act.put, List.setIfInBounds_toArray, List.set_cons_zero, List.set_cons_succ]
            refine takeT 12 (some 105) (.int .i64 N) rfl rfl (by kernel_rfl) (by kernel_rfl) (by kernel_rfl) (by kernel_rfl) (by decide) (fun _ _ _ h => h) (by rfl) (fun w hw => by have c : w.cell? ⟨gO, 2, none⟩ = some (.int .i64 N) := hw.1.cell 2 (by omega); first | (go_simp; done) | (go_simp; rfl)) hHeld ?_
            simp only [Act.put, List.setIfInBounds_toArray, List.set_cons_zero, List.set_cons_succ]
            refine takeT 13 (some 106) (.slice (some ⟨gz, 0, none⟩) nz cz) rfl rfl (by kernel_rfl) (by kernel_rfl) (by kernel_rfl) (by kernel_rfl) (by decide) (fun _ _ _ h => h) (by rfl) (fun w hw => by first | rfl | (go_simp; done) | (go_simp; rfl) | (go_simp; omega)) hHeld ?_
            simp only [Act.put, List.setIfInBounds_toArray, List.set_cons_zero, List.set_cons_succ]
            refine takeT 14 (some 107) (.int .i64 (nz : Int)) rfl rfl (by kernel_rfl) (by kernel_rfl) (by kernel_rfl) (by kernel_rfl) (by decide) (fun _ _ _ h => h) (by rfl) (fun w hw => by first | rfl | (go_simp; done) | (go_simp; rfl) | (go_simp; omega)) hHeld ?_
            simp only [Act.put, List.setIfInBounds_toArray, List.set_cons_zero, List.set_cons_succ]
            refine takeT 15 (some 108) (.int .i64 (m : Int)) rfl rfl (by kernel_rfl) (by kernel_rfl) (by kernel_rfl) (by kernel_rfl) (by decide) (fun _ _ _ h => h) (by rfl) (fun w hw => by have z := zL; first | rfl | (go_simp; done) | (go_simp; rfl) | (go_simp; omega)) hHeld ?_
            simp only [Act.put, List.setIfInBounds_toArray, List.set_cons_zero, List.set_cons_succ]
            refine takeP [24, 23] 22 (some 115) (.pointer (some ⟨g, 0, none⟩)) rfl rfl (by kernel_rfl) (by kernel_rfl) (by kernel_rfl) (by kernel_rfl) (by kernel_rfl) (by decide) (fun _ _ _ h => h) (by rfl) (fun w hw => by first | rfl | (go_simp; done) | (go_simp; rfl) | (go_simp; omega)) hHeld ?_
            simp only [Act.put, List.setIfInBounds_toArray, List.set_cons_zero, List.set_cons_succ]
            refine takeP [24] 23 (some 116) (.pointer (some ⟨g, 0, none⟩)) rfl rfl (by kernel_rfl) (by kernel_rfl) (by kernel_rfl) (by kernel_rfl) (by kernel_rfl) (by decide) (fun _ _ _ h => h) (by rfl) (fun w hw => by first | rfl | (go_simp; done) | (go_simp; rfl) | (go_simp; omega)) hHeld ?_
            simp only [Act.put, List.setIfInBounds_toArray, List.set_cons_zero, List.set_cons_succ]
            refine readyT 16 (by kernel_rfl) rfl (by rfl) (fun K hK => ?_)
            go_simp
            refine (MD.out _).mono ?_
            rintro e wx ⟨rfl, hx⟩
            obtain rfl := hx.symm
            try go_wp2_with fail
            refine hK.out _ _ (fun _ => hHeld) (fun hH => ?_)
            clear hK hH
            refine takeT 17 (some 110) (.pointer (some ⟨gz, p, none⟩)) rfl rfl (by kernel_rfl) (by kernel_rfl) (by kernel_rfl) (by kernel_rfl) (by decide) (fun _ _ _ h => h) (by rfl) (fun w hw => by have p0 : (0 : Int) ≤ (p : Int) := (by omega); have p1 : (p : Int) < (nz : Int) := hPm.out; first | rfl | (go_simp; done) | (go_simp; rfl) | (go_simp; omega)) hHeld ?_
            simp only [Act.put, List.setIfInBounds_toArray, List.set_cons_zero, List.set_cons_succ]
            refine takeT 18 (some 111) (.int .i64 z) rfl rfl (by kernel_rfl) (by kernel_rfl) (by kernel_rfl) (by kernel_rfl) (by decide) (fun _ _ _ h => h) (by rfl) (fun w hw => by have c := hw.2.2; first | (go_simp; done) | (go_simp; rfl)) hHeld ?_
            simp only [Act.put, List.setIfInBounds_toArray, List.set_cons_zero, List.set_cons_succ]
            refine takeT 19 (some 112) (.agg (tabv uA.v 36)) rfl rfl (by kernel_rfl) (by kernel_rfl) (by kernel_rfl) (by kernel_rfl) (by decide) (fun _ _ _ h => h) (by rfl) (fun w hw => by rw [HUA.out]; exact run_buildQ w 43 _ rfl [(0, .int .i64 Kd), (1, .int .i64 z)] (by first | (simp [Act.eval]; done) | rfl) _ (built_uR _ _)) hHeld ?_
            simp only [Act.put, List.setIfInBounds_toArray, List.set_cons_zero, List.set_cons_succ]
            refine readyT 20 (by kernel_rfl) rfl (by rfl) (fun K hK => ?_)
            refine wpRun (v := .slice (some ⟨wd.heap.size, 0, none⟩) 1 1) (w' := wd.alloc (.cells (tabv uA.v 36) 43)) (by have := run_sliceU wd uA; simp [execOp, this, Act.eval, Result.andThen]) ?_
            simp only [Act.put, List.setIfInBounds_toArray, List.set_cons_zero, List.set_cons_succ]
            refine hK.out _ _ (fun _ => ⟨hHeld.1.old _, hHeld.2.1.old _, (cell_same (heap_alloc_old wd _ (World.block_lt_of_cell? _ _ hHeld.2.2))).trans hHeld.2.2⟩) (fun hH => ?_)
            clear hHeld
            have hHeld := hH (by decide)
            clear hK hH
            refine readyT 21 (by kernel_rfl) rfl (by rfl) (fun K hK => ?_)
            refine wpRunS _ _ _ rfl (.slice (some ⟨q, 0, none⟩) (n0 + 1) cp) HR2.out ?_
            simp only [Act.put, List.setIfInBounds_toArray, List.set_cons_zero, List.set_cons_succ]
            have x2 : Has wQ gO 35 (stv Kd Sd N) 3 := by
              unfold Has; rw [HGR.out.block gO hHeld.1.lt (fun e => (hnb.out gO e.symm).2 rfl)]; exact hHeld.1
            have y2 : Has wQ g 30 (bkv (.slice ad0 n0 c0) (.slice ad1 n1 c1) f0 f1 b0 b1) 6 := by
              unfold Has; rw [HGR.out.block g hHeld.2.1.lt (fun e => by have := (hnb.out g e.symm).1; omega)]; exact hHeld.2.1
            have z2 : wQ.cell? ⟨gz, p, none⟩ = some (.int .i64 z) := (cell_same (HGR.out.block gz (World.block_lt_of_cell? _ _ hHeld.2.2) (fun e => (hnz.out gz e.symm) rfl))).trans hHeld.2.2
            refine hK.out _ _ (fun _ => ⟨x2, y2, z2⟩) (fun hH => ?_)
            clear hHeld
            have hHeld := hH (by decide)
            clear hK hH
            refine takeT 24 (some 117) (.pointer (some ⟨g, 0, none⟩)) rfl rfl (by kernel_rfl) (by kernel_rfl) (by kernel_rfl) (by kernel_rfl) (by decide) (fun _ _ _ h => h) (by rfl) (fun w hw => by first | rfl | (go_simp; done) | (go_simp; rfl) | (go_simp; omega)) hHeld ?_
            simp only [Act.put, List.setIfInBounds_toArray, List.set_cons_zero, List.set_cons_succ]
            have cg : wQ.cell? ⟨g, 0, none⟩ = some (.slice ad0 n0 c0) := y2.cell 0 (by omega)
            have fg := y2.frozen 0
            have GSN := hide (HBd.out.app0 HO2.out HGR.out HGG.out y2)
            refine readyT 25 (by kernel_rfl) rfl (by rfl) (fun K hK => ?_)
            go_simp
            refine hK.out _ _ (fun x => absurd rfl x) (fun _ => ?_)
            clear hK
            refine ⟨by kernel_rfl, ?_⟩
            refine NoPanic.normal ?_
            generalize hw3 : World.setCell wQ ⟨g, 0, none⟩ (.slice (some ⟨q, 0, none⟩) (n0 + 1) cp) = w4 at GSN ⊢
            clear hw3 cg fg x2 y2 HR2 HO2 HGR HGG hHeld
            try go_wp2
            go_ret
            exact ⟨rfl, ⟨_, _, _, _, _, _, GSN.out.1, NVN.out, HZN.out, HZ.out.2⟩, BD.out.trans GSN.out.2⟩
          · have hd2 : decide ((n0 : Int) < 2048) = false := decide_eq_false (by omega)
            have hd3 : decide (n0 < 2048) = false := decide_eq_false hlt
            go_wp2
            go_ret
            exact ⟨rfl, ⟨_, _, l0, l1, f0, f1, (HAN.out _ hb2).1, HN.out, HZ.out.1, HZ.out.2⟩, (hb2).mono (by have := HGW.out; omega)⟩
        · obtain rfl : nz = 0 := by omega
          obtain ⟨adz, cz, rfl⟩ := hO.len
          rw [hnz]
          go_wp2
          go_ret
          exact ⟨rfl, ⟨_, _, l0, l1, f0, f1, (HAN.out _ hb2).1, HN.out, HZ.out.1, HZ.out.2⟩, (hb2).mono (by have := HGW.out; omega)⟩
      | false =>
        cases k4 : (Kd == 4) with
        | true =>
          obtain ⟨m, hm⟩ : ∃ m : Nat, m = n0 - f0 := ⟨_, rfl⟩
          obtain ⟨p, hp, MDx⟩ := mod_any N m (by have := HF.out; omega)
          have MD := hide MDx
          obtain ⟨fn, hfn⟩ : ∃ x, x = f0 + p := ⟨_, rfl⟩
          have zL : IntKind.i64.wrap ((n0 : Int) - (f0 : Int)) = (m : Int) := by rw [IntKind.wrap_i64]; have := HF.out; omega
          have zP : IntKind.i64.wrap ((f0 : Int) + (p : Int)) = (fn : Int) := by rw [IntKind.wrap_i64]; have := HF.out; omega
          have NVN : Hid (Nv b0 b1 l0 l1 fn f1) := (HN.out.fix (k := fn) (by omega) (by rw [HS0.out]; have := HF.out; omega))
          clear hm hp MDx hfn
          have hb1 := HB1.out
          have r1 := R1.out
          obtain ⟨wd, hwd⟩ : ∃ x, World.drew w1 = x := ⟨_, rfl⟩
          have hbd : Below gO w wd := by rw [← hwd]; exact hb1.drew
          have hq1 : Hid (Has wd gO 35 (stv Kd Sd N) 3) := by rw [← hwd]; exact r1.below (Below.refl _ _).drew r1.lt
          have HBd := hide (HAN.out wd hbd).1
          have hq2 : Hid (Has wd g 30 (bkv (.slice ad0 n0 c0) (.slice ad1 n1 c1) f0 f1 b0 b1) 6) := HBd.out.arr
          have BD : Hid (Below B w wd) := hbd.mono (by have := HGW.out; omega)

          clear hb1 r1 hbd
          go_wp2
          refine wp_region_noPanic ?_
          refine wp_region_T (S := fun wx => Has wx gO 35 (stv Kd Sd N) 3 ∧ Has wx g 30 (bkv (.slice ad0 n0 c0) (.slice ad1 n1 c1) f0 f1 b0 b1) 6) 29 (by kernel_rfl) (by rw [hwd]; exact ⟨hq1.out, hq2.out⟩) (fun hHeld => ?_)
          rw [hwd] at hHeld ⊢
          refine takeT 0 (some 120) (.pointer (some ⟨g, 0, none⟩)) rfl rfl (by kernel_rfl) (by kernel_rfl) (by kernel_rfl) (by kernel_rfl) (by decide) (fun _ _ _ h => h) (by rfl) (fun w hw => by first | rfl | (go_simp; done) | (go_simp; rfl) | (go_simp; omega)) hHeld ?_
          simp only [Act.put, List.setIfInBounds_toArray, List.set_cons_zero, List.set_cons_succ]
          refine takeT 1 (some 121) (.int .i64 0) rfl rfl (by kernel_rfl) (by kernel_rfl) (by kernel_rfl) (by kernel_rfl) (by decide) (fun _ _ _ h => h) (by rfl) (fun w hw => by first | rfl | (go_simp; done) | (go_simp; rfl) | (go_simp; omega)) hHeld ?_
          simp only [Act.put, List.setIfInBounds_toArray, List.set_cons_zero, List.set_cons_succ]
          refine takeT 2 (some 122) (.pointer (some ⟨g, 0, none⟩)) rfl rfl (by kernel_rfl) (by kernel_rfl) (by kernel_rfl) (by kernel_rfl) (by decide) (fun _ _ _ h => h) (by rfl) (fun w hw => by first | rfl | (go_simp; done) | (go_simp; rfl) | (go_simp; omega)) hHeld ?_
          simp only [Act.put, List.setIfInBounds_toArray, List.set_cons_zero, List.set_cons_succ]
          refine takeT 3 (some 123) (.int .i64 0) rfl rfl (by kernel_rfl) (by kernel_rfl) (by kernel_rfl) (by kernel_rfl) (by decide) (fun _ _ _ h => h) (by rfl) (fun w hw => by first | rfl | (go_simp; done) | (go_simp; rfl) | (go_simp; omega)) hHeld ?_
          simp only [Act.put, List.setIfInBounds_toArray, List.set_cons_zero, List.set_cons_succ]
          refine takeT 4 (some 124) (.pointer (some ⟨g, 0, none⟩)) rfl rfl (by kernel_rfl) (by kernel_rfl) (by kernel_rfl) (by kernel_rfl) (by decide) (fun _ _ _ h => h) (by rfl) (fun w hw => by first | rfl | (go_simp; done) | (go_simp; rfl) | (go_simp; omega)) hHeld ?_
          simp only [Act.put, List.setIfInBounds_toArray, List.set_cons_zero, List.set_cons_succ]
          refine takeT 5 (some 125) (.pointer (some ⟨g, 2, none⟩)) rfl rfl (by kernel_rfl) (by kernel_rfl) (by kernel_rfl) (by kernel_rfl) (by decide) (fun _ _ _ h => h) (by rfl) (fun w hw => by first | rfl | (go_simp; done) | (go_simp; rfl) | (go_simp; omega)) hHeld ?_
          simp only [Act.put, List.setIfInBounds_toArray, List.set_cons_zero, List.set_cons_succ]
          refine takeT 6 (some 126) (.pointer (some ⟨g, 2, none⟩)) rfl rfl (by kernel_rfl) (by kernel_rfl) (by kernel_rfl) (by kernel_rfl) (by decide) (fun _ _ _ h => h) (by rfl) (fun w hw => by first | rfl | (go_simp; done) | (go_simp; rfl) | (go_simp; omega)) hHeld ?_
          simp only [Act.put, List.setIfInBounds_toArray, List.set_cons_zero, List.set_cons_succ]
          refine takeT 7 (some 127) (.int .i64 (f0 : Int)) rfl rfl (by kernel_rfl) (by kernel_rfl) (by kernel_rfl) (by kernel_rfl) (by decide) (fun _ _ _ h => h) (by rfl) (fun w hw => by have c : w.cell? ⟨g, 2, none⟩ = some (.int .i64 (f0 : Int)) := hw.2.cell 2 (by omega); first | (go_simp; done) | (go_simp; rfl)) hHeld ?_
          simp only [Act.put, List.setIfInBounds_toArray, List.set_cons_zero, List.set_cons_succ]
          refine takeT 8 (some 128) (.pointer (some ⟨gO, 2, none⟩)) rfl rfl (by kernel_rfl) (by kernel_rfl) (by kernel_rfl) (by kernel_rfl) (by decide) (fun _ _ _ h => h) (by rfl) (fun w hw => by first | rfl | (go_simp; done) | (go_simp; rfl) | (go_simp; omega)) hHeld ?_
          simp only [Act.put, List.setIfInBounds_toArray, List.set_cons_zero, List.set_cons_succ]
          refine takeT 9 (some 129) (.int .i64 N) rfl rfl (by kernel_rfl) (by kernel_rfl) (by kernel_rfl) (by kernel_rfl) (by decide) (fun _ _ _ h => h) (by rfl) (fun w hw => by have c : w.cell? ⟨gO, 2, none⟩ = some (.int .i64 N) := hw.1.cell 2 (by omega); first | (go_simp; done) | (go_simp; rfl)) hHeld ?_
          simp only [Act.put, List.setIfInBounds_toArray, List.set_cons_zero, List.set_cons_succ]
          refine takeT 10 (some 130) (.pointer (some ⟨g, 0, none⟩)) rfl rfl (by kernel_rfl) (by kernel_rfl) (by kernel_rfl) (by kernel_rfl) (by decide) (fun _ _ _ h => h) (by rfl) (fun w hw => by first | rfl | (go_simp; done) | (go_simp; rfl) | (go_simp; omega)) hHeld ?_
          simp only [Act.put, List.setIfInBounds_toArray, List.set_cons_zero, List.set_cons_succ]
          refine takeT 11 (some 131) (.int .i64 0) rfl rfl (by kernel_rfl) (by kernel_rfl) (by kernel_rfl) (by kernel_rfl) (by decide) (fun _ _ _ h => h) (by rfl) (fun w hw => by first | rfl | (go_simp; done) | (go_simp; rfl) | (go_simp; omega)) hHeld ?_
          simp only [Act.put, List.setIfInBounds_toArray, List.set_cons_zero, List.set_cons_succ]
          refine takeT 12 (some 132) (.pointer (some ⟨g, 0, none⟩)) rfl rfl (by kernel_rfl) (by kernel_rfl) (by kernel_rfl) (by kernel_rfl) (by decide) (fun _ _ _ h => h) (by rfl) (fun w hw => by first | rfl | (go_simp; done) | (go_simp; rfl) | (go_simp; omega)) hHeld ?_
          simp only [Act.put, List.setIfInBounds_toArray, List.set_cons_zero, List.set_cons_succ]
          refine takeT 13 (some 133) (.pointer (some ⟨g, 0, none⟩)) rfl rfl (by kernel_rfl) (by kernel_rfl) (by kernel_rfl) (by kernel_rfl) (by decide) (fun _ _ _ h => h) (by rfl) (fun w hw => by first | rfl | (go_simp; done) | (go_simp; rfl) | (go_simp; omega)) hHeld ?_
          simp only [Act.put, List.setIfInBounds_toArray, List.set_cons_zero, List.set_cons_succ]
          refine takeT 14 (some 134) (.pointer (some ⟨g, 0, none⟩)) rfl rfl (by kernel_rfl) (by kernel_rfl) (by kernel_rfl) (by kernel_rfl) (by decide) (fun _ _ _ h => h) (by rfl) (fun w hw => by first | rfl | (go_simp; done) | (go_simp; rfl) | (go_simp; omega)) hHeld ?_
          simp only [Act.put, List.setIfInBounds_toArray, List.set_cons_zero, List.set_cons_succ]
          refine takeT 15 (some 135) (.slice ad0 n0 c0) rfl rfl (by kernel_rfl) (by kernel_rfl) (by kernel_rfl) (by kernel_rfl) (by decide) (fun _ _ _ h => h) (by rfl) (fun w hw => by have c : w.cell? ⟨g, 0, none⟩ = some (.slice ad0 n0 c0) := hw.2.cell 0 (by omega); first | (go_simp; done) | (go_simp; rfl)) hHeld ?_
          simp only [Act.put, List.setIfInBounds_toArray, List.set_cons_zero, List.set_cons_succ]
          refine takeT 16 (some 136) (.int .i64 (n0 : Int)) rfl rfl (by kernel_rfl) (by kernel_rfl) (by kernel_rfl) (by kernel_rfl) (by decide) (fun _ _ _ h => h) (by rfl) (fun w hw => by first | rfl | (go_simp; done) | (go_simp; rfl) | (go_simp; omega)) hHeld ?_
          simp only [Act.put, List.setIfInBounds_toArray, List.set_cons_zero, List.set_cons_succ]
          refine takeT 17 (some 137) (.pointer (some ⟨g, 0, none⟩)) rfl rfl (by kernel_rfl) (by kernel_rfl) (by kernel_rfl) (by kernel_rfl) (by decide) (fun _ _ _ h => h) (by rfl) (fun w hw => by first | rfl | (go_simp; done) | (go_simp; rfl) | (go_simp; omega)) hHeld ?_
          simp only [Act.put, List.setIfInBounds_toArray, List.set_cons_zero, List.set_cons_succ]
          refine takeT 18 (some 138) (.int .i64 0) rfl rfl (by kernel_rfl) (by kernel_rfl) (by kernel_rfl) (by kernel_rfl) (by decide) (fun _ _ _ h => h) (by rfl) (fun w hw => by first | rfl | (go_simp; done) | (go_simp; rfl) | (go_simp; omega)) hHeld ?_
          simp only [Act.put, List.setIfInBounds_toArray, List.set_cons_zero, List.set_cons_succ]
          refine takeT 19 (some 139) (.pointer (some ⟨g, 0, none⟩)) rfl rfl (by kernel_rfl) (by kernel_rfl) (by kernel_rfl) (by kernel_rfl) (by decide) (fun _ _ _ h => h) (by rfl) (fun w hw => by first | rfl | (go_simp; done) | (go_simp; rfl) | (go_simp; omega)) hHeld ?_
          simp only [Act.put, List.setIfInBounds_toArray, List.set_cons_zero, List.set_cons_succ]
          refine takeT 20 (some 140) (.pointer (some ⟨g, 2, none⟩)) rfl rfl (by kernel_rfl) (by kernel_rfl) (by kernel_rfl) (by kernel_rfl) (by decide) (fun _ _ _ h => h) (by rfl) (fun w hw => by first | rfl | (go_simp; done) | (go_simp; rfl) | (go_simp; omega)) hHeld ?_
          simp only [Act.put, List.setIfInBounds_toArray, List.set_cons_zero, List.set_cons_succ]
          refine takeT 21 (some 141) (.pointer (some ⟨g, 2, none⟩)) rfl rfl (by kernel_rfl) (by kernel_rfl) (by kernel_rfl) (by kernel_rfl) (by decide) (fun _ _ _ h => h) (by rfl) (fun w hw => by first | rfl | (go_simp; done) | (go_simp; rfl) | (go_simp; omega)) hHeld ?_
          simp only [Act.put, List.setIfInBounds_toArray, List.set_cons_zero, List.set_cons_succ]
          refine takeT 22 (some 142) (.int .i64 (f0 : Int)) rfl rfl (by kernel_rfl) (by kernel_rfl) (by kernel_rfl) (by kernel_rfl) (by decide) (fun _ _ _ h => h) (by rfl) (fun w hw => by have c : w.cell? ⟨g, 2, none⟩ = some (.int .i64 (f0 : Int)) := hw.2.cell 2 (by omega); first | (go_simp; done) | (go_simp; rfl)) hHeld ?_
          simp only [Act.put, List.setIfInBounds_toArray, List.set_cons_zero, List.set_cons_succ]
          refine takeT 23 (some 143) (.int .i64 (m : Int)) rfl rfl (by kernel_rfl) (by kernel_rfl) (by kernel_rfl) (by kernel_rfl) (by decide) (fun _ _ _ h => h) (by rfl) (fun w hw => by have z := zL; first | rfl | (go_simp; done) | (go_simp; rfl) | (go_simp; omega)) hHeld ?_
          simp only [Act.put, List.setIfInBounds_toArray, List.set_cons_zero, List.set_cons_succ]
          refine takeP [28, 27] 26 (some 146) (.pointer (some ⟨g, 0, none⟩)) rfl rfl (by kernel_rfl) (by kernel_rfl) (by kernel_rfl) (by kernel_rfl) (by kernel_rfl) (by decide) (fun _ _ _ h => h) (by rfl) (fun w hw => by first | rfl | (go_simp; done) | (go_simp; rfl) | (go_simp; omega)) hHeld ?_
          simp only [Act.put, List.setIfInBounds_toArray, List.set_cons_zero, List.set_cons_succ]
          refine takeP [28] 27 (some 147) (.pointer (some ⟨g, 2, none⟩)) rfl rfl (by kernel_rfl) (by kernel_rfl) (by kernel_rfl) (by kernel_rfl) (by kernel_rfl) (by decide) (fun _ _ _ h => h) (by rfl) (fun w hw => by first | rfl | (go_simp; done) | (go_simp; rfl) | (go_simp; omega)) hHeld ?_
          simp only [Act.put, List.setIfInBounds_toArray, List.set_cons_zero, List.set_cons_succ]
          refine readyT 24 (by kernel_rfl) rfl (by rfl) (fun K hK => ?_)
          go_simp
          refine (MD.out _).mono ?_
          rintro e wx ⟨rfl, hx⟩
          obtain rfl := hx.symm
          try go_wp2_with fail
          refine hK.out _ _ (fun _ => hHeld) (fun hH => ?_)
          clear hK hH
          refine takeT 25 (some 145) (.int .i64 (fn : Int)) rfl rfl (by kernel_rfl) (by kernel_rfl) (by kernel_rfl) (by kernel_rfl) (by decide) (fun _ _ _ h => h) (by rfl) (fun w hw => by have z := zP; first | rfl | (go_simp; done) | (go_simp; rfl) | (go_simp; omega)) hHeld ?_
          simp only [Act.put, List.setIfInBounds_toArray, List.set_cons_zero, List.set_cons_succ]
          refine takeT 28 (some 148) (.pointer (some ⟨g, 2, none⟩)) rfl rfl (by kernel_rfl) (by kernel_rfl) (by kernel_rfl) (by kernel_rfl) (by decide) (fun _ _ _ h => h) (by rfl) (fun w hw => by first | rfl | (go_simp; done) | (go_simp; rfl) | (go_simp; omega)) hHeld ?_
          simp only [Act.put, List.setIfInBounds_toArray, List.set_cons_zero, List.set_cons_succ]
          have cg : wd.cell? ⟨g, 2, none⟩ = some (.int .i64 (f0 : Int)) := hHeld.2.cell 2 (by omega)
          have fg := hHeld.2.frozen 2
          have GSN := hide (HBd.out.fix0 fn)
          refine readyT 29 (by kernel_rfl) rfl (by rfl) (fun K hK => ?_)
          go_simp
          refine hK.out _ _ (fun x => absurd rfl x) (fun _ => ?_)
          clear hK
          refine ⟨by kernel_rfl, ?_⟩
          refine NoPanic.normal ?_
          generalize hw3 : World.setCell wd ⟨g, 2, none⟩ (.int .i64 (fn : Int)) = w4 at GSN ⊢
          clear hw3 cg fg hHeld
          try go_wp2
          go_ret
          exact ⟨rfl, ⟨_, _, _, _, _, _, GSN.out.1, NVN.out, HZ.out.1, HZ.out.2⟩, BD.out.trans GSN.out.2⟩
        | false =>
          go_wp2
          go_ret
          exact ⟨rfl, ⟨_, _, l0, l1, f0, f1, (HAN.out _ HB1.out).1, HN.out, HZ.out.1, HZ.out.2⟩, (HB1.out).mono (by have := HGW.out; omega)⟩
set_option maxRecDepth 100000 in
set_option maxHeartbeats 4000000 in
theorem nstep1_any (B g : Nat) (b0 b1 : Int) (bd0 : 0 ≤ b0 ∧ b0 ≤ 576460752303423487) (bd1 : 0 ≤ b1 ∧ b1 ≤ 576460752303423487) (Kd Sd N : Int) (hS : bits .and .i64 Sd 1 = 1) (w : World) (hNS : NS B g b0 b1 w) : Calls Try.prog 6 #[.pointer (some ⟨g, 0, none⟩), .agg #[.int .i64 Kd, .int .i64 Sd, .int .i64 N]] w fun e w' => e = .returned (.bool true) ∧ NS B g b0 b1 w' ∧ Below B w w' := by
  obtain ⟨v0, v1, l0, l1, f0, f1, hB, hN, z0, z1⟩ := hNS
  obtain ⟨ad0, c0, rfl, u0, _, k0, _⟩ := hB.o0.upds
  obtain ⟨ad1, c1, rfl, u1, _, k1, _⟩ := hB.o1.upds
  obtain ⟨n0, hn0⟩ : ∃ n, l0.length = n := ⟨_, rfl⟩
  obtain ⟨n1, hn1⟩ : ∃ n, l1.length = n := ⟨_, rfl⟩
  rw [hn0] at k0 z0
  rw [hn1] at k1 z1
  rw [hn0, hn1] at hB
  have hsp := spend_never bd1 bd0 hN.swap
  obtain ⟨L, hL⟩ : ∃ L, leftN b1 l1 l0 f1 f0 = L := ⟨_, rfl⟩
  rw [hL] at hsp
  obtain ⟨na, hna⟩ : ∃ na, addsN l1 = na := ⟨_, rfl⟩
  have SP := hide (fun (v : World) (hH : Has v g 30 (bkv (.slice ad0 n0 c0) (.slice ad1 n1 c1) f0 f1 b0 b1) 6) (x0 : Upds v ad0 l0) (x1 : Upds v ad1 l1) => hsp.1 ▸ bspend1_any g ad0 ad1 n0 c0 n1 c1 l0 l1 hn0 hn1 (by omega) (by omega) k0 k1 f0 f1 b0 b1 v hH x0 x1)
  have RM := hide (fun (v : World) (hH : Has v g 30 (bkv (.slice ad0 n0 c0) (.slice ad1 n1 c1) f0 f1 b0 b1) 6) (x0 : Upds v ad0 l0) (x1 : Upds v ad1 l1) => remov1_any g ad0 ad1 n0 c0 n1 c1 l0 l1 hn0 hn1 z0 z1 f0 f1 (by have := hN.c0; omega) (by have := hN.c1; omega) b0 b1 v hH x0 x1)
  have AD := hide (fun (v : World) (x : Upds v ad1 l1) => hna ▸ ladds_any ad1 n1 c1 l1 hn1 (by omega) v x)
  have HL : Hid (0 ≤ L ∧ L ≤ b0 + b1 ∧ b0 + b1 ≤ 1152921504606846974) := ⟨hsp.2.1, by have := hsp.2.2; omega, by omega⟩
  have HLN := hide hL
  have HNA : Hid (addsN l1 = na ∧ na ≤ n1) := ⟨hna, by rw [← hna, ← hn1]; exact adds_le _⟩
  have HB := hide hB
  have HN := hide hN
  have HU0 := hide u0
  have HU1 := hide u1
  have HZ : Hid (l0.length ≤ 2048 ∧ l1.length ≤ 2048) := ⟨by omega, by omega⟩
  have HS1 := hide hn1
  have HF : Hid (f0 ≤ n0 ∧ f1 ≤ n1 ∧ n0 ≤ 2048 ∧ n1 ≤ 2048) := ⟨by have := hN.c0; omega, by have := hN.c1; omega, z0, z1⟩
  have zAB : IntKind.i64.wrap (b0 + b1) = b0 + b1 := by rw [IntKind.wrap_i64]; omega
  have HGW : Hid (g < w.heap.size ∧ B ≤ g) := ⟨hB.arr.lt, hB.ge⟩
  obtain ⟨w1, hW1⟩ : ∃ x, w.alloc (.cells #[.int .i64 Kd, .int .i64 Sd, .int .i64 N] 35) = x := ⟨_, rfl⟩
  have r1 : Has w1 w.heap.size 35 (stv Kd Sd N) 3 := by rw [← hW1]; exact Has.new w 35 (stv Kd Sd N) 3 _ rfl
  have hb1 : Below w.heap.size w w1 := by rw [← hW1]; exact (Below.refl w.heap.size w).alloc (Nat.le_refl _) _
  have q0 : w1.cell? ⟨w.heap.size, 0, none⟩ = some (.int .i64 Kd) := r1.cell 0 (by omega)
  have q1 : w1.cell? ⟨w.heap.size, 1, none⟩ = some (.int .i64 Sd) := r1.cell 1 (by omega)
  have R1 := hide r1
  have HB1 := hide hb1
  have hz0 : (n0 : Int) ≤ 2048 := by omega
  have hz1 : (n1 : Int) ≤ 2048 := by omega
  have HAN : Hid (∀ wx, Below w.heap.size w wx → NB B g b0 b1 (.slice ad0 n0 c0) (.slice ad1 n1 c1) l0 l1 f0 f1 wx ∧ Upds wx ad0 l0 ∧ Upds wx ad1 l1) := fun wx hx => ⟨hB.below hx, u0.below hx, u1.below hx⟩
  have HOW : Hid (∀ k, (Value.slice ad1 n1 c1).ownBlock = some k → g < k ∧ k < w.heap.size) := fun k hk => by have := hB.o1.lt k hk; exact ⟨by omega, this.2⟩
  clear hsp hL hna hB hN u0 u1 hn0 hn1 z0 z1 k0 k1 bd0 bd1 r1 hb1 HU0 HU1 HB
  go_enter Try.func6, Try.ntmps6
  go_upto_region 1 with fail
  generalize hgO : w.heap.size = gO at R1 q0 q1 HB1 HGW HAN HOW ⊢
  clear hgO
  cases k1 : (Kd == 1) with
  | true =>
    go_wp2_with fail
    refine (SP.out _ (HAN.out _ HB1.out).1.arr (HAN.out _ HB1.out).2.1 (HAN.out _ HB1.out).2.2).mono ?_
    rintro e w2 ⟨rfl, hc2⟩
    have r2 := R1.out.below hc2 R1.out.lt
    have hb2 : Below gO w w2 := HB1.out.trans (hc2.mono (by have := R1.out.lt; omega))
    have A2 := hide (HAN.out _ hb2).1.arr
    have hLn : decide (L < 0) = false := decide_eq_false (by have := HL.out; omega)
    have hLm : decide (b0 + b1 < L) = false := decide_eq_false (by have := HL.out; omega)
    clear hc2 q0 q1 hW1
    go_wp2
    refine wp_region_noPanic ?_
    refine wp_region_held_drew (S := fun wx => Below w2.heap.size w2 wx) (by kernel_rfl) ((Below.refl _ _).drew) (fun hHeld => ?_)
    generalize hwe : World.drew w2 = w3 at hHeld ⊢
    refine takeH 0 (some 18) (.int .i64 L) rfl rfl (by kernel_rfl) (by kernel_rfl) (by kernel_rfl) (fun _ _ _ h => h) (by rfl) (fun w hw => by first | rfl | (go_simp; done) | (go_simp; rfl) | (go_simp; omega)) hHeld ?_
    simp only [Act.put, List.setIfInBounds_toArray, List.set_cons_zero, List.set_cons_succ]
    refine takeH 1 (some 19) (.bool false) rfl rfl (by kernel_rfl) (by kernel_rfl) (by kernel_rfl) (fun _ _ _ h => h) (by rfl) (fun w hw => by have z := hLn; first | rfl | (go_simp; done) | (go_simp; rfl) | (go_simp; omega)) hHeld ?_
    simp only [Act.put, List.setIfInBounds_toArray, List.set_cons_zero, List.set_cons_succ]
    refine takeH 2 (some 20) (.bool false) rfl rfl (by kernel_rfl) (by kernel_rfl) (by kernel_rfl) (fun _ _ _ h => h) (by rfl) (fun w hw => by first | rfl | (go_simp; done) | (go_simp; rfl) | (go_simp; omega)) hHeld ?_
    simp only [Act.put, List.setIfInBounds_toArray, List.set_cons_zero, List.set_cons_succ]
    refine takeH 3 (some 21) (.int .i64 L) rfl rfl (by kernel_rfl) (by kernel_rfl) (by kernel_rfl) (fun _ _ _ h => h) (by rfl) (fun w hw => by first | rfl | (go_simp; done) | (go_simp; rfl) | (go_simp; omega)) hHeld ?_
    simp only [Act.put, List.setIfInBounds_toArray, List.set_cons_zero, List.set_cons_succ]
    refine takeH 4 (some 22) (.pointer (some ⟨g, 0, none⟩)) rfl rfl (by kernel_rfl) (by kernel_rfl) (by kernel_rfl) (fun _ _ _ h => h) (by rfl) (fun w hw => by first | rfl | (go_simp; done) | (go_simp; rfl) | (go_simp; omega)) hHeld ?_
    simp only [Act.put, List.setIfInBounds_toArray, List.set_cons_zero, List.set_cons_succ]
    refine takeH 5 (some 23) (.pointer (some ⟨g, 0, none⟩)) rfl rfl (by kernel_rfl) (by kernel_rfl) (by kernel_rfl) (fun _ _ _ h => h) (by rfl) (fun w hw => by first | rfl | (go_simp; done) | (go_simp; rfl) | (go_simp; omega)) hHeld ?_
    simp only [Act.put, List.setIfInBounds_toArray, List.set_cons_zero, List.set_cons_succ]
    refine takeH 6 (some 24) (.pointer (some ⟨g, 4, none⟩)) rfl rfl (by kernel_rfl) (by kernel_rfl) (by kernel_rfl) (fun _ _ _ h => h) (by rfl) (fun w hw => by first | rfl | (go_simp; done) | (go_simp; rfl) | (go_simp; omega)) hHeld ?_
    simp only [Act.put, List.setIfInBounds_toArray, List.set_cons_zero, List.set_cons_succ]
    refine takeH 7 (some 25) (.pointer (some ⟨g, 4, none⟩)) rfl rfl (by kernel_rfl) (by kernel_rfl) (by kernel_rfl) (fun _ _ _ h => h) (by rfl) (fun w hw => by first | rfl | (go_simp; done) | (go_simp; rfl) | (go_simp; omega)) hHeld ?_
    simp only [Act.put, List.setIfInBounds_toArray, List.set_cons_zero, List.set_cons_succ]
    refine takeH 8 (some 26) (.int .i64 b0) rfl rfl (by kernel_rfl) (by kernel_rfl) (by kernel_rfl) (fun _ _ _ h => h) (by rfl) (fun w hw => by have c : w.cell? ⟨g, 4, none⟩ = some (.int .i64 b0) := (A2.out.below hw A2.out.lt).cell 4 (by omega); first | (go_simp; done) | (go_simp; rfl)) hHeld ?_
    simp only [Act.put, List.setIfInBounds_toArray, List.set_cons_zero, List.set_cons_succ]
    refine takeH 9 (some 27) (.pointer (some ⟨g, 0, none⟩)) rfl rfl (by kernel_rfl) (by kernel_rfl) (by kernel_rfl) (fun _ _ _ h => h) (by rfl) (fun w hw => by first | rfl | (go_simp; done) | (go_simp; rfl) | (go_simp; omega)) hHeld ?_
    simp only [Act.put, List.setIfInBounds_toArray, List.set_cons_zero, List.set_cons_succ]
    refine takeH 10 (some 28) (.pointer (some ⟨g, 0, none⟩)) rfl rfl (by kernel_rfl) (by kernel_rfl) (by kernel_rfl) (fun _ _ _ h => h) (by rfl) (fun w hw => by first | rfl | (go_simp; done) | (go_simp; rfl) | (go_simp; omega)) hHeld ?_
    simp only [Act.put, List.setIfInBounds_toArray, List.set_cons_zero, List.set_cons_succ]
    refine takeH 11 (some 29) (.pointer (some ⟨g, 4, none⟩)) rfl rfl (by kernel_rfl) (by kernel_rfl) (by kernel_rfl) (fun _ _ _ h => h) (by rfl) (fun w hw => by first | rfl | (go_simp; done) | (go_simp; rfl) | (go_simp; omega)) hHeld ?_
    simp only [Act.put, List.setIfInBounds_toArray, List.set_cons_zero, List.set_cons_succ]
    refine takeH 12 (some 30) (.pointer (some ⟨g, 5, none⟩)) rfl rfl (by kernel_rfl) (by kernel_rfl) (by kernel_rfl) (fun _ _ _ h => h) (by rfl) (fun w hw => by first | rfl | (go_simp; done) | (go_simp; rfl) | (go_simp; omega)) hHeld ?_
    simp only [Act.put, List.setIfInBounds_toArray, List.set_cons_zero, List.set_cons_succ]
    refine takeH 13 (some 31) (.int .i64 b1) rfl rfl (by kernel_rfl) (by kernel_rfl) (by kernel_rfl) (fun _ _ _ h => h) (by rfl) (fun w hw => by have c : w.cell? ⟨g, 5, none⟩ = some (.int .i64 b1) := (A2.out.below hw A2.out.lt).cell 5 (by omega); first | (go_simp; done) | (go_simp; rfl)) hHeld ?_
    simp only [Act.put, List.setIfInBounds_toArray, List.set_cons_zero, List.set_cons_succ]
    refine takeH 14 (some 32) (.int .i64 (b0 + b1)) rfl rfl (by kernel_rfl) (by kernel_rfl) (by kernel_rfl) (fun _ _ _ h => h) (by rfl) (fun w hw => by have z := zAB; first | rfl | (go_simp; done) | (go_simp; rfl) | (go_simp; omega)) hHeld ?_
    simp only [Act.put, List.setIfInBounds_toArray, List.set_cons_zero, List.set_cons_succ]
    refine takeH 15 (some 33) (.bool false) rfl rfl (by kernel_rfl) (by kernel_rfl) (by kernel_rfl) (fun _ _ _ h => h) (by rfl) (fun w hw => by have z := hLm; first | rfl | (go_simp; done) | (go_simp; rfl) | (go_simp; omega)) hHeld ?_
    simp only [Act.put, List.setIfInBounds_toArray, List.set_cons_zero, List.set_cons_succ]
    refine takeH 16 (some 34) (.bool false) rfl rfl (by kernel_rfl) (by kernel_rfl) (by kernel_rfl) (fun _ _ _ h => h) (by rfl) (fun w hw => by first | rfl | (go_simp; done) | (go_simp; rfl) | (go_simp; omega)) hHeld ?_
    simp only [Act.put, List.setIfInBounds_toArray, List.set_cons_zero, List.set_cons_succ]
    refine ⟨by kernel_rfl, ?_⟩
    refine NoPanic.normal ?_
    have hb3 : Below gO w w3 := hb2.trans (hHeld.mono (by have := r2.lt; omega))
    have r3 := r2.below hHeld r2.lt
    clear hHeld hwe hb2 r2 A2 hLn hLm
    have cS : w3.cell? ⟨g, 1, none⟩ = some (.slice ad1 n1 c1) := (HAN.out _ hb3).1.arr.cell 1 (by omega)
    by_cases hpos : 0 < L
    · obtain ⟨m, hm⟩ : ∃ m : Nat, L = (m : Int) + 1 := ⟨(L - 1).toNat, by omega⟩
      have hd1 : decide (0 < L) = true := decide_eq_true hpos
      have zL : IntKind.i64.wrap (L - 1) = (m : Int) := by rw [IntKind.wrap_i64]; have := HL.out; omega
      have HM := hide hm
      clear hm
      by_cases hlt : n1 < 2048
      · have hd2 : decide ((n1 : Int) < 2048) = true := decide_eq_true (by omega)
        have hd3 : decide (n1 < 2048) = true := decide_eq_true hlt
        obtain ⟨p, hp, MDx⟩ := mod_any N m (by have := HL.out; have := HM.out; omega)
        have MD := hide MDx
        have zP : IntKind.i64.wrap (1 + (p : Int)) = 1 + (p : Int) := by rw [IntKind.wrap_i64]; have := HL.out; have := HM.out; omega
        obtain ⟨uA, huA⟩ : ∃ u : Upd, u = ⟨1, (na : Int), 1 + (p : Int), fun _ => 0, nilB⟩ := ⟨_, rfl⟩
        have haA : addB uA = true := by rw [huA]; exact nval1 (by have := HNA.out; omega) (by have := HL.out; have := HM.out; omega)
        have NVN : Hid (Nv b0 b1 l0 (l1 ++ [uA]) f0 f1) := (HN.out.swap.add (u := uA) haA (by rw [HNA.out.1, huA]) (by rw [HLN.out, huA, HM.out]; show 1 + (p : Int) ≤ _; omega)).swap
        have HUA := hide huA
        clear huA haA MDx hp
        obtain ⟨wd, hwd⟩ : ∃ x, World.drew w3 = x := ⟨_, rfl⟩
        have hbd : Below gO w wd := by rw [← hwd]; exact hb3.drew
        have hq1 : Hid (Has wd gO 35 (stv Kd Sd N) 3) := by rw [← hwd]; exact r3.below (Below.refl _ _).drew r3.lt
        have HBd := hide (HAN.out wd hbd).1
        have hq2 : Hid (Has wd g 30 (bkv (.slice ad0 n0 c0) (.slice ad1 n1 c1) f0 f1 b0 b1) 6) := HBd.out.arr
        have BD : Hid (Below B w wd) := hbd.mono (by have := HGW.out; omega)

        have UW := hide (HAN.out wd hbd).2.2
        obtain ⟨q, cp, wQ, hr2, ho2, hgr, hgg⟩ := run_appL wd (g + 1) (.slice ad1 n1 c1) l1 uA 25 HBd.out.o1 (by have := HS1.out; omega) (by have := HGW.out; have := HBd.out.arr.lt; omega)
        rw [HS1.out] at hr2 ho2
        have HR2 := hide hr2
        have HO2 := hide ho2
        have HGR := hide hgr
        have HGG := hide hgg
        have hnb : Hid (∀ k, (Value.slice ad1 n1 c1).ownBlock = some k → g < k ∧ k ≠ gO) := fun k hk => by have := HOW.out k hk; exact ⟨this.1, by omega⟩
        have HZN : Hid ((l1 ++ [uA]).length ≤ 2048) := by show _ ≤ _; rw [List.length_append, HS1.out]; simp; omega
        clear hr2 ho2 hgr hgg hbd
        clear r3 hb3
        go_wp2
        refine wp_region_noPanic ?_
        refine wp_region_T (S := fun wx => Has wx gO 35 (stv Kd Sd N) 3 ∧ Has wx g 30 (bkv (.slice ad0 n0 c0) (.slice ad1 n1 c1) f0 f1 b0 b1) 6) 27 (by kernel_rfl) (by rw [hwd]; exact ⟨hq1.out, hq2.out⟩) (fun hHeld => ?_)
        rw [hwd] at hHeld ⊢
        refine takeT 0 (some 47) (.pointer (some ⟨g, 0, none⟩)) rfl rfl (by kernel_rfl) (by kernel_rfl) (by kernel_rfl) (by kernel_rfl) (by decide) (fun _ _ _ h => h) (by rfl) (fun w hw => by first | rfl | (go_simp; done) | (go_simp; rfl) | (go_simp; omega)) hHeld ?_
        simp only [Act.put, List.setIfInBounds_toArray, List.set_cons_zero, List.set_cons_succ]
        refine takeT 1 (some 48) (.int .i64 1) rfl rfl (by kernel_rfl) (by kernel_rfl) (by kernel_rfl) (by kernel_rfl) (by decide) (fun _ _ _ h => h) (by rfl) (fun w hw => by first | rfl | (go_simp; done) | (go_simp; rfl) | (go_simp; omega)) hHeld ?_
        simp only [Act.put, List.setIfInBounds_toArray, List.set_cons_zero, List.set_cons_succ]
        refine takeT 2 (some 49) (.pointer (some ⟨g, 0, none⟩)) rfl rfl (by kernel_rfl) (by kernel_rfl) (by kernel_rfl) (by kernel_rfl) (by decide) (fun _ _ _ h => h) (by rfl) (fun w hw => by first | rfl | (go_simp; done) | (go_simp; rfl) | (go_simp; omega)) hHeld ?_
        simp only [Act.put, List.setIfInBounds_toArray, List.set_cons_zero, List.set_cons_succ]
        refine takeT 3 (some 50) (.int .i64 1) rfl rfl (by kernel_rfl) (by kernel_rfl) (by kernel_rfl) (by kernel_rfl) (by decide) (fun _ _ _ h => h) (by rfl) (fun w hw => by first | rfl | (go_simp; done) | (go_simp; rfl) | (go_simp; omega)) hHeld ?_
        simp only [Act.put, List.setIfInBounds_toArray, List.set_cons_zero, List.set_cons_succ]
        refine takeT 4 (some 51) (.pointer (some ⟨g, 0, none⟩)) rfl rfl (by kernel_rfl) (by kernel_rfl) (by kernel_rfl) (by kernel_rfl) (by decide) (fun _ _ _ h => h) (by rfl) (fun w hw => by first | rfl | (go_simp; done) | (go_simp; rfl) | (go_simp; omega)) hHeld ?_
        simp only [Act.put, List.setIfInBounds_toArray, List.set_cons_zero, List.set_cons_succ]
        refine takeT 5 (some 52) (.pointer (some ⟨g, 0, none⟩)) rfl rfl (by kernel_rfl) (by kernel_rfl) (by kernel_rfl) (by kernel_rfl) (by decide) (fun _ _ _ h => h) (by rfl) (fun w hw => by first | rfl | (go_simp; done) | (go_simp; rfl) | (go_simp; omega)) hHeld ?_
        simp only [Act.put, List.setIfInBounds_toArray, List.set_cons_zero, List.set_cons_succ]
        refine takeT 6 (some 53) (.pointer (some ⟨g, 1, none⟩)) rfl rfl (by kernel_rfl) (by kernel_rfl) (by kernel_rfl) (by kernel_rfl) (by decide) (fun _ _ _ h => h) (by rfl) (fun w hw => by first | rfl | (go_simp; done) | (go_simp; rfl) | (go_simp; omega)) hHeld ?_
        simp only [Act.put, List.setIfInBounds_toArray, List.set_cons_zero, List.set_cons_succ]
        refine takeT 7 (some 54) (.slice ad1 n1 c1) rfl rfl (by kernel_rfl) (by kernel_rfl) (by kernel_rfl) (by kernel_rfl) (by decide) (fun _ _ _ h => h) (by rfl) (fun w hw => by have c : w.cell? ⟨g, 1, none⟩ = some (.slice ad1 n1 c1) := hw.2.cell 1 (by omega); first | (go_simp; done) | (go_simp; rfl)) hHeld ?_
        simp only [Act.put, List.setIfInBounds_toArray, List.set_cons_zero, List.set_cons_succ]
        refine takeT 8 (some 55) (.pointer (some ⟨g, 0, none⟩)) rfl rfl (by kernel_rfl) (by kernel_rfl) (by kernel_rfl) (by kernel_rfl) (by decide) (fun _ _ _ h => h) (by rfl) (fun w hw => by first | rfl | (go_simp; done) | (go_simp; rfl) | (go_simp; omega)) hHeld ?_
        simp only [Act.put, List.setIfInBounds_toArray, List.set_cons_zero, List.set_cons_succ]
        refine takeT 9 (some 56) (.int .i64 1) rfl rfl (by kernel_rfl) (by kernel_rfl) (by kernel_rfl) (by kernel_rfl) (by decide) (fun _ _ _ h => h) (by rfl) (fun w hw => by first | rfl | (go_simp; done) | (go_simp; rfl) | (go_simp; omega)) hHeld ?_
        simp only [Act.put, List.setIfInBounds_toArray, List.set_cons_zero, List.set_cons_succ]
        refine takeT 10 (some 57) (.pointer (some ⟨g, 0, none⟩)) rfl rfl (by kernel_rfl) (by kernel_rfl) (by kernel_rfl) (by kernel_rfl) (by decide) (fun _ _ _ h => h) (by rfl) (fun w hw => by first | rfl | (go_simp; done) | (go_simp; rfl) | (go_simp; omega)) hHeld ?_
        simp only [Act.put, List.setIfInBounds_toArray, List.set_cons_zero, List.set_cons_succ]
        refine takeT 11 (some 58) (.pointer (some ⟨g, 0, none⟩)) rfl rfl (by kernel_rfl) (by kernel_rfl) (by kernel_rfl) (by kernel_rfl) (by decide) (fun _ _ _ h => h) (by rfl) (fun w hw => by first | rfl | (go_simp; done) | (go_simp; rfl) | (go_simp; omega)) hHeld ?_
        simp only [Act.put, List.setIfInBounds_toArray, List.set_cons_zero, List.set_cons_succ]
        refine takeT 12 (some 59) (.pointer (some ⟨g, 1, none⟩)) rfl rfl (by kernel_rfl) (by kernel_rfl) (by kernel_rfl) (by kernel_rfl) (by decide) (fun _ _ _ h => h) (by rfl) (fun w hw => by first | rfl | (go_simp; done) | (go_simp; rfl) | (go_simp; omega)) hHeld ?_
        simp only [Act.put, List.setIfInBounds_toArray, List.set_cons_zero, List.set_cons_succ]
        refine takeT 13 (some 60) (.slice ad1 n1 c1) rfl rfl (by kernel_rfl) (by kernel_rfl) (by kernel_rfl) (by kernel_rfl) (by decide) (fun _ _ _ h => h) (by rfl) (fun w hw => by have c : w.cell? ⟨g, 1, none⟩ = some (.slice ad1 n1 c1) := hw.2.cell 1 (by omega); first | (go_simp; done) | (go_simp; rfl)) hHeld ?_
        simp only [Act.put, List.setIfInBounds_toArray, List.set_cons_zero, List.set_cons_succ]
        refine takeT 15 (some 62) (.pointer (some ⟨gO, 2, none⟩)) rfl rfl (by kernel_rfl) (by kernel_rfl) (by kernel_rfl) (by kernel_rfl) (by decide) (fun _ _ _ h => h) (by rfl) (fun w hw => by first | rfl | (go_simp; done) | (go_simp; rfl) | (go_simp; omega)) hHeld ?_
        simp only [Act.put, List.setIfInBounds_toArray, List.set_cons_zero, List.set_cons_succ]
        refine takeT 16 (some 63) (.int .i64 N) rfl rfl (by kernel_rfl) (by kernel_rfl) (by kernel_rfl) (by kernel_rfl) (by decide) (fun _ _ _ h => h) (by rfl) (fun w hw => by have c : w.cell? ⟨gO, 2, none⟩ = some (.int .i64 N) := hw.1.cell 2 (by omega); first | (go_simp; done) | (go_simp; rfl)) hHeld ?_
        simp only [Act.put, List.setIfInBounds_toArray, List.set_cons_zero, List.set_cons_succ]
        refine takeT 17 (some 64) (.int .i64 L) rfl rfl (by kernel_rfl) (by kernel_rfl) (by kernel_rfl) (by kernel_rfl) (by decide) (fun _ _ _ h => h) (by rfl) (fun w hw => by first | rfl | (go_simp; done) | (go_simp; rfl) | (go_simp; omega)) hHeld ?_
        simp only [Act.put, List.setIfInBounds_toArray, List.set_cons_zero, List.set_cons_succ]
        refine takeT 18 (some 65) (.int .i64 (m : Int)) rfl rfl (by kernel_rfl) (by kernel_rfl) (by kernel_rfl) (by kernel_rfl) (by decide) (fun _ _ _ h => h) (by rfl) (fun w hw => by have z := zL; first | rfl | (go_simp; done) | (go_simp; rfl) | (go_simp; omega)) hHeld ?_
        simp only [Act.put, List.setIfInBounds_toArray, List.set_cons_zero, List.set_cons_succ]
        refine takeP [26, 25] 24 (some 71) (.pointer (some ⟨g, 0, none⟩)) rfl rfl (by kernel_rfl) (by kernel_rfl) (by kernel_rfl) (by kernel_rfl) (by kernel_rfl) (by decide) (fun _ _ _ h => h) (by rfl) (fun w hw => by first | rfl | (go_simp; done) | (go_simp; rfl) | (go_simp; omega)) hHeld ?_
        simp only [Act.put, List.setIfInBounds_toArray, List.set_cons_zero, List.set_cons_succ]
        refine takeP [26] 25 (some 72) (.pointer (some ⟨g, 0, none⟩)) rfl rfl (by kernel_rfl) (by kernel_rfl) (by kernel_rfl) (by kernel_rfl) (by kernel_rfl) (by decide) (fun _ _ _ h => h) (by rfl) (fun w hw => by first | rfl | (go_simp; done) | (go_simp; rfl) | (go_simp; omega)) hHeld ?_
        simp only [Act.put, List.setIfInBounds_toArray, List.set_cons_zero, List.set_cons_succ]
        refine readyT 14 (by kernel_rfl) rfl (by rfl) (fun K hK => ?_)
        go_simp
        refine (AD.out _ UW.out).mono ?_
        rintro e wx ⟨rfl, hx⟩
        obtain rfl := hx.symm
        try go_wp2_with fail
        refine hK.out _ _ (fun _ => hHeld) (fun hH => ?_)
        clear hK hH
        refine readyT 19 (by kernel_rfl) rfl (by rfl) (fun K hK => ?_)
        go_simp
        refine (MD.out _).mono ?_
        rintro e wx ⟨rfl, hx⟩
        obtain rfl := hx.symm
        try go_wp2_with fail
        refine hK.out _ _ (fun _ => hHeld) (fun hH => ?_)
        clear hK hH
        refine takeT 20 (some 67) (.int .i64 (1 + (p : Int))) rfl rfl (by kernel_rfl) (by kernel_rfl) (by kernel_rfl) (by kernel_rfl) (by decide) (fun _ _ _ h => h) (by rfl) (fun w hw => by have z := zP; first | rfl | (go_simp; done) | (go_simp; rfl) | (go_simp; omega)) hHeld ?_
        simp only [Act.put, List.setIfInBounds_toArray, List.set_cons_zero, List.set_cons_succ]
        refine takeT 21 (some 68) (.agg (tabv uA.v 36)) rfl rfl (by kernel_rfl) (by kernel_rfl) (by kernel_rfl) (by kernel_rfl) (by decide) (fun _ _ _ h => h) (by rfl) (fun w hw => by rw [HUA.out]; exact run_buildQ w 43 _ rfl [(0, .int .i64 1), (1, .int .i64 (na : Int)), (2, .int .i64 (1 + (p : Int)))] (by first | (simp [Act.eval]; done) | rfl) _ (built_uN _ _)) hHeld ?_
        simp only [Act.put, List.setIfInBounds_toArray, List.set_cons_zero, List.set_cons_succ]
        refine readyT 22 (by kernel_rfl) rfl (by rfl) (fun K hK => ?_)
        refine wpRun (v := .slice (some ⟨wd.heap.size, 0, none⟩) 1 1) (w' := wd.alloc (.cells (tabv uA.v 36) 43)) (by have := run_sliceU wd uA; simp [execOp, this, Act.eval, Result.andThen]) ?_
        simp only [Act.put, List.setIfInBounds_toArray, List.set_cons_zero, List.set_cons_succ]
        refine hK.out _ _ (fun _ => ⟨hHeld.1.old _, hHeld.2.old _⟩) (fun hH => ?_)
        clear hHeld
        have hHeld := hH (by decide)
        clear hK hH
        refine readyT 23 (by kernel_rfl) rfl (by rfl) (fun K hK => ?_)
        refine wpRunS _ _ _ rfl (.slice (some ⟨q, 0, none⟩) (n1 + 1) cp) HR2.out ?_
        simp only [Act.put, List.setIfInBounds_toArray, List.set_cons_zero, List.set_cons_succ]
        have x2 : Has wQ gO 35 (stv Kd Sd N) 3 := by
          unfold Has; rw [HGR.out.block gO hHeld.1.lt (fun e => (hnb.out gO e.symm).2 rfl)]; exact hHeld.1
        have y2 : Has wQ g 30 (bkv (.slice ad0 n0 c0) (.slice ad1 n1 c1) f0 f1 b0 b1) 6 := by
          unfold Has; rw [HGR.out.block g hHeld.2.lt (fun e => by have := (hnb.out g e.symm).1; omega)]; exact hHeld.2
        refine hK.out _ _ (fun _ => ⟨x2, y2⟩) (fun hH => ?_)
        clear hHeld
        have hHeld := hH (by decide)
        clear hK hH
        refine takeT 26 (some 73) (.pointer (some ⟨g, 1, none⟩)) rfl rfl (by kernel_rfl) (by kernel_rfl) (by kernel_rfl) (by kernel_rfl) (by decide) (fun _ _ _ h => h) (by rfl) (fun w hw => by first | rfl | (go_simp; done) | (go_simp; rfl) | (go_simp; omega)) hHeld ?_
        simp only [Act.put, List.setIfInBounds_toArray, List.set_cons_zero, List.set_cons_succ]
        have cg : wQ.cell? ⟨g, 1, none⟩ = some (.slice ad1 n1 c1) := y2.cell 1 (by omega)
        have fg := y2.frozen 1
        have GSN := hide (HBd.out.app1 HO2.out HGR.out HGG.out y2)
        refine readyT 27 (by kernel_rfl) rfl (by rfl) (fun K hK => ?_)
        go_simp
        refine hK.out _ _ (fun x => absurd rfl x) (fun _ => ?_)
        clear hK
        refine ⟨by kernel_rfl, ?_⟩
        refine NoPanic.normal ?_
        generalize hw3 : World.setCell wQ ⟨g, 1, none⟩ (.slice (some ⟨q, 0, none⟩) (n1 + 1) cp) = w4 at GSN ⊢
        clear hw3 cg fg x2 y2 HR2 HO2 HGR HGG hHeld
        try go_wp2
        go_ret
        exact ⟨rfl, ⟨_, _, _, _, _, _, GSN.out.1, NVN.out, HZ.out.1, HZN.out⟩, BD.out.trans GSN.out.2⟩
      · have hd2 : decide ((n1 : Int) < 2048) = false := decide_eq_false (by omega)
        have hd3 : decide (n1 < 2048) = false := decide_eq_false hlt
        go_wp2
        go_ret
        exact ⟨rfl, ⟨_, _, l0, l1, f0, f1, (HAN.out _ hb3).1, HN.out, HZ.out.1, HZ.out.2⟩, (hb3).mono (by have := HGW.out; omega)⟩
    · have hd1 : decide (0 < L) = false := decide_eq_false hpos
      go_wp2
      go_ret
      exact ⟨rfl, ⟨_, _, l0, l1, f0, f1, (HAN.out _ hb3).1, HN.out, HZ.out.1, HZ.out.2⟩, (hb3).mono (by have := HGW.out; omega)⟩
  | false =>
    cases k2 : (Kd == 2) with
    | true =>
      have HKK : Hid (Kd = 2 ∨ Kd = 3) := by first | exact .inl (by simpa using k2) | exact .inr (by simpa using k3)
      go_wp2_with fail
      refine (RM.out _ (HAN.out _ HB1.out).1.arr (HAN.out _ HB1.out).2.1 (HAN.out _ HB1.out).2.2).mono ?_
      rintro e w2 ⟨v, rfl, ⟨ids, hO, hln, hmem⟩, hc2⟩
      have r2 := R1.out.below hc2 R1.out.lt
      have hsz1 : gO < w1.heap.size := R1.out.lt
      have hb2 : Below gO w w2 := HB1.out.trans (hc2.mono (by omega))
      clear hc2 q0 q1 hW1
      have cS : w2.cell? ⟨g, 1, none⟩ = some (.slice ad1 n1 c1) := (HAN.out _ hb2).1.arr.cell 1 (by omega)
      obtain ⟨nz, hnz⟩ : ∃ n, ids.length = n := ⟨_, rfl⟩
      by_cases hpos : 0 < nz
      · obtain ⟨m, hm⟩ : ∃ m : Nat, nz = m + 1 := ⟨nz - 1, by omega⟩
        have hnzb : nz ≤ 2048 := by have := HF.out; omega
        obtain ⟨p, hp, MDx⟩ := mod_any N m (by omega)
        obtain ⟨z, hz⟩ : ∃ z, ids[p]? = some z := ⟨_, List.getElem?_eq_getElem (by omega)⟩
        obtain ⟨gz, cz, rfl, hcz, hgz1, hgz2⟩ := hO.get hz
        rw [hnz]
        obtain ⟨i, u, hi1, hi2, hi3, hi4⟩ := hmem z (List.mem_of_getElem? hz)
        have hd0 : decide (0 < (nz : Int)) = true := decide_eq_true (by omega)
        have hd1 : decide (0 < nz) = true := decide_eq_true hpos
        have zL : IntKind.i64.wrap ((nz : Int) - 1) = (m : Int) := by rw [IntKind.wrap_i64]; omega
        have hPm : Hid ((p : Int) < (nz : Int)) := by show _ < _; omega
        have MD := hide MDx
        have hzb : (nz : Int) ≤ 2048 := by omega
        by_cases hlt : n1 < 2048
        · have hd2 : decide ((n1 : Int) < 2048) = true := decide_eq_true (by omega)
          have hd3 : decide (n1 < 2048) = true := decide_eq_true hlt
          obtain ⟨uA, huA⟩ : ∃ u : Upd, u = ⟨Kd, z, 0, fun _ => 0, nilB⟩ := ⟨_, rfl⟩
          have hidz := HN.out.i0 i u hi2 hi3
          have hle := adds_le (l0.take i)
          rw [List.length_take] at hle
          have hvA : validB uA = true := by rw [huA]; exact nval2 HKK.out (by have := HF.out; omega)
          have NVN : Hid (Nv b0 b1 l0 (l1 ++ [uA]) f0 f1) := (HN.out.swap.rem (r := uA) (u := u) (k := i) hvA (by rw [huA]; show Kd ≠ 1; have := HKK.out; omega) hi2 hi3 (by rw [huA]; exact hi4.symm) hi1).swap
          have HUA := hide huA
          have hcz' := hide hcz
          clear huA hvA hidz hle MDx hp hz hO hmem hln hi1 hi2 hi3 hi4 hm hnzb hcz
          obtain ⟨wd, hwd⟩ : ∃ x, World.drew w2 = x := ⟨_, rfl⟩
          have hbd : Below gO w wd := by rw [← hwd]; exact hb2.drew
          have hq1 : Hid (Has wd gO 35 (stv Kd Sd N) 3) := by rw [← hwd]; exact r2.below (Below.refl _ _).drew r2.lt
          have HBd := hide (HAN.out wd hbd).1
          have hq2 : Hid (Has wd g 30 (bkv (.slice ad0 n0 c0) (.slice ad1 n1 c1) f0 f1 b0 b1) 6) := HBd.out.arr
          have BD : Hid (Below B w wd) := hbd.mono (by have := HGW.out; omega)

          have hqz : Hid (wd.cell? ⟨gz, p, none⟩ = some (.int .i64 z)) := by rw [← hwd]; exact ((Below.refl _ _).drew.cell (World.block_lt_of_cell? _ _ hcz'.out)).trans hcz'.out
          have hnz : Hid (∀ k, (Value.slice ad1 n1 c1).ownBlock = some k → k ≠ gz) := fun k hk => by have := HOW.out k hk; omega
          obtain ⟨q, cp, wQ, hr2, ho2, hgr, hgg⟩ := run_appL wd (g + 1) (.slice ad1 n1 c1) l1 uA 25 HBd.out.o1 (by have := HS1.out; omega) (by have := HGW.out; have := HBd.out.arr.lt; omega)
          rw [HS1.out] at hr2 ho2
          have HR2 := hide hr2
          have HO2 := hide ho2
          have HGR := hide hgr
          have HGG := hide hgg
          have hnb : Hid (∀ k, (Value.slice ad1 n1 c1).ownBlock = some k → g < k ∧ k ≠ gO) := fun k hk => by have := HOW.out k hk; exact ⟨this.1, by omega⟩
          have HZN : Hid ((l1 ++ [uA]).length ≤ 2048) := by show _ ≤ _; rw [List.length_append, HS1.out]; simp; omega
          clear hr2 ho2 hgr hgg hbd
          clear r2 hb2 hcz' hgz1 hgz2
          go_wp2
          refine wp_region_noPanic ?_
          refine wp_region_T (S := fun wx => Has wx gO 35 (stv Kd Sd N) 3 ∧ Has wx g 30 (bkv (.slice ad0 n0 c0) (.slice ad1 n1 c1) f0 f1 b0 b1) 6 ∧ wx.cell? ⟨gz, p, none⟩ = some (.int .i64 z)) 25 (by kernel_rfl) (by rw [hwd]; exact ⟨hq1.out, hq2.out, hqz.out⟩) (fun hHeld => ?_)
          rw [hwd] at hHeld ⊢
          refine takeT 0 (some 93) (.pointer (some ⟨g, 0, none⟩)) rfl rfl (by kernel_rfl) (by kernel_rfl) (by kernel_rfl) (by kernel_rfl) (by decide) (fun _ _ _ h => h) (by rfl) (fun w hw => by first | rfl | (go_simp; done) | (go_simp; rfl) | (go_simp; omega)) hHeld ?_
          simp only [Act.put, List.setIfInBounds_toArray, List.set_cons_zero, List.set_cons_succ]
          refine takeT 1 (some 94) (.int .i64 1) rfl rfl (by kernel_rfl) (by kernel_rfl) (by kernel_rfl) (by kernel_rfl) (by decide) (fun _ _ _ h => h) (by rfl) (fun w hw => by first | rfl | (go_simp; done) | (go_simp; rfl) | (go_simp; omega)) hHeld ?_
          simp only [Act.put, List.setIfInBounds_toArray, List.set_cons_zero, List.set_cons_succ]
          refine takeT 2 (some 95) (.pointer (some ⟨g, 0, none⟩)) rfl rfl (by kernel_rfl) (by kernel_rfl) (by kernel_rfl) (by kernel_rfl) (by decide) (fun _ _ _ h => h) (by rfl) (fun w hw => by first | rfl | (go_simp; done) | (go_simp; rfl) | (go_simp; omega)) hHeld ?_
          simp only [Act.put, List.setIfInBounds_toArray, List.set_cons_zero, List.set_cons_succ]
          refine takeT 3 (some 96) (.int .i64 1) rfl rfl (by kernel_rfl) (by kernel_rfl) (by kernel_rfl) (by kernel_rfl) (by decide) (fun _ _ _ h => h) (by rfl) (fun w hw => by first | rfl | (go_simp; done) | (go_simp; rfl) | (go_simp; omega)) hHeld ?_
          simp only [Act.put, List.setIfInBounds_toArray, List.set_cons_zero, List.set_cons_succ]
          refine takeT 4 (some 97) (.pointer (some ⟨g, 0, none⟩)) rfl rfl (by kernel_rfl) (by kernel_rfl) (by kernel_rfl) (by kernel_rfl) (by decide) (fun _ _ _ h => h) (by rfl) (fun w hw => by first | rfl | (go_simp; done) | (go_simp; rfl) | (go_simp; omega)) hHeld ?_
          simp only [Act.put, List.setIfInBounds_toArray, List.set_cons_zero, List.set_cons_succ]
          refine takeT 5 (some 98) (.pointer (some ⟨g, 0, none⟩)) rfl rfl (by kernel_rfl) (by kernel_rfl) (by kernel_rfl) (by kernel_rfl) (by decide) (fun _ _ _ h => h) (by rfl) (fun w hw => by first | rfl | (go_simp; done) | (go_simp; rfl) | (go_simp; omega)) hHeld ?_
          simp only [Act.put, List.setIfInBounds_toArray, List.set_cons_zero, List.set_cons_succ]
          refine takeT 6 (some 99) (.pointer (some ⟨g, 1, none⟩)) rfl rfl (by kernel_rfl) (by kernel_rfl) (by kernel_rfl) (by kernel_rfl) (by decide) (fun _ _ _ h => h) (by rfl) (fun w hw => by first | rfl | (go_simp; done) | (go_simp; rfl) | (go_simp; omega)) hHeld ?_
          simp only [Act.put, List.setIfInBounds_toArray, List.set_cons_zero, List.set_cons_succ]
          refine takeT 7 (some 100) (.slice ad1 n1 c1) rfl rfl (by kernel_rfl) (by kernel_rfl) (by kernel_rfl) (by kernel_rfl) (by decide) (fun _ _ _ h => h) (by rfl) (fun w hw => by have c : w.cell? ⟨g, 1, none⟩ = some (.slice ad1 n1 c1) := hw.2.1.cell 1 (by omega); first | (go_simp; done) | (go_simp; rfl)) hHeld ?_
          simp only [Act.put, List.setIfInBounds_toArray, List.set_cons_zero, List.set_cons_succ]
          refine takeT 8 (some 101) (.pointer (some ⟨gO, 0, none⟩)) rfl rfl (by kernel_rfl) (by kernel_rfl) (by kernel_rfl) (by kernel_rfl) (by decide) (fun _ _ _ h => h) (by rfl) (fun w hw => by first | rfl | (go_simp; done) | (go_simp; rfl) | (go_simp; omega)) hHeld ?_
          simp only [Act.put, List.setIfInBounds_toArray, List.set_cons_zero, List.set_cons_succ]
          refine takeT 9 (some 102) (.int .i64 Kd) rfl rfl (by kernel_rfl) (by kernel_rfl) (by kernel_rfl) (by kernel_rfl) (by decide) (fun _ _ _ h => h) (by rfl) (fun w hw => by have c : w.cell? ⟨gO, 0, none⟩ = some (.int .i64 Kd) := hw.1.cell 0 (by omega); first | (go_simp; done) | (go_simp; rfl)) hHeld ?_
          simp only [Act.put, List.setIfInBounds_toArray, List.set_cons_zero, List.set_cons_succ]
          refine takeT 10 (some 103) (.slice (some ⟨gz, 0, none⟩) nz cz) rfl rfl (by kernel_rfl) (by kernel_rfl) (by kernel_rfl) (by kernel_rfl) (by decide) (fun _ _ _ h => h) (by rfl) (fun w hw => by first | rfl | (go_simp; done) | (go_simp; rfl) | (go_simp; omega)) hHeld ?_
          simp only [Act.put, List.setIfInBounds_toArray, List.set_cons_zero, List.set_cons_succ]
          refine takeT 11 (some 104) (.pointer (some ⟨gO, 2, none⟩)) rfl rfl (by kernel_rfl) (by kernel_rfl) (by kernel_rfl) (by kernel_rfl) (by decide) (fun _ _ _ h => h) (by rfl) (fun w hw => by first | rfl | (go_simp; done) | (go_simp; rfl) | (go_simp; omega)) hHeld ?_
          simp only [Act.put, List.setIfInBounds_toArray, List.set_cons_zero, List.set_cons_succ]
          refine takeT 12 (some 105) (.int .i64 N) rfl rfl (by kernel_rfl) (by kernel_rfl) (by kernel_rfl) (by kernel_rfl) (by decide) (fun _ _ _ h => h) (by rfl) (fun w hw => by have c : w.cell? ⟨gO, 2, none⟩ = some (.int .i64 N) := hw.1.cell 2 (by omega); first | (go_simp; done) | (go_simp; rfl)) hHeld ?_
          simp only [Act.put, List.setIfInBounds_toArray, List.set_cons_zero, List.set_cons_succ]
          refine takeT 13 (some 106) (.slice (some ⟨gz, 0, none⟩) nz cz) rfl rfl (by kernel_rfl) (by kernel_rfl) (by kernel_rfl) (by kernel_rfl) (by decide) (fun _ _ _ h => h) (by rfl) (fun w hw => by first | rfl | (go_simp; done) | (go_simp; rfl) | (go_simp; omega)) hHeld ?_
          simp only [Act.put, List.setIfInBounds_toArray, List.set_cons_zero, List.set_cons_succ]
          refine takeT 14 (some 107) (.int .i64 (nz : Int)) rfl rfl (by kernel_rfl) (by kernel_rfl) (by kernel_rfl) (by kernel_rfl) (by decide) (fun _ _ _ h => h) (by rfl) (fun w hw => by first | rfl | (go_simp; done) | (go_simp; rfl) | (go_simp; omega)) hHeld ?_
          simp only [Act.put, List.setIfInBounds_toArray, List.set_cons_zero, List.set_cons_succ]
          refine takeT 15 (some 108) (.int .i64 (m : Int)) rfl rfl (by kernel_rfl) (by kernel_rfl) (by kernel_rfl) (by kernel_rfl) (by decide) (fun _ _ _ h => h) (by rfl) (fun w hw => by have z := zL; first | rfl | (go_simp; done) | (go_simp; rfl) | (go_simp; omega)) hHeld ?_
          simp only [Act.put, List.setIfInBounds_toArray, List.set_cons_zero, List.set_cons_succ]
          refine takeP [24, 23] 22 (some 115) (.pointer (some ⟨g, 0, none⟩)) rfl rfl (by kernel_rfl) (by kernel_rfl) (by kernel_rfl) (by kernel_rfl) (by kernel_rfl) (by decide) (fun _ _ _ h => h) (by rfl) (fun w hw => by first | rfl | (go_simp; done) | (go_simp; rfl) | (go_simp; omega)) hHeld ?_
          simp only [Act.put, List.setIfInBounds_toArray, List.set_cons_zero, List.set_cons_succ]
          refine takeP [24] 23 (some 116) (.pointer (some ⟨g, 0, none⟩)) rfl rfl (by kernel_rfl) (by kernel_rfl) (by kernel_rfl) (by kernel_rfl) (by kernel_rfl) (by decide) (fun _ _ _ h => h) (by rfl) (fun w hw => by first | rfl | (go_simp; done) | (go_simp; rfl) | (go_simp; omega)) hHeld ?_
          simp only [Act.put, List.setIfInBounds_toArray, List.set_cons_zero, List.set_cons_succ]
          refine readyT 16 (by kernel_rfl) rfl (by rfl) (fun K hK => ?_)
          go_simp
          refine (MD.out _).mono ?_
          rintro e wx ⟨rfl, hx⟩
          obtain rfl := hx.symm
          try go_wp2_with fail
          refine hK.out _ _ (fun _ => hHeld) (fun hH => ?_)
          clear hK hH
          refine takeT 17 (some 110) (.pointer (some ⟨gz, p, none⟩)) rfl rfl (by kernel_rfl) (by kernel_rfl) (by kernel_rfl) (by kernel_rfl) (by decide) (fun _ _ _ h => h) (by rfl) (fun w hw => by have p0 : (0 : Int) ≤ (p : Int) := (by omega); have p1 : (p : Int) < (nz : Int) := hPm.out; first | rfl | (go_simp; done) | (go_simp; rfl) | (go_simp; omega)) hHeld ?_
          simp only [Act.put, List.setIfInBounds_toArray, List.set_cons_zero, List.set_cons_succ]
          refine takeT 18 (some 111) (.int .i64 z) rfl rfl (by kernel_rfl) (by kernel_rfl) (by kernel_rfl) (by kernel_rfl) (by decide) (fun _ _ _ h => h) (by rfl) (fun w hw => by have c := hw.2.2; first | (go_simp; done) | (go_simp; rfl)) hHeld ?_
          simp only [Act.put, List.setIfInBounds_toArray, List.set_cons_zero, List.set_cons_succ]
          refine takeT 19 (some 112) (.agg (tabv uA.v 36)) rfl rfl (by kernel_rfl) (by kernel_rfl) (by kernel_rfl) (by kernel_rfl) (by decide) (fun _ _ _ h => h) (by rfl) (fun w hw => by rw [HUA.out]; exact run_buildQ w 43 _ rfl [(0, .int .i64 Kd), (1, .int .i64 z)] (by first | (simp [Act.eval]; done) | rfl) _ (built_uR _ _)) hHeld ?_
          simp only [Act.put, List.setIfInBounds_toArray, List.set_cons_zero, List.set_cons_succ]
          refine readyT 20 (by kernel_rfl) rfl (by rfl) (fun K hK => ?_)
          refine wpRun (v := .slice (some ⟨wd.heap.size, 0, none⟩) 1 1) (w' := wd.alloc (.cells (tabv uA.v 36) 43)) (by have := run_sliceU wd uA; simp [execOp, this, Act.eval, Result.andThen]) ?_
          simp only [Act.put, List.setIfInBounds_toArray, List.set_cons_zero, List.set_cons_succ]
          refine hK.out _ _ (fun _ => ⟨hHeld.1.old _, hHeld.2.1.old _, (cell_same (heap_alloc_old wd _ (World.block_lt_of_cell? _ _ hHeld.2.2))).trans hHeld.2.2⟩) (fun hH => ?_)
          clear hHeld
          have hHeld := hH (by decide)
          clear hK hH
          refine readyT 21 (by kernel_rfl) rfl (by rfl) (fun K hK => ?_)
          refine wpRunS _ _ _ rfl (.slice (some ⟨q, 0, none⟩) (n1 + 1) cp) HR2.out ?_
          simp only [Act.put, List.setIfInBounds_toArray, List.set_cons_zero, List.set_cons_succ]
          have x2 : Has wQ gO 35 (stv Kd Sd N) 3 := by
            unfold Has; rw [HGR.out.block gO hHeld.1.lt (fun e => (hnb.out gO e.symm).2 rfl)]; exact hHeld.1
          have y2 : Has wQ g 30 (bkv (.slice ad0 n0 c0) (.slice ad1 n1 c1) f0 f1 b0 b1) 6 := by
            unfold Has; rw [HGR.out.block g hHeld.2.1.lt (fun e => by have := (hnb.out g e.symm).1; omega)]; exact hHeld.2.1
          have z2 : wQ.cell? ⟨gz, p, none⟩ = some (.int .i64 z) := (cell_same (HGR.out.block gz (World.block_lt_of_cell? _ _ hHeld.2.2) (fun e => (hnz.out gz e.symm) rfl))).trans hHeld.2.2
          refine hK.out _ _ (fun _ => ⟨x2, y2, z2⟩) (fun hH => ?_)
          clear hHeld
          have hHeld := hH (by decide)
          clear hK hH
          refine takeT 24 (some 117) (.pointer (some ⟨g, 1, none⟩)) rfl rfl (by kernel_rfl) (by kernel_rfl) (by kernel_rfl) (by kernel_rfl) (by decide) (fun _ _ _ h => h) (by rfl) (fun w hw => by first | rfl | (go_simp; done) | (go_simp; rfl) | (go_simp; omega)) hHeld ?_
          simp only [Act.put, List.setIfInBounds_toArray, List.set_cons_zero, List.set_cons_succ]
          have cg : wQ.cell? ⟨g, 1, none⟩ = some (.slice ad1 n1 c1) := y2.cell 1 (by omega)
          have fg := y2.frozen 1
          have GSN := hide (HBd.out.app1 HO2.out HGR.out HGG.out y2)
          refine readyT 25 (by kernel_rfl) rfl (by rfl) (fun K hK => ?_)
          go_simp
          refine hK.out _ _ (fun x => absurd rfl x) (fun _ => ?_)
          clear hK
          refine ⟨by kernel_rfl, ?_⟩
          refine NoPanic.normal ?_
          generalize hw3 : World.setCell wQ ⟨g, 1, none⟩ (.slice (some ⟨q, 0, none⟩) (n1 + 1) cp) = w4 at GSN ⊢
          clear hw3 cg fg x2 y2 HR2 HO2 HGR HGG hHeld
          try go_wp2
          go_ret
          exact ⟨rfl, ⟨_, _, _, _, _, _, GSN.out.1, NVN.out, HZ.out.1, HZN.out⟩, BD.out.trans GSN.out.2⟩
        · have hd2 : decide ((n1 : Int) < 2048) = false := decide_eq_false (by omega)
          have hd3 : decide (n1 < 2048) = false := decide_eq_false hlt
          go_wp2
          go_ret
          exact ⟨rfl, ⟨_, _, l0, l1, f0, f1, (HAN.out _ hb2).1, HN.out, HZ.out.1, HZ.out.2⟩, (hb2).mono (by have := HGW.out; omega)⟩
      · obtain rfl : nz = 0 := by omega
        obtain ⟨adz, cz, rfl⟩ := hO.len
        rw [hnz]
        go_wp2
        go_ret
        exact ⟨rfl, ⟨_, _, l0, l1, f0, f1, (HAN.out _ hb2).1, HN.out, HZ.out.1, HZ.out.2⟩, (hb2).mono (by have := HGW.out; omega)⟩
    | false =>
      cases k3 : (Kd == 3) with
      | true =>
        have HKK : Hid (Kd = 2 ∨ Kd = 3) := by first | exact .inl (by simpa using k2) | exact .inr (by simpa using k3)
        go_wp2_with fail
        refine (RM.out _ (HAN.out _ HB1.out).1.arr (HAN.out _ HB1.out).2.1 (HAN.out _ HB1.out).2.2).mono ?_
        rintro e w2 ⟨v, rfl, ⟨ids, hO, hln, hmem⟩, hc2⟩
        have r2 := R1.out.below hc2 R1.out.lt
        have hsz1 : gO < w1.heap.size := R1.out.lt
        have hb2 : Below gO w w2 := HB1.out.trans (hc2.mono (by omega))
        clear hc2 q0 q1 hW1
        have cS : w2.cell? ⟨g, 1, none⟩ = some (.slice ad1 n1 c1) := (HAN.out _ hb2).1.arr.cell 1 (by omega)
        obtain ⟨nz, hnz⟩ : ∃ n, ids.length = n := ⟨_, rfl⟩
        by_cases hpos : 0 < nz
        · obtain ⟨m, hm⟩ : ∃ m : Nat, nz = m + 1 := ⟨nz - 1, by omega⟩
          have hnzb : nz ≤ 2048 := by have := HF.out; omega
          obtain ⟨p, hp, MDx⟩ := mod_any N m (by omega)
          obtain ⟨z, hz⟩ : ∃ z, ids[p]? = some z := ⟨_, List.getElem?_eq_getElem (by omega)⟩
          obtain ⟨gz, cz, rfl, hcz, hgz1, hgz2⟩ := hO.get hz
          rw [hnz]
          obtain ⟨i, u, hi1, hi2, hi3, hi4⟩ := hmem z (List.mem_of_getElem? hz)
          have hd0 : decide (0 < (nz : Int)) = true := decide_eq_true (by omega)
          have hd1 : decide (0 < nz) = true := decide_eq_true hpos
          have zL : IntKind.i64.wrap ((nz : Int) - 1) = (m : Int) := by rw [IntKind.wrap_i64]; omega
          have hPm : Hid ((p : Int) < (nz : Int)) := by show _ < _; omega
          have MD := hide MDx
          have hzb : (nz : Int) ≤ 2048 := by omega
          by_cases hlt : n1 < 2048
          · have hd2 : decide ((n1 : Int) < 2048) = true := decide_eq_true (by omega)
            have hd3 : decide (n1 < 2048) = true := decide_eq_true hlt
            obtain ⟨uA, huA⟩ : ∃ u : Upd, u = ⟨Kd, z, 0, fun _ => 0, nilB⟩ := ⟨_, rfl⟩
            have hidz := HN.out.i0 i u hi2 hi3
            have hle := adds_le (l0.take i)
            rw [List.length_take] at hle
            have hvA : validB uA = true := by rw [huA]; exact nval2 HKK.out (by have := HF.out; omega)
            have NVN : Hid (Nv b0 b1 l0 (l1 ++ [uA]) f0 f1) := (HN.out.swap.rem (r := uA) (u := u) (k := i) hvA (by rw [huA]; show Kd ≠ 1; have := HKK.out; omega) hi2 hi3 (by rw [huA]; exact hi4.symm) hi1).swap
            have HUA := hide huA
            have hcz' := hide hcz
            clear huA hvA hidz hle MDx hp hz hO hmem hln hi1 hi2 hi3 hi4 hm hnzb hcz
            obtain ⟨wd, hwd⟩ : ∃ x, World.drew w2 = x := ⟨_, rfl⟩
            have hbd : Below gO w wd := by rw [← hwd]; exact hb2.drew
            have hq1 : Hid (Has wd gO 35 (stv Kd Sd N) 3) := by rw [← hwd]; exact r2.below (Below.refl _ _).drew r2.lt
            have HBd := hide (HAN.out wd hbd).1
            have hq2 : Hid (Has wd g 30 (bkv (.slice ad0 n0 c0) (.slice ad1 n1 c1) f0 f1 b0 b1) 6) := HBd.out.arr
            have BD : Hid (Below B w wd) := hbd.mono (by have := HGW.out; omega)

            have hqz : Hid (wd.cell? ⟨gz, p, none⟩ = some (.int .i64 z)) := by rw [← hwd]; exact ((Below.refl _ _).drew.cell (World.block_lt_of_cell? _ _ hcz'.out)).trans hcz'.out
            have hnz : Hid (∀ k, (Value.slice ad1 n1 c1).ownBlock = some k → k ≠ gz) := fun k hk => by have := HOW.out k hk; omega
            obtain ⟨q, cp, wQ, hr2, ho2, hgr, hgg⟩ := run_appL wd (g + 1) (.slice ad1 n1 c1) l1 uA 25 HBd.out.o1 (by have := HS1.out; omega) (by have := HGW.out; have := HBd.out.arr.lt; omega)
            rw [HS1.out] at hr2 ho2
            have HR2 := hide hr2
            have HO2 := hide ho2
            have HGR := hide hgr
            have HGG := hide hgg
            have hnb : Hid (∀ k, (Value.slice ad1 n1 c1).ownBlock = some k → g < k ∧ k ≠ gO) := fun k hk => by have := HOW.out k hk; exact ⟨this.1, by omega⟩
            have HZN : Hid ((l1 ++ [uA]).length ≤ 2048) := by show _ ≤ _; rw [List.length_append, HS1.out]; simp; omega
            clear hr2 ho2 hgr hgg hbd
            clear r2 hb2 hcz' hgz1 hgz2
            go_wp2
            refine wp_region_noPanic ?_
            refine wp_region_T (S := fun wx => Has wx gO 35 (stv Kd Sd N) 3 ∧ Has wx g 30 (bkv (.slice ad0 n0 c0) (.slice ad1 n1 c1) f0 f1 b0 b1) 6 ∧ wx.cell? ⟨gz, p, none⟩ = some (.int .i64 z)) 25 (by kernel_rfl) (by rw [hwd]; exact ⟨hq1.out, hq2.out, hqz.out⟩) (fun hHeld => ?_)
            rw [hwd] at hHeld ⊢
            refine takeT 0 (some 93) (.pointer (some ⟨g, 0, none⟩)) rfl rfl (by kernel_rfl) (by kernel_rfl) (by kernel_rfl) (by kernel_rfl) (by decide) (fun _ _ _ h => h) (by rfl) (fun w hw => by first | rfl | (go_simp; done) | (go_simp; rfl) | (go_simp; omega)) hHeld ?_
            simp only [Act.put, List.setIfInBounds_toArray, List.set_cons_zero, List.set_cons_succ]
            refine takeT 1 (some 94) (.int .i64 1) rfl rfl (by kernel_rfl) (by kernel_rfl) (by kernel_rfl) (by kernel_rfl) (by decide) (fun _ _ _ h => h) (by rfl) (fun w hw => by first | rfl | (go_simp; done) | (go_simp; rfl) | (go_simp; omega)) hHeld ?_
            simp only [Act.put, List.setIfInBounds_toArray, List.set_cons_zero, List.set_cons_succ]
            refine takeT 2 (some 95) (.pointer (some ⟨g, 0, none⟩)) rfl rfl (by kernel_rfl) (by kernel_rfl) (by kernel_rfl) (by kernel_rfl) (by decide) (fun _ _ _ h => h) (by rfl) (fun w hw => by first | rfl | (go_simp; done) | (go_simp; rfl) | (go_simp; omega)) hHeld ?_
            simp only [Act.put, List.setIfInBounds_toArray, List.set_cons_zero, List.set_cons_succ]
            refine takeT 3 (some 96) (.int .i64 1) rfl rfl (by kernel_rfl) (by kernel_rfl) (by kernel_rfl) (by kernel_rfl) (by decide) (fun _ _ _ h => h) (by rfl) (fun w hw => by first | rfl | (go_simp; done) | (go_simp; rfl) | (go_simp; omega)) hHeld ?_
            simp only [Act.put, List.setIfInBounds_toArray, List.set_cons_zero, List.set_cons_succ]
            refine takeT 4 (some 97) (.pointer (some ⟨g, 0, none⟩)) rfl rfl (by kernel_rfl) (by kernel_rfl) (by kernel_rfl) (by kernel_rfl) (by decide) (fun _ _ _ h => h) (by rfl) (fun w hw => by first | rfl | (go_simp; done) | (go_simp; rfl) | (go_simp; omega)) hHeld ?_
            simp only [Act.put, List.setIfInBounds_toArray, List.set_cons_zero, List.set_cons_succ]
            refine takeT 5 (some 98) (.pointer (some ⟨g, 0, none⟩)) rfl rfl (by kernel_rfl) (by kernel_rfl) (by kernel_rfl) (by kernel_rfl) (by decide) (fun _ _ _ h => h) (by rfl) (fun w hw => by first | rfl | (go_simp; done) | (go_simp; rfl) | (go_simp; omega)) hHeld ?_
            simp only [Act.put, List.setIfInBounds_toArray, List.set_cons_zero, List.set_cons_succ]
            refine takeT 6 (some 99) (.pointer (some ⟨g, 1, none⟩)) rfl rfl (by kernel_rfl) (by kernel_rfl) (by kernel_rfl) (by kernel_rfl) (by decide) (fun _ _ _ h => h) (by rfl) (fun w hw => by first | rfl | (go_simp; done) | (go_simp; rfl) | (go_simp; omega)) hHeld ?_
            simp only [Act.put, List.setIfInBounds_toArray, List.set_cons_zero, List.set_cons_succ]
            refine takeT 7 (some 100) (.slice ad1 n1 c1) rfl rfl (by kernel_rfl) (by kernel_rfl) (by kernel_rfl) (by kernel_rfl) (by decide) (fun _ _ _ h => h) (by rfl) (fun w hw => by have c : w.cell? ⟨g, 1, none⟩ = some (.slice ad1 n1 c1) := hw.2.1.cell 1 (by omega); first | (go_simp; done) | (go_simp; rfl)) hHeld ?_
            simp only [Act.put, List.setIfInBounds_toArray, List.set_cons_zero, List.set_cons_succ]
            refine takeT 8 (some 101) (.pointer (some ⟨gO, 0, none⟩)) rfl rfl (by kernel_rfl) (by kernel_rfl) (by kernel_rfl) (by kernel_rfl) (by decide) (fun _ _ _ h => h) (by rfl) (fun w hw => by first | rfl | (go_simp; done) | (go_simp; rfl) | (go_simp; omega)) hHeld ?_
            simp only [Act.put, List.setIfInBounds_toArray, List.set_cons_zero, List.set_cons_succ]
            refine takeT 9 (some 102) (.int .i64 Kd) rfl rfl (by kernel_rfl) (by kernel_rfl) (by kernel_rfl) (by kernel_rfl) (by decide) (fun _ _ _ h => h) (by rfl) (fun w hw => by have c : w.cell? ⟨gO, 0, none⟩ = some (.int .i64 Kd) := hw.1.cell 0 (by omega); first | (go_simp; done) | (go_simp; rfl)) hHeld ?_
            simp only [Act.put, List.setIfInBounds_toArray, List.set_cons_zero, List.set_cons_succ]
            refine takeT 10 (some 103) (.slice (some ⟨gz, 0, none⟩) nz cz) rfl rfl (by kernel_rfl) (by kernel_rfl) (by kernel_rfl) (by kernel_rfl) (by decide) (fun _ _ _ h => h) (by rfl) (fun w hw => by first | rfl | (go_simp; done) | (go_simp; rfl) | (go_simp; omega)) hHeld ?_
            simp only [Act.put, List.setIfInBounds_toArray, List.set_cons_zero, List.set_cons_succ]
            refine takeT 11 (some 104) (.pointer (some ⟨gO, 2, none⟩)) rfl rfl (by kernel_rfl) (by kernel_rfl) (by kernel_rfl) (by kernel_rfl) (by decide) (fun _ _ _ h => h) (by rfl) (fun w hw => by first | rfl | (go_simp; done) | (go_simp; rfl) | (go_simp; omega)) hHeld ?_
            simp only [Act.put, List.setIfInBounds_toArray, List.set_cons_zero, List.set_cons_succ]
            refine takeT 12 (some 105) (.int .i64 N) rfl rfl (by kernel_rfl) (by kernel_rfl) (by kernel_rfl) (by kernel_rfl) (by decide) (fun _ _ _ h => h) (by rfl) (fun w hw => by have c : w.cell? ⟨gO, 2, none⟩ = some (.int .i64 N) := hw.1.cell 2 (by omega); first | (go_simp; done) | (go_simp; rfl)) hHeld ?_
            simp only [Act.put, List.setIfInBounds_toArray, List.set_cons_zero, List.set_cons_succ]
            refine takeT 13 (some 106) (.slice (some ⟨gz, 0, none⟩) nz cz) rfl rfl (by kernel_rfl) (by kernel_rfl) (by kernel_rfl) (by kernel_rfl) (by decide) (fun _ _ _ h => h) (by rfl) (fun w hw => by first | rfl | (go_simp; done) | (go_simp; rfl) | (go_simp; omega)) hHeld ?_
            simp only [Act.put, List.setIfInBounds_toArray, List.set_cons_zero, List.set_cons_succ]
            refine takeT 14 (some 107) (.int .i64 (nz : Int)) rfl rfl (by kernel_rfl) (by kernel_rfl) (by kernel_rfl) (by kernel_rfl) (by decide) (fun _ _ _ h => h) (by rfl) (fun w hw => by first | rfl | (go_simp; done) | (go_simp; rfl) | (go_simp; omega)) hHeld ?_
            simp only [Act.put, List.setIfInBounds_toArray, List.set_cons_zero, List.set_cons_succ]
            refine takeT 15 (some 108) (.int .i64 (m : Int)) rfl rfl (by kernel_rfl) (by kernel_rfl) (by kernel_rfl) (by kernel_rfl) (by decide) (fun _ _ _ h => h) (by rfl) (fun w hw => by have z := zL; first | rfl | (go_simp; done) | (go_simp; rfl) | (go_simp; omega)) hHeld ?_
            simp only [Act.put, List.setIfInBounds_toArray, List.set_cons_zero, List.set_cons_succ]
            refine takeP [24, 23] 22 (some 115) (.pointer (some ⟨g, 0, none⟩)) rfl rfl (by kernel_rfl) (by kernel_rfl) (by kernel_rfl) (by kernel_rfl) (by kernel_rfl) (by decide) (fun _ _ _ h => h) (by rfl) (fun w hw => by first | rfl | (go_simp; done) | (go_simp; rfl) | (go_simp; omega)) hHeld ?_
            simp only [Act.put, List.setIfInBounds_toArray, List.set_cons_zero, List.set_cons_succ]
            refine takeP [24] 23 (some 116) (.pointer (some ⟨g, 0, none⟩)) rfl rfl (by kernel_rfl) (by kernel_rfl) (by kernel_rfl) (by kernel_rfl) (by kernel_rfl) (by decide) (fun _ _ _ h => h) (by rfl) (fun w hw => by first | rfl | (go_simp; done) | (go_simp; rfl) | (go_simp; omega)) hHeld ?_
            simp only [Act.put, List.setIfInBounds_toArray, List.set_cons_zero, List.set_cons_succ]
            refine readyT 16 (by kernel_rfl) rfl (by rfl) (fun K hK => ?_)
            go_simp
            refine (MD.out _).mono ?_
            rintro e wx ⟨rfl, hx⟩
            obtain rfl := hx.symm
            try go_wp2_with fail
            refine hK.out _ _ (fun _ => hHeld) (fun hH => ?_)
            clear hK hH
            refine takeT 17 (some 110) (.pointer (some ⟨gz, p, none⟩)) rfl rfl (by kernel_rfl) (by kernel_rfl) (by kernel_rfl) (by kernel_rfl) (by decide) (fun _ _ _ h => h) (by rfl) (fun w hw => by have p0 : (0 : Int) ≤ (p : Int) := (by omega); have p1 : (p : Int) < (nz : Int) := hPm.out; first | rfl | (go_simp; done) | (go_simp; rfl) | (go_simp; omega)) hHeld ?_
            simp only [Act.put, List.setIfInBounds_toArray, List.set_cons_zero, List.set_cons_succ]
            refine takeT 18 (some 111) (.int .i64 z) rfl rfl (by kernel_rfl) (by kernel_rfl) (by kernel_rfl) (by kernel_rfl) (by decide) (fun _ _ _ h => h) (by rfl) (fun w hw => by have c := hw.2.2; first | (go_simp; done) | (go_simp; rfl)) hHeld ?_
            simp only [Act.put, List.setIfInBounds_toArray, List.set_cons_zero, List.set_cons_succ]
            refine takeT 19 (some 112) (.agg (tabv uA.v 36)) rfl rfl (by kernel_rfl) (by kernel_rfl) (by kernel_rfl) (by kernel_rfl) (by decide) (fun _ _ _ h => h) (by rfl) (fun w hw => by rw [HUA.out]; exact run_buildQ w 43 _ rfl [(0, .int .i64 Kd), (1, .int .i64 z)] (by first | (simp [Act.eval]; done) | rfl) _ (built_uR _ _)) hHeld ?_
            simp only [Act.put, List.setIfInBounds_toArray, List.set_cons_zero, List.set_cons_succ]
            refine readyT 20 (by kernel_rfl) rfl (by rfl) (fun K hK => ?_)
            refine wpRun (v := .slice (some ⟨wd.heap.size, 0, none⟩) 1 1) (w' := wd.alloc (.cells (tabv uA.v 36) 43)) (by have := run_sliceU wd uA; simp [execOp, this, Act.eval, Result.andThen]) ?_
            simp only [Act.put, List.setIfInBounds_toArray, List.set_cons_zero, List.set_cons_succ]
            refine hK.out _ _ (fun _ => ⟨hHeld.1.old _, hHeld.2.1.old _, (cell_same (heap_alloc_old wd _ (World.block_lt_of_cell? _ _ hHeld.2.2))).trans hHeld.2.2⟩) (fun hH => ?_)
            clear hHeld
            have hHeld := hH (by decide)
            clear hK hH
            refine readyT 21 (by kernel_rfl) rfl (by rfl) (fun K hK => ?_)
            refine wpRunS _ _ _ rfl (.slice (some ⟨q, 0, none⟩) (n1 + 1) cp) HR2.out ?_
            simp only [Act.put, List.setIfInBounds_toArray, List.set_cons_zero, List.set_cons_succ]
            have x2 : Has wQ gO 35 (stv Kd Sd N) 3 := by
              unfold Has; rw [HGR.out.block gO hHeld.1.lt (fun e => (hnb.out gO e.symm).2 rfl)]; exact hHeld.1
            have y2 : Has wQ g 30 (bkv (.slice ad0 n0 c0) (.slice ad1 n1 c1) f0 f1 b0 b1) 6 := by
              unfold Has; rw [HGR.out.block g hHeld.2.1.lt (fun e => by have := (hnb.out g e.symm).1; omega)]; exact hHeld.2.1
            have z2 : wQ.cell? ⟨gz, p, none⟩ = some (.int .i64 z) := (cell_same (HGR.out.block gz (World.block_lt_of_cell? _ _ hHeld.2.2) (fun e => (hnz.out gz e.symm) rfl))).trans hHeld.2.2
            refine hK.out _ _ (fun _ => ⟨x2, y2, z2⟩) (fun hH => ?_)
            clear hHeld
            have hHeld := hH (by decide)
            clear hK hH
            refine takeT 24 (some 117) (.pointer (some ⟨g, 1, none⟩)) rfl rfl (by kernel_rfl) (by kernel_rfl) (by kernel_rfl) (by kernel_rfl) (by decide) (fun _ _ _ h => h) (by rfl) (fun w hw => by first | rfl | (go_simp; done) | (go_simp; rfl) | (go_simp; omega)) hHeld ?_
            simp only [Act.put, List.setIfInBounds_toArray, List.set_cons_zero, List.set_cons_succ]
            have cg : wQ.cell? ⟨g, 1, none⟩ = some (.slice ad1 n1 c1) := y2.cell 1 (by omega)
            have fg := y2.frozen 1
            have GSN := hide (HBd.out.app1 HO2.out HGR.out HGG.out y2)
            refine readyT 25 (by kernel_rfl) rfl (by rfl) (fun K hK => ?_)
            go_simp
            refine hK.out _ _ (fun x => absurd rfl x) (fun _ => ?_)
            clear hK
            refine ⟨by kernel_rfl, ?_⟩
            refine NoPanic.normal ?_
            generalize hw3 : World.setCell wQ ⟨g, 1, none⟩ (.slice (some ⟨q, 0, none⟩) (n1 + 1) cp) = w4 at GSN ⊢
            clear hw3 cg fg x2 y2 HR2 HO2 HGR HGG hHeld
            try go_wp2
            go_ret
            exact ⟨rfl, ⟨_, _, _, _, _, _, GSN.out.1, NVN.out, HZ.out.1, HZN.out⟩, BD.out.trans GSN.out.2⟩
          · have hd2 : decide ((n1 : Int) < 2048) = false := decide_eq_false (by omega)
            have hd3 : decide (n1 < 2048) = false := decide_eq_false hlt
            go_wp2
            go_ret
            exact ⟨rfl, ⟨_, _, l0, l1, f0, f1, (HAN.out _ hb2).1, HN.out, HZ.out.1, HZ.out.2⟩, (hb2).mono (by have := HGW.out; omega)⟩
        · obtain rfl : nz = 0 := by omega
          obtain ⟨adz, cz, rfl⟩ := hO.len
          rw [hnz]
          go_wp2
          go_ret
          exact ⟨rfl, ⟨_, _, l0, l1, f0, f1, (HAN.out _ hb2).1, HN.out, HZ.out.1, HZ.out.2⟩, (hb2).mono (by have := HGW.out; omega)⟩
      | false =>
        cases k4 : (Kd == 4) with
        | true =>
          obtain ⟨m, hm⟩ : ∃ m : Nat, m = n1 - f1 := ⟨_, rfl⟩
          obtain ⟨p, hp, MDx⟩ := mod_any N m (by have := HF.out; omega)
          have MD := hide MDx
          obtain ⟨fn, hfn⟩ : ∃ x, x = f1 + p := ⟨_, rfl⟩
          have zL : IntKind.i64.wrap ((n1 : Int) - (f1 : Int)) = (m : Int) := by rw [IntKind.wrap_i64]; have := HF.out; omega
          have zP : IntKind.i64.wrap ((f1 : Int) + (p : Int)) = (fn : Int) := by rw [IntKind.wrap_i64]; have := HF.out; omega
          have NVN : Hid (Nv b0 b1 l0 l1 f0 fn) := (HN.out.swap.fix (k := fn) (by omega) (by rw [HS1.out]; have := HF.out; omega)).swap
          clear hm hp MDx hfn
          have hb1 := HB1.out
          have r1 := R1.out
          obtain ⟨wd, hwd⟩ : ∃ x, World.drew w1 = x := ⟨_, rfl⟩
          have hbd : Below gO w wd := by rw [← hwd]; exact hb1.drew
          have hq1 : Hid (Has wd gO 35 (stv Kd Sd N) 3) := by rw [← hwd]; exact r1.below (Below.refl _ _).drew r1.lt
          have HBd := hide (HAN.out wd hbd).1
          have hq2 : Hid (Has wd g 30 (bkv (.slice ad0 n0 c0) (.slice ad1 n1 c1) f0 f1 b0 b1) 6) := HBd.out.arr
          have BD : Hid (Below B w wd) := hbd.mono (by have := HGW.out; omega)

          clear hb1 r1 hbd
          go_wp2
          refine wp_region_noPanic ?_
          refine wp_region_T (S := fun wx => Has wx gO 35 (stv Kd Sd N) 3 ∧ Has wx g 30 (bkv (.slice ad0 n0 c0) (.slice ad1 n1 c1) f0 f1 b0 b1) 6) 29 (by kernel_rfl) (by rw [hwd]; exact ⟨hq1.out, hq2.out⟩) (fun hHeld => ?_)
          rw [hwd] at hHeld ⊢
          refine takeT 0 (some 120) (.pointer (some ⟨g, 0, none⟩)) rfl rfl (by kernel_rfl) (by kernel_rfl) (by kernel_rfl) (by kernel_rfl) (by decide) (fun _ _ _ h => h) (by rfl) (fun w hw => by first | rfl | (go_simp; done) | (go_simp; rfl) | (go_simp; omega)) hHeld ?_
          simp only [Act.put, List.setIfInBounds_toArray, List.set_cons_zero, List.set_cons_succ]
          refine takeT 1 (some 121) (.int .i64 1) rfl rfl (by kernel_rfl) (by kernel_rfl) (by kernel_rfl) (by kernel_rfl) (by decide) (fun _ _ _ h => h) (by rfl) (fun w hw => by first | rfl | (go_simp; done) | (go_simp; rfl) | (go_simp; omega)) hHeld ?_
          simp only [Act.put, List.setIfInBounds_toArray, List.set_cons_zero, List.set_cons_succ]
          refine takeT 2 (some 122) (.pointer (some ⟨g, 0, none⟩)) rfl rfl (by kernel_rfl) (by kernel_rfl) (by kernel_rfl) (by kernel_rfl) (by decide) (fun _ _ _ h => h) (by rfl) (fun w hw => by first | rfl | (go_simp; done) | (go_simp; rfl) | (go_simp; omega)) hHeld ?_
          simp only [Act.put, List.setIfInBounds_toArray, List.set_cons_zero, List.set_cons_succ]
          refine takeT 3 (some 123) (.int .i64 1) rfl rfl (by kernel_rfl) (by kernel_rfl) (by kernel_rfl) (by kernel_rfl) (by decide) (fun _ _ _ h => h) (by rfl) (fun w hw => by first | rfl | (go_simp; done) | (go_simp; rfl) | (go_simp; omega)) hHeld ?_
          simp only [Act.put, List.setIfInBounds_toArray, List.set_cons_zero, List.set_cons_succ]
          refine takeT 4 (some 124) (.pointer (some ⟨g, 0, none⟩)) rfl rfl (by kernel_rfl) (by kernel_rfl) (by kernel_rfl) (by kernel_rfl) (by decide) (fun _ _ _ h => h) (by rfl) (fun w hw => by first | rfl | (go_simp; done) | (go_simp; rfl) | (go_simp; omega)) hHeld ?_
          simp only [Act.put, List.setIfInBounds_toArray, List.set_cons_zero, List.set_cons_succ]
          refine takeT 5 (some 125) (.pointer (some ⟨g, 2, none⟩)) rfl rfl (by kernel_rfl) (by kernel_rfl) (by kernel_rfl) (by kernel_rfl) (by decide) (fun _ _ _ h => h) (by rfl) (fun w hw => by first | rfl | (go_simp; done) | (go_simp; rfl) | (go_simp; omega)) hHeld ?_
          simp only [Act.put, List.setIfInBounds_toArray, List.set_cons_zero, List.set_cons_succ]
          refine takeT 6 (some 126) (.pointer (some ⟨g, 3, none⟩)) rfl rfl (by kernel_rfl) (by kernel_rfl) (by kernel_rfl) (by kernel_rfl) (by decide) (fun _ _ _ h => h) (by rfl) (fun w hw => by first | rfl | (go_simp; done) | (go_simp; rfl) | (go_simp; omega)) hHeld ?_
          simp only [Act.put, List.setIfInBounds_toArray, List.set_cons_zero, List.set_cons_succ]
          refine takeT 7 (some 127) (.int .i64 (f1 : Int)) rfl rfl (by kernel_rfl) (by kernel_rfl) (by kernel_rfl) (by kernel_rfl) (by decide) (fun _ _ _ h => h) (by rfl) (fun w hw => by have c : w.cell? ⟨g, 3, none⟩ = some (.int .i64 (f1 : Int)) := hw.2.cell 3 (by omega); first | (go_simp; done) | (go_simp; rfl)) hHeld ?_
          simp only [Act.put, List.setIfInBounds_toArray, List.set_cons_zero, List.set_cons_succ]
          refine takeT 8 (some 128) (.pointer (some ⟨gO, 2, none⟩)) rfl rfl (by kernel_rfl) (by kernel_rfl) (by kernel_rfl) (by kernel_rfl) (by decide) (fun _ _ _ h => h) (by rfl) (fun w hw => by first | rfl | (go_simp; done) | (go_simp; rfl) | (go_simp; omega)) hHeld ?_
          simp only [Act.put, List.setIfInBounds_toArray, List.set_cons_zero, List.set_cons_succ]
          refine takeT 9 (some 129) (.int .i64 N) rfl rfl (by kernel_rfl) (by kernel_rfl) (by kernel_rfl) (by kernel_rfl) (by decide) (fun _ _ _ h => h) (by rfl) (fun w hw => by have c : w.cell? ⟨gO, 2, none⟩ = some (.int .i64 N) := hw.1.cell 2 (by omega); first | (go_simp; done) | (go_simp; rfl)) hHeld ?_
          simp only [Act.put, List.setIfInBounds_toArray, List.set_cons_zero, List.set_cons_succ]
          refine takeT 10 (some 130) (.pointer (some ⟨g, 0, none⟩)) rfl rfl (by kernel_rfl) (by kernel_rfl) (by kernel_rfl) (by kernel_rfl) (by decide) (fun _ _ _ h => h) (by rfl) (fun w hw => by first | rfl | (go_simp; done) | (go_simp; rfl) | (go_simp; omega)) hHeld ?_
          simp only [Act.put, List.setIfInBounds_toArray, List.set_cons_zero, List.set_cons_succ]
          refine takeT 11 (some 131) (.int .i64 1) rfl rfl (by kernel_rfl) (by kernel_rfl) (by kernel_rfl) (by kernel_rfl) (by decide) (fun _ _ _ h => h) (by rfl) (fun w hw => by first | rfl | (go_simp; done) | (go_simp; rfl) | (go_simp; omega)) hHeld ?_
          simp only [Act.put, List.setIfInBounds_toArray, List.set_cons_zero, List.set_cons_succ]
          refine takeT 12 (some 132) (.pointer (some ⟨g, 0, none⟩)) rfl rfl (by kernel_rfl) (by kernel_rfl) (by kernel_rfl) (by kernel_rfl) (by decide) (fun _ _ _ h => h) (by rfl) (fun w hw => by first | rfl | (go_simp; done) | (go_simp; rfl) | (go_simp; omega)) hHeld ?_
          simp only [Act.put, List.setIfInBounds_toArray, List.set_cons_zero, List.set_cons_succ]
          refine takeT 13 (some 133) (.pointer (some ⟨g, 0, none⟩)) rfl rfl (by kernel_rfl) (by kernel_rfl) (by kernel_rfl) (by kernel_rfl) (by decide) (fun _ _ _ h => h) (by rfl) (fun w hw => by first | rfl | (go_simp; done) | (go_simp; rfl) | (go_simp; omega)) hHeld ?_
          simp only [Act.put, List.setIfInBounds_toArray, List.set_cons_zero, List.set_cons_succ]
          refine takeT 14 (some 134) (.pointer (some ⟨g, 1, none⟩)) rfl rfl (by kernel_rfl) (by kernel_rfl) (by kernel_rfl) (by kernel_rfl) (by decide) (fun _ _ _ h => h) (by rfl) (fun w hw => by first | rfl | (go_simp; done) | (go_simp; rfl) | (go_simp; omega)) hHeld ?_
          simp only [Act.put, List.setIfInBounds_toArray, List.set_cons_zero, List.set_cons_succ]
          refine takeT 15 (some 135) (.slice ad1 n1 c1) rfl rfl (by kernel_rfl) (by kernel_rfl) (by kernel_rfl) (by kernel_rfl) (by decide) (fun _ _ _ h => h) (by rfl) (fun w hw => by have c : w.cell? ⟨g, 1, none⟩ = some (.slice ad1 n1 c1) := hw.2.cell 1 (by omega); first | (go_simp; done) | (go_simp; rfl)) hHeld ?_
          simp only [Act.put, List.setIfInBounds_toArray, List.set_cons_zero, List.set_cons_succ]
          refine takeT 16 (some 136) (.int .i64 (n1 : Int)) rfl rfl (by kernel_rfl) (by kernel_rfl) (by kernel_rfl) (by kernel_rfl) (by decide) (fun _ _ _ h => h) (by rfl) (fun w hw => by first | rfl | (go_simp; done) | (go_simp; rfl) | (go_simp; omega)) hHeld ?_
          simp only [Act.put, List.setIfInBounds_toArray, List.set_cons_zero, List.set_cons_succ]
          refine takeT 17 (some 137) (.pointer (some ⟨g, 0, none⟩)) rfl rfl (by kernel_rfl) (by kernel_rfl) (by kernel_rfl) (by kernel_rfl) (by decide) (fun _ _ _ h => h) (by rfl) (fun w hw => by first | rfl | (go_simp; done) | (go_simp; rfl) | (go_simp; omega)) hHeld ?_
          simp only [Act.put, List.setIfInBounds_toArray, List.set_cons_zero, List.set_cons_succ]
          refine takeT 18 (some 138) (.int .i64 1) rfl rfl (by kernel_rfl) (by kernel_rfl) (by kernel_rfl) (by kernel_rfl) (by decide) (fun _ _ _ h => h) (by rfl) (fun w hw => by first | rfl | (go_simp; done) | (go_simp; rfl) | (go_simp; omega)) hHeld ?_
          simp only [Act.put, List.setIfInBounds_toArray, List.set_cons_zero, List.set_cons_succ]
          refine takeT 19 (some 139) (.pointer (some ⟨g, 0, none⟩)) rfl rfl (by kernel_rfl) (by kernel_rfl) (by kernel_rfl) (by kernel_rfl) (by decide) (fun _ _ _ h => h) (by rfl) (fun w hw => by first | rfl | (go_simp; done) | (go_simp; rfl) | (go_simp; omega)) hHeld ?_
          simp only [Act.put, List.setIfInBounds_toArray, List.set_cons_zero, List.set_cons_succ]
          refine takeT 20 (some 140) (.pointer (some ⟨g, 2, none⟩)) rfl rfl (by kernel_rfl) (by kernel_rfl) (by kernel_rfl) (by kernel_rfl) (by decide) (fun _ _ _ h => h) (by rfl) (fun w hw => by first | rfl | (go_simp; done) | (go_simp; rfl) | (go_simp; omega)) hHeld ?_
          simp only [Act.put, List.setIfInBounds_toArray, List.set_cons_zero, List.set_cons_succ]
          refine takeT 21 (some 141) (.pointer (some ⟨g, 3, none⟩)) rfl rfl (by kernel_rfl) (by kernel_rfl) (by kernel_rfl) (by kernel_rfl) (by decide) (fun _ _ _ h => h) (by rfl) (fun w hw => by first | rfl | (go_simp; done) | (go_simp; rfl) | (go_simp; omega)) hHeld ?_
          simp only [Act.put, List.setIfInBounds_toArray, List.set_cons_zero, List.set_cons_succ]
          refine takeT 22 (some 142) (.int .i64 (f1 : Int)) rfl rfl (by kernel_rfl) (by kernel_rfl) (by kernel_rfl) (by kernel_rfl) (by decide) (fun _ _ _ h => h) (by rfl) (fun w hw => by have c : w.cell? ⟨g, 3, none⟩ = some (.int .i64 (f1 : Int)) := hw.2.cell 3 (by omega); first | (go_simp; done) | (go_simp; rfl)) hHeld ?_
          simp only [Act.put, List.setIfInBounds_toArray, List.set_cons_zero, List.set_cons_succ]
          refine takeT 23 (some 143) (.int .i64 (m : Int)) rfl rfl (by kernel_rfl) (by kernel_rfl) (by kernel_rfl) (by kernel_rfl) (by decide) (fun _ _ _ h => h) (by rfl) (fun w hw => by have z := zL; first | rfl | (go_simp; done) | (go_simp; rfl) | (go_simp; omega)) hHeld ?_
          simp only [Act.put, List.setIfInBounds_toArray, List.set_cons_zero, List.set_cons_succ]
          refine takeP [28, 27] 26 (some 146) (.pointer (some ⟨g, 0, none⟩)) rfl rfl (by kernel_rfl) (by kernel_rfl) (by kernel_rfl) (by kernel_rfl) (by kernel_rfl) (by decide) (fun _ _ _ h => h) (by rfl) (fun w hw => by first | rfl | (go_simp; done) | (go_simp; rfl) | (go_simp; omega)) hHeld ?_
          simp only [Act.put, List.setIfInBounds_toArray, List.set_cons_zero, List.set_cons_succ]
          refine takeP [28] 27 (some 147) (.pointer (some ⟨g, 2, none⟩)) rfl rfl (by kernel_rfl) (by kernel_rfl) (by kernel_rfl) (by kernel_rfl) (by kernel_rfl) (by decide) (fun _ _ _ h => h) (by rfl) (fun w hw => by first | rfl | (go_simp; done) | (go_simp; rfl) | (go_simp; omega)) hHeld ?_
          simp only [Act.put, List.setIfInBounds_toArray, List.set_cons_zero, List.set_cons_succ]
          refine readyT 24 (by kernel_rfl) rfl (by rfl) (fun K hK => ?_)
          go_simp
          refine (MD.out _).mono ?_
          rintro e wx ⟨rfl, hx⟩
          obtain rfl := hx.symm
          try go_wp2_with fail
          refine hK.out _ _ (fun _ => hHeld) (fun hH => ?_)
          clear hK hH
          refine takeT 25 (some 145) (.int .i64 (fn : Int)) rfl rfl (by kernel_rfl) (by kernel_rfl) (by kernel_rfl) (by kernel_rfl) (by decide) (fun _ _ _ h => h) (by rfl) (fun w hw => by have z := zP; first | rfl | (go_simp; done) | (go_simp; rfl) | (go_simp; omega)) hHeld ?_
          simp only [Act.put, List.setIfInBounds_toArray, List.set_cons_zero, List.set_cons_succ]
          refine takeT 28 (some 148) (.pointer (some ⟨g, 3, none⟩)) rfl rfl (by kernel_rfl) (by kernel_rfl) (by kernel_rfl) (by kernel_rfl) (by decide) (fun _ _ _ h => h) (by rfl) (fun w hw => by first | rfl | (go_simp; done) | (go_simp; rfl) | (go_simp; omega)) hHeld ?_
          simp only [Act.put, List.setIfInBounds_toArray, List.set_cons_zero, List.set_cons_succ]
          have cg : wd.cell? ⟨g, 3, none⟩ = some (.int .i64 (f1 : Int)) := hHeld.2.cell 3 (by omega)
          have fg := hHeld.2.frozen 3
          have GSN := hide (HBd.out.fix1 fn)
          refine readyT 29 (by kernel_rfl) rfl (by rfl) (fun K hK => ?_)
          go_simp
          refine hK.out _ _ (fun x => absurd rfl x) (fun _ => ?_)
          clear hK
          refine ⟨by kernel_rfl, ?_⟩
          refine NoPanic.normal ?_
          generalize hw3 : World.setCell wd ⟨g, 3, none⟩ (.int .i64 (fn : Int)) = w4 at GSN ⊢
          clear hw3 cg fg hHeld
          try go_wp2
          go_ret
          exact ⟨rfl, ⟨_, _, _, _, _, _, GSN.out.1, NVN.out, HZ.out.1, HZ.out.2⟩, BD.out.trans GSN.out.2⟩
        | false =>
          go_wp2
          go_ret
          exact ⟨rfl, ⟨_, _, l0, l1, f0, f1, (HAN.out _ HB1.out).1, HN.out, HZ.out.1, HZ.out.2⟩, (HB1.out).mono (by have := HGW.out; omega)⟩
end Go.Proofs.Ytbeoojnofblnjaa
