import Derived.Test.YtlohfoggcdaeiaaGreatRDR0
/-
  The document's Read of a record, kind 5 (printed by gen_r33.py).
-/
namespace Go.Proofs.YtlohfoggcdaeiaaGreat
open Go.RowKit S
set_option linter.unusedVariables false
set_option linter.unusedSimpArgs false
open Cu (nb be hl ofL CW Mw CR Mr RS takeS takeA hOf nil8 doneS)
set_option maxRecDepth 100000 in
set_option maxHeartbeats 40000000 in
theorem dread_5 (b : ByteArray) (w : World) (hb : b.size ≤ 140737490000000) (hk : Cu.num 1 (b, 0) = 5) : Calls Tryz.prog 22 #[.string b] w fun e w' => RdP w.heap.size (rdOf (fldR b)) e w' ∧ Below w.heap.size w w' := by
  obtain ⟨w1, hW1⟩ : ∃ w1, w.alloc (.cells Tryz.zeroCells38 38) = w1 := ⟨_, rfl⟩
  have r1 : Has w1 w.heap.size 38 Rc.zero.v 138 := by rw [← hW1, zeroRc]; exact Has.new w 38 Rc.zero.v 138 _ rfl
  have b1 : Below w.heap.size w w1 := by rw [← hW1]; exact (Below.refl w.heap.size w).alloc (Nat.le_refl _) _
  go_enter Tryz.func22, Tryz.ntmps22
  go_wp2_with fail
  refine (Cu.xOpen b _).mono ?_
  rintro e w2 ⟨rfl, hC2, hb2, hs2⟩
  obtain ⟨p, hp⟩ : ∃ p, w1.heap.size = p := ⟨_, rfl⟩
  rw [hp] at hC2 ⊢
  have hgp : w.heap.size < p := by rw [← hp]; exact r1.lt
  have q1 := r1.below hb2 r1.lt
  have g2 : Below w.heap.size w w2 := b1.trans (hb2.mono b1.size)
  clear hW1 r1 b1 hb2 hs2 hp
  go_wp2_with fail
  refine (Cu.xU8 p (b, 0) _ hC2).mono ?_
  rintro e w3 ⟨rfl, hC3, hM3⟩
  have q3 := q1.mr hM3 (by omega)
  have g3 : Below w.heap.size w w3 := g2.trans (hM3.below (by omega) g2.size)
  obtain ⟨kn, hkn⟩ : ∃ kn, Cu.num 1 (b, 0) = kn := ⟨_, rfl⟩
  have hkl : kn < 256 := by rw [← hkn]; exact num1_le _
  rw [show be (takeA 1 (b, 0)).data.toList = kn from hkn]
  obtain ⟨st, hst⟩ : ∃ st, takeS 1 (b, 0) = st := ⟨_, rfl⟩
  rw [hst] at hC3
  have KC := hide (conv8i kn hkl)
  obtain ⟨w4, w5, hW4, q4, hW5, q5, b5⟩ := newRc w3 ⟨(kn : Int), Upd.zero, nilS, 0, 0, 0, z32, z32, z32, 0⟩
  have Q4 := hide q4
  have F5 : Hid (FD w p w3.heap.size st ⟨(kn : Int), Upd.zero, nilS, 0, 0, 0, z32, z32, z32, 0⟩ w5) := ⟨hC3.same (b5.block p hC3.lt), q3.below b5 q3.lt, q5, g3.trans (b5.mono g3.size), hgp, hC3.lt⟩
  have HKN := hide hkn
  have HST := hide hst
  rw [hkn] at hk
  have HK := hide hk
  clear hk hkn hst hC2 hC3 hM3 q1 q3 g2 g3 q4 q5 b5
  go_upto_region 3 with (first | rw [hW5] | refine Cu.wpList_conv rfl _ _ _ rfl .u8 .i64 (kn : Int) (kn : Int) (by rfl) (KC.out _) ?_ | refine wpW_build (by rfl) 38 #[(0, .tmp 17)] rfl [(0, .int .i64 (kn : Int))] (by first | rfl | (simp [Act.eval, Act.put]; done)) _ (builtRK (kn : Int)) ?_ | refine wpList_storeRc rfl _ _ rfl rfl (w3.heap.size) (⟨(kn : Int), Upd.zero, nilS, 0, 0, 0, z32, z32, z32, 0⟩) rfl rfl _ Q4.out ?_ | fail)
  try rw [hW5]
  generalize hg5 : w3.heap.size = g5 at F5 ⊢
  clear hW4 hW5 hg5 Q4 KC
  obtain ⟨K, hKn⟩ : ∃ K : Int, (kn : Int) = K := ⟨_, rfl⟩
  rw [hKn] at F5 ⊢
  have hK : K = 5 := by have := HK.out; omega
  subst hK
  clear hKn hkl
  have c0 : w5.cell? ⟨g5, 0, none⟩ = some (.int .i64 5) := F5.out.var.cell 0 (by omega)
  obtain ⟨nn, hnn⟩ : ∃ nn, Cu.num 2 st = nn := ⟨_, rfl⟩
  have DC := dcount p st w5 F5.out.cr
  rw [hnn] at DC
  have DC := hide DC
  go_wp2_with fail
  refine DC.out.mono ?_
  rintro e w6 ⟨rfl, hCq, hMq⟩
  have G6 := F5.out.call hCq hMq
  have c38 : w6.cell? ⟨g5, 137, none⟩ = some (.int .i64 0) := G6.var.cell 137 (by omega)
  have f38 := G6.var.frozen 137
  obtain ⟨w7, hW7⟩ : ∃ y, w6.setCell ⟨g5, 137, none⟩ (.int .i64 (nn : Int)) = y := ⟨_, rfl⟩
  have F7 : Hid (FD w p g5 (takeS 2 st) ⟨5, Upd.zero, nilS, 0, 0, 0, z32, z32, z32, (Cu.num 2 st : Int)⟩ w7) := by show FD _ _ _ _ _ _; rw [← hW7, hnn]; exact G6.cell 137 _ (G6.var.rCode _)
  clear hCq hMq F5 G6 hnn DC c0
  go_upto_region 26 with (first | rw [hW7] | fail)
  try rw [hW7]
  clear c38 f38 hW7
  have OT : Hid (OwnU (w.heap.size + 1) w7 nilS.v []) := OwnU.nil _ _
  have HRR : Hid (fldR b = if (takeS 2 st).2 = 0 then some (⟨5, Upd.zero, nilS, 0, 0, 0, z32, z32, z32, (Cu.num 2 st : Int)⟩, []) else none) := by
    show _ = _
    have hk := HK.out
    unfold fldR
    rw [HKN.out, if_neg (by omega), if_neg (by omega)]
    unfold fldO fldA
    rw [HKN.out, HST.out]
    have hKv : (kn : Int) = 5 := by omega
    rw [show (fldK (kn : Int) st) = (⟨5, Upd.zero, nilS, 0, 0, 0, z32, z32, z32, (Cu.num 2 st : Int)⟩, takeS 2 st) by rw [hKv]; rfl]
  obtain ⟨r0, hr0⟩ : ∃ z : Rc, z = ⟨5, Upd.zero, nilS, 0, 0, 0, z32, z32, z32, (Cu.num 2 st : Int)⟩ := ⟨_, rfl⟩
  obtain ⟨sf, hsf⟩ : ∃ z, takeS 2 st = z := ⟨_, rfl⟩
  obtain ⟨x, hx⟩ : ∃ z, nilS = z := ⟨_, rfl⟩
  obtain ⟨us, hus⟩ : ∃ z : List Upd, [] = z := ⟨_, rfl⟩
  have FT : Hid (FD w p g5 sf (setU r0 x) w7) := by show FD _ _ _ _ _ _; rw [hr0, ← hx, ← hsf]; exact F7.out
  have hu5 : us.length ≤ 65535 := by rw [← hus]; exact Nat.zero_le _
  rw [hx, hus] at OT
  rw [hsf, ← hr0, hus] at HRR
  clear F7 hr0 hsf hx hus HKN HST HK
  have hxn : x.n = us.length := (OwnU.sl OT.out).1.symm
  have WR := hide (dwrite_any (setU r0 x) us hxn.symm (by show x.n ≤ _; omega) w7 (OwnU.sl OT.out).2.1)
  have HVX : Hid (validR (setU r0 x) us = validR (setU r0 (lenS us)) us) := validR_sl r0 x (lenS us) us hxn
  have HBX : Hid (bytesR (setU r0 x) us = bytesR (setU r0 (lenS us)) us) := bytesR_sl r0 x (lenS us) us hxn
  cases hv : validR (setU r0 (lenS us)) us with
  | false =>
    rw [show wrS (setU r0 x) us = nilB by unfold wrS; rw [HVX.out, hv]; rfl, show wrE (setU r0 x) us = 170 by unfold wrE; rw [HVX.out, hv]; rfl] at WR
    have HX : Hid (rdOf (fldR b) = none) := by
      show _ = _
      rw [HRR.out]
      by_cases hq : sf.2 = 0
      · rw [if_pos hq]; unfold rdOf; dsimp only; rw [hv]; rfl
      · rw [if_neg hq]; rfl
    clear HVX HBX HRR hv
    go_wp2_with (first | refine wpW_load_at 38 _ rfl (g5) (0) (by rfl) (by rfl) _ 138 _ (FT.out.var.at_ 0 (by omega) (fun i hi => by rw [Nat.zero_add])) Tryz.underlying38 rfl infoRc ?_ | fail)
    refine WR.out.mono ?_
    rintro e wB ⟨rfl, hbB⟩
    have FB := hide (FT.out.low hbB)
    by_cases hs : sf.2 = 0
    · have hq : (sf.2 != 0) = false := by rw [hs]; rfl
      clear hs hbB WR FT
      have XE := hide (Cu.xErr p sf wB FB.out.cr)
      go_wp2_with fail
      refine XE.out.mono ?_
      rintro e wy ⟨rfl, rfl⟩
      clear XE
      have K8 := hide FB.out.res
      have g8 := FB.out.bel
      clear FB
      go_wp2_with (first | refine wpW_build (by rfl) 38 #[] rfl [] (by first | rfl | (simp [Act.eval, Act.put]; done)) _ builtRZ ?_ | refine wpList_storeRc rfl _ _ rfl rfl (w.heap.size) (Rc.zero) rfl rfl _ K8.out ?_ | fail)
      (try simp only [Exit.inBlock, Exit.then])
      exact bodyPost_ret (resRc3 _ w.heap.size _ _ (.int .i64 0) (.int .i64 170) 2 3 4 (K8.out.row _ Rc.zero.v rfl) rfl rfl rfl _ rfl) rfl ⟨by rw [HX.out]; rfl, below_setRow g8 (Nat.le_refl _) _⟩
    · have hq : (sf.2 != 0) = true := bne_iff_ne.2 hs
      clear hs hbB WR FT
      have XE := hide (Cu.xErr p sf wB FB.out.cr)
      go_wp2_with fail
      refine XE.out.mono ?_
      rintro e wy ⟨rfl, rfl⟩
      clear XE
      have K8 := hide FB.out.res
      have g8 := FB.out.bel
      clear FB
      go_wp2_with (first | refine wpW_build (by rfl) 38 #[] rfl [] (by first | rfl | (simp [Act.eval, Act.put]; done)) _ builtRZ ?_ | refine wpList_storeRc rfl _ _ rfl rfl (w.heap.size) (Rc.zero) rfl rfl _ K8.out ?_ | fail)
      (try simp only [Exit.inBlock, Exit.then])
      exact bodyPost_ret (resRc3 _ w.heap.size _ _ (.int .i64 0) (.int .i64 170) 2 3 4 (K8.out.row _ Rc.zero.v rfl) rfl rfl rfl _ rfl) rfl ⟨by rw [HX.out]; rfl, below_setRow g8 (Nat.le_refl _) _⟩
  | true =>
    have hbl := bytesR_len hv rfl
    obtain ⟨N, hN⟩ : ∃ N, (bytesR (setU r0 (lenS us)) us).length = N := ⟨_, rfl⟩
    rw [hN] at hbl
    rw [show wrS (setU r0 x) us = ofL (bytesR (setU r0 (lenS us)) us) by unfold wrS; rw [if_pos (by rw [HVX.out, hv]), HBX.out], show wrE (setU r0 x) us = 0 by unfold wrE; rw [if_pos (by rw [HVX.out, hv])]] at WR
    obtain ⟨t, ht⟩ : ∃ t, ofL (bytesR (setU r0 (lenS us)) us) = t := ⟨_, rfl⟩
    have hts : t.size = N := by rw [← ht, Cu.ofL_size]; exact hN
    rw [ht] at WR
    by_cases hs : sf.2 = 0
    · have HX : Hid (rdOf (fldR b) = some (r0, us, N)) := by show _ = _; rw [HRR.out, if_pos hs]; unfold rdOf; dsimp only; rw [if_pos hv, hN]
      have hq : (sf.2 != 0) = false := by rw [hs]; rfl
      clear HVX HBX HRR hv ht hN
      go_wp2_with (first | refine wpW_load_at 38 _ rfl (g5) (0) (by rfl) (by rfl) _ 138 _ (FT.out.var.at_ 0 (by omega) (fun i hi => by rw [Nat.zero_add])) Tryz.underlying38 rfl infoRc ?_ | fail)
      refine WR.out.mono ?_
      rintro e wB ⟨rfl, hbB⟩
      have FB := hide (FT.out.low hbB)
      have OB : Hid (OwnU (w.heap.size + 1) wB x.v us) := OT.out.below hbB (Nat.le_refl _)
      clear hs hbB WR FT OT
      have XE := hide (Cu.xErr p sf wB FB.out.cr)
      go_wp2_with fail
      refine XE.out.mono ?_
      rintro e wy ⟨rfl, rfl⟩
      clear XE
      have K8 := hide FB.out.res
      have Q8 := hide FB.out.var
      have g8 := FB.out.bel
      clear FB
      go_wp2_with (first | refine wpW_load_at 38 _ rfl (g5) (0) (by rfl) (by rfl) _ 138 _ (Q8.out.at_ 0 (by omega) (fun i hi => by rw [Nat.zero_add])) Tryz.underlying38 rfl infoRc ?_ | refine wpList_storeRc rfl _ _ rfl rfl (w.heap.size) (setU r0 x) rfl rfl _ K8.out ?_ | fail)
      (try simp only [Exit.inBlock, Exit.then])
      exact bodyPost_ret (resRc3 _ w.heap.size _ _ (.int .i64 (N : Int)) (.int .i64 0) 2 3 4 (K8.out.row _ (Rc.v (setU r0 x)) rfl) rfl (by first | rfl | (rw [← hts]; rfl)) rfl _ rfl) rfl ⟨by rw [HX.out]; exact ⟨x, rfl, (OB.out.same fun k hk => setRow_other _ _ _ _ (by have := (OB.out.lt k hk).1; omega)).mono (by omega)⟩, below_setRow g8 (Nat.le_refl _) _⟩
    · have HX : Hid (rdOf (fldR b) = none) := by show _ = _; rw [HRR.out, if_neg hs]; rfl
      have hq : (sf.2 != 0) = true := bne_iff_ne.2 hs
      clear HVX HBX HRR hv ht hN
      go_wp2_with (first | refine wpW_load_at 38 _ rfl (g5) (0) (by rfl) (by rfl) _ 138 _ (FT.out.var.at_ 0 (by omega) (fun i hi => by rw [Nat.zero_add])) Tryz.underlying38 rfl infoRc ?_ | fail)
      refine WR.out.mono ?_
      rintro e wB ⟨rfl, hbB⟩
      have FB := hide (FT.out.low hbB)
      clear hs hbB WR FT
      have XE := hide (Cu.xErr p sf wB FB.out.cr)
      go_wp2_with fail
      refine XE.out.mono ?_
      rintro e wy ⟨rfl, rfl⟩
      clear XE
      have K8 := hide FB.out.res
      have g8 := FB.out.bel
      clear FB
      go_wp2_with (first | refine wpW_build (by rfl) 38 #[] rfl [] (by first | rfl | (simp [Act.eval, Act.put]; done)) _ builtRZ ?_ | refine wpList_storeRc rfl _ _ rfl rfl (w.heap.size) (Rc.zero) rfl rfl _ K8.out ?_ | fail)
      (try simp only [Exit.inBlock, Exit.then])
      exact bodyPost_ret (resRc3 _ w.heap.size _ _ (.int .i64 0) (.int .i64 170) 2 3 4 (K8.out.row _ Rc.zero.v rfl) rfl rfl rfl _ rfl) rfl ⟨by rw [HX.out]; rfl, below_setRow g8 (Nat.le_refl _) _⟩
end Go.Proofs.YtlohfoggcdaeiaaGreat
/-
  The document's Read of a record, kind 6 (printed by gen_r33.py).
-/
namespace Go.Proofs.YtlohfoggcdaeiaaGreat
open Go.RowKit S
set_option linter.unusedVariables false
set_option linter.unusedSimpArgs false
open Cu (nb be hl ofL CW Mw CR Mr RS takeS takeA hOf nil8 doneS)
set_option maxRecDepth 100000 in
set_option maxHeartbeats 40000000 in
theorem dread_6 (b : ByteArray) (w : World) (hb : b.size ≤ 140737490000000) (hk : Cu.num 1 (b, 0) = 6) : Calls Tryz.prog 22 #[.string b] w fun e w' => RdP w.heap.size (rdOf (fldR b)) e w' ∧ Below w.heap.size w w' := by
  obtain ⟨w1, hW1⟩ : ∃ w1, w.alloc (.cells Tryz.zeroCells38 38) = w1 := ⟨_, rfl⟩
  have r1 : Has w1 w.heap.size 38 Rc.zero.v 138 := by rw [← hW1, zeroRc]; exact Has.new w 38 Rc.zero.v 138 _ rfl
  have b1 : Below w.heap.size w w1 := by rw [← hW1]; exact (Below.refl w.heap.size w).alloc (Nat.le_refl _) _
  go_enter Tryz.func22, Tryz.ntmps22
  go_wp2_with fail
  refine (Cu.xOpen b _).mono ?_
  rintro e w2 ⟨rfl, hC2, hb2, hs2⟩
  obtain ⟨p, hp⟩ : ∃ p, w1.heap.size = p := ⟨_, rfl⟩
  rw [hp] at hC2 ⊢
  have hgp : w.heap.size < p := by rw [← hp]; exact r1.lt
  have q1 := r1.below hb2 r1.lt
  have g2 : Below w.heap.size w w2 := b1.trans (hb2.mono b1.size)
  clear hW1 r1 b1 hb2 hs2 hp
  go_wp2_with fail
  refine (Cu.xU8 p (b, 0) _ hC2).mono ?_
  rintro e w3 ⟨rfl, hC3, hM3⟩
  have q3 := q1.mr hM3 (by omega)
  have g3 : Below w.heap.size w w3 := g2.trans (hM3.below (by omega) g2.size)
  obtain ⟨kn, hkn⟩ : ∃ kn, Cu.num 1 (b, 0) = kn := ⟨_, rfl⟩
  have hkl : kn < 256 := by rw [← hkn]; exact num1_le _
  rw [show be (takeA 1 (b, 0)).data.toList = kn from hkn]
  obtain ⟨st, hst⟩ : ∃ st, takeS 1 (b, 0) = st := ⟨_, rfl⟩
  rw [hst] at hC3
  have KC := hide (conv8i kn hkl)
  obtain ⟨w4, w5, hW4, q4, hW5, q5, b5⟩ := newRc w3 ⟨(kn : Int), Upd.zero, nilS, 0, 0, 0, z32, z32, z32, 0⟩
  have Q4 := hide q4
  have F5 : Hid (FD w p w3.heap.size st ⟨(kn : Int), Upd.zero, nilS, 0, 0, 0, z32, z32, z32, 0⟩ w5) := ⟨hC3.same (b5.block p hC3.lt), q3.below b5 q3.lt, q5, g3.trans (b5.mono g3.size), hgp, hC3.lt⟩
  have HKN := hide hkn
  have HST := hide hst
  rw [hkn] at hk
  have HK := hide hk
  clear hk hkn hst hC2 hC3 hM3 q1 q3 g2 g3 q4 q5 b5
  go_upto_region 3 with (first | rw [hW5] | refine Cu.wpList_conv rfl _ _ _ rfl .u8 .i64 (kn : Int) (kn : Int) (by rfl) (KC.out _) ?_ | refine wpW_build (by rfl) 38 #[(0, .tmp 17)] rfl [(0, .int .i64 (kn : Int))] (by first | rfl | (simp [Act.eval, Act.put]; done)) _ (builtRK (kn : Int)) ?_ | refine wpList_storeRc rfl _ _ rfl rfl (w3.heap.size) (⟨(kn : Int), Upd.zero, nilS, 0, 0, 0, z32, z32, z32, 0⟩) rfl rfl _ Q4.out ?_ | fail)
  try rw [hW5]
  generalize hg5 : w3.heap.size = g5 at F5 ⊢
  clear hW4 hW5 hg5 Q4 KC
  obtain ⟨K, hKn⟩ : ∃ K : Int, (kn : Int) = K := ⟨_, rfl⟩
  rw [hKn] at F5 ⊢
  have hK : K = 6 := by have := HK.out; omega
  subst hK
  clear hKn hkl
  have c0 : w5.cell? ⟨g5, 0, none⟩ = some (.int .i64 6) := F5.out.var.cell 0 (by omega)
  go_wp2_with fail
  refine (Cu.xI64 p st _ F5.out.cr (rd8 st) rfl).mono ?_
  rintro e w6 ⟨rfl, hCq, hMq⟩
  have G6 := F5.out.call hCq hMq
  have c38 : w6.cell? ⟨g5, 38, none⟩ = some (.int .i64 0) := G6.var.cell 38 (by omega)
  have f38 := G6.var.frozen 38
  obtain ⟨w7, hW7⟩ : ∃ y, w6.setCell ⟨g5, 38, none⟩ (.int .i64 (rd8 st)) = y := ⟨_, rfl⟩
  have F7 : Hid (FD w p g5 (takeS 8 st) ⟨6, Upd.zero, nilS, rd8 st, 0, 0, z32, z32, z32, 0⟩ w7) := by show FD _ _ _ _ _ _; rw [← hW7]; exact G6.cell 38 _ (G6.var.rIdx _)
  clear hCq hMq F5 G6 c0
  go_upto_region 26 with (first | rw [hW7] | fail)
  try rw [hW7]
  clear c38 f38 hW7
  have OT : Hid (OwnU (w.heap.size + 1) w7 nilS.v []) := OwnU.nil _ _
  have HRR : Hid (fldR b = if (takeS 8 st).2 = 0 then some (⟨6, Upd.zero, nilS, rd8 st, 0, 0, z32, z32, z32, 0⟩, []) else none) := by
    show _ = _
    have hk := HK.out
    unfold fldR
    rw [HKN.out, if_neg (by omega), if_neg (by omega)]
    unfold fldO fldA
    rw [HKN.out, HST.out]
    have hKv : (kn : Int) = 6 := by omega
    rw [show (fldK (kn : Int) st) = (⟨6, Upd.zero, nilS, rd8 st, 0, 0, z32, z32, z32, 0⟩, takeS 8 st) by rw [hKv]; rfl]
  obtain ⟨r0, hr0⟩ : ∃ z : Rc, z = ⟨6, Upd.zero, nilS, rd8 st, 0, 0, z32, z32, z32, 0⟩ := ⟨_, rfl⟩
  obtain ⟨sf, hsf⟩ : ∃ z, takeS 8 st = z := ⟨_, rfl⟩
  obtain ⟨x, hx⟩ : ∃ z, nilS = z := ⟨_, rfl⟩
  obtain ⟨us, hus⟩ : ∃ z : List Upd, [] = z := ⟨_, rfl⟩
  have FT : Hid (FD w p g5 sf (setU r0 x) w7) := by show FD _ _ _ _ _ _; rw [hr0, ← hx, ← hsf]; exact F7.out
  have hu5 : us.length ≤ 65535 := by rw [← hus]; exact Nat.zero_le _
  rw [hx, hus] at OT
  rw [hsf, ← hr0, hus] at HRR
  clear F7 hr0 hsf hx hus HKN HST HK
  have hxn : x.n = us.length := (OwnU.sl OT.out).1.symm
  have WR := hide (dwrite_any (setU r0 x) us hxn.symm (by show x.n ≤ _; omega) w7 (OwnU.sl OT.out).2.1)
  have HVX : Hid (validR (setU r0 x) us = validR (setU r0 (lenS us)) us) := validR_sl r0 x (lenS us) us hxn
  have HBX : Hid (bytesR (setU r0 x) us = bytesR (setU r0 (lenS us)) us) := bytesR_sl r0 x (lenS us) us hxn
  cases hv : validR (setU r0 (lenS us)) us with
  | false =>
    rw [show wrS (setU r0 x) us = nilB by unfold wrS; rw [HVX.out, hv]; rfl, show wrE (setU r0 x) us = 170 by unfold wrE; rw [HVX.out, hv]; rfl] at WR
    have HX : Hid (rdOf (fldR b) = none) := by
      show _ = _
      rw [HRR.out]
      by_cases hq : sf.2 = 0
      · rw [if_pos hq]; unfold rdOf; dsimp only; rw [hv]; rfl
      · rw [if_neg hq]; rfl
    clear HVX HBX HRR hv
    go_wp2_with (first | refine wpW_load_at 38 _ rfl (g5) (0) (by rfl) (by rfl) _ 138 _ (FT.out.var.at_ 0 (by omega) (fun i hi => by rw [Nat.zero_add])) Tryz.underlying38 rfl infoRc ?_ | fail)
    refine WR.out.mono ?_
    rintro e wB ⟨rfl, hbB⟩
    have FB := hide (FT.out.low hbB)
    by_cases hs : sf.2 = 0
    · have hq : (sf.2 != 0) = false := by rw [hs]; rfl
      clear hs hbB WR FT
      have XE := hide (Cu.xErr p sf wB FB.out.cr)
      go_wp2_with fail
      refine XE.out.mono ?_
      rintro e wy ⟨rfl, rfl⟩
      clear XE
      have K8 := hide FB.out.res
      have g8 := FB.out.bel
      clear FB
      go_wp2_with (first | refine wpW_build (by rfl) 38 #[] rfl [] (by first | rfl | (simp [Act.eval, Act.put]; done)) _ builtRZ ?_ | refine wpList_storeRc rfl _ _ rfl rfl (w.heap.size) (Rc.zero) rfl rfl _ K8.out ?_ | fail)
      (try simp only [Exit.inBlock, Exit.then])
      exact bodyPost_ret (resRc3 _ w.heap.size _ _ (.int .i64 0) (.int .i64 170) 2 3 4 (K8.out.row _ Rc.zero.v rfl) rfl rfl rfl _ rfl) rfl ⟨by rw [HX.out]; rfl, below_setRow g8 (Nat.le_refl _) _⟩
    · have hq : (sf.2 != 0) = true := bne_iff_ne.2 hs
      clear hs hbB WR FT
      have XE := hide (Cu.xErr p sf wB FB.out.cr)
      go_wp2_with fail
      refine XE.out.mono ?_
      rintro e wy ⟨rfl, rfl⟩
      clear XE
      have K8 := hide FB.out.res
      have g8 := FB.out.bel
      clear FB
      go_wp2_with (first | refine wpW_build (by rfl) 38 #[] rfl [] (by first | rfl | (simp [Act.eval, Act.put]; done)) _ builtRZ ?_ | refine wpList_storeRc rfl _ _ rfl rfl (w.heap.size) (Rc.zero) rfl rfl _ K8.out ?_ | fail)
      (try simp only [Exit.inBlock, Exit.then])
      exact bodyPost_ret (resRc3 _ w.heap.size _ _ (.int .i64 0) (.int .i64 170) 2 3 4 (K8.out.row _ Rc.zero.v rfl) rfl rfl rfl _ rfl) rfl ⟨by rw [HX.out]; rfl, below_setRow g8 (Nat.le_refl _) _⟩
  | true =>
    have hbl := bytesR_len hv rfl
    obtain ⟨N, hN⟩ : ∃ N, (bytesR (setU r0 (lenS us)) us).length = N := ⟨_, rfl⟩
    rw [hN] at hbl
    rw [show wrS (setU r0 x) us = ofL (bytesR (setU r0 (lenS us)) us) by unfold wrS; rw [if_pos (by rw [HVX.out, hv]), HBX.out], show wrE (setU r0 x) us = 0 by unfold wrE; rw [if_pos (by rw [HVX.out, hv])]] at WR
    obtain ⟨t, ht⟩ : ∃ t, ofL (bytesR (setU r0 (lenS us)) us) = t := ⟨_, rfl⟩
    have hts : t.size = N := by rw [← ht, Cu.ofL_size]; exact hN
    rw [ht] at WR
    by_cases hs : sf.2 = 0
    · have HX : Hid (rdOf (fldR b) = some (r0, us, N)) := by show _ = _; rw [HRR.out, if_pos hs]; unfold rdOf; dsimp only; rw [if_pos hv, hN]
      have hq : (sf.2 != 0) = false := by rw [hs]; rfl
      clear HVX HBX HRR hv ht hN
      go_wp2_with (first | refine wpW_load_at 38 _ rfl (g5) (0) (by rfl) (by rfl) _ 138 _ (FT.out.var.at_ 0 (by omega) (fun i hi => by rw [Nat.zero_add])) Tryz.underlying38 rfl infoRc ?_ | fail)
      refine WR.out.mono ?_
      rintro e wB ⟨rfl, hbB⟩
      have FB := hide (FT.out.low hbB)
      have OB : Hid (OwnU (w.heap.size + 1) wB x.v us) := OT.out.below hbB (Nat.le_refl _)
      clear hs hbB WR FT OT
      have XE := hide (Cu.xErr p sf wB FB.out.cr)
      go_wp2_with fail
      refine XE.out.mono ?_
      rintro e wy ⟨rfl, rfl⟩
      clear XE
      have K8 := hide FB.out.res
      have Q8 := hide FB.out.var
      have g8 := FB.out.bel
      clear FB
      go_wp2_with (first | refine wpW_load_at 38 _ rfl (g5) (0) (by rfl) (by rfl) _ 138 _ (Q8.out.at_ 0 (by omega) (fun i hi => by rw [Nat.zero_add])) Tryz.underlying38 rfl infoRc ?_ | refine wpList_storeRc rfl _ _ rfl rfl (w.heap.size) (setU r0 x) rfl rfl _ K8.out ?_ | fail)
      (try simp only [Exit.inBlock, Exit.then])
      exact bodyPost_ret (resRc3 _ w.heap.size _ _ (.int .i64 (N : Int)) (.int .i64 0) 2 3 4 (K8.out.row _ (Rc.v (setU r0 x)) rfl) rfl (by first | rfl | (rw [← hts]; rfl)) rfl _ rfl) rfl ⟨by rw [HX.out]; exact ⟨x, rfl, (OB.out.same fun k hk => setRow_other _ _ _ _ (by have := (OB.out.lt k hk).1; omega)).mono (by omega)⟩, below_setRow g8 (Nat.le_refl _) _⟩
    · have HX : Hid (rdOf (fldR b) = none) := by show _ = _; rw [HRR.out, if_neg hs]; rfl
      have hq : (sf.2 != 0) = true := bne_iff_ne.2 hs
      clear HVX HBX HRR hv ht hN
      go_wp2_with (first | refine wpW_load_at 38 _ rfl (g5) (0) (by rfl) (by rfl) _ 138 _ (FT.out.var.at_ 0 (by omega) (fun i hi => by rw [Nat.zero_add])) Tryz.underlying38 rfl infoRc ?_ | fail)
      refine WR.out.mono ?_
      rintro e wB ⟨rfl, hbB⟩
      have FB := hide (FT.out.low hbB)
      clear hs hbB WR FT
      have XE := hide (Cu.xErr p sf wB FB.out.cr)
      go_wp2_with fail
      refine XE.out.mono ?_
      rintro e wy ⟨rfl, rfl⟩
      clear XE
      have K8 := hide FB.out.res
      have g8 := FB.out.bel
      clear FB
      go_wp2_with (first | refine wpW_build (by rfl) 38 #[] rfl [] (by first | rfl | (simp [Act.eval, Act.put]; done)) _ builtRZ ?_ | refine wpList_storeRc rfl _ _ rfl rfl (w.heap.size) (Rc.zero) rfl rfl _ K8.out ?_ | fail)
      (try simp only [Exit.inBlock, Exit.then])
      exact bodyPost_ret (resRc3 _ w.heap.size _ _ (.int .i64 0) (.int .i64 170) 2 3 4 (K8.out.row _ Rc.zero.v rfl) rfl rfl rfl _ rfl) rfl ⟨by rw [HX.out]; rfl, below_setRow g8 (Nat.le_refl _) _⟩
end Go.Proofs.YtlohfoggcdaeiaaGreat
