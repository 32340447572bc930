import Derived.Test.YtlohfoggcdaeiaaGreatRDR0
/-
  The document's Read of a record, kind 1 (printed by gen_r33.py).
-/
namespace Go.Proofs.YtlohfoggcdaeiaaGreat
open Go.RowKit S
set_option linter.unusedVariables false
set_option linter.unusedSimpArgs false
open Cu (nb be hl ofL CW Mw CR Mr RS takeS takeA hOf nil8 doneS)
set_option maxRecDepth 100000 in
set_option maxHeartbeats 40000000 in
theorem dread_1 (b : ByteArray) (w : World) (hb : b.size ≤ 140737490000000) (hk : Cu.num 1 (b, 0) = 1) : Calls Tryz.prog 22 #[.string b] w fun e w' => RdP w.heap.size (rdOf (fldR b)) e w' ∧ Below w.heap.size w w' := by
  obtain ⟨w1, hW1⟩ : ∃ w1, w.alloc (.cells Tryz.zeroCells38 38) = w1 := ⟨_, rfl⟩
  have r1 : Has w1 w.heap.size 38 Rc.zero.v 138 := by rw [← hW1, zeroRc]; exact Has.new w 38 Rc.zero.v 138 _ rfl
  have b1 : Below w.heap.size w w1 := by rw [← hW1]; exact (Below.refl w.heap.size w).alloc (Nat.le_refl _) _
  go_enter Tryz.func22, Tryz.ntmps22
  go_wp2_with fail
  refine (Cu.xOpen b _).mono ?_
  rintro e w2 ⟨rfl, hC2, hb2, hs2⟩
  obtain ⟨p, hp⟩ : ∃ p, w1.heap.size = p := ⟨_, rfl⟩
  rw [hp] at hC2 ⊢
  have hgp : w.heap.size < p := by rw [← hp]; exact r1.lt
  have q1 := r1.below hb2 r1.lt
  have g2 : Below w.heap.size w w2 := b1.trans (hb2.mono b1.size)
  clear hW1 r1 b1 hb2 hs2 hp
  go_wp2_with fail
  refine (Cu.xU8 p (b, 0) _ hC2).mono ?_
  rintro e w3 ⟨rfl, hC3, hM3⟩
  have q3 := q1.mr hM3 (by omega)
  have g3 : Below w.heap.size w w3 := g2.trans (hM3.below (by omega) g2.size)
  obtain ⟨kn, hkn⟩ : ∃ kn, Cu.num 1 (b, 0) = kn := ⟨_, rfl⟩
  have hkl : kn < 256 := by rw [← hkn]; exact num1_le _
  rw [show be (takeA 1 (b, 0)).data.toList = kn from hkn]
  obtain ⟨st, hst⟩ : ∃ st, takeS 1 (b, 0) = st := ⟨_, rfl⟩
  rw [hst] at hC3
  have KC := hide (conv8i kn hkl)
  obtain ⟨w4, w5, hW4, q4, hW5, q5, b5⟩ := newRc w3 ⟨(kn : Int), Upd.zero, nilS, 0, 0, 0, z32, z32, z32, 0⟩
  have Q4 := hide q4
  have F5 : Hid (FD w p w3.heap.size st ⟨(kn : Int), Upd.zero, nilS, 0, 0, 0, z32, z32, z32, 0⟩ w5) := ⟨hC3.same (b5.block p hC3.lt), q3.below b5 q3.lt, q5, g3.trans (b5.mono g3.size), hgp, hC3.lt⟩
  have HKN := hide hkn
  have HST := hide hst
  rw [hkn] at hk
  have HK := hide hk
  clear hk hkn hst hC2 hC3 hM3 q1 q3 g2 g3 q4 q5 b5
  go_upto_region 3 with (first | rw [hW5] | refine Cu.wpList_conv rfl _ _ _ rfl .u8 .i64 (kn : Int) (kn : Int) (by rfl) (KC.out _) ?_ | refine wpW_build (by rfl) 38 #[(0, .tmp 17)] rfl [(0, .int .i64 (kn : Int))] (by first | rfl | (simp [Act.eval, Act.put]; done)) _ (builtRK (kn : Int)) ?_ | refine wpList_storeRc rfl _ _ rfl rfl (w3.heap.size) (⟨(kn : Int), Upd.zero, nilS, 0, 0, 0, z32, z32, z32, 0⟩) rfl rfl _ Q4.out ?_ | fail)
  try rw [hW5]
  generalize hg5 : w3.heap.size = g5 at F5 ⊢
  clear hW4 hW5 hg5 Q4 KC
  obtain ⟨K, hKn⟩ : ∃ K : Int, (kn : Int) = K := ⟨_, rfl⟩
  rw [hKn] at F5 ⊢
  have hK : K = 1 := by have := HK.out; omega
  subst hK
  clear hKn hkl
  have c0 : w5.cell? ⟨g5, 0, none⟩ = some (.int .i64 1) := F5.out.var.cell 0 (by omega)
  have hst0 : Hid (st = (ofL (b.data.toList.drop 1), 0)) := by
    show _ = _
    have h1 : 1 ≤ b.size := num1_pos (by rw [HKN.out]; exact HK.out)
    rw [← HST.out, show (b, (0 : Int)) = (ofL b.data.toList, 0) by rw [Cu.ofL_of]]
    exact takeS_ok b.data.toList 1 (by rw [str_len]; exact h1)
  obtain ⟨L, hL⟩ : ∃ z, b.data.toList.drop 1 = z := ⟨_, rfl⟩
  rw [hL] at hst0
  have hLs : L.length ≤ 140737490000000 := by rw [← hL, List.length_drop, str_len]; omega
  obtain ⟨⟨u, mi, E⟩, hr⟩ : ∃ y, rdL L = y := ⟨_, rfl⟩
  obtain ⟨c, hc⟩ : ∃ c, ofL L = c := ⟨_, rfl⟩
  have hcl : c.data.toList = L := by rw [← hc, Cu.ofL_data]
  have RD := rread_any c w5 (by rw [← str_len, hcl]; omega)
  rw [hcl, hr] at RD
  have RD := hide RD
  have HR : Hid (rdL (L.take 69) = (u, mi, E)) := by show _ = _; rw [rdL_take]; exact hr
  have HR' := hide hr
  have hstc : st = (c, 0) := by rw [hst0.out, hc]
  have XR := Cu.xRest p st w5 F5.out.cr
  rw [hstc] at XR
  have XR := hide XR
  have HFO : Hid (fldR b = match rdUs 1 L with | some (us, _) => some ((⟨1, us.headD Upd.zero, nilS, 0, 0, 0, z32, z32, z32, 0⟩ : Rc), []) | none => none) := by
    show _ = _
    unfold fldR
    rw [HKN.out, if_pos HK.out]
    unfold fldOurs
    rw [hL]
    cases rdUs 1 L <;> rfl
  clear hL hr hcl hc HKN HST HK hstc
  go_wp2_with fail
  refine XR.out.mono ?_
  rintro e wy ⟨rfl, rfl⟩
  clear XR c0
  go_wp2_with fail
  refine RD.out.mono ?_
  rintro e w6 ⟨rfl, hb6⟩
  obtain ⟨w7, w8, hW7, q7, hW8, q8, b8, _⟩ := newU2 w6 u
  have Q7 := hide q7
  have F8 := hide ((F5.out.low hb6).low b8)
  have h68 : w5.heap.size ≤ w6.heap.size := hb6.size
  have hg56 : g5 < w6.heap.size := Nat.lt_of_lt_of_le F5.out.var.lt h68
  clear q7 RD hb6 b8 F5 h68
  go_upto_region 7 with (first | rw [hW8] | refine wpList_storeU rfl _ _ rfl rfl (w6.heap.size) (u) rfl rfl _ Q7.out ?_ | fail)
  try rw [hW8]
  generalize hg8 : w6.heap.size = g8 at q8 hg56 ⊢
  clear hW7 hW8 Q7 hg8
  have Q8 := hide q8
  clear q8
  have hpo := F8.out.ord
  by_cases hE : E = 0
  · subst hE
    obtain ⟨_, m0, m1, _⟩ := rd_ok _ _ _ HR'.out
    obtain ⟨m, rfl⟩ : ∃ m : Nat, mi = (m : Int) := ⟨mi.toNat, by omega⟩
    have ml : m ≤ L.length := by omega
    have XW := Cu.xRaw (m : Int) p st w8 F8.out.cr
    obtain ⟨sf, hsf⟩ : ∃ z : RS, z = (ofL (L.drop m), (0 : Int)) := ⟨_, rfl⟩
    have hraw : Cu.rawS (m : Int) st = sf := by rw [hst0.out, hsf]; exact raw_ok L m ml
    rw [hraw] at XW
    have XW := hide XW
    have HRR : Hid (fldR b = if sf.2 = 0 then some (⟨1, u, nilS, 0, 0, 0, z32, z32, z32, 0⟩, []) else none) := by
      show _ = _
      rw [HFO.out, rdUs_yes (n := 0) HR.out, hsf]
      rfl
    clear hraw m0 m1 ml HR HR' HFO hst0 hsf
    go_wp2_with fail
    refine XW.out.mono ?_
    rintro e w9 ⟨rfl, hC9, hM9⟩
    have F9 := hide (F8.out.call hC9 hM9)
    have Q9 := hide (Q8.out.mr hM9 (by omega))
    clear XW hC9 hM9 F8 Q8
    obtain ⟨w10, hW10⟩ : ∃ y, w9.setRow g5 (tabv (Rc.v ⟨1, u, nilS, 0, 0, 0, z32, z32, z32, 0⟩) 138) = y := ⟨_, rfl⟩
    have F10 : Hid (FD w p g5 sf ⟨1, u, nilS, 0, 0, 0, z32, z32, z32, 0⟩ w10) := by show FD _ _ _ _ _ _; rw [← hW10]; exact F9.out.row
    go_upto_region 26 with (first | rw [hW10] | refine wpW_load_at 36 _ rfl (g8) (0) (by rfl) (by rfl) _ 36 _ ((Q9.out.at_ 0 (by omega) (fun i hi => by rw [Nat.zero_add]))) Tryz.underlying36 rfl infoU ?_ | refine wpList_store_part rfl 36 _ _ rfl rfl g5 1 u.v 36 rfl rfl 38 _ 138 F9.out.var (by omega) infoU (fun i _ => oneV u i) ((⟨1, u, nilS, 0, 0, 0, z32, z32, z32, 0⟩ : Rc)).v (fun i hi => splice_upd _ u i hi) ?_ | fail)
    try rw [hW10]
    clear hW10 F9 Q9
    obtain ⟨r0, hr0⟩ : ∃ z : Rc, z = ⟨1, u, nilS, 0, 0, 0, z32, z32, z32, 0⟩ := ⟨_, rfl⟩
    obtain ⟨x, hx⟩ : ∃ z, nilS = z := ⟨_, rfl⟩
    obtain ⟨us, hus⟩ : ∃ z : List Upd, [] = z := ⟨_, rfl⟩
    have OT : Hid (OwnU (w.heap.size + 1) w10 x.v us) := by show OwnU _ _ _ _; rw [← hx, ← hus]; exact OwnU.nil _ _
    have FT : Hid (FD w p g5 sf (setU r0 x) w10) := by show FD _ _ _ _ _ _; rw [hr0, ← hx]; exact F10.out
    have hu5 : us.length ≤ 65535 := by rw [← hus]; exact Nat.zero_le _
    rw [← hr0, hus] at HRR
    clear F10 hr0 hx hus hpo hg56
    have hxn : x.n = us.length := (OwnU.sl OT.out).1.symm
    have WR := hide (dwrite_any (setU r0 x) us hxn.symm (by show x.n ≤ _; omega) w10 (OwnU.sl OT.out).2.1)
    have HVX : Hid (validR (setU r0 x) us = validR (setU r0 (lenS us)) us) := validR_sl r0 x (lenS us) us hxn
    have HBX : Hid (bytesR (setU r0 x) us = bytesR (setU r0 (lenS us)) us) := bytesR_sl r0 x (lenS us) us hxn
    cases hv : validR (setU r0 (lenS us)) us with
    | false =>
      rw [show wrS (setU r0 x) us = nilB by unfold wrS; rw [HVX.out, hv]; rfl, show wrE (setU r0 x) us = 170 by unfold wrE; rw [HVX.out, hv]; rfl] at WR
      have HX : Hid (rdOf (fldR b) = none) := by
        show _ = _
        rw [HRR.out]
        by_cases hq : sf.2 = 0
        · rw [if_pos hq]; unfold rdOf; dsimp only; rw [hv]; rfl
        · rw [if_neg hq]; rfl
      clear HVX HBX HRR hv
      go_wp2_with (first | refine wpW_load_at 38 _ rfl (g5) (0) (by rfl) (by rfl) _ 138 _ (FT.out.var.at_ 0 (by omega) (fun i hi => by rw [Nat.zero_add])) Tryz.underlying38 rfl infoRc ?_ | fail)
      refine WR.out.mono ?_
      rintro e wB ⟨rfl, hbB⟩
      have FB := hide (FT.out.low hbB)
      by_cases hs : sf.2 = 0
      · have hq : (sf.2 != 0) = false := by rw [hs]; rfl
        clear hs hbB WR FT
        have XE := hide (Cu.xErr p sf wB FB.out.cr)
        go_wp2_with fail
        refine XE.out.mono ?_
        rintro e wy ⟨rfl, rfl⟩
        clear XE
        have K8 := hide FB.out.res
        have g8 := FB.out.bel
        clear FB
        go_wp2_with (first | refine wpW_build (by rfl) 38 #[] rfl [] (by first | rfl | (simp [Act.eval, Act.put]; done)) _ builtRZ ?_ | refine wpList_storeRc rfl _ _ rfl rfl (w.heap.size) (Rc.zero) rfl rfl _ K8.out ?_ | fail)
        (try simp only [Exit.inBlock, Exit.then])
        exact bodyPost_ret (resRc3 _ w.heap.size _ _ (.int .i64 0) (.int .i64 170) 2 3 4 (K8.out.row _ Rc.zero.v rfl) rfl rfl rfl _ rfl) rfl ⟨by rw [HX.out]; rfl, below_setRow g8 (Nat.le_refl _) _⟩
      · have hq : (sf.2 != 0) = true := bne_iff_ne.2 hs
        clear hs hbB WR FT
        have XE := hide (Cu.xErr p sf wB FB.out.cr)
        go_wp2_with fail
        refine XE.out.mono ?_
        rintro e wy ⟨rfl, rfl⟩
        clear XE
        have K8 := hide FB.out.res
        have g8 := FB.out.bel
        clear FB
        go_wp2_with (first | refine wpW_build (by rfl) 38 #[] rfl [] (by first | rfl | (simp [Act.eval, Act.put]; done)) _ builtRZ ?_ | refine wpList_storeRc rfl _ _ rfl rfl (w.heap.size) (Rc.zero) rfl rfl _ K8.out ?_ | fail)
        (try simp only [Exit.inBlock, Exit.then])
        exact bodyPost_ret (resRc3 _ w.heap.size _ _ (.int .i64 0) (.int .i64 170) 2 3 4 (K8.out.row _ Rc.zero.v rfl) rfl rfl rfl _ rfl) rfl ⟨by rw [HX.out]; rfl, below_setRow g8 (Nat.le_refl _) _⟩
    | true =>
      have hbl := bytesR_len hv rfl
      obtain ⟨N, hN⟩ : ∃ N, (bytesR (setU r0 (lenS us)) us).length = N := ⟨_, rfl⟩
      rw [hN] at hbl
      rw [show wrS (setU r0 x) us = ofL (bytesR (setU r0 (lenS us)) us) by unfold wrS; rw [if_pos (by rw [HVX.out, hv]), HBX.out], show wrE (setU r0 x) us = 0 by unfold wrE; rw [if_pos (by rw [HVX.out, hv])]] at WR
      obtain ⟨t, ht⟩ : ∃ t, ofL (bytesR (setU r0 (lenS us)) us) = t := ⟨_, rfl⟩
      have hts : t.size = N := by rw [← ht, Cu.ofL_size]; exact hN
      rw [ht] at WR
      by_cases hs : sf.2 = 0
      · have HX : Hid (rdOf (fldR b) = some (r0, us, N)) := by show _ = _; rw [HRR.out, if_pos hs]; unfold rdOf; dsimp only; rw [if_pos hv, hN]
        have hq : (sf.2 != 0) = false := by rw [hs]; rfl
        clear HVX HBX HRR hv ht hN
        go_wp2_with (first | refine wpW_load_at 38 _ rfl (g5) (0) (by rfl) (by rfl) _ 138 _ (FT.out.var.at_ 0 (by omega) (fun i hi => by rw [Nat.zero_add])) Tryz.underlying38 rfl infoRc ?_ | fail)
        refine WR.out.mono ?_
        rintro e wB ⟨rfl, hbB⟩
        have FB := hide (FT.out.low hbB)
        have OB : Hid (OwnU (w.heap.size + 1) wB x.v us) := OT.out.below hbB (Nat.le_refl _)
        clear hs hbB WR FT OT
        have XE := hide (Cu.xErr p sf wB FB.out.cr)
        go_wp2_with fail
        refine XE.out.mono ?_
        rintro e wy ⟨rfl, rfl⟩
        clear XE
        have K8 := hide FB.out.res
        have Q8 := hide FB.out.var
        have g8 := FB.out.bel
        clear FB
        go_wp2_with (first | refine wpW_load_at 38 _ rfl (g5) (0) (by rfl) (by rfl) _ 138 _ (Q8.out.at_ 0 (by omega) (fun i hi => by rw [Nat.zero_add])) Tryz.underlying38 rfl infoRc ?_ | refine wpList_storeRc rfl _ _ rfl rfl (w.heap.size) (setU r0 x) rfl rfl _ K8.out ?_ | fail)
        (try simp only [Exit.inBlock, Exit.then])
        exact bodyPost_ret (resRc3 _ w.heap.size _ _ (.int .i64 (N : Int)) (.int .i64 0) 2 3 4 (K8.out.row _ (Rc.v (setU r0 x)) rfl) rfl (by first | rfl | (rw [← hts]; rfl)) rfl _ rfl) rfl ⟨by rw [HX.out]; exact ⟨x, rfl, (OB.out.same fun k hk => setRow_other _ _ _ _ (by have := (OB.out.lt k hk).1; omega)).mono (by omega)⟩, below_setRow g8 (Nat.le_refl _) _⟩
      · have HX : Hid (rdOf (fldR b) = none) := by show _ = _; rw [HRR.out, if_neg hs]; rfl
        have hq : (sf.2 != 0) = true := bne_iff_ne.2 hs
        clear HVX HBX HRR hv ht hN
        go_wp2_with (first | refine wpW_load_at 38 _ rfl (g5) (0) (by rfl) (by rfl) _ 138 _ (FT.out.var.at_ 0 (by omega) (fun i hi => by rw [Nat.zero_add])) Tryz.underlying38 rfl infoRc ?_ | fail)
        refine WR.out.mono ?_
        rintro e wB ⟨rfl, hbB⟩
        have FB := hide (FT.out.low hbB)
        clear hs hbB WR FT
        have XE := hide (Cu.xErr p sf wB FB.out.cr)
        go_wp2_with fail
        refine XE.out.mono ?_
        rintro e wy ⟨rfl, rfl⟩
        clear XE
        have K8 := hide FB.out.res
        have g8 := FB.out.bel
        clear FB
        go_wp2_with (first | refine wpW_build (by rfl) 38 #[] rfl [] (by first | rfl | (simp [Act.eval, Act.put]; done)) _ builtRZ ?_ | refine wpList_storeRc rfl _ _ rfl rfl (w.heap.size) (Rc.zero) rfl rfl _ K8.out ?_ | fail)
        (try simp only [Exit.inBlock, Exit.then])
        exact bodyPost_ret (resRc3 _ w.heap.size _ _ (.int .i64 0) (.int .i64 170) 2 3 4 (K8.out.row _ Rc.zero.v rfl) rfl rfl rfl _ rfl) rfl ⟨by rw [HX.out]; rfl, below_setRow g8 (Nat.le_refl _) _⟩
  · have hEb : (E == 0) = false := beq_false_of_ne hE
    have HX : Hid (rdOf (fldR b) = none) := by show _ = _; rw [HFO.out, rdUs_no (n := 0) (by rw [HR.out]; exact hE)]; rfl
    have XW := hide (Cu.xRaw mi p st w8 F8.out.cr)
    clear HR HR' HFO hst0 hE
    obtain ⟨sR, hsR⟩ : ∃ z, Cu.rawS mi st = z := ⟨_, rfl⟩
    rw [hsR] at XW
    clear hsR
    go_wp2_with fail
    refine XW.out.mono ?_
    rintro e w9 ⟨rfl, hC9, hM9⟩
    have F9 := hide (F8.out.call hC9 hM9)
    have Q9 := hide (Q8.out.mr hM9 (by omega))
    clear XW hC9 hM9 F8 Q8 hEb
    obtain ⟨w10, hW10⟩ : ∃ y, w9.setRow g5 (tabv (Rc.v ⟨1, u, nilS, 0, 0, 0, z32, z32, z32, 0⟩) 138) = y := ⟨_, rfl⟩
    have F10 : Hid (FD w p g5 sR ⟨1, u, nilS, 0, 0, 0, z32, z32, z32, 0⟩ w10) := by show FD _ _ _ _ _ _; rw [← hW10]; exact F9.out.row
    go_upto_region 26 with (first | rw [hW10] | refine wpW_load_at 36 _ rfl (g8) (0) (by rfl) (by rfl) _ 36 _ ((Q9.out.at_ 0 (by omega) (fun i hi => by rw [Nat.zero_add]))) Tryz.underlying36 rfl infoU ?_ | refine wpList_store_part rfl 36 _ _ rfl rfl g5 1 u.v 36 rfl rfl 38 _ 138 F9.out.var (by omega) infoU (fun i _ => oneV u i) ((⟨1, u, nilS, 0, 0, 0, z32, z32, z32, 0⟩ : Rc)).v (fun i hi => splice_upd _ u i hi) ?_ | fail)
    try rw [hW10]
    clear hW10 F9 Q9
    have WR := hide (dwrite_any ⟨1, u, nilS, 0, 0, 0, z32, z32, z32, 0⟩ [] rfl (Nat.zero_le _) w10 (OwnU.sl (x := nilS) (OwnU.nil _ _ : OwnU 0 w10 nilS.v [])).2.1)
    obtain ⟨tS, htS⟩ : ∃ z, wrS ⟨1, u, nilS, 0, 0, 0, z32, z32, z32, 0⟩ [] = z := ⟨_, rfl⟩
    obtain ⟨tE, htE⟩ : ∃ z, wrE ⟨1, u, nilS, 0, 0, 0, z32, z32, z32, 0⟩ [] = z := ⟨_, rfl⟩
    rw [htS, htE] at WR
    clear htS htE
    go_wp2_with (first | refine wpW_load_at 38 _ rfl (g5) (0) (by rfl) (by rfl) _ 138 _ (F10.out.var.at_ 0 (by omega) (fun i hi => by rw [Nat.zero_add])) Tryz.underlying38 rfl infoRc ?_ | fail)
    refine WR.out.mono ?_
    rintro e wB ⟨rfl, hbB⟩
    have FB := hide (F10.out.low hbB)
    clear hbB WR F10
    have K8 := hide FB.out.res
    have g8 := FB.out.bel
    clear FB
    go_wp2_with (first | refine wpW_build (by rfl) 38 #[] rfl [] (by first | rfl | (simp [Act.eval, Act.put]; done)) _ builtRZ ?_ | refine wpList_storeRc rfl _ _ rfl rfl (w.heap.size) (Rc.zero) rfl rfl _ K8.out ?_ | fail)
    (try simp only [Exit.inBlock, Exit.then])
    exact bodyPost_ret (resRc3 _ w.heap.size _ _ (.int .i64 0) (.int .i64 170) 2 3 4 (K8.out.row _ Rc.zero.v rfl) rfl rfl rfl _ rfl) rfl ⟨by rw [HX.out]; rfl, below_setRow g8 (Nat.le_refl _) _⟩
end Go.Proofs.YtlohfoggcdaeiaaGreat
/-
  The document's Read of a record, kind 2 (printed by gen_r33.py).
-/
namespace Go.Proofs.YtlohfoggcdaeiaaGreat
open Go.RowKit S
set_option linter.unusedVariables false
set_option linter.unusedSimpArgs false
open Cu (nb be hl ofL CW Mw CR Mr RS takeS takeA hOf nil8 doneS)
set_option maxRecDepth 100000 in
set_option maxHeartbeats 40000000 in
theorem dread_2 (b : ByteArray) (w : World) (hb : b.size ≤ 140737490000000) (hk : Cu.num 1 (b, 0) = 2) : Calls Tryz.prog 22 #[.string b] w fun e w' => RdP w.heap.size (rdOf (fldR b)) e w' ∧ Below w.heap.size w w' := by
  obtain ⟨w1, hW1⟩ : ∃ w1, w.alloc (.cells Tryz.zeroCells38 38) = w1 := ⟨_, rfl⟩
  have r1 : Has w1 w.heap.size 38 Rc.zero.v 138 := by rw [← hW1, zeroRc]; exact Has.new w 38 Rc.zero.v 138 _ rfl
  have b1 : Below w.heap.size w w1 := by rw [← hW1]; exact (Below.refl w.heap.size w).alloc (Nat.le_refl _) _
  go_enter Tryz.func22, Tryz.ntmps22
  go_wp2_with fail
  refine (Cu.xOpen b _).mono ?_
  rintro e w2 ⟨rfl, hC2, hb2, hs2⟩
  obtain ⟨p, hp⟩ : ∃ p, w1.heap.size = p := ⟨_, rfl⟩
  rw [hp] at hC2 ⊢
  have hgp : w.heap.size < p := by rw [← hp]; exact r1.lt
  have q1 := r1.below hb2 r1.lt
  have g2 : Below w.heap.size w w2 := b1.trans (hb2.mono b1.size)
  clear hW1 r1 b1 hb2 hs2 hp
  go_wp2_with fail
  refine (Cu.xU8 p (b, 0) _ hC2).mono ?_
  rintro e w3 ⟨rfl, hC3, hM3⟩
  have q3 := q1.mr hM3 (by omega)
  have g3 : Below w.heap.size w w3 := g2.trans (hM3.below (by omega) g2.size)
  obtain ⟨kn, hkn⟩ : ∃ kn, Cu.num 1 (b, 0) = kn := ⟨_, rfl⟩
  have hkl : kn < 256 := by rw [← hkn]; exact num1_le _
  rw [show be (takeA 1 (b, 0)).data.toList = kn from hkn]
  obtain ⟨st, hst⟩ : ∃ st, takeS 1 (b, 0) = st := ⟨_, rfl⟩
  rw [hst] at hC3
  have KC := hide (conv8i kn hkl)
  obtain ⟨w4, w5, hW4, q4, hW5, q5, b5⟩ := newRc w3 ⟨(kn : Int), Upd.zero, nilS, 0, 0, 0, z32, z32, z32, 0⟩
  have Q4 := hide q4
  have F5 : Hid (FD w p w3.heap.size st ⟨(kn : Int), Upd.zero, nilS, 0, 0, 0, z32, z32, z32, 0⟩ w5) := ⟨hC3.same (b5.block p hC3.lt), q3.below b5 q3.lt, q5, g3.trans (b5.mono g3.size), hgp, hC3.lt⟩
  have HKN := hide hkn
  have HST := hide hst
  rw [hkn] at hk
  have HK := hide hk
  clear hk hkn hst hC2 hC3 hM3 q1 q3 g2 g3 q4 q5 b5
  go_upto_region 3 with (first | rw [hW5] | refine Cu.wpList_conv rfl _ _ _ rfl .u8 .i64 (kn : Int) (kn : Int) (by rfl) (KC.out _) ?_ | refine wpW_build (by rfl) 38 #[(0, .tmp 17)] rfl [(0, .int .i64 (kn : Int))] (by first | rfl | (simp [Act.eval, Act.put]; done)) _ (builtRK (kn : Int)) ?_ | refine wpList_storeRc rfl _ _ rfl rfl (w3.heap.size) (⟨(kn : Int), Upd.zero, nilS, 0, 0, 0, z32, z32, z32, 0⟩) rfl rfl _ Q4.out ?_ | fail)
  try rw [hW5]
  generalize hg5 : w3.heap.size = g5 at F5 ⊢
  clear hW4 hW5 hg5 Q4 KC
  obtain ⟨K, hKn⟩ : ∃ K : Int, (kn : Int) = K := ⟨_, rfl⟩
  rw [hKn] at F5 ⊢
  have hK : K = 2 := by have := HK.out; omega
  subst hK
  clear hKn hkl
  have c0 : w5.cell? ⟨g5, 0, none⟩ = some (.int .i64 2) := F5.out.var.cell 0 (by omega)
  go_wp2_with fail
  refine (Cu.xI64 p st _ F5.out.cr (rd8 st) rfl).mono ?_
  rintro e w6 ⟨rfl, hCq, hMq⟩
  have G6 := F5.out.call hCq hMq
  have c38 : w6.cell? ⟨g5, 38, none⟩ = some (.int .i64 0) := G6.var.cell 38 (by omega)
  have f38 := G6.var.frozen 38
  obtain ⟨w7, hW7⟩ : ∃ y, w6.setCell ⟨g5, 38, none⟩ (.int .i64 (rd8 st)) = y := ⟨_, rfl⟩
  have F7 : Hid (FD w p g5 (takeS 8 st) ⟨2, Upd.zero, nilS, rd8 st, 0, 0, z32, z32, z32, 0⟩ w7) := by show FD _ _ _ _ _ _; rw [← hW7]; exact G6.cell 38 _ (G6.var.rIdx _)
  clear hCq hMq F5 G6 c0
  go_upto_region 12 with (first | rw [hW7] | fail)
  try rw [hW7]
  clear c38 f38 hW7
  obtain ⟨nn, hnn⟩ : ∃ nn, Cu.num 2 (takeS 8 st) = nn := ⟨_, rfl⟩
  have DC := dcount p (takeS 8 st) w7 F7.out.cr
  rw [hnn] at DC
  have DC := hide DC
  go_wp2_with fail
  refine DC.out.mono ?_
  rintro e w8 ⟨rfl, hCq, hMq⟩
  have G8 := F7.out.call hCq hMq
  have c38 : w8.cell? ⟨g5, 39, none⟩ = some (.int .i64 0) := G8.var.cell 39 (by omega)
  have f38 := G8.var.frozen 39
  obtain ⟨w9, hW9⟩ : ∃ y, w8.setCell ⟨g5, 39, none⟩ (.int .i64 (nn : Int)) = y := ⟨_, rfl⟩
  have F9 : Hid (FD w p g5 (takeS 2 (takeS 8 st)) ⟨2, Upd.zero, nilS, rd8 st, (Cu.num 2 (takeS 8 st) : Int), 0, z32, z32, z32, 0⟩ w9) := by show FD _ _ _ _ _ _; rw [← hW9, hnn]; exact G8.cell 39 _ (G8.var.rCo _)
  clear hCq hMq F7 G8 hnn DC
  go_upto_region 13 with (first | rw [hW9] | fail)
  try rw [hW9]
  clear c38 f38 hW9
  obtain ⟨nn, hnn⟩ : ∃ nn, Cu.num 2 (takeS 2 (takeS 8 st)) = nn := ⟨_, rfl⟩
  have DC := dcount p (takeS 2 (takeS 8 st)) w9 F9.out.cr
  rw [hnn] at DC
  have DC := hide DC
  go_wp2_with fail
  refine DC.out.mono ?_
  rintro e w10 ⟨rfl, hCq, hMq⟩
  have G10 := F9.out.call hCq hMq
  have c38 : w10.cell? ⟨g5, 40, none⟩ = some (.int .i64 0) := G10.var.cell 40 (by omega)
  have f38 := G10.var.frozen 40
  obtain ⟨w11, hW11⟩ : ∃ y, w10.setCell ⟨g5, 40, none⟩ (.int .i64 (nn : Int)) = y := ⟨_, rfl⟩
  have F11 : Hid (FD w p g5 (takeS 2 (takeS 2 (takeS 8 st))) ⟨2, Upd.zero, nilS, rd8 st, (Cu.num 2 (takeS 8 st) : Int), (Cu.num 2 (takeS 2 (takeS 8 st)) : Int), z32, z32, z32, 0⟩ w11) := by show FD _ _ _ _ _ _; rw [← hW11, hnn]; exact G10.cell 40 _ (G10.var.rCp _)
  clear hCq hMq F9 G10 hnn DC
  go_upto_region 26 with (first | rw [hW11] | fail)
  try rw [hW11]
  clear c38 f38 hW11
  have OT : Hid (OwnU (w.heap.size + 1) w11 nilS.v []) := OwnU.nil _ _
  have HRR : Hid (fldR b = if (takeS 2 (takeS 2 (takeS 8 st))).2 = 0 then some (⟨2, Upd.zero, nilS, rd8 st, (Cu.num 2 (takeS 8 st) : Int), (Cu.num 2 (takeS 2 (takeS 8 st)) : Int), z32, z32, z32, 0⟩, []) else none) := by
    show _ = _
    have hk := HK.out
    unfold fldR
    rw [HKN.out, if_neg (by omega), if_neg (by omega)]
    unfold fldO fldA
    rw [HKN.out, HST.out]
    have hKv : (kn : Int) = 2 := by omega
    rw [show (fldK (kn : Int) st) = (⟨2, Upd.zero, nilS, rd8 st, (Cu.num 2 (takeS 8 st) : Int), (Cu.num 2 (takeS 2 (takeS 8 st)) : Int), z32, z32, z32, 0⟩, takeS 2 (takeS 2 (takeS 8 st))) by rw [hKv]; rfl]
  obtain ⟨r0, hr0⟩ : ∃ z : Rc, z = ⟨2, Upd.zero, nilS, rd8 st, (Cu.num 2 (takeS 8 st) : Int), (Cu.num 2 (takeS 2 (takeS 8 st)) : Int), z32, z32, z32, 0⟩ := ⟨_, rfl⟩
  obtain ⟨sf, hsf⟩ : ∃ z, takeS 2 (takeS 2 (takeS 8 st)) = z := ⟨_, rfl⟩
  obtain ⟨x, hx⟩ : ∃ z, nilS = z := ⟨_, rfl⟩
  obtain ⟨us, hus⟩ : ∃ z : List Upd, [] = z := ⟨_, rfl⟩
  have FT : Hid (FD w p g5 sf (setU r0 x) w11) := by show FD _ _ _ _ _ _; rw [hr0, ← hx, ← hsf]; exact F11.out
  have hu5 : us.length ≤ 65535 := by rw [← hus]; exact Nat.zero_le _
  rw [hx, hus] at OT
  rw [hsf, ← hr0, hus] at HRR
  clear F11 hr0 hsf hx hus HKN HST HK
  have hxn : x.n = us.length := (OwnU.sl OT.out).1.symm
  have WR := hide (dwrite_any (setU r0 x) us hxn.symm (by show x.n ≤ _; omega) w11 (OwnU.sl OT.out).2.1)
  have HVX : Hid (validR (setU r0 x) us = validR (setU r0 (lenS us)) us) := validR_sl r0 x (lenS us) us hxn
  have HBX : Hid (bytesR (setU r0 x) us = bytesR (setU r0 (lenS us)) us) := bytesR_sl r0 x (lenS us) us hxn
  cases hv : validR (setU r0 (lenS us)) us with
  | false =>
    rw [show wrS (setU r0 x) us = nilB by unfold wrS; rw [HVX.out, hv]; rfl, show wrE (setU r0 x) us = 170 by unfold wrE; rw [HVX.out, hv]; rfl] at WR
    have HX : Hid (rdOf (fldR b) = none) := by
      show _ = _
      rw [HRR.out]
      by_cases hq : sf.2 = 0
      · rw [if_pos hq]; unfold rdOf; dsimp only; rw [hv]; rfl
      · rw [if_neg hq]; rfl
    clear HVX HBX HRR hv
    go_wp2_with (first | refine wpW_load_at 38 _ rfl (g5) (0) (by rfl) (by rfl) _ 138 _ (FT.out.var.at_ 0 (by omega) (fun i hi => by rw [Nat.zero_add])) Tryz.underlying38 rfl infoRc ?_ | fail)
    refine WR.out.mono ?_
    rintro e wB ⟨rfl, hbB⟩
    have FB := hide (FT.out.low hbB)
    by_cases hs : sf.2 = 0
    · have hq : (sf.2 != 0) = false := by rw [hs]; rfl
      clear hs hbB WR FT
      have XE := hide (Cu.xErr p sf wB FB.out.cr)
      go_wp2_with fail
      refine XE.out.mono ?_
      rintro e wy ⟨rfl, rfl⟩
      clear XE
      have K8 := hide FB.out.res
      have g8 := FB.out.bel
      clear FB
      go_wp2_with (first | refine wpW_build (by rfl) 38 #[] rfl [] (by first | rfl | (simp [Act.eval, Act.put]; done)) _ builtRZ ?_ | refine wpList_storeRc rfl _ _ rfl rfl (w.heap.size) (Rc.zero) rfl rfl _ K8.out ?_ | fail)
      (try simp only [Exit.inBlock, Exit.then])
      exact bodyPost_ret (resRc3 _ w.heap.size _ _ (.int .i64 0) (.int .i64 170) 2 3 4 (K8.out.row _ Rc.zero.v rfl) rfl rfl rfl _ rfl) rfl ⟨by rw [HX.out]; rfl, below_setRow g8 (Nat.le_refl _) _⟩
    · have hq : (sf.2 != 0) = true := bne_iff_ne.2 hs
      clear hs hbB WR FT
      have XE := hide (Cu.xErr p sf wB FB.out.cr)
      go_wp2_with fail
      refine XE.out.mono ?_
      rintro e wy ⟨rfl, rfl⟩
      clear XE
      have K8 := hide FB.out.res
      have g8 := FB.out.bel
      clear FB
      go_wp2_with (first | refine wpW_build (by rfl) 38 #[] rfl [] (by first | rfl | (simp [Act.eval, Act.put]; done)) _ builtRZ ?_ | refine wpList_storeRc rfl _ _ rfl rfl (w.heap.size) (Rc.zero) rfl rfl _ K8.out ?_ | fail)
      (try simp only [Exit.inBlock, Exit.then])
      exact bodyPost_ret (resRc3 _ w.heap.size _ _ (.int .i64 0) (.int .i64 170) 2 3 4 (K8.out.row _ Rc.zero.v rfl) rfl rfl rfl _ rfl) rfl ⟨by rw [HX.out]; rfl, below_setRow g8 (Nat.le_refl _) _⟩
  | true =>
    have hbl := bytesR_len hv rfl
    obtain ⟨N, hN⟩ : ∃ N, (bytesR (setU r0 (lenS us)) us).length = N := ⟨_, rfl⟩
    rw [hN] at hbl
    rw [show wrS (setU r0 x) us = ofL (bytesR (setU r0 (lenS us)) us) by unfold wrS; rw [if_pos (by rw [HVX.out, hv]), HBX.out], show wrE (setU r0 x) us = 0 by unfold wrE; rw [if_pos (by rw [HVX.out, hv])]] at WR
    obtain ⟨t, ht⟩ : ∃ t, ofL (bytesR (setU r0 (lenS us)) us) = t := ⟨_, rfl⟩
    have hts : t.size = N := by rw [← ht, Cu.ofL_size]; exact hN
    rw [ht] at WR
    by_cases hs : sf.2 = 0
    · have HX : Hid (rdOf (fldR b) = some (r0, us, N)) := by show _ = _; rw [HRR.out, if_pos hs]; unfold rdOf; dsimp only; rw [if_pos hv, hN]
      have hq : (sf.2 != 0) = false := by rw [hs]; rfl
      clear HVX HBX HRR hv ht hN
      go_wp2_with (first | refine wpW_load_at 38 _ rfl (g5) (0) (by rfl) (by rfl) _ 138 _ (FT.out.var.at_ 0 (by omega) (fun i hi => by rw [Nat.zero_add])) Tryz.underlying38 rfl infoRc ?_ | fail)
      refine WR.out.mono ?_
      rintro e wB ⟨rfl, hbB⟩
      have FB := hide (FT.out.low hbB)
      have OB : Hid (OwnU (w.heap.size + 1) wB x.v us) := OT.out.below hbB (Nat.le_refl _)
      clear hs hbB WR FT OT
      have XE := hide (Cu.xErr p sf wB FB.out.cr)
      go_wp2_with fail
      refine XE.out.mono ?_
      rintro e wy ⟨rfl, rfl⟩
      clear XE
      have K8 := hide FB.out.res
      have Q8 := hide FB.out.var
      have g8 := FB.out.bel
      clear FB
      go_wp2_with (first | refine wpW_load_at 38 _ rfl (g5) (0) (by rfl) (by rfl) _ 138 _ (Q8.out.at_ 0 (by omega) (fun i hi => by rw [Nat.zero_add])) Tryz.underlying38 rfl infoRc ?_ | refine wpList_storeRc rfl _ _ rfl rfl (w.heap.size) (setU r0 x) rfl rfl _ K8.out ?_ | fail)
      (try simp only [Exit.inBlock, Exit.then])
      exact bodyPost_ret (resRc3 _ w.heap.size _ _ (.int .i64 (N : Int)) (.int .i64 0) 2 3 4 (K8.out.row _ (Rc.v (setU r0 x)) rfl) rfl (by first | rfl | (rw [← hts]; rfl)) rfl _ rfl) rfl ⟨by rw [HX.out]; exact ⟨x, rfl, (OB.out.same fun k hk => setRow_other _ _ _ _ (by have := (OB.out.lt k hk).1; omega)).mono (by omega)⟩, below_setRow g8 (Nat.le_refl _) _⟩
    · have HX : Hid (rdOf (fldR b) = none) := by show _ = _; rw [HRR.out, if_neg hs]; rfl
      have hq : (sf.2 != 0) = true := bne_iff_ne.2 hs
      clear HVX HBX HRR hv ht hN
      go_wp2_with (first | refine wpW_load_at 38 _ rfl (g5) (0) (by rfl) (by rfl) _ 138 _ (FT.out.var.at_ 0 (by omega) (fun i hi => by rw [Nat.zero_add])) Tryz.underlying38 rfl infoRc ?_ | fail)
      refine WR.out.mono ?_
      rintro e wB ⟨rfl, hbB⟩
      have FB := hide (FT.out.low hbB)
      clear hs hbB WR FT
      have XE := hide (Cu.xErr p sf wB FB.out.cr)
      go_wp2_with fail
      refine XE.out.mono ?_
      rintro e wy ⟨rfl, rfl⟩
      clear XE
      have K8 := hide FB.out.res
      have g8 := FB.out.bel
      clear FB
      go_wp2_with (first | refine wpW_build (by rfl) 38 #[] rfl [] (by first | rfl | (simp [Act.eval, Act.put]; done)) _ builtRZ ?_ | refine wpList_storeRc rfl _ _ rfl rfl (w.heap.size) (Rc.zero) rfl rfl _ K8.out ?_ | fail)
      (try simp only [Exit.inBlock, Exit.then])
      exact bodyPost_ret (resRc3 _ w.heap.size _ _ (.int .i64 0) (.int .i64 170) 2 3 4 (K8.out.row _ Rc.zero.v rfl) rfl rfl rfl _ rfl) rfl ⟨by rw [HX.out]; rfl, below_setRow g8 (Nat.le_refl _) _⟩
end Go.Proofs.YtlohfoggcdaeiaaGreat
