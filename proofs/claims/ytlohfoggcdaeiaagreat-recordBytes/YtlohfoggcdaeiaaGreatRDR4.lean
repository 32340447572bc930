import Derived.Test.YtlohfoggcdaeiaaGreatRDR0
/-
  The document's Read of a record, kind 3 (printed by gen_r33.py).
-/
namespace Go.Proofs.YtlohfoggcdaeiaaGreat
open Go.RowKit S
set_option linter.unusedVariables false
set_option linter.unusedSimpArgs false
open Cu (nb be hl ofL CW Mw CR Mr RS takeS takeA hOf nil8 doneS)
theorem takeS_drop (n : Nat) (st : RS) (h : (takeS (n : Int) st).2 = 0) : (takeS (n : Int) st).1.data.toList = st.1.data.toList.drop n := by
  have h0 := takeS_bad2 _ _ h
  unfold takeS at h ⊢
  rw [if_pos h0] at h ⊢
  by_cases hl : (st.1.size : Int) < (n : Int)
  · rw [if_pos hl] at h; cases h
  · rw [if_neg hl]
    show (st.1.extract (n : Int).toNat st.1.size).data.toList = _
    rw [ext_list, Int.toNat_natCast, List.take_of_length_le (by rw [List.length_drop, str_len]; omega)]
theorem cmS_drop (b : ByteArray) (h : (cmS b).2 = 0) : (cmS b).1.data.toList = b.data.toList.drop 11 := by
  have h' := h
  unfold cmS at h ⊢
  have h8 := takeS_bad2 _ _ h
  have h1 := takeS_bad2 _ _ h8
  have e2 := takeS_drop 2 _ h
  have e8 := takeS_drop 8 _ h8
  have e1 := takeS_drop 1 (b, 0) h1
  have e2' : (takeS 2 (takeS 8 (takeS 1 (b, 0)))).1.data.toList = (takeS 8 (takeS 1 (b, 0))).1.data.toList.drop 2 := e2
  have e8' : (takeS 8 (takeS 1 (b, 0))).1.data.toList = (takeS 1 (b, 0)).1.data.toList.drop 8 := e8
  have e1' : (takeS 1 (b, 0)).1.data.toList = b.data.toList.drop 1 := e1
  rw [e2', e8', e1', List.drop_drop, List.drop_drop]
set_option maxRecDepth 100000 in
set_option maxHeartbeats 40000000 in
theorem dread_3 (b : ByteArray) (w : World) (hb : b.size ≤ 140737490000000) (hk : Cu.num 1 (b, 0) = 3) : Calls Tryz.prog 22 #[.string b] w fun e w' => RdP w.heap.size (rdOf (fldR b)) e w' ∧ Below w.heap.size w w' := by
  obtain ⟨w1, hW1⟩ : ∃ w1, w.alloc (.cells Tryz.zeroCells38 38) = w1 := ⟨_, rfl⟩
  have r1 : Has w1 w.heap.size 38 Rc.zero.v 138 := by rw [← hW1, zeroRc]; exact Has.new w 38 Rc.zero.v 138 _ rfl
  have b1 : Below w.heap.size w w1 := by rw [← hW1]; exact (Below.refl w.heap.size w).alloc (Nat.le_refl _) _
  go_enter Tryz.func22, Tryz.ntmps22
  go_wp2_with fail
  refine (Cu.xOpen b _).mono ?_
  rintro e w2 ⟨rfl, hC2, hb2, hs2⟩
  obtain ⟨p, hp⟩ : ∃ p, w1.heap.size = p := ⟨_, rfl⟩
  rw [hp] at hC2 ⊢
  have hgp : w.heap.size < p := by rw [← hp]; exact r1.lt
  have q1 := r1.below hb2 r1.lt
  have g2 : Below w.heap.size w w2 := b1.trans (hb2.mono b1.size)
  clear hW1 r1 b1 hb2 hs2 hp
  go_wp2_with fail
  refine (Cu.xU8 p (b, 0) _ hC2).mono ?_
  rintro e w3 ⟨rfl, hC3, hM3⟩
  have q3 := q1.mr hM3 (by omega)
  have g3 : Below w.heap.size w w3 := g2.trans (hM3.below (by omega) g2.size)
  obtain ⟨kn, hkn⟩ : ∃ kn, Cu.num 1 (b, 0) = kn := ⟨_, rfl⟩
  have hkl : kn < 256 := by rw [← hkn]; exact num1_le _
  rw [show be (takeA 1 (b, 0)).data.toList = kn from hkn]
  obtain ⟨st, hst⟩ : ∃ st, takeS 1 (b, 0) = st := ⟨_, rfl⟩
  rw [hst] at hC3
  have KC := hide (conv8i kn hkl)
  obtain ⟨w4, w5, hW4, q4, hW5, q5, b5⟩ := newRc w3 ⟨(kn : Int), Upd.zero, nilS, 0, 0, 0, z32, z32, z32, 0⟩
  have Q4 := hide q4
  have F5 : Hid (FD w p w3.heap.size st ⟨(kn : Int), Upd.zero, nilS, 0, 0, 0, z32, z32, z32, 0⟩ w5) := ⟨hC3.same (b5.block p hC3.lt), q3.below b5 q3.lt, q5, g3.trans (b5.mono g3.size), hgp, hC3.lt⟩
  have HKN := hide hkn
  have HST := hide hst
  rw [hkn] at hk
  have HK := hide hk
  clear hk hkn hst hC2 hC3 hM3 q1 q3 g2 g3 q4 q5 b5
  go_upto_region 3 with (first | rw [hW5] | refine Cu.wpList_conv rfl _ _ _ rfl .u8 .i64 (kn : Int) (kn : Int) (by rfl) (KC.out _) ?_ | refine wpW_build (by rfl) 38 #[(0, .tmp 17)] rfl [(0, .int .i64 (kn : Int))] (by first | rfl | (simp [Act.eval, Act.put]; done)) _ (builtRK (kn : Int)) ?_ | refine wpList_storeRc rfl _ _ rfl rfl (w3.heap.size) (⟨(kn : Int), Upd.zero, nilS, 0, 0, 0, z32, z32, z32, 0⟩) rfl rfl _ Q4.out ?_ | fail)
  try rw [hW5]
  generalize hg5 : w3.heap.size = g5 at F5 ⊢
  clear hW4 hW5 hg5 Q4 KC
  obtain ⟨K, hKn⟩ : ∃ K : Int, (kn : Int) = K := ⟨_, rfl⟩
  rw [hKn] at F5 ⊢
  have hK : K = 3 := by have := HK.out; omega
  subst hK
  clear hKn hkl
  have c0 : w5.cell? ⟨g5, 0, none⟩ = some (.int .i64 3) := F5.out.var.cell 0 (by omega)
  go_wp2_with fail
  refine (Cu.xI64 p st _ F5.out.cr (rd8 st) rfl).mono ?_
  rintro e w6 ⟨rfl, hCq, hMq⟩
  have G6 := F5.out.call hCq hMq
  have c38 : w6.cell? ⟨g5, 38, none⟩ = some (.int .i64 0) := G6.var.cell 38 (by omega)
  have f38 := G6.var.frozen 38
  obtain ⟨w7, hW7⟩ : ∃ y, w6.setCell ⟨g5, 38, none⟩ (.int .i64 (rd8 st)) = y := ⟨_, rfl⟩
  have F7 : Hid (FD w p g5 (takeS 8 st) ⟨3, Upd.zero, nilS, rd8 st, 0, 0, z32, z32, z32, 0⟩ w7) := by show FD _ _ _ _ _ _; rw [← hW7]; exact G6.cell 38 _ (G6.var.rIdx _)
  clear hCq hMq F5 G6 c0
  go_upto_region 16 with (first | rw [hW7] | fail)
  try rw [hW7]
  clear c38 f38 hW7
  have DM := dcame p (takeS 8 st) w7 F7.out.cr (by rw [← HST.out]; exact Nat.le_trans (takeS_le _ _) (Nat.le_trans (takeS_le 1 (b, 0)) hb))
  obtain ⟨n, hn⟩ : ∃ z, Cu.num 2 (takeS 8 st) = z := ⟨_, rfl⟩
  have hn5 : n < 65536 := by rw [← hn]; exact num2_le _
  obtain ⟨L, hL⟩ : ∃ z, (takeS 2 (takeS 8 st)).1.data.toList = z := ⟨_, rfl⟩
  obtain ⟨fl, hfl⟩ : ∃ z, (takeS 2 (takeS 8 st)).2 = z := ⟨_, rfl⟩
  rw [hn, hL, hfl] at DM
  obtain ⟨R, hR⟩ : ∃ z, rdUs n L = z := ⟨_, rfl⟩
  rw [hR] at DM
  have HFC : Hid (fldR b = if fl = 0 then (match R with | some (us, a) => if (takeS 32 (ofL (L.drop a), fl)).2 = 0 then some ((⟨3, Upd.zero, nilS, rd8 st, 0, 0, hOf (takeA 32 (ofL (L.drop a), fl)), z32, z32, 0⟩ : Rc), us) else none | none => none) else none) := by
    show _ = _
    have hk := HK.out
    unfold fldR
    rw [HKN.out, if_neg (by omega), if_pos hk]
    unfold fldCame
    have e1 : cmS b = takeS 2 (takeS 8 st) := by rw [← HST.out]; rfl
    have e2 : cmN b = n := by rw [← hn, ← HST.out]; rfl
    rw [e2]
    by_cases h0 : fl = 0
    · have h2 : (cmS b).2 = 0 := by rw [e1, hfl, h0]
      rw [if_pos h2, if_pos h0, show b.data.toList.drop 11 = L by rw [← cmS_drop b h2, e1, hL], hR]
      cases R with
      | none => rfl
      | some q =>
        obtain ⟨us, a⟩ := q
        have ha := (rdUs_len _ _ _ _ hR).2
        have e3 : cmS b = (ofL L, 0) := by rw [e1, ← hL, Cu.ofL_of, ← h0, ← hfl]
        dsimp only
        rw [e3, raw_ok L a ha, h0, HKN.out, HST.out, show ((kn : Nat) : Int) = 3 by omega]
    · rw [if_neg (by rw [e1, hfl]; exact h0), if_neg h0]
  have DM := hide DM
  have HR := hide hR
  clear hn hL hfl hR HKN HST HK
  go_wp2_with fail
  refine DM.out.mono ?_
  rintro e w8 ⟨hP, hM8⟩
  have hg5 := F7.out.var.lt
  clear DM
  cases R with
  | none =>
    obtain ⟨rfl, sR, hRR⟩ := hP
    have F8 := hide (F7.out.call hRR hM8)
    have HX : Hid (rdOf (fldR b) = none) := by show _ = _; rw [HFC.out]; by_cases h0 : fl = 0 <;> simp [h0, rdOf]
    clear hRR hM8 F7 HFC HR hg5
    have c37 : w8.cell? ⟨g5, 37, none⟩ = some (.slice none 0 0) := F8.out.var.cell 37 (by omega)
    have f37 := F8.out.var.frozen 37
    obtain ⟨w9, hW9⟩ : ∃ y, w8.setCell ⟨g5, 37, none⟩ (.slice none 0 0) = y := ⟨_, rfl⟩
    have F9 : Hid (FD w p g5 sR ⟨3, Upd.zero, nilS, rd8 st, 0, 0, z32, z32, z32, 0⟩ w9) := by show FD _ _ _ _ _ _; rw [← hW9]; exact F8.out.cell 37 _ (F8.out.var.rUpds nilS)
    clear F8
    go_upto_region 17 with (first | rw [hW9] | fail)
    try rw [hW9]
    clear c37 f37 hW9
    go_wp2_with fail
    refine (Cu.xHash p sR _ F9.out.cr).mono ?_
    rintro e w10 ⟨rfl, hCq, hMq⟩
    have G10 := hide (F9.out.call hCq hMq)
    obtain ⟨w11, hW11⟩ : ∃ y, w10.setRow g5 (tabv (Rc.v ⟨3, Upd.zero, nilS, rd8 st, 0, 0, hOf (takeA 32 sR), z32, z32, 0⟩) 138) = y := ⟨_, rfl⟩
    have F11 : Hid (FD w p g5 (takeS 32 sR) ⟨3, Upd.zero, nilS, rd8 st, 0, 0, hOf (takeA 32 sR), z32, z32, 0⟩ w11) := by show FD _ _ _ _ _ _; rw [← hW11]; exact G10.out.row
    clear hCq hMq F9
    go_upto_region 26 with (first | rw [hW11] | refine wpList_store_part rfl 25 _ _ rfl rfl g5 41 (bv (hOf (takeA 32 sR))) 32 rfl rfl 38 _ 138 G10.out.var (by omega) info26 (fun i _ => rfl) _ (splice_sig _ _) ?_ | fail)
    try rw [hW11]
    clear hW11 G10
    have WR := hide (dwrite_any ⟨3, Upd.zero, nilS, rd8 st, 0, 0, hOf (takeA 32 sR), z32, z32, 0⟩ [] rfl (Nat.zero_le _) w11 (OwnU.sl (x := nilS) (OwnU.nil _ _ : OwnU 0 w11 nilS.v [])).2.1)
    obtain ⟨tS, htS⟩ : ∃ z, wrS ⟨3, Upd.zero, nilS, rd8 st, 0, 0, hOf (takeA 32 sR), z32, z32, 0⟩ [] = z := ⟨_, rfl⟩
    obtain ⟨tE, htE⟩ : ∃ z, wrE ⟨3, Upd.zero, nilS, rd8 st, 0, 0, hOf (takeA 32 sR), z32, z32, 0⟩ [] = z := ⟨_, rfl⟩
    rw [htS, htE] at WR
    clear htS htE
    go_wp2_with (first | refine wpW_load_at 38 _ rfl (g5) (0) (by rfl) (by rfl) _ 138 _ (F11.out.var.at_ 0 (by omega) (fun i hi => by rw [Nat.zero_add])) Tryz.underlying38 rfl infoRc ?_ | fail)
    refine WR.out.mono ?_
    rintro e wB ⟨rfl, hbB⟩
    have FB := hide (F11.out.low hbB)
    clear hbB WR F11
    have K8 := hide FB.out.res
    have g8 := FB.out.bel
    clear FB
    go_wp2_with (first | refine wpW_build (by rfl) 38 #[] rfl [] (by first | rfl | (simp [Act.eval, Act.put]; done)) _ builtRZ ?_ | refine wpList_storeRc rfl _ _ rfl rfl (w.heap.size) (Rc.zero) rfl rfl _ K8.out ?_ | fail)
    (try simp only [Exit.inBlock, Exit.then])
    exact bodyPost_ret (resRc3 _ w.heap.size _ _ (.int .i64 0) (.int .i64 170) 2 3 4 (K8.out.row _ Rc.zero.v rfl) rfl rfl rfl _ rfl) rfl ⟨by rw [HX.out]; rfl, below_setRow g8 (Nat.le_refl _) _⟩
  | some q =>
    obtain ⟨us, a⟩ := q
    obtain ⟨x, rfl, hO, hRR⟩ := hP
    obtain ⟨sR, hsR⟩ : ∃ z, (ofL (L.drop a), fl) = z := ⟨_, rfl⟩
    rw [hsR] at hRR
    have F8 := hide (F7.out.call hRR hM8)
    have hO' : OwnU (g5 + 1) w8 x.v us := hO.mono hg5
    have hu5 : us.length ≤ 65535 := by rw [(rdUs_len _ _ _ _ HR.out).1]; omega
    have HRR : Hid (fldR b = if (takeS 32 sR).2 = 0 then some (⟨3, Upd.zero, nilS, rd8 st, 0, 0, hOf (takeA 32 sR), z32, z32, 0⟩, us) else none) := by
      show _ = _
      rw [HFC.out]
      dsimp only
      rw [hsR]
      by_cases h0 : fl = 0
      · rw [if_pos h0]
      · have h2 : sR.2 ≠ 0 := by rw [← hsR]; exact h0
        rw [if_neg h0, if_neg (by unfold takeS; rw [if_neg h2]; exact h2)]
    clear hsR hRR hM8 F7 HFC HR hg5 hO
    have c37 : w8.cell? ⟨g5, 37, none⟩ = some (.slice none 0 0) := F8.out.var.cell 37 (by omega)
    have f37 := F8.out.var.frozen 37
    obtain ⟨w9, hW9⟩ : ∃ y, w8.setCell ⟨g5, 37, none⟩ (.slice x.ad x.n x.c) = y := ⟨_, rfl⟩
    have F9 : Hid (FD w p g5 sR ⟨3, Upd.zero, x, rd8 st, 0, 0, z32, z32, z32, 0⟩ w9) := by show FD _ _ _ _ _ _; rw [← hW9]; exact F8.out.cell 37 _ (F8.out.var.rUpds x)
    have O9 : Hid (OwnU (g5 + 1) w9 x.v us) := by
      show OwnU _ _ _ _
      rw [← hW9]
      exact hO'.same fun k hk => Below.heap_setCell w8 ⟨g5, 37, none⟩ _ k (by have := (hO'.lt k hk).1; show k ≠ g5; omega)
    clear F8 hO'
    go_upto_region 17 with (first | rw [hW9] | fail)
    try rw [hW9]
    clear c37 f37 hW9
    go_wp2_with fail
    refine (Cu.xHash p sR _ F9.out.cr).mono ?_
    rintro e w10 ⟨rfl, hCq, hMq⟩
    have G10 := hide (F9.out.call hCq hMq)
    obtain ⟨w11, hW11⟩ : ∃ y, w10.setRow g5 (tabv (Rc.v ⟨3, Upd.zero, x, rd8 st, 0, 0, hOf (takeA 32 sR), z32, z32, 0⟩) 138) = y := ⟨_, rfl⟩
    have F11 : Hid (FD w p g5 (takeS 32 sR) ⟨3, Upd.zero, x, rd8 st, 0, 0, hOf (takeA 32 sR), z32, z32, 0⟩ w11) := by show FD _ _ _ _ _ _; rw [← hW11]; exact G10.out.row
    have hpo := F9.out.ord
    have O10 : OwnU (g5 + 1) w10 x.v us := O9.out.same fun k hk => hMq.block k (O9.out.lt k hk).2 (by have := (O9.out.lt k hk).1; omega)
    have O11 : Hid (OwnU (g5 + 1) w11 x.v us) := by show OwnU _ _ _ _; rw [← hW11]; exact O10.same fun k hk => setRow_other _ _ _ _ (by have := (O10.lt k hk).1; omega)
    clear O9 O10
    clear hCq hMq F9
    go_upto_region 26 with (first | rw [hW11] | refine wpList_store_part rfl 25 _ _ rfl rfl g5 41 (bv (hOf (takeA 32 sR))) 32 rfl rfl 38 _ 138 G10.out.var (by omega) info26 (fun i _ => rfl) _ (splice_sig _ _) ?_ | fail)
    try rw [hW11]
    clear hW11 G10
    have OT : Hid (OwnU (w.heap.size + 1) w11 x.v us) := O11.out.mono (by omega)
    obtain ⟨r0, hr0⟩ : ∃ z : Rc, z = ⟨3, Upd.zero, nilS, rd8 st, 0, 0, hOf (takeA 32 sR), z32, z32, 0⟩ := ⟨_, rfl⟩
    obtain ⟨sf, hsf⟩ : ∃ z, takeS 32 sR = z := ⟨_, rfl⟩
    have FT : Hid (FD w p g5 sf (setU r0 x) w11) := by show FD _ _ _ _ _ _; rw [hr0, ← hsf]; exact F11.out
    rw [hsf, ← hr0] at HRR
    clear F11 O11 hr0 hsf hpo
    have hxn : x.n = us.length := (OwnU.sl OT.out).1.symm
    have WR := hide (dwrite_any (setU r0 x) us hxn.symm (by show x.n ≤ _; omega) w11 (OwnU.sl OT.out).2.1)
    have HVX : Hid (validR (setU r0 x) us = validR (setU r0 (lenS us)) us) := validR_sl r0 x (lenS us) us hxn
    have HBX : Hid (bytesR (setU r0 x) us = bytesR (setU r0 (lenS us)) us) := bytesR_sl r0 x (lenS us) us hxn
    cases hv : validR (setU r0 (lenS us)) us with
    | false =>
      rw [show wrS (setU r0 x) us = nilB by unfold wrS; rw [HVX.out, hv]; rfl, show wrE (setU r0 x) us = 170 by unfold wrE; rw [HVX.out, hv]; rfl] at WR
      have HX : Hid (rdOf (fldR b) = none) := by
        show _ = _
        rw [HRR.out]
        by_cases hq : sf.2 = 0
        · rw [if_pos hq]; unfold rdOf; dsimp only; rw [hv]; rfl
        · rw [if_neg hq]; rfl
      clear HVX HBX HRR hv
      go_wp2_with (first | refine wpW_load_at 38 _ rfl (g5) (0) (by rfl) (by rfl) _ 138 _ (FT.out.var.at_ 0 (by omega) (fun i hi => by rw [Nat.zero_add])) Tryz.underlying38 rfl infoRc ?_ | fail)
      refine WR.out.mono ?_
      rintro e wB ⟨rfl, hbB⟩
      have FB := hide (FT.out.low hbB)
      by_cases hs : sf.2 = 0
      · have hq : (sf.2 != 0) = false := by rw [hs]; rfl
        clear hs hbB WR FT
        have XE := hide (Cu.xErr p sf wB FB.out.cr)
        go_wp2_with fail
        refine XE.out.mono ?_
        rintro e wy ⟨rfl, rfl⟩
        clear XE
        have K8 := hide FB.out.res
        have g8 := FB.out.bel
        clear FB
        go_wp2_with (first | refine wpW_build (by rfl) 38 #[] rfl [] (by first | rfl | (simp [Act.eval, Act.put]; done)) _ builtRZ ?_ | refine wpList_storeRc rfl _ _ rfl rfl (w.heap.size) (Rc.zero) rfl rfl _ K8.out ?_ | fail)
        (try simp only [Exit.inBlock, Exit.then])
        exact bodyPost_ret (resRc3 _ w.heap.size _ _ (.int .i64 0) (.int .i64 170) 2 3 4 (K8.out.row _ Rc.zero.v rfl) rfl rfl rfl _ rfl) rfl ⟨by rw [HX.out]; rfl, below_setRow g8 (Nat.le_refl _) _⟩
      · have hq : (sf.2 != 0) = true := bne_iff_ne.2 hs
        clear hs hbB WR FT
        have XE := hide (Cu.xErr p sf wB FB.out.cr)
        go_wp2_with fail
        refine XE.out.mono ?_
        rintro e wy ⟨rfl, rfl⟩
        clear XE
        have K8 := hide FB.out.res
        have g8 := FB.out.bel
        clear FB
        go_wp2_with (first | refine wpW_build (by rfl) 38 #[] rfl [] (by first | rfl | (simp [Act.eval, Act.put]; done)) _ builtRZ ?_ | refine wpList_storeRc rfl _ _ rfl rfl (w.heap.size) (Rc.zero) rfl rfl _ K8.out ?_ | fail)
        (try simp only [Exit.inBlock, Exit.then])
        exact bodyPost_ret (resRc3 _ w.heap.size _ _ (.int .i64 0) (.int .i64 170) 2 3 4 (K8.out.row _ Rc.zero.v rfl) rfl rfl rfl _ rfl) rfl ⟨by rw [HX.out]; rfl, below_setRow g8 (Nat.le_refl _) _⟩
    | true =>
      have hbl := bytesR_len hv rfl
      obtain ⟨N, hN⟩ : ∃ N, (bytesR (setU r0 (lenS us)) us).length = N := ⟨_, rfl⟩
      rw [hN] at hbl
      rw [show wrS (setU r0 x) us = ofL (bytesR (setU r0 (lenS us)) us) by unfold wrS; rw [if_pos (by rw [HVX.out, hv]), HBX.out], show wrE (setU r0 x) us = 0 by unfold wrE; rw [if_pos (by rw [HVX.out, hv])]] at WR
      obtain ⟨t, ht⟩ : ∃ t, ofL (bytesR (setU r0 (lenS us)) us) = t := ⟨_, rfl⟩
      have hts : t.size = N := by rw [← ht, Cu.ofL_size]; exact hN
      rw [ht] at WR
      by_cases hs : sf.2 = 0
      · have HX : Hid (rdOf (fldR b) = some (r0, us, N)) := by show _ = _; rw [HRR.out, if_pos hs]; unfold rdOf; dsimp only; rw [if_pos hv, hN]
        have hq : (sf.2 != 0) = false := by rw [hs]; rfl
        clear HVX HBX HRR hv ht hN
        go_wp2_with (first | refine wpW_load_at 38 _ rfl (g5) (0) (by rfl) (by rfl) _ 138 _ (FT.out.var.at_ 0 (by omega) (fun i hi => by rw [Nat.zero_add])) Tryz.underlying38 rfl infoRc ?_ | fail)
        refine WR.out.mono ?_
        rintro e wB ⟨rfl, hbB⟩
        have FB := hide (FT.out.low hbB)
        have OB : Hid (OwnU (w.heap.size + 1) wB x.v us) := OT.out.below hbB (Nat.le_refl _)
        clear hs hbB WR FT OT
        have XE := hide (Cu.xErr p sf wB FB.out.cr)
        go_wp2_with fail
        refine XE.out.mono ?_
        rintro e wy ⟨rfl, rfl⟩
        clear XE
        have K8 := hide FB.out.res
        have Q8 := hide FB.out.var
        have g8 := FB.out.bel
        clear FB
        go_wp2_with (first | refine wpW_load_at 38 _ rfl (g5) (0) (by rfl) (by rfl) _ 138 _ (Q8.out.at_ 0 (by omega) (fun i hi => by rw [Nat.zero_add])) Tryz.underlying38 rfl infoRc ?_ | refine wpList_storeRc rfl _ _ rfl rfl (w.heap.size) (setU r0 x) rfl rfl _ K8.out ?_ | fail)
        (try simp only [Exit.inBlock, Exit.then])
        exact bodyPost_ret (resRc3 _ w.heap.size _ _ (.int .i64 (N : Int)) (.int .i64 0) 2 3 4 (K8.out.row _ (Rc.v (setU r0 x)) rfl) rfl (by first | rfl | (rw [← hts]; rfl)) rfl _ rfl) rfl ⟨by rw [HX.out]; exact ⟨x, rfl, (OB.out.same fun k hk => setRow_other _ _ _ _ (by have := (OB.out.lt k hk).1; omega)).mono (by omega)⟩, below_setRow g8 (Nat.le_refl _) _⟩
      · have HX : Hid (rdOf (fldR b) = none) := by show _ = _; rw [HRR.out, if_neg hs]; rfl
        have hq : (sf.2 != 0) = true := bne_iff_ne.2 hs
        clear HVX HBX HRR hv ht hN
        go_wp2_with (first | refine wpW_load_at 38 _ rfl (g5) (0) (by rfl) (by rfl) _ 138 _ (FT.out.var.at_ 0 (by omega) (fun i hi => by rw [Nat.zero_add])) Tryz.underlying38 rfl infoRc ?_ | fail)
        refine WR.out.mono ?_
        rintro e wB ⟨rfl, hbB⟩
        have FB := hide (FT.out.low hbB)
        clear hs hbB WR FT
        have XE := hide (Cu.xErr p sf wB FB.out.cr)
        go_wp2_with fail
        refine XE.out.mono ?_
        rintro e wy ⟨rfl, rfl⟩
        clear XE
        have K8 := hide FB.out.res
        have g8 := FB.out.bel
        clear FB
        go_wp2_with (first | refine wpW_build (by rfl) 38 #[] rfl [] (by first | rfl | (simp [Act.eval, Act.put]; done)) _ builtRZ ?_ | refine wpList_storeRc rfl _ _ rfl rfl (w.heap.size) (Rc.zero) rfl rfl _ K8.out ?_ | fail)
        (try simp only [Exit.inBlock, Exit.then])
        exact bodyPost_ret (resRc3 _ w.heap.size _ _ (.int .i64 0) (.int .i64 170) 2 3 4 (K8.out.row _ Rc.zero.v rfl) rfl rfl rfl _ rfl) rfl ⟨by rw [HX.out]; rfl, below_setRow g8 (Nat.le_refl _) _⟩
end Go.Proofs.YtlohfoggcdaeiaaGreat
/-
  The document's Read of a record, kind 4 (printed by gen_r33.py).
-/
namespace Go.Proofs.YtlohfoggcdaeiaaGreat
open Go.RowKit S
set_option linter.unusedVariables false
set_option linter.unusedSimpArgs false
open Cu (nb be hl ofL CW Mw CR Mr RS takeS takeA hOf nil8 doneS)
set_option maxRecDepth 100000 in
set_option maxHeartbeats 40000000 in
theorem dread_4 (b : ByteArray) (w : World) (hb : b.size ≤ 140737490000000) (hk : Cu.num 1 (b, 0) = 4) : Calls Tryz.prog 22 #[.string b] w fun e w' => RdP w.heap.size (rdOf (fldR b)) e w' ∧ Below w.heap.size w w' := by
  obtain ⟨w1, hW1⟩ : ∃ w1, w.alloc (.cells Tryz.zeroCells38 38) = w1 := ⟨_, rfl⟩
  have r1 : Has w1 w.heap.size 38 Rc.zero.v 138 := by rw [← hW1, zeroRc]; exact Has.new w 38 Rc.zero.v 138 _ rfl
  have b1 : Below w.heap.size w w1 := by rw [← hW1]; exact (Below.refl w.heap.size w).alloc (Nat.le_refl _) _
  go_enter Tryz.func22, Tryz.ntmps22
  go_wp2_with fail
  refine (Cu.xOpen b _).mono ?_
  rintro e w2 ⟨rfl, hC2, hb2, hs2⟩
  obtain ⟨p, hp⟩ : ∃ p, w1.heap.size = p := ⟨_, rfl⟩
  rw [hp] at hC2 ⊢
  have hgp : w.heap.size < p := by rw [← hp]; exact r1.lt
  have q1 := r1.below hb2 r1.lt
  have g2 : Below w.heap.size w w2 := b1.trans (hb2.mono b1.size)
  clear hW1 r1 b1 hb2 hs2 hp
  go_wp2_with fail
  refine (Cu.xU8 p (b, 0) _ hC2).mono ?_
  rintro e w3 ⟨rfl, hC3, hM3⟩
  have q3 := q1.mr hM3 (by omega)
  have g3 : Below w.heap.size w w3 := g2.trans (hM3.below (by omega) g2.size)
  obtain ⟨kn, hkn⟩ : ∃ kn, Cu.num 1 (b, 0) = kn := ⟨_, rfl⟩
  have hkl : kn < 256 := by rw [← hkn]; exact num1_le _
  rw [show be (takeA 1 (b, 0)).data.toList = kn from hkn]
  obtain ⟨st, hst⟩ : ∃ st, takeS 1 (b, 0) = st := ⟨_, rfl⟩
  rw [hst] at hC3
  have KC := hide (conv8i kn hkl)
  obtain ⟨w4, w5, hW4, q4, hW5, q5, b5⟩ := newRc w3 ⟨(kn : Int), Upd.zero, nilS, 0, 0, 0, z32, z32, z32, 0⟩
  have Q4 := hide q4
  have F5 : Hid (FD w p w3.heap.size st ⟨(kn : Int), Upd.zero, nilS, 0, 0, 0, z32, z32, z32, 0⟩ w5) := ⟨hC3.same (b5.block p hC3.lt), q3.below b5 q3.lt, q5, g3.trans (b5.mono g3.size), hgp, hC3.lt⟩
  have HKN := hide hkn
  have HST := hide hst
  rw [hkn] at hk
  have HK := hide hk
  clear hk hkn hst hC2 hC3 hM3 q1 q3 g2 g3 q4 q5 b5
  go_upto_region 3 with (first | rw [hW5] | refine Cu.wpList_conv rfl _ _ _ rfl .u8 .i64 (kn : Int) (kn : Int) (by rfl) (KC.out _) ?_ | refine wpW_build (by rfl) 38 #[(0, .tmp 17)] rfl [(0, .int .i64 (kn : Int))] (by first | rfl | (simp [Act.eval, Act.put]; done)) _ (builtRK (kn : Int)) ?_ | refine wpList_storeRc rfl _ _ rfl rfl (w3.heap.size) (⟨(kn : Int), Upd.zero, nilS, 0, 0, 0, z32, z32, z32, 0⟩) rfl rfl _ Q4.out ?_ | fail)
  try rw [hW5]
  generalize hg5 : w3.heap.size = g5 at F5 ⊢
  clear hW4 hW5 hg5 Q4 KC
  obtain ⟨K, hKn⟩ : ∃ K : Int, (kn : Int) = K := ⟨_, rfl⟩
  rw [hKn] at F5 ⊢
  have hK : K = 4 := by have := HK.out; omega
  subst hK
  clear hKn hkl
  have c0 : w5.cell? ⟨g5, 0, none⟩ = some (.int .i64 4) := F5.out.var.cell 0 (by omega)
  go_wp2_with fail
  refine (Cu.xI64 p st _ F5.out.cr (rd8 st) rfl).mono ?_
  rintro e w6 ⟨rfl, hCq, hMq⟩
  have G6 := F5.out.call hCq hMq
  have c38 : w6.cell? ⟨g5, 38, none⟩ = some (.int .i64 0) := G6.var.cell 38 (by omega)
  have f38 := G6.var.frozen 38
  obtain ⟨w7, hW7⟩ : ∃ y, w6.setCell ⟨g5, 38, none⟩ (.int .i64 (rd8 st)) = y := ⟨_, rfl⟩
  have F7 : Hid (FD w p g5 (takeS 8 st) ⟨4, Upd.zero, nilS, rd8 st, 0, 0, z32, z32, z32, 0⟩ w7) := by show FD _ _ _ _ _ _; rw [← hW7]; exact G6.cell 38 _ (G6.var.rIdx _)
  clear hCq hMq F5 G6 c0
  go_upto_region 20 with (first | rw [hW7] | fail)
  try rw [hW7]
  clear c38 f38 hW7
  go_wp2_with fail
  refine (Cu.xHash p (takeS 8 st) _ F7.out.cr).mono ?_
  rintro e w8 ⟨rfl, hCq, hMq⟩
  have G8 := hide (F7.out.call hCq hMq)
  obtain ⟨w9, hW9⟩ : ∃ y, w8.setRow g5 (tabv (Rc.v ⟨4, Upd.zero, nilS, rd8 st, 0, 0, z32, hOf (takeA 32 (takeS 8 st)), z32, 0⟩) 138) = y := ⟨_, rfl⟩
  have F9 : Hid (FD w p g5 (takeS 32 (takeS 8 st)) ⟨4, Upd.zero, nilS, rd8 st, 0, 0, z32, hOf (takeA 32 (takeS 8 st)), z32, 0⟩ w9) := by show FD _ _ _ _ _ _; rw [← hW9]; exact G8.out.row
  clear hCq hMq F7
  go_upto_region 21 with (first | rw [hW9] | refine wpList_store_part rfl 25 _ _ rfl rfl g5 73 (bv (hOf (takeA 32 (takeS 8 st)))) 32 rfl rfl 38 _ 138 G8.out.var (by omega) info26 (fun i _ => rfl) _ (splice_sec _ _) ?_ | fail)
  try rw [hW9]
  clear hW9 G8
  go_wp2_with fail
  refine (Cu.xHash p (takeS 32 (takeS 8 st)) _ F9.out.cr).mono ?_
  rintro e w10 ⟨rfl, hCq, hMq⟩
  have G10 := hide (F9.out.call hCq hMq)
  obtain ⟨w11, hW11⟩ : ∃ y, w10.setRow g5 (tabv (Rc.v ⟨4, Upd.zero, nilS, rd8 st, 0, 0, z32, hOf (takeA 32 (takeS 8 st)), hOf (takeA 32 (takeS 32 (takeS 8 st))), 0⟩) 138) = y := ⟨_, rfl⟩
  have F11 : Hid (FD w p g5 (takeS 32 (takeS 32 (takeS 8 st))) ⟨4, Upd.zero, nilS, rd8 st, 0, 0, z32, hOf (takeA 32 (takeS 8 st)), hOf (takeA 32 (takeS 32 (takeS 8 st))), 0⟩ w11) := by show FD _ _ _ _ _ _; rw [← hW11]; exact G10.out.row
  clear hCq hMq F9
  go_upto_region 26 with (first | rw [hW11] | refine wpList_store_part rfl 25 _ _ rfl rfl g5 105 (bv (hOf (takeA 32 (takeS 32 (takeS 8 st))))) 32 rfl rfl 38 _ 138 G10.out.var (by omega) info26 (fun i _ => rfl) _ (splice_pt _ _) ?_ | fail)
  try rw [hW11]
  clear hW11 G10
  have OT : Hid (OwnU (w.heap.size + 1) w11 nilS.v []) := OwnU.nil _ _
  have HRR : Hid (fldR b = if (takeS 32 (takeS 32 (takeS 8 st))).2 = 0 then some (⟨4, Upd.zero, nilS, rd8 st, 0, 0, z32, hOf (takeA 32 (takeS 8 st)), hOf (takeA 32 (takeS 32 (takeS 8 st))), 0⟩, []) else none) := by
    show _ = _
    have hk := HK.out
    unfold fldR
    rw [HKN.out, if_neg (by omega), if_neg (by omega)]
    unfold fldO fldA
    rw [HKN.out, HST.out]
    have hKv : (kn : Int) = 4 := by omega
    rw [show (fldK (kn : Int) st) = (⟨4, Upd.zero, nilS, rd8 st, 0, 0, z32, hOf (takeA 32 (takeS 8 st)), hOf (takeA 32 (takeS 32 (takeS 8 st))), 0⟩, takeS 32 (takeS 32 (takeS 8 st))) by rw [hKv]; rfl]
  obtain ⟨r0, hr0⟩ : ∃ z : Rc, z = ⟨4, Upd.zero, nilS, rd8 st, 0, 0, z32, hOf (takeA 32 (takeS 8 st)), hOf (takeA 32 (takeS 32 (takeS 8 st))), 0⟩ := ⟨_, rfl⟩
  obtain ⟨sf, hsf⟩ : ∃ z, takeS 32 (takeS 32 (takeS 8 st)) = z := ⟨_, rfl⟩
  obtain ⟨x, hx⟩ : ∃ z, nilS = z := ⟨_, rfl⟩
  obtain ⟨us, hus⟩ : ∃ z : List Upd, [] = z := ⟨_, rfl⟩
  have FT : Hid (FD w p g5 sf (setU r0 x) w11) := by show FD _ _ _ _ _ _; rw [hr0, ← hx, ← hsf]; exact F11.out
  have hu5 : us.length ≤ 65535 := by rw [← hus]; exact Nat.zero_le _
  rw [hx, hus] at OT
  rw [hsf, ← hr0, hus] at HRR
  clear F11 hr0 hsf hx hus HKN HST HK
  have hxn : x.n = us.length := (OwnU.sl OT.out).1.symm
  have WR := hide (dwrite_any (setU r0 x) us hxn.symm (by show x.n ≤ _; omega) w11 (OwnU.sl OT.out).2.1)
  have HVX : Hid (validR (setU r0 x) us = validR (setU r0 (lenS us)) us) := validR_sl r0 x (lenS us) us hxn
  have HBX : Hid (bytesR (setU r0 x) us = bytesR (setU r0 (lenS us)) us) := bytesR_sl r0 x (lenS us) us hxn
  cases hv : validR (setU r0 (lenS us)) us with
  | false =>
    rw [show wrS (setU r0 x) us = nilB by unfold wrS; rw [HVX.out, hv]; rfl, show wrE (setU r0 x) us = 170 by unfold wrE; rw [HVX.out, hv]; rfl] at WR
    have HX : Hid (rdOf (fldR b) = none) := by
      show _ = _
      rw [HRR.out]
      by_cases hq : sf.2 = 0
      · rw [if_pos hq]; unfold rdOf; dsimp only; rw [hv]; rfl
      · rw [if_neg hq]; rfl
    clear HVX HBX HRR hv
    go_wp2_with (first | refine wpW_load_at 38 _ rfl (g5) (0) (by rfl) (by rfl) _ 138 _ (FT.out.var.at_ 0 (by omega) (fun i hi => by rw [Nat.zero_add])) Tryz.underlying38 rfl infoRc ?_ | fail)
    refine WR.out.mono ?_
    rintro e wB ⟨rfl, hbB⟩
    have FB := hide (FT.out.low hbB)
    by_cases hs : sf.2 = 0
    · have hq : (sf.2 != 0) = false := by rw [hs]; rfl
      clear hs hbB WR FT
      have XE := hide (Cu.xErr p sf wB FB.out.cr)
      go_wp2_with fail
      refine XE.out.mono ?_
      rintro e wy ⟨rfl, rfl⟩
      clear XE
      have K8 := hide FB.out.res
      have g8 := FB.out.bel
      clear FB
      go_wp2_with (first | refine wpW_build (by rfl) 38 #[] rfl [] (by first | rfl | (simp [Act.eval, Act.put]; done)) _ builtRZ ?_ | refine wpList_storeRc rfl _ _ rfl rfl (w.heap.size) (Rc.zero) rfl rfl _ K8.out ?_ | fail)
      (try simp only [Exit.inBlock, Exit.then])
      exact bodyPost_ret (resRc3 _ w.heap.size _ _ (.int .i64 0) (.int .i64 170) 2 3 4 (K8.out.row _ Rc.zero.v rfl) rfl rfl rfl _ rfl) rfl ⟨by rw [HX.out]; rfl, below_setRow g8 (Nat.le_refl _) _⟩
    · have hq : (sf.2 != 0) = true := bne_iff_ne.2 hs
      clear hs hbB WR FT
      have XE := hide (Cu.xErr p sf wB FB.out.cr)
      go_wp2_with fail
      refine XE.out.mono ?_
      rintro e wy ⟨rfl, rfl⟩
      clear XE
      have K8 := hide FB.out.res
      have g8 := FB.out.bel
      clear FB
      go_wp2_with (first | refine wpW_build (by rfl) 38 #[] rfl [] (by first | rfl | (simp [Act.eval, Act.put]; done)) _ builtRZ ?_ | refine wpList_storeRc rfl _ _ rfl rfl (w.heap.size) (Rc.zero) rfl rfl _ K8.out ?_ | fail)
      (try simp only [Exit.inBlock, Exit.then])
      exact bodyPost_ret (resRc3 _ w.heap.size _ _ (.int .i64 0) (.int .i64 170) 2 3 4 (K8.out.row _ Rc.zero.v rfl) rfl rfl rfl _ rfl) rfl ⟨by rw [HX.out]; rfl, below_setRow g8 (Nat.le_refl _) _⟩
  | true =>
    have hbl := bytesR_len hv rfl
    obtain ⟨N, hN⟩ : ∃ N, (bytesR (setU r0 (lenS us)) us).length = N := ⟨_, rfl⟩
    rw [hN] at hbl
    rw [show wrS (setU r0 x) us = ofL (bytesR (setU r0 (lenS us)) us) by unfold wrS; rw [if_pos (by rw [HVX.out, hv]), HBX.out], show wrE (setU r0 x) us = 0 by unfold wrE; rw [if_pos (by rw [HVX.out, hv])]] at WR
    obtain ⟨t, ht⟩ : ∃ t, ofL (bytesR (setU r0 (lenS us)) us) = t := ⟨_, rfl⟩
    have hts : t.size = N := by rw [← ht, Cu.ofL_size]; exact hN
    rw [ht] at WR
    by_cases hs : sf.2 = 0
    · have HX : Hid (rdOf (fldR b) = some (r0, us, N)) := by show _ = _; rw [HRR.out, if_pos hs]; unfold rdOf; dsimp only; rw [if_pos hv, hN]
      have hq : (sf.2 != 0) = false := by rw [hs]; rfl
      clear HVX HBX HRR hv ht hN
      go_wp2_with (first | refine wpW_load_at 38 _ rfl (g5) (0) (by rfl) (by rfl) _ 138 _ (FT.out.var.at_ 0 (by omega) (fun i hi => by rw [Nat.zero_add])) Tryz.underlying38 rfl infoRc ?_ | fail)
      refine WR.out.mono ?_
      rintro e wB ⟨rfl, hbB⟩
      have FB := hide (FT.out.low hbB)
      have OB : Hid (OwnU (w.heap.size + 1) wB x.v us) := OT.out.below hbB (Nat.le_refl _)
      clear hs hbB WR FT OT
      have XE := hide (Cu.xErr p sf wB FB.out.cr)
      go_wp2_with fail
      refine XE.out.mono ?_
      rintro e wy ⟨rfl, rfl⟩
      clear XE
      have K8 := hide FB.out.res
      have Q8 := hide FB.out.var
      have g8 := FB.out.bel
      clear FB
      go_wp2_with (first | refine wpW_load_at 38 _ rfl (g5) (0) (by rfl) (by rfl) _ 138 _ (Q8.out.at_ 0 (by omega) (fun i hi => by rw [Nat.zero_add])) Tryz.underlying38 rfl infoRc ?_ | refine wpList_storeRc rfl _ _ rfl rfl (w.heap.size) (setU r0 x) rfl rfl _ K8.out ?_ | fail)
      (try simp only [Exit.inBlock, Exit.then])
      exact bodyPost_ret (resRc3 _ w.heap.size _ _ (.int .i64 (N : Int)) (.int .i64 0) 2 3 4 (K8.out.row _ (Rc.v (setU r0 x)) rfl) rfl (by first | rfl | (rw [← hts]; rfl)) rfl _ rfl) rfl ⟨by rw [HX.out]; exact ⟨x, rfl, (OB.out.same fun k hk => setRow_other _ _ _ _ (by have := (OB.out.lt k hk).1; omega)).mono (by omega)⟩, below_setRow g8 (Nat.le_refl _) _⟩
    · have HX : Hid (rdOf (fldR b) = none) := by show _ = _; rw [HRR.out, if_neg hs]; rfl
      have hq : (sf.2 != 0) = true := bne_iff_ne.2 hs
      clear HVX HBX HRR hv ht hN
      go_wp2_with (first | refine wpW_load_at 38 _ rfl (g5) (0) (by rfl) (by rfl) _ 138 _ (FT.out.var.at_ 0 (by omega) (fun i hi => by rw [Nat.zero_add])) Tryz.underlying38 rfl infoRc ?_ | fail)
      refine WR.out.mono ?_
      rintro e wB ⟨rfl, hbB⟩
      have FB := hide (FT.out.low hbB)
      clear hs hbB WR FT
      have XE := hide (Cu.xErr p sf wB FB.out.cr)
      go_wp2_with fail
      refine XE.out.mono ?_
      rintro e wy ⟨rfl, rfl⟩
      clear XE
      have K8 := hide FB.out.res
      have g8 := FB.out.bel
      clear FB
      go_wp2_with (first | refine wpW_build (by rfl) 38 #[] rfl [] (by first | rfl | (simp [Act.eval, Act.put]; done)) _ builtRZ ?_ | refine wpList_storeRc rfl _ _ rfl rfl (w.heap.size) (Rc.zero) rfl rfl _ K8.out ?_ | fail)
      (try simp only [Exit.inBlock, Exit.then])
      exact bodyPost_ret (resRc3 _ w.heap.size _ _ (.int .i64 0) (.int .i64 170) 2 3 4 (K8.out.row _ Rc.zero.v rfl) rfl rfl rfl _ rfl) rfl ⟨by rw [HX.out]; rfl, below_setRow g8 (Nat.le_refl _) _⟩
end Go.Proofs.YtlohfoggcdaeiaaGreat
