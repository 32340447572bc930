/-
  WalAgain's walk (printed by gen_again.py).
-/
import Derived.Test.YtjfbdnogkbhciaaGreatDoorWAgainS
namespace Go.Proofs.YtjfbdnogkbhciaaGreatDoor
open Go.RowKit Go.Maps
set_option linter.unusedVariables false
set_option linter.unusedSimpArgs false
theorem open_err {A : AD} {nm : ByteArray} {sz first : Int} (h : (openA A nm sz first).err ≠ 0) : ∃ c A', c ≠ 0 ∧ openA A nm sz first = ⟨none, [], c, A'⟩ := by
  unfold openA at h ⊢
  split
  · exact ⟨1, A, by decide, rfl⟩
  · rename_i h1
    rw [if_neg h1] at h
    split
    · exact ⟨9, A, by decide, rfl⟩
    · rename_i h2
      rw [if_neg h2] at h
      simp only at h ⊢
      split
      · rename_i h3
        exact ⟨_, _, h3, rfl⟩
      · rename_i h3
        rw [if_neg h3] at h
        exact absurd rfl h
set_option maxRecDepth 100000 in
set_option maxHeartbeats 8000000 in
theorem again_walk {B : Nat} (w : World) (he0 : Env B w) (hB : B ≤ w.heap.size) (ad : Option Addr) (cap : Nat) (os : List WOp) (h : WScript w.heap.size w ad os) (nm : ByteArray) (hnm : nm.size ≤ 140737488355328) (sz from_ by_ : Int) (hs : -9223372036854775808 ≤ sz ∧ sz ≤ 9223372036854775807) (hf : -9223372036854775808 ≤ from_ ∧ from_ ≤ 9223372036854775807) (hy : -9223372036854775808 ≤ by_ ∧ by_ ≤ 9223372036854775807) :
    Calls Tryz.prog 3 #[.slice ad os.length cap, .string nm, .int .i64 sz, .int .i64 from_, .int .i64 by_] w fun e w' => e = .returned (.bool true) ∧ Below w.heap.size w w' := by
  have he : Env w.heap.size w := ⟨he0.tab, he0.syn, he0.rng, Nat.le_trans he0.low hB⟩
  obtain ⟨b, hb⟩ : ∃ b, w.heap.size = b := ⟨_, rfl⟩
  rw [hb] at he h ⊢
  have hl0 : Lies b w [] := Lies.nil (Nat.le_of_eq hb.symm)
  have HENV := hide he
  have HNEW := hide (n_new hl0 1000000 (by decide) (by decide))
  have HSC := hide h
  have hlen := h.len
  unfold maxLen at hlen
  clear hl0 he he0 h
  go_enter Tryz.func3, Tryz.ntmps3
  go_wp2_with fail
  refine (HNEW.out).mono ?_
  rintro e w1 ⟨p, rfl, hl1, hb1⟩
  change Lies b w1 [.disk p (AD.fresh 1000000)] at hl1
  have HB1 := hide hb1
  have HL1 := hide hl1
  have HC1 := hide (wfirst_any w1 (HENV.out.below hb1) hl1.base)
  clear hl1 hb1
  go_wp2_with fail
  refine (HC1.out).mono ?_
  rintro e w2 ⟨rfl, hb2⟩
  have HL2 := hide (HL1.out.below hb2)
  have HB2 := hide (HB1.out.trans (hb2.mono HL1.out.base))
  clear hb2
  obtain ⟨n, hn⟩ : ∃ n, os.length = n := ⟨_, rfl⟩
  rw [hn] at hlen ⊢
  have HN := hide hn
  clear hn
  go_wp2
  go_loopw [13] (fun x wr => ∃ (k : Nat) (A : AD), k ≤ n ∧ x = .int .i64 (k : Int) ∧ A.pow = p0 ∧ Lies b wr [.disk p A] ∧ Below b w wr) (fun x _ => n - (intOf x).toNat)
  case atStart => exact ⟨0, AD.fresh 1000000, by omega, rfl, rfl, HL2.out, HB2.out⟩
  case round =>
    obtain ⟨k, A, hk, rfl, hp, hLr, hbr⟩ := hrel
    by_cases hlt : k < n
    · have dk : decide ((k : Int) < (n : Int)) = true := decide_eq_true (by omega)
      have hk0 : (0 : Int) ≤ (k : Int) := by omega
      have hk1 : (k : Int) < (n : Int) := by omega
      have hkl : k < os.length := by have := HN.out; omega
      obtain ⟨V0, hV0⟩ : ∃ x, wr.drew = x := ⟨_, rfl⟩
      have hv0 := hLr.same (w' := wr.drew) (Nat.le_refl _) (fun _ _ _ => rfl)
      rw [hV0] at hv0
      have hvb0 : Below b w V0 := by rw [← hV0]; exact hbr.drew
      obtain ⟨o, ho⟩ : ∃ o, os[k]'hkl = o := ⟨_, rfl⟩
      have hok := HSC.out.ok o (by rw [← ho]; exact List.getElem_mem hkl)
      have HCEL : Hid (∀ W, Below b w W → ∃ bb oo, ad = some ⟨bb, oo, none⟩ ∧ W.cell? ⟨bb, oo + k * 7, none⟩ = some (.int .i64 o.kind) ∧ W.cell? ⟨bb, oo + k * 7 + 1, none⟩ = some (.string o.text) ∧ W.cell? ⟨bb, oo + k * 7 + 2, none⟩ = some (.string o.name) ∧ W.cell? ⟨bb, oo + k * 7 + 3, none⟩ = some (.int .i64 o.at_)) := fun W hW => by
        obtain ⟨bb, oo, h1, h2, h3, h4, h5, _⟩ := (HSC.out.below hW).cells k hkl
        rw [ho] at h2 h3 h4 h5
        exact ⟨bb, oo, h1, h2, h3, h4, h5⟩
      obtain ⟨bb, oo, had, _, y1, y2, y3⟩ := HCEL.out V0 hvb0
      subst had
      have HCEL2 : Hid (∀ W, Below b w W → W.cell? ⟨bb, oo + k * 7, none⟩ = some (.int .i64 o.kind) ∧ W.cell? ⟨bb, oo + k * 7 + 1, none⟩ = some (.string o.text) ∧ W.cell? ⟨bb, oo + k * 7 + 2, none⟩ = some (.string o.name) ∧ W.cell? ⟨bb, oo + k * 7 + 3, none⟩ = some (.int .i64 o.at_)) := fun W hW => by
        obtain ⟨b2, o2, h1, h2⟩ := HCEL.out W hW
        cases h1
        exact h2
      have HW := hide (s_write hv0 (i := 0) rfl o.name hok.name o.at_ ⟨hok.a0, hok.a1⟩ o.text hok.text)
      have HV0 := hide hV0
      have HVB := hide hvb0
      have HP := hide hp
      have HOK := hide hok
      clear hLr hbr hv0 hvb0 hV0 hok hp HCEL ho
      go_wp2
      refine wp_region_noPanic ?_
      refine wp_region_held_drew (S := fun wx => wx.cell? ⟨bb, oo + k * 7 + 1, none⟩ = some (.string o.text) ∧ wx.cell? ⟨bb, oo + k * 7 + 2, none⟩ = some (.string o.name) ∧ wx.cell? ⟨bb, oo + k * 7 + 3, none⟩ = some (.int .i64 o.at_)) (by kernel_rfl) (by rw [HV0.out]; exact ⟨y1, y2, y3⟩) (fun hHeld => ?_)
      rw [HV0.out] at hHeld ⊢
      refine takeH 0 (some 49) (.pointer (some ⟨p, 0, none⟩)) rfl rfl (by kernel_rfl) (by kernel_rfl) (by kernel_rfl) (fun _ _ _ h => h) (by rfl) (fun w hw => by first | rfl | (go_simp; done) | (go_simp; rfl)) hHeld ?_
      simp only [Act.put, List.setIfInBounds_toArray, List.set_cons_zero, List.set_cons_succ]
      refine takeH 1 (some 50) (.slice (some ⟨bb, oo, none⟩) n cap) rfl rfl (by kernel_rfl) (by kernel_rfl) (by kernel_rfl) (fun _ _ _ h => h) (by rfl) (fun w hw => by first | rfl | (go_simp; done) | (go_simp; rfl)) hHeld ?_
      simp only [Act.put, List.setIfInBounds_toArray, List.set_cons_zero, List.set_cons_succ]
      refine takeH 2 (some 51) (.int .i64 (k : Int)) rfl rfl (by kernel_rfl) (by kernel_rfl) (by kernel_rfl) (fun _ _ _ h => h) (by rfl) (fun w hw => by first | rfl | (go_simp; done) | (go_simp; rfl)) hHeld ?_
      simp only [Act.put, List.setIfInBounds_toArray, List.set_cons_zero, List.set_cons_succ]
      refine takeH 3 (some 52) (.pointer (some ⟨bb, oo + k * 7, none⟩)) rfl rfl (by kernel_rfl) (by kernel_rfl) (by kernel_rfl) (fun _ _ _ h => h) (by rfl) (fun w hw => by first | rfl | (go_simp; done) | (go_simp; rfl) | (go_simp; intro hbad; exfalso; omega)) hHeld ?_
      simp only [Act.put, List.setIfInBounds_toArray, List.set_cons_zero, List.set_cons_succ]
      refine takeH 4 (some 53) (.pointer (some ⟨bb, oo + k * 7 + 2, none⟩)) rfl rfl (by kernel_rfl) (by kernel_rfl) (by kernel_rfl) (fun _ _ _ h => h) (by rfl) (fun w hw => by first | rfl | (go_simp; done) | (go_simp; rfl)) hHeld ?_
      simp only [Act.put, List.setIfInBounds_toArray, List.set_cons_zero, List.set_cons_succ]
      refine takeH 5 (some 54) (.string o.name) rfl rfl (by kernel_rfl) (by kernel_rfl) (by kernel_rfl) (fun _ _ _ h => h) (by rfl) (fun w hw => by obtain ⟨hw1, hw2, hw3⟩ := hw; first | rfl | (go_simp; done) | (go_simp; rfl)) hHeld ?_
      simp only [Act.put, List.setIfInBounds_toArray, List.set_cons_zero, List.set_cons_succ]
      refine takeH 6 (some 55) (.slice (some ⟨bb, oo, none⟩) n cap) rfl rfl (by kernel_rfl) (by kernel_rfl) (by kernel_rfl) (fun _ _ _ h => h) (by rfl) (fun w hw => by first | rfl | (go_simp; done) | (go_simp; rfl)) hHeld ?_
      simp only [Act.put, List.setIfInBounds_toArray, List.set_cons_zero, List.set_cons_succ]
      refine takeH 7 (some 56) (.int .i64 (k : Int)) rfl rfl (by kernel_rfl) (by kernel_rfl) (by kernel_rfl) (fun _ _ _ h => h) (by rfl) (fun w hw => by first | rfl | (go_simp; done) | (go_simp; rfl)) hHeld ?_
      simp only [Act.put, List.setIfInBounds_toArray, List.set_cons_zero, List.set_cons_succ]
      refine takeH 8 (some 57) (.pointer (some ⟨bb, oo + k * 7, none⟩)) rfl rfl (by kernel_rfl) (by kernel_rfl) (by kernel_rfl) (fun _ _ _ h => h) (by rfl) (fun w hw => by first | rfl | (go_simp; done) | (go_simp; rfl) | (go_simp; intro hbad; exfalso; omega)) hHeld ?_
      simp only [Act.put, List.setIfInBounds_toArray, List.set_cons_zero, List.set_cons_succ]
      refine takeH 9 (some 58) (.pointer (some ⟨bb, oo + k * 7 + 3, none⟩)) rfl rfl (by kernel_rfl) (by kernel_rfl) (by kernel_rfl) (fun _ _ _ h => h) (by rfl) (fun w hw => by first | rfl | (go_simp; done) | (go_simp; rfl)) hHeld ?_
      simp only [Act.put, List.setIfInBounds_toArray, List.set_cons_zero, List.set_cons_succ]
      refine takeH 10 (some 59) (.int .i64 o.at_) rfl rfl (by kernel_rfl) (by kernel_rfl) (by kernel_rfl) (fun _ _ _ h => h) (by rfl) (fun w hw => by obtain ⟨hw1, hw2, hw3⟩ := hw; first | rfl | (go_simp; done) | (go_simp; rfl)) hHeld ?_
      simp only [Act.put, List.setIfInBounds_toArray, List.set_cons_zero, List.set_cons_succ]
      refine takeH 11 (some 60) (.slice (some ⟨bb, oo, none⟩) n cap) rfl rfl (by kernel_rfl) (by kernel_rfl) (by kernel_rfl) (fun _ _ _ h => h) (by rfl) (fun w hw => by first | rfl | (go_simp; done) | (go_simp; rfl)) hHeld ?_
      simp only [Act.put, List.setIfInBounds_toArray, List.set_cons_zero, List.set_cons_succ]
      refine takeH 12 (some 61) (.int .i64 (k : Int)) rfl rfl (by kernel_rfl) (by kernel_rfl) (by kernel_rfl) (fun _ _ _ h => h) (by rfl) (fun w hw => by first | rfl | (go_simp; done) | (go_simp; rfl)) hHeld ?_
      simp only [Act.put, List.setIfInBounds_toArray, List.set_cons_zero, List.set_cons_succ]
      refine takeH 13 (some 62) (.pointer (some ⟨bb, oo + k * 7, none⟩)) rfl rfl (by kernel_rfl) (by kernel_rfl) (by kernel_rfl) (fun _ _ _ h => h) (by rfl) (fun w hw => by first | rfl | (go_simp; done) | (go_simp; rfl) | (go_simp; intro hbad; exfalso; omega)) hHeld ?_
      simp only [Act.put, List.setIfInBounds_toArray, List.set_cons_zero, List.set_cons_succ]
      refine takeH 14 (some 63) (.pointer (some ⟨bb, oo + k * 7 + 1, none⟩)) rfl rfl (by kernel_rfl) (by kernel_rfl) (by kernel_rfl) (fun _ _ _ h => h) (by rfl) (fun w hw => by first | rfl | (go_simp; done) | (go_simp; rfl)) hHeld ?_
      simp only [Act.put, List.setIfInBounds_toArray, List.set_cons_zero, List.set_cons_succ]
      refine takeH 15 (some 64) (.string o.text) rfl rfl (by kernel_rfl) (by kernel_rfl) (by kernel_rfl) (fun _ _ _ h => h) (by rfl) (fun w hw => by obtain ⟨hw1, hw2, hw3⟩ := hw; first | rfl | (go_simp; done) | (go_simp; rfl)) hHeld ?_
      simp only [Act.put, List.setIfInBounds_toArray, List.set_cons_zero, List.set_cons_succ]
      refine wpAnyH_ready (rs := [16]) (by kernel_rfl) (by simp) (AllReadyH.cons rfl (fun K hK => ?_) AllReadyH.nil)
      rw [if_pos (by rfl)]
      go_simp
      refine (HW.out).mono ?_
      rintro e W3 ⟨rfl, hl3, hb3⟩
      try go_wp2_with fail
      refine hK.out _ _ ((HCEL2.out W3 (HVB.out.trans hb3)).2) (fun hH => ?_)
      clear hK K hHeld
      have hHeld := hH
      clear hH
      refine ⟨by kernel_rfl, ?_⟩
      refine NoPanic.normal ?_
      change Lies b W3 [.disk p (A.write o.name.data.toList o.at_ o.text.data.toList).2] at hl3
      have hbb3 := HVB.out.trans hb3
      obtain ⟨x0, x1, x2, x3⟩ := HCEL2.out W3 hbb3
      have hp3 := write_calm HP.out o.name.data.toList o.at_ o.text.data.toList
      obtain ⟨A3, hA3⟩ : ∃ x, (A.write o.name.data.toList o.at_ o.text.data.toList).2 = x := ⟨_, rfl⟩
      rw [hA3] at hl3 hp3
      have HL3 := hide hl3
      have HBB3 := hide hbb3
      have HP3 := hide hp3
      have HS := hide (s_sync hl3 (i := 0) rfl o.name HOK.out.name)
      clear hl3 hb3 hbb3 hp3 hHeld hA3 HW
      obtain ⟨z, hz⟩ : ∃ z, bits .and .i64 o.kind 1 = z := ⟨_, rfl⟩
      by_cases hz1 : z = 1
      · subst hz1
        go_wp2_with fail
        refine (HS.out).mono ?_
        rintro e W4 ⟨rfl, hl4, hb4⟩
        change Lies b W4 [.disk p (A3.sync o.name.data.toList).2] at hl4
        have HL4 := hide hl4
        have HBB4 := hide (HBB3.out.trans hb4)
        have HP4 := hide (sync_keeps_calm HP3.out o.name.data.toList)
        clear hl4 hb4
        go_wp2
        go_roundw
        case rel => exact ⟨k + 1, _, by omega, by go_num, HP4.out, HL4.out, HBB4.out⟩
        case measure => simp [intOf]; omega
      · have q1 : (z == 1) = false := by simpa using hz1
        go_wp2
        go_roundw
        case rel => exact ⟨k + 1, A3, by omega, by go_num, HP3.out, HL3.out, HBB3.out⟩
        case measure => simp [intOf]; omega
    · have hkn : k = n := by omega
      subst hkn
      have dk : decide ((k : Int) < (k : Int)) = false := decide_eq_false (by omega)
      have HLR := hide hLr
      have HBR := hide hbr
      have HPA := hide hp
      clear hLr hbr hp
      by_cases herr : (openA A nm sz from_).err = 0
      · have hok := HLR.out.ok (i := 0) rfl
        obtain ⟨A9, nx, R, hargs, hO, hsegs, hnx, hr1, hr2, hT9, hcut, hns9, hpl⟩ := open_first HPA.out hok herr
        obtain ⟨ks, hks⟩ : ∃ x, R.pay.drop (from_ - (nx - (R.pay.length : Int))).toNat = x := ⟨_, rfl⟩
        obtain ⟨G1, hG1⟩ : ∃ x, (⟨nm, sz, R.segs, nx, false⟩ : AL) = x := ⟨_, rfl⟩
        rw [hks, hG1] at hO
        obtain ⟨kn, hkn⟩ : ∃ x, ks.length = x := ⟨_, rfl⟩
        have hkx : from_ + (kn : Int) = nx := by rw [← hkn, ← hks, List.length_drop]; omega
        have hkm2 : kn ≤ 300000 := by rw [← hkn, ← hks, List.length_drop]; omega
        have HC := hide (open_some HLR.out (i := 0) rfl (HENV.out.below HBR.out) nm hnm sz from_ hs hf hO)
        rw [hkn] at HC
        have HKS := hide hks
        have HKN := hide hkn
        have HG1 := hide hG1
        have HARGS := hide hargs
        have HSEGS := hide hsegs
        have HNX := hide hnx
        have HR1 := hide hr1
        have HR2 := hide hr2
        have HT9 := hide hT9
        have HCUT := hide hcut
        have HNS9 := hide hns9
        have HFR : Hid (0 ≤ from_ ∧ from_ ≤ 1152921504606846976) := by
          unfold argsOk at hargs
          refine ⟨?_, ?_⟩
          · rcases Int.lt_or_le from_ 0 with hc | hc
            · exact absurd (.inr (.inr (.inr (.inl hc)))) hargs
            · exact hc
          · rcases Int.lt_or_le 1152921504606846976 from_ with hc | hc
            · exact absurd (.inr (.inr (.inr (.inr hc)))) hargs
            · exact hc
        have HKX := hide hkx
        clear hok hargs hO hsegs hnx hr1 hr2 hT9 hcut hns9 hks hG1 hkn herr hkx hpl
        go_wp2_with fail
        refine (HC.out).mono ?_
        rintro e W5 ⟨l1, ad1, cap1, rfl, hr5, hl5, hb5⟩
        change Lies b W5 [.disk p A9, .log l1 p G1, .sub (.slice ad1 kn cap1) ks] at hl5
        have hbb5 := HBR.out.trans hb5
        have HL5 := hide hl5
        have HB5 := hide hbb5
        have hnext := wnext_any hl5 (j := 1) rfl
        rw [show G1.next = nx by rw [← HG1.out]] at hnext
        have HNEXT := hide hnext
        have HGOK : Hid G1.Ok := by
          show AL.Ok _
          have h24 : nm.size ≤ 24 := by
            have h2 : lnameOk nm.data.toList = true := by
              cases hc : lnameOk nm.data.toList with
              | true => rfl
              | false => exact absurd (.inl hc) HARGS.out
            unfold lnameOk at h2
            simp only [Bool.and_eq_true, decide_eq_true_eq] at h2
            rw [str_len] at h2
            exact h2.1.2
          rw [← HG1.out]
          have hoff : A.pow.off = false := by rw [HPA.out]; rfl
          refine ⟨h24, fun s hs => ?_, ?_⟩
          · have h1 : s.num ∈ numsL A nm.data.toList := by rw [← HSEGS.out]; exact List.mem_map.2 ⟨s, hs, rfl⟩
            have := numsL_range h1
            omega
          · show R.segs.length ≤ 10000000
            have h1 : R.segs.length = (numsL A nm.data.toList).length := by rw [← HSEGS.out, List.length_map]
            rw [h1, numsL_length]
            have := found_few (HLR.out.ok (i := 0) rfl) nm.data.toList
            omega
        have hf0 : 0 ≤ from_ := HFR.out.1
        have hf1 : from_ ≤ 1152921504606846976 := HFR.out.2
        obtain ⟨fs, hfs⟩ : ∃ x, G1.files = x := ⟨_, rfl⟩
        obtain ⟨fn, hfn⟩ : ∃ x, fs.length = x := ⟨_, rfl⟩
        have hfm : fn ≤ 16 := by
          rw [← hfn, ← hfs, ← HG1.out, files_nums (g := ⟨nm, sz, R.segs, nx, false⟩) HSEGS.out, List.length_map, numsL_length]
          exact found_few (HLR.out.ok (i := 0) rfl) nm.data.toList
        have HFS := hide hfs
        have HFN := hide hfn
        have HNMS := hide (names_at HL5.out (j := 1) rfl HGOK.out (HENV.out.below HB5.out) hfs hfn)
        clear hl5 hb5 hbb5 hr5 hnext hfs hfn
        go_wp2_with fail
        refine (HNEXT.out).mono ?_
        rintro e W6 ⟨rfl, rfl⟩
        have q2 : (nx != from_ + (kn : Int)) = false := by rw [HKX.out]; simp
        go_wp2_with fail
        refine (HNMS.out).mono ?_
        rintro e W7 ⟨adn, capn, rfl, hl7, hb7⟩
        have hl7' := hl7.nilRow
        change Lies b W7 [.disk p A9, .log l1 p G1, .sub (.slice ad1 kn cap1) ks, .row 9 (.slice adn fn capn) (fs.map encStr), .row 9 (.slice none 0 0) (([] : List Key).map encStr)] at hl7'
        obtain ⟨ad7, n7, cap7, W8, hap, hn7, hl8, hb8⟩ := app_texts hl7' (q := 4) (r := 3) rfl rfl (by have := HFN.out; simp; omega) 34
        rw [List.nil_append, HFN.out] at hn7
        subst hn7
        change Lies b W8 [.disk p A9, .log l1 p G1, .sub (.slice ad1 kn cap1) ks, .row 9 (.slice adn n7 capn) (fs.map encStr), .row 9 (.slice ad7 n7 cap7) (fs.map encStr)] at hl8
        have hl8' := hl8.rowSub (q := 3) rfl
        change Lies b W8 [.disk p A9, .log l1 p G1, .sub (.slice ad1 kn cap1) ks, .sub (.slice adn n7 capn) fs, .row 9 (.slice ad7 n7 cap7) (fs.map encStr)] at hl8'
        have HL8 := hide hl8'
        have HB8 := hide (HB5.out.trans (hb7.trans hb8))
        have HAP := hide hap
        clear hl7 hl7' hl8 hl8' hb7 hb8 hap HNMS HNEXT
        go_wp2_with (at_builtin; refine wpList_appS rfl _ _ _ rfl HAP.out ?_)
        go_loopw [18] (fun x wr => ∃ (k : Nat) (xs : List Key), k ≤ n7 ∧ x = .int .i64 (k : Int) ∧ xs.length = n7 ∧ Lies b wr [.disk p A9, .log l1 p G1, .sub (.slice ad1 kn cap1) ks, .sub (.slice adn n7 capn) xs, .row 9 (.slice ad7 n7 cap7) (fs.map encStr)] ∧ Below b w wr) (fun x _ => n7 - (intOf x).toNat)
        case atStart => exact ⟨0, fs, by omega, rfl, HFN.out, HL8.out, HB8.out⟩
        case round =>
          obtain ⟨j, xs, hj, rfl, hxl, hLr, hbr⟩ := hrel
          by_cases hjt : j < n7
          · have dj : decide ((j : Int) < (n7 : Int)) = true := decide_eq_true (by omega)
            have hj0 : (0 : Int) ≤ (j : Int) := by omega
            have hj1 : (j : Int) < (n7 : Int) := by omega
            obtain ⟨bq, oq, cq, hvq, hck, hfz, hL2, hB2⟩ := hLr.setSub (q := 3) rfl j (by omega) ⟨#[119, 114, 105, 116, 116, 101, 110]⟩
            rw [hxl] at hvq
            injection hvq with e1 e2 e3
            subst e1
            obtain ⟨wn, hwn⟩ : ∃ x, wr.setCell ⟨bq, oq + j, none⟩ (.string ⟨#[119, 114, 105, 116, 116, 101, 110]⟩) = x := ⟨_, rfl⟩
            rw [hwn] at hL2 hB2
            have HL2x := hide hL2
            have HB2x := hide (hbr.trans hB2)
            have HXL := hide hxl
            have hck' : ∃ t, wr.cell? ⟨bq, oq + j, none⟩ = some (.string t) := ⟨_, hck⟩
            clear hck
            obtain ⟨t, hck⟩ := hck'
            clear hL2 hB2 hLr hbr e3 hxl
            go_wp2
            go_roundw
            case rel => exact ⟨j + 1, _, by omega, by go_num, by rw [List.length_set]; exact HXL.out, HL2x.out, HB2x.out⟩
            case measure => simp [intOf]; omega
          · have hjn : j = n7 := by omega
            subst hjn
            have dj : decide ((j : Int) < (j : Int)) = false := decide_eq_false (by omega)
            have HLA := hide hLr
            have HBA := hide hbr
            have HCR := hide (s_crash0 hLr (i := 0) rfl)
            have hok9 := hLr.ok (i := 0) rfl
            obtain ⟨hT10, hAl10⟩ := HT9.out.crash hok9 []
            obtain ⟨A10, hA10⟩ : ∃ x, (A9.crash []).on = x := ⟨_, rfl⟩
            rw [hA10] at hT10 hAl10
            have HT10 := hide hT10
            have HAL10 := hide hAl10
            have HA10 := hide hA10
            clear hLr hbr hxl hok9 hT10 hAl10 hA10
            go_wp2_with fail
            refine (HCR.out).mono ?_
            rintro e W10 ⟨rfl, hl10, hb10⟩
            change Lies b W10 [.disk p (A9.crash []), .log l1 p G1, .sub (.slice ad1 kn cap1) ks, .sub (.slice adn j capn) xs, .row 9 (.slice ad7 j cap7) (fs.map encStr)] at hl10
            have HB10 := hide (HBA.out.trans hb10)
            have HON := hide (s_on hl10 (i := 0) rfl)
            clear hl10 hb10
            go_wp2_with fail
            refine (HON.out).mono ?_
            rintro e W11 ⟨rfl, hl11, hb11⟩
            change Lies b W11 [.disk p (A9.crash []).on, .log l1 p G1, .sub (.slice ad1 kn cap1) ks, .sub (.slice adn j capn) xs, .row 9 (.slice ad7 j cap7) (fs.map encStr)] at hl11
            rw [HA10.out] at hl11
            have hbb11 := HB10.out.trans hb11
            have hrd10 := HAL10.out.rd HT9.out.pow
            have hcut10 : Cut R (rdOf A10 nm.data.toList).2 := by rw [hrd10]; exact HCUT.out
            have hns10 : numsL A10 nm.data.toList = numsL A nm.data.toList := by rw [HAL10.out.nums HT9.out.pow, HNS9.out]
            obtain ⟨A11, sg2, hO2, hsg2, hT11, hAl11⟩ := again_open (sz := sz) HT10.out (hl11.ok (i := 0) rfl) hcut10 HNX.out HR1.out HR2.out 0 (by omega) (by have := HR2.out; omega) (by rw [Int.add_zero]; exact HARGS.out)
            rw [Int.add_zero, HKS.out, show ((0 : Int).toNat) = 0 from rfl, List.drop_zero] at hO2
            obtain ⟨G2, hG2⟩ : ∃ x, (⟨nm, sz, sg2, nx, false⟩ : AL) = x := ⟨_, rfl⟩
            rw [hG2] at hO2
            have HOPN := hide (open_some hl11 (i := 0) rfl (HENV.out.below hbb11) nm hnm sz from_ hs hf hO2)
            rw [HKN.out] at HOPN
            have hf2 : G2.files = fs := by rw [← hG2, files_nums (g := ⟨nm, sz, sg2, nx, false⟩) hsg2, hns10, ← HFS.out, ← HG1.out, files_nums (g := ⟨nm, sz, R.segs, nx, false⟩) HSEGS.out]
            have hg2 : G2.Ok := by
              rw [← hG2]
              refine ⟨?_, fun s hs => ?_, ?_⟩
              · have := HGOK.out.name; rw [← HG1.out] at this; exact this
              · have h1 : s.num ∈ numsL A10 nm.data.toList := by rw [← hsg2]; exact List.mem_map.2 ⟨s, hs, rfl⟩
                have := numsL_range h1
                omega
              · show sg2.length ≤ 10000000
                have h1 : sg2.length = (numsL A10 nm.data.toList).length := by rw [← hsg2, List.length_map]
                rw [h1, numsL_length]
                have := found_few (hl11.ok (i := 0) rfl) nm.data.toList
                omega
            have hcut11 : Cut R (rdOf A11 nm.data.toList).2 := by rw [hAl11.rd HT10.out.pow]; exact hcut10
            have HCUT11 := hide hcut11
            have HT11 := hide hT11
            have HNS11 : Hid (numsL A11 nm.data.toList = numsL A nm.data.toList) := hide (by rw [hAl11.nums HT10.out.pow]; exact hns10)
            have HF2 := hide hf2
            have HG2 := hide hg2
            have HNX2 : Hid (G2.next = nx) := hide (by rw [← hG2])
            have HB11 := hide hbb11
            clear hl11 hb11 hbb11 hrd10 hcut10 hns10 hO2 hsg2 hT11 hAl11 hG2 hf2 hg2 hcut11
            go_wp2_with fail
            refine (HOPN.out).mono ?_
            rintro e W12 ⟨l2, ad2, cap2, rfl, hr12, hl12, hb12⟩
            change Lies b W12 [.disk p A11, .log l1 p G1, .sub (.slice ad1 kn cap1) ks, .sub (.slice adn j capn) xs, .row 9 (.slice ad7 j cap7) (fs.map encStr), .log l2 p G2, .sub (.slice ad2 kn cap2) ks] at hl12
            have HB12 := hide (HB11.out.trans hb12)
            obtain ⟨ad1', cap1', hv1, hrg, hmg⟩ := hl12.subAt (q := 2) rfl
            rw [HKN.out] at hv1
            cases hv1
            have HS1 := hide (texts_same (cap1 := cap2) (cap2 := cap1) hl12 hr12 hrg HKN.out hmg)
            clear hl12 hb12 hr12 hrg hmg
            go_wp2_with fail
            refine (HS1.out).mono ?_
            rintro e W13 ⟨rfl, hl13, hb13⟩
            have HB13 := hide (HB12.out.trans hb13)
            have HNM2 := hide (names_at hl13 (j := 5) rfl HG2.out (HENV.out.below HB13.out) HF2.out HFN.out)
            clear hl13 hb13
            go_wp2_with fail
            refine (HNM2.out).mono ?_
            rintro e W14 ⟨ad8, cap8, rfl, hl14, hb14⟩
            change Lies b W14 [.disk p A11, .log l1 p G1, .sub (.slice ad1 kn cap1) ks, .sub (.slice adn j capn) xs, .row 9 (.slice ad7 j cap7) (fs.map encStr), .log l2 p G2, .sub (.slice ad2 kn cap2) ks, .row 9 (.slice ad8 j cap8) (fs.map encStr)] at hl14
            have HB14 := hide (HB13.out.trans hb14)
            have HS2 := hide (texts_same (cap1 := cap8) (cap2 := cap7) hl14 (row_text hl14 (q := 7) rfl).1 (row_text hl14 (q := 4) rfl).1 HFN.out (row_text hl14 (q := 4) rfl).2.2)
            clear hl14 hb14
            go_wp2_with fail
            refine (HS2.out).mono ?_
            rintro e W15 ⟨rfl, hl15, hb15⟩
            have HB15 := hide (HB14.out.trans hb15)
            have HNM3 := hide (names_at hl15 (j := 1) rfl HGOK.out (HENV.out.below HB15.out) HFS.out HFN.out)
            clear hl15 hb15
            go_wp2_with fail
            refine (HNM3.out).mono ?_
            rintro e W16 ⟨ad9, cap9, rfl, hl16, hb16⟩
            change Lies b W16 [.disk p A11, .log l1 p G1, .sub (.slice ad1 kn cap1) ks, .sub (.slice adn j capn) xs, .row 9 (.slice ad7 j cap7) (fs.map encStr), .log l2 p G2, .sub (.slice ad2 kn cap2) ks, .row 9 (.slice ad8 j cap8) (fs.map encStr), .row 9 (.slice ad9 j cap9) (fs.map encStr)] at hl16
            have HB16 := hide (HB15.out.trans hb16)
            have HS3 := hide (texts_same (cap1 := cap9) (cap2 := cap7) hl16 (row_text hl16 (q := 8) rfl).1 (row_text hl16 (q := 4) rfl).1 HFN.out (row_text hl16 (q := 4) rfl).2.2)
            clear hl16 hb16
            go_wp2_with fail
            refine (HS3.out).mono ?_
            rintro e W17 ⟨rfl, hl17, hb17⟩
            have HL17 := hide hl17
            have HB17 := hide (HB16.out.trans hb17)
            have hn2 := wnext_any hl17 (j := 5) rfl
            rw [HNX2.out] at hn2
            have HN2 := hide hn2
            have hn1 := wnext_any hl17 (j := 1) rfl
            rw [show G1.next = nx by rw [← HG1.out]] at hn1
            have HN1 := hide hn1
            clear hl17 hb17 hn2 hn1
            go_wp2_with fail
            refine (HN2.out).mono ?_
            rintro e W18 ⟨rfl, rfl⟩
            go_wp2_with fail
            refine (HN1.out).mono ?_
            rintro e W18 ⟨rfl, rfl⟩
            have hL18 := HL17.out
            have HL18 := hide hL18
            obtain ⟨c, hc0, hc1, hmin⟩ := by_of by_ kn hkm2 from_ hf0 hf1
            have hkne : ¬ ((kn : Int) + 1 = 0) := by omega
            clear hL18 HN1 HN2 HS1 HS2 HS3 HNM2 HNM3 HOPN HON HCR
            go_wp2
            go_loopw [22] (fun x wr => ∃ (i : Nat) (ys : List Key), i ≤ kn ∧ x = .int .i64 (i : Int) ∧ ys.length = kn ∧ Lies b wr [.disk p A11, .log l1 p G1, .sub (.slice ad1 kn cap1) ks, .sub (.slice adn j capn) xs, .row 9 (.slice ad7 j cap7) (fs.map encStr), .log l2 p G2, .sub (.slice ad2 kn cap2) ys, .row 9 (.slice ad8 j cap8) (fs.map encStr), .row 9 (.slice ad9 j cap9) (fs.map encStr)] ∧ Below b w wr) (fun x _ => kn - (intOf x).toNat)
            case atStart => exact ⟨0, ks, by omega, rfl, HKN.out, HL18.out, HB17.out⟩
            case round =>
              obtain ⟨i, ys, hi, rfl, hyl, hLr, hbr⟩ := hrel
              by_cases hit : i < kn
              · have di : decide ((i : Int) < (kn : Int)) = true := decide_eq_true (by omega)
                have hi0 : (0 : Int) ≤ (i : Int) := by omega
                have hi1 : (i : Int) < (kn : Int) := by omega
                obtain ⟨bq, oq, cq, hvq, hck, hfz, hL2, hB2⟩ := hLr.setSub (q := 6) rfl i (by omega) ⟨#[119, 114, 105, 116, 116, 101, 110]⟩
                rw [hyl] at hvq
                injection hvq with e1 e2 e3
                subst e1
                obtain ⟨wn, hwn⟩ : ∃ x, wr.setCell ⟨bq, oq + i, none⟩ (.string ⟨#[119, 114, 105, 116, 116, 101, 110]⟩) = x := ⟨_, rfl⟩
                rw [hwn] at hL2 hB2
                have HL2x := hide hL2
                have HB2x := hide (hbr.trans hB2)
                have HYL := hide hyl
                have hck' : ∃ t, wr.cell? ⟨bq, oq + i, none⟩ = some (.string t) := ⟨_, hck⟩
                clear hck
                obtain ⟨t, hck⟩ := hck'
                clear hL2 hB2 hLr hbr e3 hyl
                go_wp2
                go_roundw
                case rel => exact ⟨i + 1, _, by omega, by go_num, by rw [List.length_set]; exact HYL.out, HL2x.out, HB2x.out⟩
                case measure => simp [intOf]; omega
              · have hin : kn = i := by omega
                subst hin
                have di : decide ((kn : Int) < (kn : Int)) = false := decide_eq_false (by omega)
                have hok11 := hLr.ok (i := 0) rfl
                have hargs3 : argsOk nm sz (from_ + (c : Int)) := by
                  have ha := HARGS.out
                  unfold argsOk at ha ⊢
                  rintro (h | h | h | h | h)
                  · exact ha (.inl h)
                  · exact ha (.inr (.inl h))
                  · exact ha (.inr (.inr (.inl h)))
                  · omega
                  · omega
                obtain ⟨A12, sg3, hO3, hsg3, hT12, hAl12⟩ := again_open (sz := sz) HT11.out hok11 HCUT11.out HNX.out HR1.out HR2.out (c : Int) (by omega) (by have := HKX.out; omega) hargs3
                rw [HKS.out, Int.toNat_natCast] at hO3
                obtain ⟨G3, hG3⟩ : ∃ x, (⟨nm, sz, sg3, nx, false⟩ : AL) = x := ⟨_, rfl⟩
                rw [hG3] at hO3
                obtain ⟨rn, hrn⟩ : ∃ x, kn - c = x := ⟨_, rfl⟩
                have hrn' : (ks.drop c).length = rn := by rw [List.length_drop, HKN.out]; exact hrn
                have HOP3 := hide (open_some hLr (i := 0) rfl (HENV.out.below hbr) nm hnm sz (from_ + (c : Int)) hs (by omega) hO3)
                rw [hrn'] at HOP3
                have HRN := hide hrn'
                have HRN2 := hide hrn
                have HT12 := hide hT12
                have HAL12 := hide hAl12
                have HCUT12 : Hid (Cut R (rdOf A12 nm.data.toList).2) := hide (by rw [hAl12.rd HT11.out.pow]; exact HCUT11.out)
                have HNS12 : Hid (numsL A12 nm.data.toList = numsL A nm.data.toList) := hide (by rw [hAl12.nums HT11.out.pow]; exact HNS11.out)
                have HBR2 := hide hbr
                clear hLr hbr hok11 hargs3 hO3 hsg3 hT12 hAl12 hG3 hrn' hyl hi hit hrn
                go_wp2_with fail
                refine (HOP3.out).mono ?_
                rintro e W20 ⟨l3, ad3, cap3, rfl, hr20, hl20, hb20⟩
                change Lies b W20 [.disk p A12, .log l1 p G1, .sub (.slice ad1 kn cap1) ks, .sub (.slice adn j capn) xs, .row 9 (.slice ad7 j cap7) (fs.map encStr), .log l2 p G2, .sub (.slice ad2 kn cap2) ys, .row 9 (.slice ad8 j cap8) (fs.map encStr), .row 9 (.slice ad9 j cap9) (fs.map encStr), .log l3 p G3, .sub (.slice ad3 rn cap3) (ks.drop c)] at hl20
                have hbb20 := HBR2.out.trans hb20
                have hn2 := wnext_any hl20 (j := 5) rfl
                rw [HNX2.out] at hn2
                have HN2 := hide hn2
                have hnx0 : 0 ≤ nx := by have := HKX.out; omega
                have hnx1 : nx ≤ 1152921504606846976 + 300000 := by have := HKX.out; omega
                have HL20 := hide hl20
                have HB20 := hide hbb20
                clear hl20 hb20 hbb20 hn2 hr20
                go_wp2_with fail
                refine (HN2.out).mono ?_
                rintro e W21 ⟨rfl, rfl⟩
                go_wp2_with fail
                have hok12 := HL20.out.ok (i := 0) rfl
                obtain ⟨hov, hun⟩ := again_over2 (sz := sz) HT12.out hok12 HCUT12.out HNX.out HR2.out HARGS.out
                have hbt := bytes_tidy HT12.out hok12
                rw [HNS12.out, HCUT12.out.pay, ← files_nums (g := ⟨nm, sz, R.segs, nx, false⟩) HSEGS.out, HG1.out, HFS.out] at hbt
                have HNAMES : Hid (∀ k ∈ fs, k.length ≤ 1000) := hide (fun k hk => by
                  rw [← HFS.out] at hk
                  exact files_short HGOK.out k hk)
                by_cases hP : R.pay ≠ [] ∨ 1152921504606846976 ≤ nx
                · obtain ⟨ce, hce, hO4⟩ := hov hP
                  have HOP4 := hide (open_none HL20.out (i := 0) rfl (HENV.out.below HB20.out) nm hnm sz (nx + 1) hs (by omega) hO4)
                  have q5 : (ce != 0) = true := by simpa using hce
                  have HP := hide hP
                  have HBT := hide hbt
                  clear hov hun hbt hP hO4 hok12 hce
                  refine (HOP4.out).mono ?_
                  rintro e W22 ⟨rfl, hl22, hb22⟩
                  change Lies b W22 [.disk p A12, .log l1 p G1, .sub (.slice ad1 kn cap1) ks, .sub (.slice adn j capn) xs, .row 9 (.slice ad7 j cap7) (fs.map encStr), .log l2 p G2, .sub (.slice ad2 kn cap2) ys, .row 9 (.slice ad8 j cap8) (fs.map encStr), .row 9 (.slice ad9 j cap9) (fs.map encStr), .log l3 p G3, .sub (.slice ad3 rn cap3) (ks.drop c)] at hl22
                  have HB22 := hide (HB20.out.trans hb22)
                  obtain ⟨ad3', cap3', hv3, hr3, hm3⟩ := hl22.subAt (q := 10) rfl
                  rw [HRN.out] at hv3
                  cases hv3
                  obtain ⟨ad1', cap1', hv1, hr1, hm1⟩ := hl22.subAt (q := 2) rfl
                  rw [HKN.out] at hv1
                  cases hv1
                  have hcap1 := hl22.subCap (q := 2) rfl
                  by_cases hk0 : kn = 0
                  · have hkk := HKN.out
                    rw [hk0] at hkk
                    have hks : ks = [] := List.length_eq_zero_iff.1 hkk
                    have hcz : c = 0 := by omega
                    have hrz : rn = 0 := by have := HRN2.out; omega
                    subst hk0 hcz hrz
                    have HS7 := hide (fun (ad : Option Addr) (cp : Nat) => texts_same (ks := []) (n := 0) (ad1 := ad3) (ad2 := ad) (cap1 := cap3) (cap2 := cp) hl22 (.inl rfl) (.inl rfl) rfl (by decide))
                    have HL22 := hide hl22
                    clear hl22 hb22 hr3 hm3 hr1 hm1 hkk
                    have FIN : Hid (∀ (W : World), Below b w W → Below b w W) := hide (fun _ h => h)
                    cases ad1 with
                    | none =>
                      go_wp2_with fail
                      refine (HS7.out _ _).mono ?_
                      rintro e W23 ⟨rfl, hl23, hb23⟩
                      have HB23 := hide (HB22.out.trans hb23)
                      have HL23 := hide hl23
                      have hrk := row_text hl23 (q := 4) rfl
                      have HBY := hide (bytes_any hl23 (i := 0) rfl ad7 cap7 fs hrk.1 (by rw [HFN.out]; omega) HNAMES.out)
                      rw [HFN.out] at HBY
                      have hn3 := wnext_any hl23 (j := 5) rfl
                      rw [HNX2.out] at hn3
                      have HN3 := hide hn3
                      clear hl23 hb23 hrk hn3
                      by_cases hj0 : j = 0
                      · have q6 : decide ((1152921504606846976 : Int) ≤ nx) = true := decide_eq_true (by
                          rcases HP.out with hp | hp
                          · exfalso
                            have h1 := HBT.out.2 hp
                            have h2 : fs = [] := List.length_eq_zero_iff.1 (by rw [HFN.out]; exact hj0)
                            rw [h2] at h1
                            cases h1
                          · exact hp)
                        subst hj0
                        go_wp2_with fail
                        refine (HN3.out).mono ?_
                        rintro e W24 ⟨rfl, rfl⟩
                        go_wp2
                        go_ret
                        exact ⟨by simp, HB23.out⟩
                      · have q7 : decide ((0 : Int) < (j : Int)) = true := decide_eq_true (by omega)
                        go_wp2_with fail
                        refine (HBY.out).mono ?_
                        rintro e W24 ⟨rfl, rfl⟩
                        cases hbv : bytesA A12 fs with
                        | true =>
                          go_wp2
                          go_ret
                          exact ⟨by simp, HB23.out⟩
                        | false =>
                          have q6 : decide ((1152921504606846976 : Int) ≤ nx) = true := decide_eq_true (by
                            rcases HP.out with hp | hp
                            · exfalso
                              have h1 := HBT.out.2 hp
                              rw [hbv] at h1
                              cases h1
                            · exact hp)
                          go_wp2_with fail
                          refine (HN3.out).mono ?_
                          rintro e W25 ⟨rfl, rfl⟩
                          go_wp2
                          go_ret
                          exact ⟨by simp, HB23.out⟩
                    | some x1 =>
                      go_wp2_with fail
                      · rename_i hcapz
                        refine (HS7.out _ _).mono ?_
                        rintro e W23 ⟨rfl, hl23, hb23⟩
                        have HB23 := hide (HB22.out.trans hb23)
                        have HL23 := hide hl23
                        have hrk := row_text hl23 (q := 4) rfl
                        have HBY := hide (bytes_any hl23 (i := 0) rfl ad7 cap7 fs hrk.1 (by rw [HFN.out]; omega) HNAMES.out)
                        rw [HFN.out] at HBY
                        have hn3 := wnext_any hl23 (j := 5) rfl
                        rw [HNX2.out] at hn3
                        have HN3 := hide hn3
                        clear hl23 hb23 hrk hn3
                        by_cases hj0 : j = 0
                        · have q6 : decide ((1152921504606846976 : Int) ≤ nx) = true := decide_eq_true (by
                            rcases HP.out with hp | hp
                            · exfalso
                              have h1 := HBT.out.2 hp
                              have h2 : fs = [] := List.length_eq_zero_iff.1 (by rw [HFN.out]; exact hj0)
                              rw [h2] at h1
                              cases h1
                            · exact hp)
                          subst hj0
                          go_wp2_with fail
                          refine (HN3.out).mono ?_
                          rintro e W24 ⟨rfl, rfl⟩
                          go_wp2
                          go_ret
                          exact ⟨by simp, HB23.out⟩
                        · have q7 : decide ((0 : Int) < (j : Int)) = true := decide_eq_true (by omega)
                          go_wp2_with fail
                          refine (HBY.out).mono ?_
                          rintro e W24 ⟨rfl, rfl⟩
                          cases hbv : bytesA A12 fs with
                          | true =>
                            go_wp2
                            go_ret
                            exact ⟨by simp, HB23.out⟩
                          | false =>
                            have q6 : decide ((1152921504606846976 : Int) ≤ nx) = true := decide_eq_true (by
                              rcases HP.out with hp | hp
                              · exfalso
                                have h1 := HBT.out.2 hp
                                rw [hbv] at h1
                                cases h1
                              · exact hp)
                            go_wp2_with fail
                            refine (HN3.out).mono ?_
                            rintro e W25 ⟨rfl, rfl⟩
                            go_wp2
                            go_ret
                            exact ⟨by simp, HB23.out⟩
                  · rcases hr1 with hr1 | ⟨b1, o1, rfl, hbl1, hcs1⟩
                    · exact absurd (by rw [← HKN.out, List.map_eq_nil_iff.1 hr1]; rfl) hk0
                    have hr1 : RowAt W22 (some ⟨b1, o1, none⟩) (ks.map encStr) := .inr ⟨b1, o1, rfl, hbl1, hcs1⟩
                    have hd1 := hr1.dropAt c
                    have k1 : decide ((0 : Int) < (kn : Int)) = true := decide_eq_true (by omega)
                    have k2 : (0 : Int) ≤ (c : Int) := by omega
                    have k3 : (c : Int) ≤ (kn : Int) := by omega
                    have HS5 := hide (fun cp => texts_same (cap1 := cap3) (cap2 := cp) hl22 hr3 hd1 HRN.out hm3)
                    have HS6 := hide (fun (hq : kn ≤ c) cp => texts_same (cap1 := cap3) (ad2 := some ⟨b1, o1, none⟩) (cap2 := cp) hl22 hr3 (.inl (by rw [List.drop_eq_nil_of_le (by rw [HKN.out]; exact hq)]; rfl)) HRN.out hm3)
                    clear hl22 hb22 hr3 hm3 hr1 hd1 hbl1 hcs1 hm1
                    go_wp2_with fail
                    · rename_i hcc
                      rw [HRN2.out]
                      refine (HS6.out (by omega) _).mono ?_
                      rintro e W23 ⟨rfl, hl23, hb23⟩
                      have HB23 := hide (HB22.out.trans hb23)
                      clear hl23 hb23
                      go_wp2
                      go_ret
                      exact ⟨by simp, HB23.out⟩
                    · rw [HRN2.out]
                      refine (HS5.out _).mono ?_
                      rintro e W23 ⟨rfl, hl23, hb23⟩
                      have HB23 := hide (HB22.out.trans hb23)
                      clear hl23 hb23
                      go_wp2
                      go_ret
                      exact ⟨by simp, HB23.out⟩
                · obtain ⟨g4, A13, hO4, hT13, hAl13⟩ := hun hP
                  have hpe : R.pay = [] := by
                    rcases Classical.em (R.pay = []) with h | h
                    · exact h
                    · exact absurd (.inl h) hP
                  have hnl : ¬ 1152921504606846976 ≤ nx := fun h => hP (.inr h)
                  have q6 : decide ((1152921504606846976 : Int) ≤ nx) = false := decide_eq_false hnl
                  have hk0 : kn = 0 := by rw [← HKN.out, ← HKS.out, hpe]; simp
                  have HOP4 := hide (open_some HL20.out (i := 0) rfl (HENV.out.below HB20.out) nm hnm sz (nx + 1) hs (by omega) hO4)
                  have HBF : Hid (A13.Ok → bytesA A13 fs = false) := hide (fun hok13 => by
                    have h1 := bytes_tidy hT13 hok13
                    rw [hAl13.nums HT12.out.pow, HNS12.out, hAl13.rd HT12.out.pow, HCUT12.out.pay, ← files_nums (g := ⟨nm, sz, R.segs, nx, false⟩) HSEGS.out, HG1.out, HFS.out] at h1
                    cases hq : bytesA A13 fs with
                    | false => rfl
                    | true => exact absurd hpe (h1.1 hq))
                  clear hov hun hbt hP hO4 hok12 hT13 hAl13 hpe hnl
                  refine (HOP4.out).mono ?_
                  rintro e W22 ⟨l4, ad4, cap4, rfl, _, hl22, hb22⟩
                  change Lies b W22 [.disk p A13, .log l1 p G1, .sub (.slice ad1 kn cap1) ks, .sub (.slice adn j capn) xs, .row 9 (.slice ad7 j cap7) (fs.map encStr), .log l2 p G2, .sub (.slice ad2 kn cap2) ys, .row 9 (.slice ad8 j cap8) (fs.map encStr), .row 9 (.slice ad9 j cap9) (fs.map encStr), .log l3 p G3, .sub (.slice ad3 rn cap3) (ks.drop c), .log l4 p g4, .sub (.slice ad4 0 cap4) []] at hl22
                  have HBF := hide (HBF.out (hl22.ok (i := 0) rfl))
                  simp only [List.length_nil]
                  have HB22 := hide (HB20.out.trans hb22)
                  obtain ⟨ad3', cap3', hv3, hr3, hm3⟩ := hl22.subAt (q := 10) rfl
                  rw [HRN.out] at hv3
                  cases hv3
                  obtain ⟨ad1', cap1', hv1, hr1, hm1⟩ := hl22.subAt (q := 2) rfl
                  rw [HKN.out] at hv1
                  cases hv1
                  have hcap1 := hl22.subCap (q := 2) rfl
                  have hkk := HKN.out
                  rw [hk0] at hkk
                  have hks : ks = [] := List.length_eq_zero_iff.1 hkk
                  have hcz : c = 0 := by omega
                  have hrz : rn = 0 := by have := HRN2.out; omega
                  subst hk0 hcz hrz
                  have HS7 := hide (fun (ad : Option Addr) (cp : Nat) => texts_same (ks := []) (n := 0) (ad1 := ad3) (ad2 := ad) (cap1 := cap3) (cap2 := cp) hl22 (.inl rfl) (.inl rfl) rfl (by decide))
                  have HL22 := hide hl22
                  clear hl22 hb22 hr3 hm3 hr1 hm1 hkk
                  have FIN : Hid (∀ (W : World), Below b w W → Below b w W) := hide (fun _ h => h)
                  cases ad1 with
                  | none =>
                    go_wp2_with fail
                    refine (HS7.out _ _).mono ?_
                    rintro e W23 ⟨rfl, hl23, hb23⟩
                    have HB23 := hide (HB22.out.trans hb23)
                    have HL23 := hide hl23
                    have hrk := row_text hl23 (q := 4) rfl
                    have HBY := hide (bytes_any hl23 (i := 0) rfl ad7 cap7 fs hrk.1 (by rw [HFN.out]; omega) HNAMES.out)
                    rw [HFN.out] at HBY
                    have hn3 := wnext_any hl23 (j := 5) rfl
                    rw [HNX2.out] at hn3
                    have HN3 := hide hn3
                    clear hl23 hb23 hrk hn3
                    by_cases hj0 : j = 0
                    · subst hj0
                      go_wp2_with fail
                      refine (HN3.out).mono ?_
                      rintro e W24 ⟨rfl, rfl⟩
                      go_wp2
                      go_ret
                      exact ⟨by simp, HB23.out⟩
                    · have q7 : decide ((0 : Int) < (j : Int)) = true := decide_eq_true (by omega)
                      go_wp2_with fail
                      refine (HBY.out).mono ?_
                      rintro e W24 ⟨rfl, rfl⟩
                      rw [HBF.out]
                      go_wp2_with fail
                      refine (HN3.out).mono ?_
                      rintro e W25 ⟨rfl, rfl⟩
                      go_wp2
                      go_ret
                      exact ⟨by simp, HB23.out⟩
                  | some x1 =>
                    go_wp2_with fail
                    · rename_i hcapz
                      refine (HS7.out _ _).mono ?_
                      rintro e W23 ⟨rfl, hl23, hb23⟩
                      have HB23 := hide (HB22.out.trans hb23)
                      have HL23 := hide hl23
                      have hrk := row_text hl23 (q := 4) rfl
                      have HBY := hide (bytes_any hl23 (i := 0) rfl ad7 cap7 fs hrk.1 (by rw [HFN.out]; omega) HNAMES.out)
                      rw [HFN.out] at HBY
                      have hn3 := wnext_any hl23 (j := 5) rfl
                      rw [HNX2.out] at hn3
                      have HN3 := hide hn3
                      clear hl23 hb23 hrk hn3
                      by_cases hj0 : j = 0
                      · subst hj0
                        go_wp2_with fail
                        refine (HN3.out).mono ?_
                        rintro e W24 ⟨rfl, rfl⟩
                        go_wp2
                        go_ret
                        exact ⟨by simp, HB23.out⟩
                      · have q7 : decide ((0 : Int) < (j : Int)) = true := decide_eq_true (by omega)
                        go_wp2_with fail
                        refine (HBY.out).mono ?_
                        rintro e W24 ⟨rfl, rfl⟩
                        rw [HBF.out]
                        go_wp2_with fail
                        refine (HN3.out).mono ?_
                        rintro e W25 ⟨rfl, rfl⟩
                        go_wp2
                        go_ret
                        exact ⟨by simp, HB23.out⟩
      · obtain ⟨c, A', hc0, hO⟩ := open_err herr
        have HC := hide (open_none HLR.out (i := 0) rfl (HENV.out.below HBR.out) nm hnm sz from_ hs hf hO)
        have q1 : (c != 0) = true := by simpa using hc0
        have HC0 := hide hc0
        clear hO herr hc0
        go_wp2_with fail
        refine (HC.out).mono ?_
        rintro e W5 ⟨rfl, hl5, hb5⟩
        have HB5 := hide (HBR.out.trans hb5)
        clear hl5 hb5
        go_wp2
        go_ret
        exact ⟨rfl, HB5.out⟩
end Go.Proofs.YtjfbdnogkbhciaaGreatDoor
