/-
  LedgerFolds: the walk (printed by gen_folds2.py).
-/
import Derived.Test.YtoomcpehdflolaaGFoldsA
namespace Go.Proofs.Ytoomcpehdflolaa
open Go.RowKit S Go.Shelf Go.Sort
set_option linter.unusedVariables false
set_option linter.unusedSimpArgs false
set_option maxRecDepth 100000 in
set_option maxHeartbeats 4000000 in
theorem folds_walk (bO bP : Int) (a1 a2 : Option Addr) (n1 c1 n2 c2 : Nat) (mine others : List Upd) (hn1 : mine.length = n1) (hn2 : others.length = n2) (z1 : n1 ≤ 1954687338211) (z2 : n2 ≤ 1954687338211) (k1 : n1 ≤ c1) (k2 : n2 ≤ c2) (fO fP : Int) (w : World) (hS1 : Upds w a1 mine) (hS2 : Upds w a2 others) : Calls Try.prog 7 #[.int .i64 bO, .int .i64 bP, .slice a1 n1 c1, .slice a2 n2 c2, .agg (tabv (cnv fO fP) 2)] w fun e w' => e = .returned (.bool true) ∧ Below w.heap.size w w' := by
  obtain ⟨m1, hm1⟩ : ∃ m, mine.map flipU = m := ⟨_, rfl⟩
  obtain ⟨m2, hm2⟩ : ∃ m, others.map flipU = m := ⟨_, rfl⟩
  have hl1 : m1.length = n1 := by rw [← hm1, List.length_map, hn1]
  have hl2 : m2.length = n2 := by rw [← hm2, List.length_map, hn2]
  have L1 := hide (fun (w : World) (h : Upds w a1 mine) => lend2 a1 n1 c1 mine hn1 z1 w h)
  have L2 := hide (fun (w : World) (h : Upds w a2 others) => lend2 a2 n2 c2 others hn2 z2 w h)
  have M1 := hide (fun (w : World) (h : Upds w a1 mine) => more2 a1 n1 c1 mine hn1 z1 w h)
  have M2 := hide (fun (w : World) (h : Upds w a2 others) => more2 a2 n2 c2 others hn2 z2 w h)
  rw [hm1] at M1
  rw [hm2] at M2
  have CF := hide (fun (a b : Option Addr) (c d : Nat) (h1 : n1 ≤ c) (h2 : n2 ≤ d) (w : World) (u1 : Upds w a mine) (u2 : Upds w b others) => fold_all bO bP a b n1 c n2 d mine others hn1 hn2 (by omega) (by omega) h1 h2 fO fP w u1 u2)
  have RF := hide (fun (w : World) (u1 : Upds w a1 mine) (u2 : Upds w a2 others) => rfold_all bO bP a1 a2 n1 c1 n2 c2 mine others hn1 hn2 (by omega) (by omega) k1 k2 fO fP w u1 u2)
  have CG := hide (fun (a b : Option Addr) (c d : Nat) (h1 : n1 ≤ c) (h2 : n2 ≤ d) (w : World) (u1 : Upds w a m1) (u2 : Upds w b m2) => fold_all bO bP a b n1 c n2 d m1 m2 hl1 hl2 (by omega) (by omega) h1 h2 fO fP w u1 u2)
  have RG := hide (fun (a b : Option Addr) (c d : Nat) (h1 : n1 ≤ c) (h2 : n2 ≤ d) (w : World) (u1 : Upds w a m1) (u2 : Upds w b m2) => rfold_all bO bP a b n1 c n2 d m1 m2 hl1 hl2 (by omega) (by omega) h1 h2 fO fP w u1 u2)
  have E1 := hide (fun (g c : Nat) (h : n1 + 1 ≤ c) (w : World) (u1 : Upds w (some ⟨g, 0, none⟩) (mine ++ [mark7])) (u2 : Upds w a1 mine) => kept_any a1 g n1 c c1 mine hn1 (by omega) h w u1 u2)
  have E2 := hide (fun (g c : Nat) (h : n2 + 1 ≤ c) (w : World) (u1 : Upds w (some ⟨g, 0, none⟩) (others ++ [mark7])) (u2 : Upds w a2 others) => kept_any a2 g n2 c c2 others hn2 (by omega) h w u1 u2)
  obtain ⟨⟨eA, xA, yA, lA⟩, hFA⟩ : ∃ F, foldA bO bP mine others fO fP = F := ⟨_, rfl⟩
  obtain ⟨⟨eB, xB, yB, lB⟩, hFB⟩ : ∃ F, foldA bO bP m1 m2 fO fP = F := ⟨_, rfl⟩
  rw [hFA] at CF RF
  rw [hFB] at CG RG
  have LEN : Hid (lA.length ≤ 3910000000000) := by
    have h := congrArg FA.l hFA
    unfold foldA at h
    show _ ≤ _
    simp only at h
    rw [← h]
    have ff : ∀ (a b : List Upd), a.length ≤ n1 → b.length ≤ n2 → (foldL a b).length ≤ 3910000000000 := fun a b h1 h2 => by
      unfold foldL
      have e1 := opens_len true b a
      have e2 := opens_len false a b
      rw [List.length_append, sortP_length, sortP_length]
      omega
    split
    · simp
    · split
      · simp
      · split
        · simp
        · split
          · simp
          · exact ff _ _ (by rw [List.length_take]; omega) (by rw [List.length_take]; omega)
  have x1 : (eA != eA) = false := by simp
  have x2 : (eB == eB) = true := by simp
  have HN1 := hide hn1
  have HN2 := hide hn2
  have HL1 := hide hl1
  have HL2 := hide hl2
  obtain ⟨w1, hw1⟩ : ∃ x, w.alloc (.cells (tabv (cnv fO fP) 2) 24) = x := ⟨_, rfl⟩
  have q1 : Has w1 w.heap.size 24 (cnv fO fP) 2 := by rw [← hw1]; exact Has.new w 24 _ 2 _ rfl
  have gb1 : Below w.heap.size w w1 := by rw [← hw1]; exact (Below.refl _ w).alloc (Nat.le_refl _) _
  obtain ⟨g0, hg0⟩ : ∃ g, w.heap.size = g := ⟨_, rfl⟩
  rw [hg0] at q1
  have C1 := hide q1
  clear hm1 hm2 hFA hFB z1 z2 k1 k2 hn1 hn2 hl1 hl2 q1
  go_enter Try.func7, Try.ntmps7
  go_wp2_with fail
  refine (first_any _).mono ?_
  rintro e w2 ⟨rfl, hb2⟩
  have gb2 := gb1.trans (hb2.mono gb1.size)
  have C2 := hide (C1.out.below hb2 C1.out.lt)
  clear hb2 gb1 C1 hw1
  go_wp2_with fail
  refine (L1.out _ (hS1.below gb2)).mono ?_
  rintro e w3 ⟨⟨gx, cx, rfl, ox, hcx, hgx, hge⟩, hb3⟩
  have gb3 := gb2.trans (hb3.mono gb2.size)
  have C3 := hide (C2.out.below hb3 C2.out.lt)
  have hgs : g0 < gx := Nat.lt_of_lt_of_le C2.out.lt hge
  have ox := ox.mono gb2.size
  clear hb3 gb2 C2 L1
  go_wp2_with fail
  refine (L2.out _ (hS2.below gb3)).mono ?_
  rintro e w4 ⟨⟨gy, cy, rfl, oy, hcy, hgy, hgey⟩, hb4⟩
  have gb4 := gb3.trans (hb4.mono gb3.size)
  have oy := oy.mono gb3.size
  have hx4 : gx < w4.heap.size := Nat.lt_of_lt_of_le hgx hb4.size
  have BK4 := hide (BkF.mk (C3.out.below hb4 C3.out.lt) (ox.below hb4 (Nat.le_refl _)) oy)
  have NE : Hid (gx < gy ∧ g0 < gx ∧ w.heap.size ≤ gx ∧ gy < w4.heap.size ∧ n1 + 1 ≤ cx ∧ n2 + 1 ≤ cy) := ⟨by omega, hgs, by omega, hgy, hcx, hcy⟩
  clear hb4 gb3 C3 L2 ox oy hge hgey hgx hgy hgs hx4 hcx hcy
  go_wp2_with (first | refine wpW_load_at 24 _ rfl g0 0 (by rfl) (by rfl) _ 2 _ (BK4.out.cnt.at_ 0 (by omega) (fun i hi => by rw [Nat.zero_add])) Try.underlying24 rfl infoC ?_)
  refine (CF.out _ _ _ _ (by have := NE.out; omega) (by have := NE.out; omega) _ BK4.out.x.read.left BK4.out.y.read.left).mono ?_
  rintro e w5 ⟨va, rfl, oa, hb5⟩
  obtain ⟨wa5, w6, hWa5, qa5, hW6, lg6, b46⟩ := newLg (x := xA) (y := yA) oa hb5
  have oneA := oa.one
  have QA := hide qa5
  have NA : Hid (∀ k, va.ownBlock = some k → w4.heap.size ≤ k ∧ k < w5.heap.size) := fun k hk => oa.lt k hk
  have gb6 := gb4.trans (b46.mono gb4.size)
  have BK6 := hide (BK4.out.below b46)
  obtain ⟨gA, hgA⟩ : ∃ g, w5.heap.size = g := ⟨_, rfl⟩
  rw [hgA] at lg6 QA hW6 NA
  have LA6 := hide lg6
  have s46 : w4.heap.size ≤ gA ∧ gA < w6.heap.size := ⟨by rw [← hgA]; exact hb5.size, lg6.at_.lt⟩
  clear hb5 qa5 lg6 b46 oa BK4 gb4
  go_wp2_with (first | rw [hW6] | refine wpList_storeL rfl _ _ rfl rfl gA xA yA va oneA rfl rfl _ QA.out ?_ | refine wpW_load_at 24 _ rfl g0 0 (by rfl) (by rfl) _ 2 _ (BK6.out.cnt.at_ 0 (by omega) (fun i hi => by rw [Nat.zero_add])) Try.underlying24 rfl infoC ?_)
  refine (CF.out _ _ _ _ (by have := NE.out; omega) (by have := NE.out; omega) _ BK6.out.x.read.left BK6.out.y.read.left).mono ?_
  rintro e w7 ⟨vb, rfl, ob, hb7⟩
  obtain ⟨wa7, w8, hWa7, qa7, hW8, lg8, b68⟩ := newLg (x := xA) (y := yA) ob hb7
  have oneB := ob.one
  have QB := hide qa7
  have gb8 := gb6.trans (b68.mono gb6.size)
  have BK8 := hide (BK6.out.below b68)
  have LA8 := hide (LA6.out.below b68)
  obtain ⟨gB, hgB⟩ : ∃ g, w7.heap.size = g := ⟨_, rfl⟩
  rw [hgB] at lg8 QB hW8
  have LB8 := hide lg8
  have s68 : w6.heap.size ≤ gB ∧ gB < w8.heap.size := ⟨by rw [← hgB]; exact hb7.size, lg8.at_.lt⟩
  clear hb7 qa7 lg8 b68 ob BK6 gb6 LA6 CF
  go_wp2_with (first | rw [hW8] | refine wpList_storeL rfl _ _ rfl rfl gB xA yA vb oneB rfl rfl _ QB.out ?_ | refine wpW_load_at 24 _ rfl g0 0 (by rfl) (by rfl) _ 2 _ (BK8.out.cnt.at_ 0 (by omega) (fun i hi => by rw [Nat.zero_add])) Try.underlying24 rfl infoC ?_)
  refine (RF.out _ (hS1.below gb8) (hS2.below gb8)).mono ?_
  rintro e w9 ⟨vw, rfl, ow, hb9⟩
  obtain ⟨wa9, wA, hWa9, qa9, hWA, lgA, b8A⟩ := newLg (x := xA) (y := yA) ow hb9
  have oneW := ow.one
  have QW := hide qa9
  have gbA := gb8.trans (b8A.mono gb8.size)
  have BKA := hide (BK8.out.below b8A)
  have LAA := hide (LA8.out.below b8A)
  have LBA := hide (LB8.out.below b8A)
  obtain ⟨gW, hgW⟩ : ∃ g, w9.heap.size = g := ⟨_, rfl⟩
  rw [hgW] at lgA QW hWA
  have LWA := hide lgA
  have s8A : w8.heap.size ≤ gW ∧ gW < wA.heap.size := ⟨by rw [← hgW]; exact hb9.size, lgA.at_.lt⟩
  clear hb9 qa9 lgA b8A ow BK8 gb8 LA8 LB8 RF
  go_wp2_with (first | rw [hWA] | refine wpList_storeL rfl _ _ rfl rfl gW xA yA vw oneW rfl rfl _ QW.out ?_ | refine wpW_load_at 32 _ rfl gA 0 (by rfl) (by rfl) (ledv xA yA va) 3 _ (LAA.out.at_.at_ 0 (by omega) (fun i hi => by rw [Nat.zero_add])) Try.underlying32 rfl infoL ?_ | refine wpW_load_at 32 _ rfl gW 0 (by rfl) (by rfl) (ledv xA yA vw) 3 _ (LWA.out.at_.at_ 0 (by omega) (fun i hi => by rw [Nat.zero_add])) Try.underlying32 rfl infoL ?_)
  refine (sameL_any xA yA lA va vw _ _ _ LAA.out.row LWA.out.row).mono ?_
  rintro e wB ⟨rfl, hbB⟩
  have gbB := gbA.trans (hbB.mono gbA.size)
  have BKB := hide (BKA.out.below hbB)
  have LAB := hide (LAA.out.below hbB)
  have LBB := hide (LBA.out.below hbB)
  have LWB := hide (LWA.out.below hbB)
  clear hbB gbA BKA LAA LBA LWA
  go_wp2_with (first | refine wpW_load_at 32 _ rfl gB 0 (by rfl) (by rfl) (ledv xA yA vb) 3 _ (LBB.out.at_.at_ 0 (by omega) (fun i hi => by rw [Nat.zero_add])) Try.underlying32 rfl infoL ?_ | refine wpW_load_at 32 _ rfl gW 0 (by rfl) (by rfl) (ledv xA yA vw) 3 _ (LWB.out.at_.at_ 0 (by omega) (fun i hi => by rw [Nat.zero_add])) Try.underlying32 rfl infoL ?_)
  refine (sameL_any xA yA lA vb vw _ _ _ LBB.out.row LWB.out.row).mono ?_
  rintro e wC ⟨rfl, hbC⟩
  have gbC := gbB.trans (hbC.mono gbB.size)
  have BKC := hide (BKB.out.below hbC)
  have LAC := hide (LAB.out.below hbC)
  have LBC := hide (LBB.out.below hbC)
  have LWC := hide (LWB.out.below hbC)
  clear hbC gbB BKB LAB LBB LWB
  go_wp2_with fail
  refine (E1.out _ _ (by have := NE.out; omega) _ BKC.out.x.read (hS1.below gbC)).mono ?_
  rintro e wD ⟨rfl, hbD⟩
  have gbD := gbC.trans (hbD.mono gbC.size)
  have BKD := hide (BKC.out.below hbD)
  have LAD := hide (LAC.out.below hbD)
  have LBD := hide (LBC.out.below hbD)
  have LWD := hide (LWC.out.below hbD)
  clear hbD gbC BKC LAC LBC LWC E1
  go_wp2_with fail
  refine (E2.out _ _ (by have := NE.out; omega) _ BKD.out.y.read (hS2.below gbD)).mono ?_
  rintro e wE ⟨rfl, hbE⟩
  have gbE := gbD.trans (hbE.mono gbD.size)
  have BKE := hide (BKD.out.below hbE)
  have LAE := hide (LAD.out.below hbE)
  have LBE := hide (LBD.out.below hbE)
  have LWE := hide (LWD.out.below hbE)
  clear hbE gbD BKD LAD LBD LWD E2
  obtain ⟨ada, ca, hva, _, _, hca, hma⟩ := LAE.out.row.pens
  obtain ⟨adw, cw, hvw, _, _, _, _⟩ := LWE.out.row.pens
  obtain ⟨nA, hnA⟩ : ∃ n, lA.length = n := ⟨_, rfl⟩
  have onE : OwnN w4.heap.size wE va nA := by have h := LAE.out.row.any; rw [hnA] at h; exact h
  rw [hnA] at hva hvw hca LEN
  subst hva
  subst hvw
  have hni : (nA : Int) ≤ 9223372036854775806 := by have := LEN.out; omega
  have a2 : wE.cell? ⟨gA, 2, none⟩ = some (.slice ada nA ca) := LAE.out.at_.cell 2 (by omega)
  have HNA := hide hnA
  clear hnA hca hma
  go_wp2
  go_loopw [19] (fun i wr => ∃ j : Nat, j ≤ nA ∧ i = .int .i64 (j : Int) ∧ OwnN w4.heap.size wr (.slice ada nA ca) nA ∧ Keep (fun k => (Value.slice ada nA ca).ownBlock = some k) wE wr) (fun i _ => nA - (intOf i).toNat)
  case atStart => exact ⟨0, Nat.zero_le _, rfl, onE, Keep.refl _ _⟩
  case round =>
    obtain ⟨j, hj, rfl, hown, kp⟩ := hrel
    have A2 : wr.cell? ⟨gA, 2, none⟩ = some (.slice ada nA ca) := (LAE.out.at_.keep kp (fun e => by have := NA.out _ e; omega)).cell 2 (by omega)
    clear a2 onE
    by_cases hlt : j < nA
    · have hd : decide ((j : Int) < (nA : Int)) = true := decide_eq_true (by omega)
      have hd2 : decide (j < nA) = true := decide_eq_true hlt
      have hk0 : (0 : Int) ≤ (j : Int) := by omega
      have hk1 : (j : Int) < (nA : Int) := by omega
      obtain ⟨g, rfl⟩ : ∃ g, ada = some ⟨g, 0, none⟩ := by
        obtain ⟨xs, _, ⟨e, h0⟩ | ⟨g, cap, cur, e, _⟩⟩ := hown
        · omega
        · cases e; exact ⟨g, rfl⟩
      have HOW := hide hown
      clear hown
      go_wp2_with (first | refine wpW_build (by rfl) 42 #[(1, .const (.int .i64 (-1)))] rfl [(1, .int .i64 (-1))] (by simp [Act.eval]) _ built_pm1 ?_ | (refine wpList_storeRow rfl _ _ rfl rfl g nA ca j w4.heap.size pm1 rfl rfl HOW.out hlt ?_; intro wk owk kwk))
      go_roundw
      case rel => exact ⟨j + 1, by omega, by go_num, owk, kp.transR kwk (fun k hk e => by rw [e]; rfl)⟩
      case measure => simp [intOf]; omega
    · have hjn : nA = j := by omega
      subst hjn
      have hd : decide ((nA : Int) < (nA : Int)) = false := decide_eq_false (by omega)
      have hd2 : decide (nA < nA) = false := decide_eq_false (by omega)
      have gbr : Below w.heap.size w wr := gbE.trans (kp.below gbE.size (fun k hk e => by have := NA.out _ e; have := NE.out; omega))
      obtain ⟨vl, wF0, wF, rS, rA, ⟨adl, cl, rfl⟩, grF, bF⟩ := hown.app pm2 LEN.out (by have h1 := kp.size; have h2 := LAE.out.at_.lt; omega)
      have kF : Keep (fun k => (Value.slice ada nA ca).ownBlock = some k) wE wF := kp.trans ⟨bF.os, bF.tape, bF.output, bF.size, fun k hk hn => grF k hk hn⟩
      have gbF : Below w.heap.size w wF := gbE.trans (kF.below gbE.size (fun k hk e => by have := NA.out _ e; have := NE.out; omega))
      have BKF := hide (BKE.out.keep kF (fun e => by have := NA.out _ e; have := NE.out; omega) (fun e => by have := NA.out _ e; have := NE.out; omega) (fun e => by have := NA.out _ e; have := NE.out; omega))
      have LBF := hide (LBE.out.keep kF (fun e => by have := NA.out _ e; omega) (fun i hi _ e => by have := NA.out _ e; omega))
      have LWF := hide (LWE.out.keep kF (fun e => by have := NA.out _ e; omega) (fun i hi _ e => by have := NA.out _ e; omega))
      have RS := hide rS
      have RA := hide rA
      clear hown rS rA grF bF kF kp BKE LBE LWE LAE gbE gbr
      go_wp2_with (first | refine wpW_build (by rfl) 42 #[(1, .const (.int .i64 (-2)))] rfl [(1, .int .i64 (-2))] (by simp [Act.eval]) _ built_pm2 ?_ | refine wpList_slice1 rfl 30 _ rfl (.agg (tabv pm2.v 35)) rfl RS.out ?_ | refine wpList_app rfl _ _ _ rfl RA.out ?_)
      refine (M1.out _ (hS1.below gbF)).mono ?_
      rintro e wG ⟨⟨ad5, c5, rfl, o5, _, _⟩, hbG⟩
      have gbG := gbF.trans (hbG.mono gbF.size)
      have BKG := BKF.out.below hbG
      have LBG := LBF.out.below hbG
      have LWG := LWF.out.below hbG
      obtain ⟨wH, rH, oH, kH⟩ := run_copyU wG 3 gx cx _ _ (.slice ad5 n1 c5) mine m1 [mark7] (by have h := BKG.x; rw [← HN1.out] at h; exact h) o5 (by rw [HL1.out, HN1.out])
      rw [HN1.out] at rH oH
      have RH := hide rH
      have gbH : Below w.heap.size w wH := gbG.trans (kH.below gbG.size (fun k hk e => by have := NE.out; omega))
      have BKH : Hid (BkF g0 fO fP gx gy cx cy n1 n2 m1 others w.heap.size wH) := ⟨BKG.cnt.keep kH (fun e => by have := NE.out; omega), oH, BKG.y.same fun k hk => kH.block k (BKG.y.lt k hk).2 (fun e => by cases hk; have e2 : gy = gx := e; have := NE.out; omega)⟩
      have LBH := hide (LBG.keep kH (fun e => by have := NE.out; omega) (fun i hi _ e => by have := NE.out; omega))
      have LWH := hide (LWG.keep kH (fun e => by have := NE.out; omega) (fun i hi _ e => by have := NE.out; omega))
      clear hbG gbF gbG BKF BKG LBF LBG LWF LWG rH oH kH o5
      go_wp2_with (first | refine wpList_copy rfl _ _ _ rfl RH.out ?_)
      refine (M2.out _ (hS2.below gbH)).mono ?_
      rintro e wI ⟨⟨ad6, c6, rfl, o6, _, _⟩, hbI⟩
      have gbI := gbH.trans (hbI.mono gbH.size)
      have BKI := BKH.out.below hbI
      have LBI := LBH.out.below hbI
      have LWI := LWH.out.below hbI
      obtain ⟨wJ, rJ, oJ, kJ⟩ := run_copyU wI 3 gy cy _ _ (.slice ad6 n2 c6) others m2 [mark7] (by have h := BKI.y; rw [← HN2.out] at h; exact h) o6 (by rw [HL2.out, HN2.out])
      rw [HN2.out] at rJ oJ
      have RJ := hide rJ
      have gbJ : Below w.heap.size w wJ := gbI.trans (kJ.below gbI.size (fun k hk e => by have := NE.out; omega))
      have BKJ : Hid (BkF g0 fO fP gx gy cx cy n1 n2 m1 m2 w.heap.size wJ) := ⟨BKI.cnt.keep kJ (fun e => by have := NE.out; omega), BKI.x.same fun k hk => kJ.block k (BKI.x.lt k hk).2 (fun e => by cases hk; have e2 : gx = gy := e; have := NE.out; omega), oJ⟩
      have LBJ := hide (LBI.keep kJ (fun e => by have := NE.out; omega) (fun i hi _ e => by have := NE.out; omega))
      have LWJ := hide (LWI.keep kJ (fun e => by have := NE.out; omega) (fun i hi _ e => by have := NE.out; omega))
      clear hbI gbH gbI BKH BKI LBH LBI LWH LWI rJ oJ kJ o6 RH
      go_wp2_with (first | refine wpList_copy rfl _ _ _ rfl RJ.out ?_ | refine wpW_load_at 24 _ rfl g0 0 (by rfl) (by rfl) _ 2 _ (BKJ.out.cnt.at_ 0 (by omega) (fun i hi => by rw [Nat.zero_add])) Try.underlying24 rfl infoC ?_)
      refine (CG.out _ _ _ _ (by have := NE.out; omega) (by have := NE.out; omega) _ BKJ.out.x.read.left BKJ.out.y.read.left).mono ?_
      rintro e wK ⟨vd, rfl, od, hbK⟩
      obtain ⟨waK, wL, hWaK, qaK, hWL, lgL, bJL⟩ := newLg (x := xB) (y := yB) od hbK
      have oneD := od.one
      have QD := hide qaK
      have gbL := gbJ.trans (bJL.mono gbJ.size)
      have BKL := hide (BKJ.out.below bJL)
      have LBL := hide (LBJ.out.below bJL)
      have LWL := hide (LWJ.out.below bJL)
      obtain ⟨gD, hgD⟩ : ∃ g, wK.heap.size = g := ⟨_, rfl⟩
      rw [hgD] at lgL QD hWL
      have LDL := hide lgL
      clear hbK qaK lgL bJL od BKJ gbJ LBJ LWJ CG RJ
      go_upto_region 17 with (first | rw [hWL] | refine wpList_storeL rfl _ _ rfl rfl gD xB yB vd oneD rfl rfl _ QD.out ?_)
      try rw [hWL]
      go_cut [23, 24] from 124 to 134 (fun s23 s24 wx => ∃ gN BN vN, s23 = .pointer (some ⟨gN, 0, none⟩) ∧ s24 = .int .i64 eB ∧ LgF gN BN xB yB vN lB wx ∧ Below wL.heap.size wL wx)
      case first =>
        refine wp_region_noPanic ?_
        refine wp_region_held_drew (S := fun wx => Below wL.heap.size wL wx) (by kernel_rfl) ((Below.refl _ _).drew) (fun hHeld => ?_)
        refine takeH 0 (some 125) (.int .i64 bO) rfl rfl (by kernel_rfl) (by kernel_rfl) (by kernel_rfl) (fun _ _ _ h => h) (by rfl) (fun w hw => by first | rfl | (go_simp; done) | (go_simp; rfl) | (go_simp; omega)) hHeld ?_
        simp only [Act.put, List.setIfInBounds_toArray, List.set_cons_zero, List.set_cons_succ]
        refine takeH 1 (some 126) (.int .i64 bP) rfl rfl (by kernel_rfl) (by kernel_rfl) (by kernel_rfl) (fun _ _ _ h => h) (by rfl) (fun w hw => by first | rfl | (go_simp; done) | (go_simp; rfl) | (go_simp; omega)) hHeld ?_
        simp only [Act.put, List.setIfInBounds_toArray, List.set_cons_zero, List.set_cons_succ]
        refine takeH 2 (some 127) (.slice a1 n1 c1) rfl rfl (by kernel_rfl) (by kernel_rfl) (by kernel_rfl) (fun _ _ _ h => h) (by rfl) (fun w hw => by first | rfl | (go_simp; done) | (go_simp; rfl) | (go_simp; omega)) hHeld ?_
        simp only [Act.put, List.setIfInBounds_toArray, List.set_cons_zero, List.set_cons_succ]
        refine takeH 4 (some 129) (.slice a2 n2 c2) rfl rfl (by kernel_rfl) (by kernel_rfl) (by kernel_rfl) (fun _ _ _ h => h) (by rfl) (fun w hw => by first | rfl | (go_simp; done) | (go_simp; rfl) | (go_simp; omega)) hHeld ?_
        simp only [Act.put, List.setIfInBounds_toArray, List.set_cons_zero, List.set_cons_succ]
        refine takeH 6 (some 131) (.agg (tabv (cnv fO fP) 2)) rfl rfl (by kernel_rfl) (by kernel_rfl) (by kernel_rfl) (fun _ _ _ h => h) (by rfl) (fun w hw => run_load_at w 24 _ rfl g0 0 (by rfl) _ 2 _ ((BKL.out.cnt.below hw BKL.out.cnt.lt).at_ 0 (by omega) (fun i hi => by rw [Nat.zero_add])) Try.underlying24 rfl infoC) hHeld ?_
        simp only [Act.put, List.setIfInBounds_toArray, List.set_cons_zero, List.set_cons_succ]
        generalize hwd : World.drew wL = wd at hHeld ⊢
        refine wpAnyH_ready (rs := [3, 11]) (by kernel_rfl) (by simp) (AllReadyH.cons rfl (fun K hK => ?_) (AllReadyH.cons rfl (fun K hK => ?_) AllReadyH.nil))
        · rw [if_pos (by rfl)]
          go_simp
          refine (M1.out _ (hS1.below (gbL.trans (hHeld.mono gbL.size)))).mono ?_
          rintro e w__3 ⟨⟨ad7, c7, rfl, o7, u7, h7⟩, hb⟩
          try go_wp2_with fail
          refine hK.out _ _ (hHeld.trans (hb.mono hHeld.size)) (fun hH => ?_)
          clear hK K hHeld
          have hHeld := hH
          clear hH
          refine wpAnyH_ready (rs := [5, 11]) (by kernel_rfl) (by simp) (AllReadyH.cons rfl (fun K hK => ?_) (AllReadyH.cons rfl (fun K hK => ?_) AllReadyH.nil))
          · rw [if_pos (by rfl)]
            go_simp
            refine (M2.out _ (hS2.below (gbL.trans (hHeld.mono gbL.size)))).mono ?_
            rintro e w_3_5 ⟨⟨ad8, c8, rfl, o8, u8, h8⟩, hb⟩
            try go_wp2_with fail
            have u7 := u7.below hb
            refine hK.out _ _ (hHeld.trans (hb.mono hHeld.size)) (fun hH => ?_)
            clear hK K hHeld
            have hHeld := hH
            clear hH
            refine wpAnyH_ready (rs := [7, 11]) (by kernel_rfl) (by simp) (AllReadyH.cons rfl (fun K hK => ?_) (AllReadyH.cons rfl (fun K hK => ?_) AllReadyH.nil))
            · rw [if_pos (by rfl)]
              go_simp
              refine (RG.out _ _ _ _ h7 h8 _ u7 u8).mono ?_
              rintro e w_35_7 ⟨vN, rfl, oN, hb⟩
              try go_wp2_with fail
              refine hK.out _ _ (hHeld.trans (hb.mono hHeld.size)) (fun hH => ?_)
              clear hK K hHeld
              have hHeld := hH
              clear hH
              refine takeH 8 (some 124) (.tuple #[.agg (tabv (ledv xB yB vN) 3), .int .i64 eB]) rfl rfl (by kernel_rfl) (by kernel_rfl) (by kernel_rfl) (fun _ _ _ h => h) (by rfl) (fun w hw => by first | rfl | (go_simp; done) | (go_simp; rfl) | (go_simp; omega)) hHeld ?_
              simp only [Act.put, List.setIfInBounds_toArray, List.set_cons_zero, List.set_cons_succ]
              refine takeH 9 (some 133) (.agg (tabv (ledv xB yB vN) 3)) rfl rfl (by kernel_rfl) (by kernel_rfl) (by kernel_rfl) (fun _ _ _ h => h) (by rfl) (fun w hw => by first | rfl | (go_simp; done) | (go_simp; rfl) | (go_simp; omega)) hHeld ?_
              simp only [Act.put, List.setIfInBounds_toArray, List.set_cons_zero, List.set_cons_succ]
              refine takeH 10 (some 134) (.int .i64 eB) rfl rfl (by kernel_rfl) (by kernel_rfl) (by kernel_rfl) (fun _ _ _ h => h) (by rfl) (fun w hw => by first | rfl | (go_simp; done) | (go_simp; rfl) | (go_simp; omega)) hHeld ?_
              simp only [Act.put, List.setIfInBounds_toArray, List.set_cons_zero, List.set_cons_succ]
              refine wpAnyH_ready (rs := [11]) (by kernel_rfl) (by simp) (AllReadyH.cons rfl (fun K hK => ?_) AllReadyH.nil)
              · rw [if_pos (by rfl)]
                go_simp
                have qN : Has (World.alloc (w_35_7) (.cells #[.int .i64 0, .int .i64 0, .slice none 0 0] 32)) (Array.size (World.heap (w_35_7))) 32 (ledv 0 0 (.slice none 0 0)) 3 := by rw [zeroL]; exact Has.new _ 32 _ 3 _ rfl
                have bN : Below (Array.size (World.heap (w_35_7))) (w_35_7) (World.alloc (w_35_7) (.cells #[.int .i64 0, .int .i64 0, .slice none 0 0] 32)) := (Below.refl _ _).alloc (Nat.le_refl _) _
                have hgN1 : wL.heap.size ≤ Array.size (World.heap (w_35_7)) := hHeld.size
                have hno0 := fun i hi => (oN.lt i hi).2
                have oN := oN.below bN
                have sN := hHeld.trans (bN.mono hHeld.size)
                generalize hW : World.alloc (w_35_7) (.cells #[.int .i64 0, .int .i64 0, .slice none 0 0] 32) = w_357_11 at qN bN sN oN ⊢
                refine hK.out _ _ sN (fun hH => ?_)
                clear sN
                clear hK K hHeld
                have hHeld := hH
                clear hH
                generalize hgN : Array.size (World.heap (w_35_7)) = gN at qN hgN1 hno0 ⊢
                have hgl := qN.lt
                have hno : ∀ i, vN.ownBlock = some i → i ≠ gN := fun i hi e => by have := hno0 i hi; omega
                try simp only [Act.put, List.setIfInBounds_toArray, List.set_cons_zero, List.set_cons_succ]
                refine wpAnyH_ready (rs := [12]) (by kernel_rfl) (by simp) (AllReadyH.cons rfl (fun K hK => ?_) AllReadyH.nil)
                · rw [if_pos (by rfl)]
                  have oneN := oN.one
                  refine wp_store_part 32 _ _ rfl rfl gN 0 (ledv xB yB vN) 3 rfl rfl 32 (ledv 0 0 (.slice none 0 0)) 3 qN (by omega) infoL (fun i _ => one_ledv _ _ _ oneN i) (ledv xB yB vN) (fun i hi => by unfold splice; rw [if_pos (by omega), Nat.sub_zero]) ?_
                  have kN : Keep (· = gN) (w_357_11) (World.setRow (w_357_11) gN (tabv (ledv xB yB vN) 3)) := keep_row _ _ _ rfl
                  have lgQ := LgF.mk (qN.row _ (ledv xB yB vN) rfl) (oN.keep kN (fun i hi e => hno i hi e))
                  have sN := below_setRow hHeld hgN1 (tabv (ledv xB yB vN) 3)
                  refine hK.out _ _ sN (fun hH => ?_)
                  clear sN
                  clear hK K hHeld
                  have hHeld := hH
                  clear hH
                  refine takeH 13 (some 24) (.int .i64 eB) rfl rfl (by kernel_rfl) (by kernel_rfl) (by kernel_rfl) (fun _ _ _ h => h) (by rfl) (fun w hw => by first | rfl | (go_simp; done) | (go_simp; rfl) | (go_simp; omega)) hHeld ?_
                  simp only [Act.put, List.setIfInBounds_toArray, List.set_cons_zero, List.set_cons_succ]
                  refine ⟨by kernel_rfl, ?_⟩
                  refine NoPanic.normal ?_
                  try go_wp2_with fail
                  go_meet
                  exact ⟨_, _, _, rfl, rfl, lgQ, hHeld⟩
            · rw [if_pos (by rfl)]
              go_simp
              have qN : Has (World.alloc (w_3_5) (.cells #[.int .i64 0, .int .i64 0, .slice none 0 0] 32)) (Array.size (World.heap (w_3_5))) 32 (ledv 0 0 (.slice none 0 0)) 3 := by rw [zeroL]; exact Has.new _ 32 _ 3 _ rfl
              have bN : Below (Array.size (World.heap (w_3_5))) (w_3_5) (World.alloc (w_3_5) (.cells #[.int .i64 0, .int .i64 0, .slice none 0 0] 32)) := (Below.refl _ _).alloc (Nat.le_refl _) _
              have hgN1 : wL.heap.size ≤ Array.size (World.heap (w_3_5)) := hHeld.size
              have u7 := u7.below bN
              have u8 := u8.below bN
              have sN := hHeld.trans (bN.mono hHeld.size)
              generalize hW : World.alloc (w_3_5) (.cells #[.int .i64 0, .int .i64 0, .slice none 0 0] 32) = w_35_11 at qN bN sN u7 u8 ⊢
              refine hK.out _ _ sN (fun hH => ?_)
              clear sN
              clear hK K hHeld
              have hHeld := hH
              clear hH
              generalize hgN : Array.size (World.heap (w_3_5)) = gN at qN hgN1 ⊢
              have hgl := qN.lt
              try simp only [Act.put, List.setIfInBounds_toArray, List.set_cons_zero, List.set_cons_succ]
              refine wpAnyH_ready (rs := [7]) (by kernel_rfl) (by simp) (AllReadyH.cons rfl (fun K hK => ?_) AllReadyH.nil)
              · rw [if_pos (by rfl)]
                go_simp
                refine (RG.out _ _ _ _ h7 h8 _ u7 u8).mono ?_
                rintro e w_3511_7 ⟨vN, rfl, oN, hb⟩
                try go_wp2_with fail
                have qN := qN.below hb qN.lt
                have hno : ∀ i, vN.ownBlock = some i → i ≠ gN := fun i hi e => by have := (oN.lt i hi).1; omega
                refine hK.out _ _ (hHeld.trans (hb.mono hHeld.size)) (fun hH => ?_)
                have hgl := qN.lt
                clear hK K hHeld
                have hHeld := hH
                clear hH
                refine takeH 8 (some 124) (.tuple #[.agg (tabv (ledv xB yB vN) 3), .int .i64 eB]) rfl rfl (by kernel_rfl) (by kernel_rfl) (by kernel_rfl) (fun _ _ _ h => h) (by rfl) (fun w hw => by first | rfl | (go_simp; done) | (go_simp; rfl) | (go_simp; omega)) hHeld ?_
                simp only [Act.put, List.setIfInBounds_toArray, List.set_cons_zero, List.set_cons_succ]
                refine takeH 9 (some 133) (.agg (tabv (ledv xB yB vN) 3)) rfl rfl (by kernel_rfl) (by kernel_rfl) (by kernel_rfl) (fun _ _ _ h => h) (by rfl) (fun w hw => by first | rfl | (go_simp; done) | (go_simp; rfl) | (go_simp; omega)) hHeld ?_
                simp only [Act.put, List.setIfInBounds_toArray, List.set_cons_zero, List.set_cons_succ]
                refine takeH 10 (some 134) (.int .i64 eB) rfl rfl (by kernel_rfl) (by kernel_rfl) (by kernel_rfl) (fun _ _ _ h => h) (by rfl) (fun w hw => by first | rfl | (go_simp; done) | (go_simp; rfl) | (go_simp; omega)) hHeld ?_
                simp only [Act.put, List.setIfInBounds_toArray, List.set_cons_zero, List.set_cons_succ]
                refine wpAnyH_ready (rs := [12]) (by kernel_rfl) (by simp) (AllReadyH.cons rfl (fun K hK => ?_) AllReadyH.nil)
                · rw [if_pos (by rfl)]
                  have oneN := oN.one
                  refine wp_store_part 32 _ _ rfl rfl gN 0 (ledv xB yB vN) 3 rfl rfl 32 (ledv 0 0 (.slice none 0 0)) 3 qN (by omega) infoL (fun i _ => one_ledv _ _ _ oneN i) (ledv xB yB vN) (fun i hi => by unfold splice; rw [if_pos (by omega), Nat.sub_zero]) ?_
                  have kN : Keep (· = gN) (w_3511_7) (World.setRow (w_3511_7) gN (tabv (ledv xB yB vN) 3)) := keep_row _ _ _ rfl
                  have lgQ := LgF.mk (qN.row _ (ledv xB yB vN) rfl) (oN.keep kN (fun i hi e => hno i hi e))
                  have sN := below_setRow hHeld hgN1 (tabv (ledv xB yB vN) 3)
                  refine hK.out _ _ sN (fun hH => ?_)
                  clear sN
                  clear hK K hHeld
                  have hHeld := hH
                  clear hH
                  refine takeH 13 (some 24) (.int .i64 eB) rfl rfl (by kernel_rfl) (by kernel_rfl) (by kernel_rfl) (fun _ _ _ h => h) (by rfl) (fun w hw => by first | rfl | (go_simp; done) | (go_simp; rfl) | (go_simp; omega)) hHeld ?_
                  simp only [Act.put, List.setIfInBounds_toArray, List.set_cons_zero, List.set_cons_succ]
                  refine ⟨by kernel_rfl, ?_⟩
                  refine NoPanic.normal ?_
                  try go_wp2_with fail
                  go_meet
                  exact ⟨_, _, _, rfl, rfl, lgQ, hHeld⟩
          · rw [if_pos (by rfl)]
            go_simp
            have qN : Has (World.alloc (w__3) (.cells #[.int .i64 0, .int .i64 0, .slice none 0 0] 32)) (Array.size (World.heap (w__3))) 32 (ledv 0 0 (.slice none 0 0)) 3 := by rw [zeroL]; exact Has.new _ 32 _ 3 _ rfl
            have bN : Below (Array.size (World.heap (w__3))) (w__3) (World.alloc (w__3) (.cells #[.int .i64 0, .int .i64 0, .slice none 0 0] 32)) := (Below.refl _ _).alloc (Nat.le_refl _) _
            have hgN1 : wL.heap.size ≤ Array.size (World.heap (w__3)) := hHeld.size
            have u7 := u7.below bN
            have sN := hHeld.trans (bN.mono hHeld.size)
            generalize hW : World.alloc (w__3) (.cells #[.int .i64 0, .int .i64 0, .slice none 0 0] 32) = w_3_11 at qN bN sN u7 ⊢
            refine hK.out _ _ sN (fun hH => ?_)
            clear sN
            clear hK K hHeld
            have hHeld := hH
            clear hH
            generalize hgN : Array.size (World.heap (w__3)) = gN at qN hgN1 ⊢
            have hgl := qN.lt
            try simp only [Act.put, List.setIfInBounds_toArray, List.set_cons_zero, List.set_cons_succ]
            refine wpAnyH_ready (rs := [5]) (by kernel_rfl) (by simp) (AllReadyH.cons rfl (fun K hK => ?_) AllReadyH.nil)
            · rw [if_pos (by rfl)]
              go_simp
              refine (M2.out _ (hS2.below (gbL.trans (hHeld.mono gbL.size)))).mono ?_
              rintro e w_311_5 ⟨⟨ad8, c8, rfl, o8, u8, h8⟩, hb⟩
              try go_wp2_with fail
              have u7 := u7.below hb
              have qN := qN.below hb qN.lt
              refine hK.out _ _ (hHeld.trans (hb.mono hHeld.size)) (fun hH => ?_)
              have hgl := qN.lt
              clear hK K hHeld
              have hHeld := hH
              clear hH
              refine wpAnyH_ready (rs := [7]) (by kernel_rfl) (by simp) (AllReadyH.cons rfl (fun K hK => ?_) AllReadyH.nil)
              · rw [if_pos (by rfl)]
                go_simp
                refine (RG.out _ _ _ _ h7 h8 _ u7 u8).mono ?_
                rintro e w_3115_7 ⟨vN, rfl, oN, hb⟩
                try go_wp2_with fail
                have qN := qN.below hb qN.lt
                have hno : ∀ i, vN.ownBlock = some i → i ≠ gN := fun i hi e => by have := (oN.lt i hi).1; omega
                refine hK.out _ _ (hHeld.trans (hb.mono hHeld.size)) (fun hH => ?_)
                have hgl := qN.lt
                clear hK K hHeld
                have hHeld := hH
                clear hH
                refine takeH 8 (some 124) (.tuple #[.agg (tabv (ledv xB yB vN) 3), .int .i64 eB]) rfl rfl (by kernel_rfl) (by kernel_rfl) (by kernel_rfl) (fun _ _ _ h => h) (by rfl) (fun w hw => by first | rfl | (go_simp; done) | (go_simp; rfl) | (go_simp; omega)) hHeld ?_
                simp only [Act.put, List.setIfInBounds_toArray, List.set_cons_zero, List.set_cons_succ]
                refine takeH 9 (some 133) (.agg (tabv (ledv xB yB vN) 3)) rfl rfl (by kernel_rfl) (by kernel_rfl) (by kernel_rfl) (fun _ _ _ h => h) (by rfl) (fun w hw => by first | rfl | (go_simp; done) | (go_simp; rfl) | (go_simp; omega)) hHeld ?_
                simp only [Act.put, List.setIfInBounds_toArray, List.set_cons_zero, List.set_cons_succ]
                refine takeH 10 (some 134) (.int .i64 eB) rfl rfl (by kernel_rfl) (by kernel_rfl) (by kernel_rfl) (fun _ _ _ h => h) (by rfl) (fun w hw => by first | rfl | (go_simp; done) | (go_simp; rfl) | (go_simp; omega)) hHeld ?_
                simp only [Act.put, List.setIfInBounds_toArray, List.set_cons_zero, List.set_cons_succ]
                refine wpAnyH_ready (rs := [12]) (by kernel_rfl) (by simp) (AllReadyH.cons rfl (fun K hK => ?_) AllReadyH.nil)
                · rw [if_pos (by rfl)]
                  have oneN := oN.one
                  refine wp_store_part 32 _ _ rfl rfl gN 0 (ledv xB yB vN) 3 rfl rfl 32 (ledv 0 0 (.slice none 0 0)) 3 qN (by omega) infoL (fun i _ => one_ledv _ _ _ oneN i) (ledv xB yB vN) (fun i hi => by unfold splice; rw [if_pos (by omega), Nat.sub_zero]) ?_
                  have kN : Keep (· = gN) (w_3115_7) (World.setRow (w_3115_7) gN (tabv (ledv xB yB vN) 3)) := keep_row _ _ _ rfl
                  have lgQ := LgF.mk (qN.row _ (ledv xB yB vN) rfl) (oN.keep kN (fun i hi e => hno i hi e))
                  have sN := below_setRow hHeld hgN1 (tabv (ledv xB yB vN) 3)
                  refine hK.out _ _ sN (fun hH => ?_)
                  clear sN
                  clear hK K hHeld
                  have hHeld := hH
                  clear hH
                  refine takeH 13 (some 24) (.int .i64 eB) rfl rfl (by kernel_rfl) (by kernel_rfl) (by kernel_rfl) (fun _ _ _ h => h) (by rfl) (fun w hw => by first | rfl | (go_simp; done) | (go_simp; rfl) | (go_simp; omega)) hHeld ?_
                  simp only [Act.put, List.setIfInBounds_toArray, List.set_cons_zero, List.set_cons_succ]
                  refine ⟨by kernel_rfl, ?_⟩
                  refine NoPanic.normal ?_
                  try go_wp2_with fail
                  go_meet
                  exact ⟨_, _, _, rfl, rfl, lgQ, hHeld⟩
        · rw [if_pos (by rfl)]
          go_simp
          have qN : Has (World.alloc (wd) (.cells #[.int .i64 0, .int .i64 0, .slice none 0 0] 32)) (Array.size (World.heap (wd))) 32 (ledv 0 0 (.slice none 0 0)) 3 := by rw [zeroL]; exact Has.new _ 32 _ 3 _ rfl
          have bN : Below (Array.size (World.heap (wd))) (wd) (World.alloc (wd) (.cells #[.int .i64 0, .int .i64 0, .slice none 0 0] 32)) := (Below.refl _ _).alloc (Nat.le_refl _) _
          have hgN1 : wL.heap.size ≤ Array.size (World.heap (wd)) := hHeld.size
          have sN := hHeld.trans (bN.mono hHeld.size)
          generalize hW : World.alloc (wd) (.cells #[.int .i64 0, .int .i64 0, .slice none 0 0] 32) = w__11 at qN bN sN ⊢
          refine hK.out _ _ sN (fun hH => ?_)
          clear sN
          clear hK K hHeld
          have hHeld := hH
          clear hH
          generalize hgN : Array.size (World.heap (wd)) = gN at qN hgN1 ⊢
          have hgl := qN.lt
          try simp only [Act.put, List.setIfInBounds_toArray, List.set_cons_zero, List.set_cons_succ]
          refine wpAnyH_ready (rs := [3]) (by kernel_rfl) (by simp) (AllReadyH.cons rfl (fun K hK => ?_) AllReadyH.nil)
          · rw [if_pos (by rfl)]
            go_simp
            refine (M1.out _ (hS1.below (gbL.trans (hHeld.mono gbL.size)))).mono ?_
            rintro e w_11_3 ⟨⟨ad7, c7, rfl, o7, u7, h7⟩, hb⟩
            try go_wp2_with fail
            have qN := qN.below hb qN.lt
            refine hK.out _ _ (hHeld.trans (hb.mono hHeld.size)) (fun hH => ?_)
            have hgl := qN.lt
            clear hK K hHeld
            have hHeld := hH
            clear hH
            refine wpAnyH_ready (rs := [5]) (by kernel_rfl) (by simp) (AllReadyH.cons rfl (fun K hK => ?_) AllReadyH.nil)
            · rw [if_pos (by rfl)]
              go_simp
              refine (M2.out _ (hS2.below (gbL.trans (hHeld.mono gbL.size)))).mono ?_
              rintro e w_113_5 ⟨⟨ad8, c8, rfl, o8, u8, h8⟩, hb⟩
              try go_wp2_with fail
              have u7 := u7.below hb
              have qN := qN.below hb qN.lt
              refine hK.out _ _ (hHeld.trans (hb.mono hHeld.size)) (fun hH => ?_)
              have hgl := qN.lt
              clear hK K hHeld
              have hHeld := hH
              clear hH
              refine wpAnyH_ready (rs := [7]) (by kernel_rfl) (by simp) (AllReadyH.cons rfl (fun K hK => ?_) AllReadyH.nil)
              · rw [if_pos (by rfl)]
                go_simp
                refine (RG.out _ _ _ _ h7 h8 _ u7 u8).mono ?_
                rintro e w_1135_7 ⟨vN, rfl, oN, hb⟩
                try go_wp2_with fail
                have qN := qN.below hb qN.lt
                have hno : ∀ i, vN.ownBlock = some i → i ≠ gN := fun i hi e => by have := (oN.lt i hi).1; omega
                refine hK.out _ _ (hHeld.trans (hb.mono hHeld.size)) (fun hH => ?_)
                have hgl := qN.lt
                clear hK K hHeld
                have hHeld := hH
                clear hH
                refine takeH 8 (some 124) (.tuple #[.agg (tabv (ledv xB yB vN) 3), .int .i64 eB]) rfl rfl (by kernel_rfl) (by kernel_rfl) (by kernel_rfl) (fun _ _ _ h => h) (by rfl) (fun w hw => by first | rfl | (go_simp; done) | (go_simp; rfl) | (go_simp; omega)) hHeld ?_
                simp only [Act.put, List.setIfInBounds_toArray, List.set_cons_zero, List.set_cons_succ]
                refine takeH 9 (some 133) (.agg (tabv (ledv xB yB vN) 3)) rfl rfl (by kernel_rfl) (by kernel_rfl) (by kernel_rfl) (fun _ _ _ h => h) (by rfl) (fun w hw => by first | rfl | (go_simp; done) | (go_simp; rfl) | (go_simp; omega)) hHeld ?_
                simp only [Act.put, List.setIfInBounds_toArray, List.set_cons_zero, List.set_cons_succ]
                refine takeH 10 (some 134) (.int .i64 eB) rfl rfl (by kernel_rfl) (by kernel_rfl) (by kernel_rfl) (fun _ _ _ h => h) (by rfl) (fun w hw => by first | rfl | (go_simp; done) | (go_simp; rfl) | (go_simp; omega)) hHeld ?_
                simp only [Act.put, List.setIfInBounds_toArray, List.set_cons_zero, List.set_cons_succ]
                refine wpAnyH_ready (rs := [12]) (by kernel_rfl) (by simp) (AllReadyH.cons rfl (fun K hK => ?_) AllReadyH.nil)
                · rw [if_pos (by rfl)]
                  have oneN := oN.one
                  refine wp_store_part 32 _ _ rfl rfl gN 0 (ledv xB yB vN) 3 rfl rfl 32 (ledv 0 0 (.slice none 0 0)) 3 qN (by omega) infoL (fun i _ => one_ledv _ _ _ oneN i) (ledv xB yB vN) (fun i hi => by unfold splice; rw [if_pos (by omega), Nat.sub_zero]) ?_
                  have kN : Keep (· = gN) (w_1135_7) (World.setRow (w_1135_7) gN (tabv (ledv xB yB vN) 3)) := keep_row _ _ _ rfl
                  have lgQ := LgF.mk (qN.row _ (ledv xB yB vN) rfl) (oN.keep kN (fun i hi e => hno i hi e))
                  have sN := below_setRow hHeld hgN1 (tabv (ledv xB yB vN) 3)
                  refine hK.out _ _ sN (fun hH => ?_)
                  clear sN
                  clear hK K hHeld
                  have hHeld := hH
                  clear hH
                  refine takeH 13 (some 24) (.int .i64 eB) rfl rfl (by kernel_rfl) (by kernel_rfl) (by kernel_rfl) (fun _ _ _ h => h) (by rfl) (fun w hw => by first | rfl | (go_simp; done) | (go_simp; rfl) | (go_simp; omega)) hHeld ?_
                  simp only [Act.put, List.setIfInBounds_toArray, List.set_cons_zero, List.set_cons_succ]
                  refine ⟨by kernel_rfl, ?_⟩
                  refine NoPanic.normal ?_
                  try go_wp2_with fail
                  go_meet
                  exact ⟨_, _, _, rfl, rfl, lgQ, hHeld⟩
      case rest =>
      obtain ⟨gN, BN, vN, rfl, rfl, LN, hbN⟩ := hcut
      have gbN := gbL.trans (hbN.mono gbL.size)
      have LBN := hide (LBL.out.below hbN)
      have LWN := hide (LWL.out.below hbN)
      have LDN := hide (LDL.out.below hbN)
      have LNN := hide LN
      have w2 : wc.cell? ⟨gW, 2, none⟩ = some (.slice adw nA cw) := LWN.out.at_.cell 2 (by omega)
      have zn : IntKind.i64.wrap ((nA : Int) + 1) = (nA : Int) + 1 := by rw [IntKind.wrap_i64]; omega
      have zq : (((nA + 1 : Nat) : Int) == (nA : Int) + 1) = true := by rw [beq_iff_eq]; omega
      have zq2 : (((nA : Int) + 1) == (nA : Int) + 1) = true := by simp
      clear LN LBL LWL LDL gbL
      go_wp2_with (first | refine wpW_load_at 32 _ rfl gB 0 (by rfl) (by rfl) (ledv xA yA vb) 3 _ (LBN.out.at_.at_ 0 (by omega) (fun i hi => by rw [Nat.zero_add])) Try.underlying32 rfl infoL ?_ | refine wpW_load_at 32 _ rfl gW 0 (by rfl) (by rfl) (ledv xA yA (.slice adw nA cw)) 3 _ (LWN.out.at_.at_ 0 (by omega) (fun i hi => by rw [Nat.zero_add])) Try.underlying32 rfl infoL ?_)
      refine (sameL_any xA yA lA vb (.slice adw nA cw) _ _ _ LBN.out.row LWN.out.row).mono ?_
      rintro e wO ⟨rfl, hbO⟩
      have gbO := gbN.trans (hbO.mono gbN.size)
      have LDO := hide (LDN.out.below hbO)
      have LNO := hide (LNN.out.below hbO)
      go_wp2_with (first | refine wpW_load_at 32 _ rfl gD 0 (by rfl) (by rfl) (ledv xB yB vd) 3 _ (LDO.out.at_.at_ 0 (by omega) (fun i hi => by rw [Nat.zero_add])) Try.underlying32 rfl infoL ?_ | refine wpW_load_at 32 _ rfl gN 0 (by rfl) (by rfl) (ledv xB yB vN) 3 _ (LNO.out.at_.at_ 0 (by omega) (fun i hi => by rw [Nat.zero_add])) Try.underlying32 rfl infoL ?_)
      refine (sameL_any xB yB lB vd vN _ _ _ LDO.out.row LNO.out.row).mono ?_
      rintro e wP ⟨rfl, hbP⟩
      go_wp2
      go_ret
      exact ⟨rfl, gbO.trans (hbP.mono gbO.size)⟩
end Go.Proofs.Ytoomcpehdflolaa
