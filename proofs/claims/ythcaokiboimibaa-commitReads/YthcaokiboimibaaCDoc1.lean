/-
  The document's count, number, Sound (number: as layer 5's put; printed by gen_c10.py).
-/
import Derived.Test.YthcaokiboimibaaCSame
namespace Go.Proofs.Ythcaokiboimibaa
open Go.RowKit S
set_option linter.unusedVariables false
set_option linter.unusedSimpArgs false
section
open Cu
set_option maxHeartbeats 1000000 in
theorem rnumber_any (n : Nat) (hn : n ≤ 8) (X : Int) (x : Nat) (hX : X = (x : Int)) (v : Value) (l : List UInt8) (B : Nat) (w : World) (hB : Bytes w B v l) (hs : B ≤ w.heap.size) (hl : l.length + 8 ≤ 140737488355328) (N : Int) (hN : N = (n : Int)) :
    Calls Try.prog 37 #[v, .int .i64 X, .int .i64 N] w fun e w' => ∃ v', e = .returned v' ∧ Bytes w' B v' (l ++ nb x n) ∧ Mv w v w' v' := by
  have HL := hide hl
  have HX := hide hX
  have HN := hide hn
  have h1 : wrap64 (N - 1) = (n : Int) - 1 := by rw [hN]; unfold wrap64; omega
  have H1 := hide h1
  clear hl hX hN hn h1
  go_enter Try.func37, Try.ntmps37
  go_wp2
  go_loopw [0, 7] (fun b i wr => ∃ k : Nat, k ≤ n ∧ i = .int .i64 ((k : Int) - 1) ∧ Bytes wr B b (l ++ (List.range (n - k)).map (digit x n)) ∧ Mv w v wr b) (fun _ i _ => (intOf i + 1).toNat)
  case atStart => exact ⟨n, Nat.le_refl _, by rw [H1.out], by rw [Nat.sub_self, List.range_zero, List.map_nil, List.append_nil]; exact hB, Mv.refl _ _⟩
  case round =>
    clear hB
    obtain ⟨k, hk, rfl, hB, hM⟩ := hrel
    have hs' : B ≤ wr.heap.size := Nat.le_trans hs hM.gr.size
    have hn8 := HN.out
    by_cases hlt : 0 < k
    · have h1 : (0 : Int) ≤ (k : Int) - 1 := by omega
      have hd : decide ((k : Int) - 1 ≥ 0) = true := by simp; omega
      have hm8 : wrap64 (8 * ((k : Int) - 1)) = ((8 * (k - 1) : Nat) : Int) := by unfold wrap64; omega
      obtain ⟨Z, hZ⟩ : ∃ Z : Int, X / (2 : Int) ^ (8 * (k - 1)) = Z := ⟨_, rfl⟩
      have hc : ∀ w : World, (convert 2 5 (.int .i64 Z)).run Try.prog w = .ok (.int .u8 ((digit x n (n - k)).toNat : Int)) w := fun w => by
        rw [← wrap8_digit x n (n - k) (8 * (k - 1)) (by omega), ← HX.out, hZ]
        exact conv_u8 2 .i64 Z (by kernel_rfl) w
      have HZ := hide hZ
      have HC := hide hc
      have hks : 8 * (k - 1) ≤ 64 := by omega
      have HKS := hide hks
      clear hZ hc
      have hll := HL.out
      obtain ⟨L, hL⟩ : ∃ L, l ++ (List.range (n - k)).map (digit x n) = L := ⟨_, rfl⟩
      have HLL : Hid (L.length + 1 ≤ 140737488355328) := by
        show _ ≤ _
        rw [← hL, List.length_append, List.length_map, List.length_range]; omega
      rw [hL] at hB
      have HE := hide hL
      clear hll hL hks
      go_wp2_with (first | (refine wpList_shr rfl _ _ _ _ rfl .i64 .i64 X _ Z (by rfl) (by rfl) (8 * (k - 1)) (by omega) (by show _ ≤ 64; omega) HZ.out ?_) | (refine wpList_conv rfl _ _ _ rfl .i64 .u8 Z _ (by rfl) (HC.out _) ?_) | (at_builtin; refine wpList_append_byte rfl _ _ rfl B _ L (digit x n (n - k)) _ rfl (by rfl) hB (by rfl) rfl HLL.out hs' ?_; intro g cap w5 hB5 hM5))
      go_roundw
      case rel =>
        refine ⟨k - 1, by omega, by congr 1; omega, ?_, hM.trans hM5⟩
        rw [← HE.out, List.append_assoc, range_snoc, show n - k + 1 = n - (k - 1) by omega] at hB5
        rw [HE.out] at hB5
        exact hB5
      case measure => simp [intOf]; omega
    · have hk0 : k = 0 := by omega
      subst hk0
      go_wp2
      go_ret
      exact ⟨_, rfl, hB, hM⟩
end
set_option maxRecDepth 100000 in
set_option maxHeartbeats 4000000 in
theorem rcount_any (ad : Option Addr) (n cap : Nat) (l : List Pen) (ob : Bool) (hn : l.length = n) (hz : n ≤ 3910000000000) (w : World) (hS : Pens w ad l) : Calls Try.prog 48 #[.slice ad n cap, .bool ob] w fun e w' => e = .returned (.int .i64 (cntP ob l : Int)) ∧ w' = w := by
  have HN := hide hn
  have hni : (n : Int) ≤ 3910000000000 := by omega
  clear hn hz
  go_enter Try.func48, Try.ntmps48
  go_wp2
  go_loopw [5, 6] (fun c i wr => ∃ j : Nat, j ≤ n ∧ i = .int .i64 (j : Int) ∧ c = .int .i64 (cntP ob (l.take j) : Int) ∧ wr = w) (fun _ i _ => n - (intOf i).toNat)
  case atStart => exact ⟨0, Nat.zero_le _, rfl, rfl, rfl⟩
  case round =>
    obtain ⟨j, hj, rfl, rfl, hwr⟩ := hrel
    obtain rfl := hwr.symm
    by_cases hlt : j < n
    · have hd : decide ((j : Int) < (n : Int)) = true := decide_eq_true (by omega)
      have hd2 : decide (j < n) = true := decide_eq_true hlt
      have hk0 : (0 : Int) ≤ (j : Int) := by omega
      have hk1 : (j : Int) < (n : Int) := by omega
      obtain ⟨s, hs⟩ : ∃ s, l[j]? = some s := ⟨_, List.getElem?_eq_getElem (by rw [HN.out]; exact hlt)⟩
      obtain ⟨b, o, rfl, hb1, hA⟩ := hS.get j s hs
      have HS := hide hs
      have c0 : w.cell? ⟨b, o + j * 35 + 0, none⟩ = some (.bool s.ours) := hA 0 (by omega)
      rw [Nat.add_zero] at c0
      obtain ⟨K, hK⟩ : ∃ K, cntP ob (l.take j) = K := ⟨_, rfl⟩
      have hKj : K ≤ j := by rw [← hK]; exact Nat.le_trans (cnt_le _ _) (by rw [List.length_take]; omega)
      have HK := hide hK
      rw [hK]
      have hKb : (K : Int) ≤ 3910000000000 := by omega
      have hK0 : (0 : Int) ≤ (K : Int) := by omega
      obtain ⟨so, hso⟩ : ∃ x, s.ours = x := ⟨_, rfl⟩
      rw [hso] at c0
      have HSO := hide hso
      clear hK hKj hs hA hso
      cases hm : (so == ob) with
      | false =>
        go_wp2
        go_roundw
        case rel => exact ⟨j + 1, by omega, by go_num, by rw [cnt_next HS.out, HSO.out, hm, HK.out]; simp, by first | rfl | trivial⟩
        case measure => simp [intOf]; omega
      | true =>
        go_wp2
        go_roundw
        case rel => exact ⟨j + 1, by omega, by go_num, by rw [cnt_next HS.out, HSO.out, hm, HK.out]; exact int_eq (by simp), by first | rfl | trivial⟩
        case measure => simp [intOf]; omega
    · have hjn : j = n := by omega
      subst hjn
      have hd : decide ((j : Int) < (j : Int)) = false := decide_eq_false (by omega)
      have hd2 : decide (j < j) = false := decide_eq_false (by omega)
      go_wp2
      go_ret
      exact ⟨by rw [show l.take j = l from by rw [← HN.out]; exact List.take_length]; rfl, rfl⟩
set_option maxRecDepth 100000 in
set_option maxHeartbeats 4000000 in
theorem rsound_any (x y : Int) (ad : Option Addr) (n cap : Nat) (l : List Pen) (hn : l.length = n) (hz : n ≤ 3910000000000) (w : World) (hS : Pens w ad l) : Calls Try.prog 36 #[.agg (tabv (ledv x y (.slice ad n cap)) 3)] w fun e w' => BoolIf w.heap.size (Snd x y l) w e w' := by
  obtain ⟨w1, hW1⟩ : ∃ wX, w.alloc (.cells (tabv (ledv x y (.slice ad n cap)) 3) 26) = wX := ⟨_, rfl⟩
  have r1 : Has w1 w.heap.size 26 (ledv x y (.slice ad n cap)) 3 := by rw [← hW1]; exact Has.new w 26 (ledv x y (.slice ad n cap)) 3 _ rfl
  have gbx : Below w.heap.size w w1 := by rw [← hW1]; exact (Below.refl w.heap.size w).alloc (Nat.le_refl _) _
  have c0 : w1.cell? ⟨w.heap.size, 0, none⟩ = some (.int .i64 x) := r1.cell 0 (by omega)
  have c1 : w1.cell? ⟨w.heap.size, 1, none⟩ = some (.int .i64 y) := r1.cell 1 (by omega)
  have c2 : w1.cell? ⟨w.heap.size, 2, none⟩ = some (.slice ad n cap) := r1.cell 2 (by omega)
  obtain ⟨PP, hPP⟩ : ∃ PP : Prop, (Snd x y l) = PP := ⟨_, rfl⟩
  have HPP : Hid (PP ↔ Snd x y l) := by rw [← hPP]; exact Iff.rfl
  rw [hPP]
  clear hPP
  have HS1 := hide (hS.below gbx)
  have HN := hide hn
  have HZ := hide hz
  have HGB := hide gbx
  have hni : (n : Int) ≤ 3910000000000 := by omega
  clear r1 hn hz hS gbx
  go_enter Try.func36, Try.ntmps36
  go_upto_region 1 with fail
  generalize hg : w.heap.size = g at c0 c1 c2 HGB ⊢
  have HG1 : Hid (g < w1.heap.size) := World.block_lt_of_cell? _ _ c0
  by_cases d1 : decide (x < 0) = true
  · skip
    go_wp2
    go_ret
    exact boolIf false rfl ⟨(fun h => by cases h), fun hh => by have h := HPP.out.1 hh; have := h.1; unfold amB at this; simp [d1] at this⟩ (by first | exact HGB.out | (rw [hg]; exact HGB.out))
  rw [Bool.not_eq_true] at d1
  by_cases d2 : decide (1152921504606846976 < x) = true
  · skip
    go_wp2
    go_ret
    exact boolIf false rfl ⟨(fun h => by cases h), fun hh => by have h := HPP.out.1 hh; have := h.1; unfold amB at this; simp [d1, d2] at this⟩ (by first | exact HGB.out | (rw [hg]; exact HGB.out))
  rw [Bool.not_eq_true] at d2
  by_cases d3 : decide (y < 0) = true
  · skip
    go_wp2
    go_ret
    exact boolIf false rfl ⟨(fun h => by cases h), fun hh => by have h := HPP.out.1 hh; have := h.1; unfold amB at this; simp [d1, d2, d3] at this⟩ (by first | exact HGB.out | (rw [hg]; exact HGB.out))
  rw [Bool.not_eq_true] at d3
  by_cases d4 : decide (1152921504606846976 < y) = true
  · skip
    go_wp2
    go_ret
    exact boolIf false rfl ⟨(fun h => by cases h), fun hh => by have h := HPP.out.1 hh; have := h.1; unfold amB at this; simp [d1, d2, d3, d4] at this⟩ (by first | exact HGB.out | (rw [hg]; exact HGB.out))
  rw [Bool.not_eq_true] at d4
  have HXY : Hid (amB x = true ∧ amB y = true) := by unfold amB; rw [d1, d2, d3, d4]; exact ⟨rfl, rfl⟩
  clear hW1
  go_wp2_with fail
  refine (rcount_any ad n cap l true HN.out HZ.out _ HS1.out).mono ?_
  rintro e wx ⟨rfl, hx⟩
  obtain rfl := hx.symm
  obtain ⟨K1, hK1⟩ : ∃ K, cntP true l = K := ⟨_, rfl⟩
  rw [hK1]
  have HK1 := hide hK1
  clear hK1
  by_cases d5 : decide (483 < (K1 : Int)) = true
  · have d5' : decide (483 < K1) = true := decide_eq_true (by have := of_decide_eq_true d5; omega)
    go_wp2
    go_ret
    exact boolIf false rfl ⟨(fun h => by cases h), fun hh => by have h := (HPP.out.1 hh).2.2.1; have := of_decide_eq_true d5; have := HK1.out; omega⟩ (by first | exact HGB.out | (rw [hg]; exact HGB.out))
  have d5' : decide (483 < K1) = false := decide_eq_false (fun h => d5 (decide_eq_true (by omega)))
  rw [Bool.not_eq_true] at d5
  go_wp2_with fail
  refine (rcount_any ad n cap l false HN.out HZ.out _ HS1.out).mono ?_
  rintro e wx ⟨rfl, hx⟩
  obtain rfl := hx.symm
  obtain ⟨K2, hK2⟩ : ∃ K, cntP false l = K := ⟨_, rfl⟩
  rw [hK2]
  have HK2 := hide hK2
  clear hK2
  by_cases d6 : decide (483 < (K2 : Int)) = true
  · have d6' : decide (483 < K2) = true := decide_eq_true (by have := of_decide_eq_true d6; omega)
    go_wp2
    go_ret
    exact boolIf false rfl ⟨(fun h => by cases h), fun hh => by have h := (HPP.out.1 hh).2.2.2; have := of_decide_eq_true d6; have := HK2.out; omega⟩ (by first | exact HGB.out | (rw [hg]; exact HGB.out))
  have d6' : decide (483 < K2) = false := decide_eq_false (fun h => d6 (decide_eq_true (by omega)))
  rw [Bool.not_eq_true] at d6
  have HCN : Hid (cntP true l ≤ 483 ∧ cntP false l ≤ 483) := ⟨by have := of_decide_eq_false d5; have := HK1.out; omega, by have := of_decide_eq_false d6; have := HK2.out; omega⟩
  go_wp2
  clear d1 d2 d3 d4 d5 d6 d5' d6' c0 c1
  go_loopw [3] (fun ix wr => ∃ j : Nat, j ≤ n ∧ ix = .int .i64 (j : Int) ∧ Hid (∀ i, i < j → goodD l i) ∧ Below w1.heap.size w1 wr) (fun ix _ => n - (intOf ix).toNat)
  case atStart => exact ⟨0, Nat.zero_le _, rfl, (fun i hi => absurd hi (by omega)), Below.refl _ _⟩
  case round =>
    obtain ⟨j, hj, rfl, HG, gbr⟩ := hrel
    have cL : wr.cell? ⟨g, 2, none⟩ = some (.slice ad n cap) := (gbr.cell (World.block_lt_of_cell? _ _ c2)).trans c2
    by_cases hlt : j < n
    · have hd : decide ((j : Int) < (n : Int)) = true := decide_eq_true (by omega)
      have hd2 : decide (j < n) = true := decide_eq_true hlt
      have hk0 : (0 : Int) ≤ (j : Int) := by omega
      have hk1 : (j : Int) < (n : Int) := by omega
      obtain ⟨s, hs⟩ : ∃ s, l[j]? = some s := ⟨_, List.getElem?_eq_getElem (by rw [HN.out]; exact hlt)⟩
      obtain ⟨b, o, rfl, hb1, hA⟩ := (HS1.out.below gbr).get j s hs
      have HS := hide hs
      have HA := hide hA
      have HJ := hide hlt
      obtain ⟨w6, w7, hW6, q1, hW7, r7, rb⟩ := newP wr s
      have Q1 := hide q1
      have R7 := hide r7
      have e1 : w7.cell? ⟨wr.heap.size, 1, none⟩ = some (.int .i64 s.id) := r7.cell 1 (by omega)
      have e2 : w7.cell? ⟨wr.heap.size, 2, none⟩ = some (.int .i64 s.amt) := r7.cell 2 (by omega)
      have gb7 := gbr.trans (rb.mono gbr.size)
      have HW7 : Hid (Below g w w7) := HGB.out.trans (gb7.mono (Nat.le_of_lt HG1.out))
      clear hs hA q1 r7 hb1
      go_upto_region 7 with (first | refine wpW_load_at 39 _ rfl (b) (o + j * 35) (by rfl) (by rfl) _ 35 _ (HA.out) Try.underlying39 rfl infoP ?_ | refine wpList_storeP rfl _ _ rfl rfl (wr.heap.size) (s) rfl rfl _ Q1.out ?_)
      try rw [hW7]
      generalize hgP : wr.heap.size = gP at Q1 R7 e1 e2 hW7 ⊢
      clear hgP hW6 hW7 Q1
      by_cases f1 : decide (s.id < 0) = true
      · skip
        go_wp2
        go_ret
        exact boolIf false rfl ⟨(fun h => by cases h), fun hp => absurd ((HPP.out.1 hp).2.1 j (by rw [HN.out]; exact HJ.out) s HS.out) (fun hh => by have := hh.1; unfold okP at this; simp [f1] at this)⟩ (by first | exact HW7.out | (rw [hg]; exact HW7.out))
      rw [Bool.not_eq_true] at f1
      by_cases f2 : decide (s.amt < 1) = true
      · skip
        go_wp2
        go_ret
        exact boolIf false rfl ⟨(fun h => by cases h), fun hp => absurd ((HPP.out.1 hp).2.1 j (by rw [HN.out]; exact HJ.out) s HS.out) (fun hh => by have := hh.1; unfold okP at this; simp [f1, f2] at this)⟩ (by first | exact HW7.out | (rw [hg]; exact HW7.out))
      rw [Bool.not_eq_true] at f2
      by_cases f3 : decide (1152921504606846976 < s.amt) = true
      · skip
        go_wp2
        go_ret
        exact boolIf false rfl ⟨(fun h => by cases h), fun hp => absurd ((HPP.out.1 hp).2.1 j (by rw [HN.out]; exact HJ.out) s HS.out) (fun hh => by have := hh.1; unfold okP at this; simp [f1, f2, f3] at this)⟩ (by first | exact HW7.out | (rw [hg]; exact HW7.out))
      rw [Bool.not_eq_true] at f3
      have HOK : Hid (okP s = true) := by unfold okP; rw [f1, f2, f3]; rfl
      go_wp2
      clear f1 f2 f3 e1 e2 cL
      go_loopw [5] (fun kx wq => ∃ k : Nat, k ≤ j ∧ kx = .int .i64 (k : Int) ∧ Hid (∀ i q, i < k → l[i]? = some q → foll q s = true) ∧ Below w7.heap.size w7 wq) (fun kx _ => j - (intOf kx).toNat)
      case atStart => exact ⟨0, Nat.zero_le _, rfl, (fun i q hi => absurd hi (by omega)), Below.refl _ _⟩
      case round =>
        obtain ⟨k, hk, rfl, HGK, gbq⟩ := hrel
        have gbq1 : Below w1.heap.size w1 wr := gb7.trans (gbq.mono gb7.size)
        have cL : wr.cell? ⟨g, 2, none⟩ = some (.slice (some ⟨b, o, none⟩) n cap) := (gbq1.cell (World.block_lt_of_cell? _ _ c2)).trans c2
        have RP := R7.out.below gbq R7.out.lt
        by_cases hkj : k < j
        · have hdk : decide ((k : Int) < (j : Int)) = true := decide_eq_true (by omega)
          have hdk2 : decide (k < j) = true := decide_eq_true hkj
          have hq0 : (0 : Int) ≤ (k : Int) := by omega
          have hq1 : (k : Int) < (n : Int) := by omega
          obtain ⟨q, hq⟩ : ∃ q, l[k]? = some q := ⟨_, List.getElem?_eq_getElem (by rw [HN.out]; omega)⟩
          obtain ⟨b', o', hbo, hb2, hAq⟩ := (HS1.out.below gbq1).get k q hq
          obtain ⟨rfl, rfl⟩ : b = b' ∧ o = o' := by simpa using hbo
          have HQ := hide hq
          have HAq := hide hAq
          have HKJ := hide hkj
          obtain ⟨v6, v7, hV6, p1, hV7, t7, tb⟩ := newP wr q
          have P1 := hide p1
          have rp7 := RP.below tb RP.lt
          obtain ⟨so, hso⟩ : ∃ z, s.ours = z := ⟨_, rfl⟩
          obtain ⟨qo, hqo⟩ : ∃ z, q.ours = z := ⟨_, rfl⟩
          have HSO := hide hso
          have HQO := hide hqo
          have a0 : v7.cell? ⟨gP, 0, none⟩ = some (.bool so) := by rw [← hso]; exact rp7.cell 0 (by omega)
          have a1 : v7.cell? ⟨gP, 1, none⟩ = some (.int .i64 s.id) := rp7.cell 1 (by omega)
          have u0 : v7.cell? ⟨wr.heap.size, 0, none⟩ = some (.bool qo) := by rw [← hqo]; exact t7.cell 0 (by omega)
          have u1 : v7.cell? ⟨wr.heap.size, 1, none⟩ = some (.int .i64 q.id) := t7.cell 1 (by omega)
          have gbv := gbq.trans (tb.mono gbq.size)
          have HWV : Hid (Below g w v7) := HW7.out.trans (gbv.mono (by have := R7.out.lt; have := HG1.out; have := gb7.size; omega))
          clear hq hAq hbo hb2 p1 t7 rp7 RP hso hqo
          go_upto_region 13 with (first | refine wpW_load_at 39 _ rfl (b) (o + k * 35) (by rfl) (by rfl) _ 35 _ (HAq.out) Try.underlying39 rfl infoP ?_ | refine wpList_storeP rfl _ _ rfl rfl (wr.heap.size) (q) rfl rfl _ P1.out ?_)
          try rw [hV7]
          generalize hgQ : wr.heap.size = gQ at P1 u0 u1 hV7 ⊢
          clear hgQ hV6 hV7 P1
          cases di : decide (s.id ≤ q.id) with
          | true =>
            cases so <;> cases qo
            · go_wp2
              go_ret
              exact boolIf false rfl ⟨(fun h => by cases h), fun hp => absurd ((good_all _ (HPP.out.1 hp).2.1 j (by rw [HN.out]; exact HJ.out) s HS.out).2 k q HKJ.out HQ.out) (fun hh => by unfold foll at hh; rw [HSO.out, HQO.out] at hh; simp at hh; have := of_decide_eq_true di; omega)⟩ (by first | exact HWV.out | (rw [hg]; exact HWV.out))
            · go_wp2
              go_roundw
              case rel => exact ⟨k + 1, by have := HKJ.out; omega, by go_num, (fun i a hi ha => by rcases Nat.lt_succ_iff_lt_or_eq.1 hi with h | rfl; exact HGK.out i a h ha; rw [HQ.out] at ha; obtain rfl := Option.some.inj ha; unfold foll; rw [HSO.out, HQO.out]; rfl), gbv⟩
              case measure => have := HKJ.out; simp [intOf]; omega
            · go_wp2
              go_ret
              exact boolIf false rfl ⟨(fun h => by cases h), fun hp => absurd ((good_all _ (HPP.out.1 hp).2.1 j (by rw [HN.out]; exact HJ.out) s HS.out).2 k q HKJ.out HQ.out) (fun hh => by unfold foll at hh; rw [HSO.out, HQO.out] at hh; simp at hh)⟩ (by first | exact HWV.out | (rw [hg]; exact HWV.out))
            · go_wp2
              go_ret
              exact boolIf false rfl ⟨(fun h => by cases h), fun hp => absurd ((good_all _ (HPP.out.1 hp).2.1 j (by rw [HN.out]; exact HJ.out) s HS.out).2 k q HKJ.out HQ.out) (fun hh => by unfold foll at hh; rw [HSO.out, HQO.out] at hh; simp at hh; have := of_decide_eq_true di; omega)⟩ (by first | exact HWV.out | (rw [hg]; exact HWV.out))
          | false =>
            cases so <;> cases qo
            · go_wp2
              go_roundw
              case rel => exact ⟨k + 1, by have := HKJ.out; omega, by go_num, (fun i a hi ha => by rcases Nat.lt_succ_iff_lt_or_eq.1 hi with h | rfl; exact HGK.out i a h ha; rw [HQ.out] at ha; obtain rfl := Option.some.inj ha; unfold foll; rw [HSO.out, HQO.out]; simp; have := of_decide_eq_false di; omega), gbv⟩
              case measure => have := HKJ.out; simp [intOf]; omega
            · go_wp2
              go_roundw
              case rel => exact ⟨k + 1, by have := HKJ.out; omega, by go_num, (fun i a hi ha => by rcases Nat.lt_succ_iff_lt_or_eq.1 hi with h | rfl; exact HGK.out i a h ha; rw [HQ.out] at ha; obtain rfl := Option.some.inj ha; unfold foll; rw [HSO.out, HQO.out]; rfl), gbv⟩
              case measure => have := HKJ.out; simp [intOf]; omega
            · go_wp2
              go_ret
              exact boolIf false rfl ⟨(fun h => by cases h), fun hp => absurd ((good_all _ (HPP.out.1 hp).2.1 j (by rw [HN.out]; exact HJ.out) s HS.out).2 k q HKJ.out HQ.out) (fun hh => by unfold foll at hh; rw [HSO.out, HQO.out] at hh; simp at hh)⟩ (by first | exact HWV.out | (rw [hg]; exact HWV.out))
            · go_wp2
              go_roundw
              case rel => exact ⟨k + 1, by have := HKJ.out; omega, by go_num, (fun i a hi ha => by rcases Nat.lt_succ_iff_lt_or_eq.1 hi with h | rfl; exact HGK.out i a h ha; rw [HQ.out] at ha; obtain rfl := Option.some.inj ha; unfold foll; rw [HSO.out, HQO.out]; simp; have := of_decide_eq_false di; omega), gbv⟩
              case measure => have := HKJ.out; simp [intOf]; omega
        · have hdk : decide ((k : Int) < (j : Int)) = false := decide_eq_false (by omega)
          have hdk2 : decide (k < j) = false := decide_eq_false hkj
          go_wp2
          go_roundw
          case rel => exact ⟨j + 1, by have := HJ.out; omega, by go_num, (fun i hi => by rcases Nat.lt_succ_iff_lt_or_eq.1 hi with h | rfl; exact HG.out i h; exact fun p hp => by rw [HS.out] at hp; obtain rfl := Option.some.inj hp; exact ⟨HOK.out, fun a q ha hq => HGK.out a q (by omega) hq⟩), gb7.trans (gbq.mono gb7.size)⟩
          case measure => have := HJ.out; simp [intOf]; omega
    · have hjn : j = n := by omega
      subst hjn
      have hd : decide ((j : Int) < (j : Int)) = false := decide_eq_false (by omega)
      have hd2 : decide (j < j) = false := decide_eq_false (by omega)
      have gbz : Below g w wr := HGB.out.trans (gbr.mono (Nat.le_of_lt HG1.out))
      go_wp2
      go_ret
      exact boolIf true rfl ⟨fun _ => HPP.out.2 ⟨HXY.out, fun i hi => goodD_at (HG.out i (by rw [HN.out] at hi; exact hi)), HCN.out.1, HCN.out.2⟩, fun _ => rfl⟩ (by first | exact gbz | (rw [hg]; exact gbz))
end Go.Proofs.Ythcaokiboimibaa
