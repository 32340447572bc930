/-
  MarkTorn: the walk (printed by gen_torn.py).
-/
import Derived.Test.YtlkimfmilccanaaGreatMkTorn1
namespace Go.Proofs.YtlkimfmilccanaaGreat
open Go.RowKit Go.Maps Go.WideMaps
set_option linter.unusedVariables false
set_option linter.unusedSimpArgs false
theorem set3 {w w9 : World} {g : Nat} {T : TypeId} {a b c a' b' c' : Value} (h : w.heap[g]? = some (.cells #[a, b, c] T (0, 0))) (h9 : ((w.setCell ⟨g, 0, none⟩ a').setCell ⟨g, 1, none⟩ b').setCell ⟨g, 2, none⟩ c' = w9) :
    Below g w w9 ∧ w9.heap[g]? = some (.cells #[a', b', c'] T (0, 0)) := by
  have e1 : (w.setCell ⟨g, 0, none⟩ a').heap[g]? = some (.cells #[a', b, c] T (0, 0)) := by rw [heap_setCell_same w g 0 _ T _ h]; rfl
  have e2 : ((w.setCell ⟨g, 0, none⟩ a').setCell ⟨g, 1, none⟩ b').heap[g]? = some (.cells #[a', b', c] T (0, 0)) := by rw [heap_setCell_same _ g 1 _ T _ e1]; rfl
  refine ⟨?_, by rw [← h9, heap_setCell_same _ g 2 _ T _ e2]; rfl⟩
  rw [← h9]
  exact (((Below.refl g w).setCell (p := ⟨g, 0, none⟩) (Nat.le_refl _) a').setCell (p := ⟨g, 1, none⟩) (Nat.le_refl _) b').setCell (p := ⟨g, 2, none⟩) (Nat.le_refl _) c'
/-- The three texts. -/
structure T3 (a b : Int) (L0 L1 L2 : ByteArray) (X Y : Key) : Prop where
  lx : X.length = 64
  ly : Y.length = 64
  e0 : L0.data.toList = X ++ slotL b
  e1 : L1.data.toList = slotL a ++ Y
  e2 : L2.data.toList = X ++ Y
def wl (la : Nat) (L0 L1 L2 : ByteArray) : Item := .block la (.cells #[.string L0, .string L1, .string L2] 43 (0, 0))
theorem wl_cells {B : Nat} {w : World} {L : List Item} {la : Nat} {L0 L1 L2 : ByteArray} (h : Lies B w (wl la L0 L1 L2 :: L)) : w.cell? ⟨la, 0, none⟩ = some (.string L0) ∧ w.cell? ⟨la, 1, none⟩ = some (.string L1) ∧ w.cell? ⟨la, 2, none⟩ = some (.string L2) := by
  have hc := block_at (q := 0) h rfl
  exact ⟨by rw [cell_of_row w la 0 _ _ (0, 0) hc]; rfl, by rw [cell_of_row w la 1 _ _ (0, 0) hc]; rfl, by rw [cell_of_row w la 2 _ _ (0, 0) hc]; rfl⟩
theorem sec_left0 {X Y : Key} (h : X.length = 64) : sec (X ++ Y) 0 = X := by rw [sec0, List.take_left' h]
theorem sec_left1 {X Y : Key} (h : X.length = 64) (h' : Y.length = 64) : sec (X ++ Y) 1 = Y := by unfold sec; rw [Nat.mul_one, List.drop_left' h, List.take_of_length_le (by omega)]
theorem wvB_sec {T : ByteArray} {X Y : Key} (hT : T.data.toList = X ++ Y) (h : X.length = 64) (h' : Y.length = 64) : wvB T 0 = (wholeL X).isSome ∧ wvB T 1 = (wholeL Y).isSome := by
  have zT : T.size = 128 := by rw [← str_len, hT, List.length_append]; omega
  unfold wvB
  rw [hT, whole_sec, whole_sec, sec_left0 h, sec_left1 h h', decide_eq_true (by omega), decide_eq_true (by omega)]
  exact ⟨rfl, rfl⟩
theorem pick_sec {X Y : Key} (h : X.length = 64) (h' : Y.length = 64) : pickT (X ++ Y) = pickM (wholeL X) (wholeL Y) := by rw [pickT_sec, sec_left0 h, sec_left1 h h']
section
variable {B : Nat} {w : World} {la p g : Nat} {L0 L1 L2 T : ByteArray} {v : Int} {x : Nat} {t : Key}
theorem to_write (h : Lies B w [wl la L0 L1 L2, .disk p (AD.fresh 200)]) (hT : T.size = 128) : Calls Tryz.prog 18 #[.pointer (some ⟨p, 0, none⟩), .string ⟨#[109]⟩, .int .i64 0, .string T] w fun e w' => e = .returned (.int .i64 0) ∧ Lies B w' [wl la L0 L1 L2, .disk p (W1 200 tL T.data.toList)] ∧ Below B w w' := by
  have := s_write (i := 1) h rfl ⟨#[109]⟩ (by decide) 0 (by omega) T (by omega)
  rw [show (AD.fresh 200).write (ByteArray.mk #[109]).data.toList 0 T.data.toList = (0, W1 200 tL T.data.toList) from fr_write (by decide) (by decide) (by rw [str_len]; omega)] at this
  exact this
theorem to_open (h : Lies B w [wl la L0 L1 L2, .disk p (W1 200 tL t)]) (ht : t.length = 128) (hp : pickT t = some (v, x)) : Calls Tryz.prog 9 #[.pointer (some ⟨p, 0, none⟩), .string ⟨#[109]⟩] w fun e w' => ∃ g, e = .returned (.tuple #[.pointer (some ⟨g, 0, none⟩), .int .i64 0]) ∧ Lies B w' [wl la L0 L1 L2, .disk p (WD 200 t), .mkI 91 g p ⟨#[109]⟩ v x] ∧ Below B w w' := by
  have := mopen_any (i := 1) h rfl ⟨#[109]⟩ (by decide)
  rw [show (W1 200 tL t).openM (ByteArray.mk #[109]).data.toList = _ from w1_open ht hp] at this
  exact this.mono (fun e w' hp => mkp_isSome hp rfl)
theorem to_none (h : Lies B w [wl la L0 L1 L2, .disk p (W1 200 tL t)]) (ht : t.length = 128) (hp : pickT t = none) : Calls Tryz.prog 9 #[.pointer (some ⟨p, 0, none⟩), .string ⟨#[109]⟩] w fun e w' => e = .returned (.tuple #[.pointer none, .int .i64 190]) ∧ Lies B w' [wl la L0 L1 L2, .disk p (W1 200 tL t)] ∧ Below B w w' := by
  have := mopen_any (i := 1) h rfl ⟨#[109]⟩ (by decide)
  rw [show (W1 200 tL t).openM (ByteArray.mk #[109]).data.toList = _ from w1_open_none ht hp] at this
  exact this.mono (fun e w' hp => mkp_isNone hp rfl)
theorem to_dirty (h : Lies B w [wl la L0 L1 L2, .disk p (WD 200 t), .mkI 91 g p ⟨#[109]⟩ v x]) : Calls Tryz.prog 14 #[.pointer (some ⟨p, 0, none⟩), .string ⟨#[109]⟩] w fun e w' => ∃ ad cap, e = .returned (.slice ad 0 cap) ∧ Lies B w' [wl la L0 L1 L2, .disk p (WD 200 t), .mkI 91 g p ⟨#[109]⟩ v x] ∧ Below B w w' :=
  (s_dirty (i := 1) h rfl ⟨#[109]⟩ (by decide)).mono (fun e w' ⟨v', he, hr, hl, hb⟩ => by
    have hd : (WD 200 t).dirtyI (ByteArray.mk #[109]).data.toList = [] := by unfold AD.dirtyI; rw [show (WD 200 t).dirty (ByteArray.mk #[109]).data.toList = [] from wd_dirty]; rfl
    rw [hd] at hr
    obtain ⟨ad, cap, rfl, _⟩ := row_at hr
    exact ⟨ad, cap, he, hl.drop, hb⟩)
theorem to_read (s : Nat) (O : Int) (hO : O = ((64 * s : Nat) : Int)) (C : ByteArray) (hC : C.data.toList = sec t s) (h : Lies B w [wl la L0 L1 L2, .disk p (WD 200 t), .mkI 91 g p ⟨#[109]⟩ v x]) : Calls Tryz.prog 12 #[.pointer (some ⟨p, 0, none⟩), .string ⟨#[109]⟩, .int .i64 O, .int .i64 64] w fun e w' => e = .returned (.tuple #[.string C, .int .i64 0]) ∧ Lies B w' [wl la L0 L1 L2, .disk p (WD 200 t), .mkI 91 g p ⟨#[109]⟩ v x] ∧ Below B w w' := by
  have := s_read (i := 1) h rfl ⟨#[109]⟩ (by decide) O 64
  rw [hO, show (WD 200 t).read (ByteArray.mk #[109]).data.toList ((64 * s : Nat) : Int) 64 = (sec t s, 0) from wd_read s, ← hC] at this
  rw [hO]
  exact this
theorem to_raise (h : Lies B w [wl la L0 L1 L2, .disk p (WD 200 t), .mkI 91 g p ⟨#[109]⟩ v x]) (ht : t.length = 128) (hx : x ≤ 1) (n : Int) (hn : numB n = true) (hv : v < n) : Calls Tryz.prog 11 #[.pointer (some ⟨g, 0, none⟩), .int .i64 n] w fun e w' => e = .returned (.int .i64 0) ∧ Lies B w' [wl la L0 L1 L2, .disk p (WD 200 (put t x n)), .mkI 91 g p ⟨#[109]⟩ n (1 - x)] ∧ Below B w w' :=
  mraise_any (i := 1) (j := 2) h rfl rfl (by decide) (by decide) hx n (0, (n, 1 - x), WD 200 (put t x n)) (wd_raise (by decide) ht hx hn hv)
theorem to_read200 (h : Lies B w [wl la L0 L1 L2, .disk p (W1 200 tL T.data.toList)]) (hT : T.size = 128) : Calls Tryz.prog 12 #[.pointer (some ⟨p, 0, none⟩), .string ⟨#[109]⟩, .int .i64 0, .int .i64 200] w fun e w' => e = .returned (.tuple #[.string T, .int .i64 0]) ∧ Lies B w' [wl la L0 L1 L2, .disk p (W1 200 tL T.data.toList)] ∧ Below B w w' := by
  have := s_read (i := 1) h rfl ⟨#[109]⟩ (by decide) 0 200
  rw [show (W1 200 tL T.data.toList).read (ByteArray.mk #[109]).data.toList 0 200 = (T.data.toList, 0) from w1_read 200 (by rw [str_len]; omega)] at this
  exact this
end
set_option maxRecDepth 100000 in
set_option maxHeartbeats 40000000 in
theorem torn_walk (w : World) (one : Int) (hone : -9223372036854775808 ≤ one ∧ one < 9223372036854775808) (two : Int) (htwo : -9223372036854775808 ≤ two ∧ two < 9223372036854775808) (at_ : Int) (hat : -9223372036854775808 ≤ at_ ∧ at_ < 9223372036854775808) (by_ : Int) (n : Int) (hnn : -9223372036854775808 ≤ n ∧ n < 9223372036854775808) :
    Calls Tryz.prog 4 #[.int .i64 one, .int .i64 two, .int .i64 at_, .int .u8 by_, .int .i64 n] w fun e w' => e = .returned (.bool true) ∧ Below w.heap.size w w' := by
  obtain ⟨B, hB⟩ : ∃ B, w.heap.size = B := ⟨_, rfl⟩
  rw [hB]
  have HBB := hide hB
  obtain ⟨a, ha, ha0, ha1⟩ := and48 one
  obtain ⟨b, hb, hb0, hb1⟩ := and48 two
  have HNA : Hid (numB a = true) := numB_iff.2 ⟨by omega, ha1⟩
  have HNB : Hid (numB b = true) := numB_iff.2 ⟨by omega, hb1⟩
  have hr := least_rng (n := at_) (m := 12) (by decide)
  obtain ⟨K, hK⟩ : ∃ K : Nat, leastI at_ 12 = (K : Int) := ⟨(leastI at_ 12).toNat, by omega⟩
  have hK12 : K < 12 := by omega
  have HLE : Hid (∀ w : World, Calls Tryz.prog 15 #[.int .i64 at_, .int .i64 12] w fun e w' => e = .returned (.int .i64 (K : Int)) ∧ w' = w) := fun w => by rw [← hK]; exact least_any at_ 12 (by decide) w
  obtain ⟨SA, hSA⟩ : ∃ s, slotS a = s := ⟨_, rfl⟩
  obtain ⟨SB, hSB⟩ : ∃ s, slotS b = s := ⟨_, rfl⟩
  have HSA : Hid (∀ w, Calls Tryz.prog 10 #[.int .i64 a] w fun e w' => e = .returned (.string SA) ∧ Below w.heap.size w w') := fun w => by rw [← hSA]; exact lslot_any a (by omega) w
  have HSB : Hid (∀ w, Calls Tryz.prog 10 #[.int .i64 b] w fun e w' => e = .returned (.string SB) ∧ Below w.heap.size w w') := fun w => by rw [← hSB]; exact lslot_any b (by omega) w
  have zA : SA.size = 64 := by rw [← hSA]; exact slotS_size a
  have zB : SB.size = 64 := by rw [← hSB]; exact slotS_size b
  have HLA : Hid (SA.data.toList = slotL a) := by show _ = _; rw [← hSA]; rfl
  have HLB : Hid (SB.data.toList = slotL b) := by show _ = _; rw [← hSB]; rfl
  have HZA := hide zA
  have HZB := hide zB
  have HRA := hide (And.intro ha0 ha1)
  have HRB := hide (And.intro hb0 hb1)
  have HK12 := hide hK12
  clear hB hone htwo hat hnn ha0 ha1 hb0 hb1 hr hK hSA hSB zA zB
  go_enter Tryz.func4, Tryz.ntmps4
  go_wp2_with fail
  refine (head_any w).mono ?_
  rintro e w1 ⟨rfl, hb1⟩
  have HB1 : Hid (Below B w w1) := hb1.mono (Nat.le_of_eq HBB.out.symm)
  clear hb1
  go_wp2_with fail
  refine (HLE.out _).mono ?_
  rintro e wx ⟨rfl, hw⟩
  obtain rfl := hw.symm
  clear hw HLE
  go_wp2_with fail
  refine (HSA.out _).mono ?_
  rintro e w2 ⟨rfl, hb2⟩
  have HB2 : Hid (Below B w w2) := HB1.out.trans (hb2.mono (by rw [← HBB.out]; exact HB1.out.size))
  obtain ⟨g1, cap1, V1, hg1, hcv1, hbv1, hsz1, cur1, fz1, hk1, hf1, hcur1⟩ := bytes_of SA w2
  rw [HZA.out] at hcv1 hf1 hcur1
  have HV1 : Hid (Below B w V1) := HB2.out.trans (hbv1.mono (by rw [← HBB.out]; exact HB2.out.size))
  have HK1 := hide hk1
  have HC1 := hide hcur1
  have HF1 := hide hf1
  have HS1 : Hid (g1 < V1.heap.size) := by show _ < _; omega
  have HG1 : Hid (B ≤ g1) := by show _ ≤ _; rw [hg1, ← HBB.out]; exact HB2.out.size
  clear hb2 hg1 hbv1 hsz1 hk1 hf1 hcur1 HB1 HB2
  go_wp2_with fail
  refine (HSB.out _).mono ?_
  rintro e w3 ⟨rfl, hb3⟩
  have HB3 : Hid (Below B w w3) := HV1.out.trans (hb3.mono (by rw [← HBB.out]; exact HV1.out.size))
  have HKK : Hid (w3.heap[g1]? = some (.cells cur1 5 fz1)) := by show _ = _; rw [hb3.block g1 HS1.out]; exact HK1.out
  have HS3 : Hid (g1 < w3.heap.size) := Nat.lt_of_lt_of_le HS1.out hb3.size
  obtain ⟨g2, cap2, V2, hg2, hcv2, hbv2, hsz2, cur2, fz2, hk2, hf2, hcur2⟩ := bytes_of SB w3
  rw [HZB.out] at hcv2 hf2 hcur2
  have HV2 : Hid (Below B w V2) := HB3.out.trans (hbv2.mono (by rw [← HBB.out]; exact HB3.out.size))
  have hk12 : V2.heap[g1]? = some (.cells cur1 5 fz1) := by rw [hbv2.block g1 HS3.out]; exact HKK.out
  have hne : g1 ≠ g2 := by have := HS3.out; omega
  have hs2 : g2 < V2.heap.size := by omega
  have HG2 : Hid (B ≤ g2) := by show _ ≤ _; rw [hg2, ← HBB.out]; exact HB3.out.size
  -- the first byte that is turned
  obtain ⟨c1, hc1⟩ : ∃ z : Int, ((SA.data.toList.getD K 0).toNat : Int) = z := ⟨_, rfl⟩
  obtain ⟨c2, hc2⟩ : ∃ z : Int, ((SB.data.toList.getD K 0).toNat : Int) = z := ⟨_, rfl⟩
  obtain ⟨oI, hoI⟩ : ∃ z : Int, bits .or .u8 by_ 1 = z := ⟨_, rfl⟩
  obtain ⟨x1, hx1⟩ := byte_of (((BitVec.ofInt IntKind.u8.bits c1) ^^^ (BitVec.ofInt IntKind.u8.bits oI)).toNat : Int)
  obtain ⟨x2, hx2⟩ := byte_of (((BitVec.ofInt IntKind.u8.bits c2) ^^^ (BitVec.ofInt IntKind.u8.bits oI)).toNat : Int)
  obtain ⟨X1, hX1⟩ : ∃ z : Int, (x1.toNat : Int) = z := ⟨_, rfl⟩
  obtain ⟨X2, hX2⟩ : ∃ z : Int, (x2.toNat : Int) = z := ⟨_, rfl⟩
  have rx1 : bits .xor .u8 c1 oI = X1 := by rw [← hX1]; exact hx1
  have rx2 : bits .xor .u8 c2 oI = X2 := by rw [← hX2]; exact hx2
  have q1 : V2.cell? ⟨g1, K, none⟩ = some (.int .u8 c1) := by
    unfold World.cell?
    rw [hk12]
    show cur1[K]? = _
    rw [HC1.out K (by omega), hc1]
  have f1 : V2.frozen? ⟨g1, K, none⟩ = false := by
    unfold World.frozen?
    rw [hk12]
    obtain ⟨lo, hi⟩ := fz1
    have hlo : 64 ≤ lo := HF1.out
    show (decide (lo ≤ K) && _) = false
    rw [decide_eq_false (by omega)]; rfl
  obtain ⟨V3, hV3⟩ : ∃ x, V2.setCell ⟨g1, K, none⟩ (.int .u8 X1) = x := ⟨_, rfl⟩
  have hk3 : V3.heap[g2]? = some (.cells cur2 5 fz2) := by rw [← hV3, Below.heap_setCell V2 ⟨g1, K, none⟩ _ g2 (fun e => hne e.symm)]; exact hk2
  have q2 : V3.cell? ⟨g2, K, none⟩ = some (.int .u8 c2) := by
    unfold World.cell?
    rw [hk3]
    show cur2[K]? = _
    rw [hcur2 K (by omega), hc2]
  have f2 : V3.frozen? ⟨g2, K, none⟩ = false := by
    unfold World.frozen?
    rw [hk3]
    obtain ⟨lo, hi⟩ := fz2
    have hlo : 64 ≤ lo := hf2
    show (decide (lo ≤ K) && _) = false
    rw [decide_eq_false (by omega)]; rfl
  obtain ⟨V4, hV4⟩ : ∃ x, V3.setCell ⟨g2, K, none⟩ (.int .u8 X2) = x := ⟨_, rfl⟩
  obtain ⟨XS, hXl, hXc⟩ := set_text V2 g1 cap1 K SA x1 cur1 fz1 hk12 (by rw [HZA.out]; exact HC1.out) (by rw [HZA.out]; omega)
  obtain ⟨YS, hYl, hYc⟩ := set_text V3 g2 cap2 K SB x2 cur2 fz2 hk3 (by rw [HZB.out]; exact hcur2) (by rw [HZB.out]; omega)
  rw [HZA.out, hX1, hV3] at hXc
  rw [HZB.out, hX2, hV4] at hYc
  have HCX : Hid (∀ W, Below V4.heap.size V4 W → (convert 42 9 (.slice (some ⟨g1, 0, none⟩) 64 cap1)).run Tryz.prog W = .ok (.string XS) W) := fun W hW => hXc W (fun j => World.cell?_of_block (by
    rw [hW.block g1 (by rw [← hV4, ← hV3]; simp [World.setCell]; have := HS3.out; have := hbv2.size; omega), ← hV4, Below.heap_setCell V3 ⟨g2, K, none⟩ _ g1 hne]))
  have HCY : Hid (∀ W, Below V4.heap.size V4 W → (convert 42 9 (.slice (some ⟨g2, 0, none⟩) 64 cap2)).run Tryz.prog W = .ok (.string YS) W) := fun W hW => hYc W (fun j => World.cell?_of_block (by
    rw [hW.block g2 (by rw [← hV4, ← hV3]; simp [World.setCell]; omega)]))
  have HV4 : Hid (Below B w V4) := by
    have e1 : Below B w V3 := by rw [← hV3]; exact HV2.out.setCell (p := ⟨g1, K, none⟩) HG1.out _
    rw [← hV4]; exact e1.setCell (p := ⟨g2, K, none⟩) HG2.out _
  have HXL : Hid (XS.data.toList = (slotL a).set K x1) := by show _ = _; rw [hXl, HLA.out]
  have HYL : Hid (YS.data.toList = (slotL b).set K x2) := by show _ = _; rw [hYl, HLB.out]
  have zX : XS.size = 64 := by rw [← str_len, HXL.out, List.length_set, slotL_length]
  have zY : YS.size = 64 := by rw [← str_len, HYL.out, List.length_set, slotL_length]
  obtain ⟨L0, hL0⟩ : ∃ s, XS ++ SB = s := ⟨_, rfl⟩
  obtain ⟨L1, hL1⟩ : ∃ s, SA ++ YS = s := ⟨_, rfl⟩
  obtain ⟨L2, hL2⟩ : ∃ s, XS ++ YS = s := ⟨_, rfl⟩
  have A0 := hide (fun w : World => k_add w XS SB L0 hL0 (by rw [zX, HZB.out]; decide))
  have A1 := hide (fun w : World => k_add w SA YS L1 hL1 (by rw [zY, HZA.out]; decide))
  have A2 := hide (fun w : World => k_add w XS YS L2 hL2 (by rw [zX, zY]; decide))
  have HT3 : Hid (T3 a b L0 L1 L2 ((slotL a).set K x1) ((slotL b).set K x2)) := ⟨by rw [List.length_set, slotL_length], by rw [List.length_set, slotL_length], by rw [← hL0, k_app, HXL.out, HLB.out], by rw [← hL1, k_app, HLA.out, HYL.out], by rw [← hL2, k_app, HXL.out, HYL.out]⟩
  generalize (slotL a).set K x1 = XL at HT3 HXL
  generalize (slotL b).set K x2 = YL at HT3 HYL
  have hK0 : (0 : Int) ≤ (K : Int) := by omega
  have hK1 : (K : Int) < 64 := by omega
  clear hb3 hg2 hbv2 hsz2 hk2 hf2 hcur2 hk12 hne hs2 hc1 hc2 hx1 hx2 hX1 hX2 hk3 hXl hXc hYl hYc zX zY hL0 hL1 hL2 HK1 HC1 HF1 HS1 HKK HS3 HV1 HV2 HB3 HXL HYL HLA HLB HZA HZB HG1 HG2 hK12
  go_upto_region 10 with fail
  go_cut [16] from 66 (fun s16 wx => ∃ la, s16 = .pointer (some ⟨la, 0, none⟩) ∧ wx.heap[la]? = some (.cells #[.string L0, .string L1, .string L2] 43 (0, 0)) ∧ V4.heap.size ≤ la ∧ Below V4.heap.size V4 wx)
  case first =>
    refine wp_region_noPanic ?_
    refine wp_region_held_drew (S := fun wx => Below V4.heap.size V4 wx) (by kernel_rfl) ((Below.refl _ _).drew) (fun hHeld => ?_)
    generalize hwd : World.drew V4 = wd at hHeld ⊢
    clear hwd
    refine tK 0 (some 66) (.slice (some ⟨g1, 0, none⟩) 64 cap1) rfl hHeld ?_
    simp only [Act.put, pA, pB, pC]
    refine tH 1 (some 67) (.string XS) rfl (fun w hw => by have := HCX.out w hw; first | rfl | (go_simp; done) | (go_simp; rfl)) hHeld ?_
    simp only [Act.put, pA, pB, pC]
    refine tK 2 (some 68) (.int .i64 b) rfl hHeld ?_
    simp only [Act.put, pA, pB, pC]
    refine tK 5 (some 71) (.int .i64 a) rfl hHeld ?_
    simp only [Act.put, pA, pB, pC]
    refine tK 7 (some 73) (.slice (some ⟨g2, 0, none⟩) 64 cap2) rfl hHeld ?_
    simp only [Act.put, pA, pB, pC]
    refine tH 8 (some 74) (.string YS) rfl (fun w hw => by have := HCY.out w hw; first | rfl | (go_simp; done) | (go_simp; rfl)) hHeld ?_
    simp only [Act.put, pA, pB, pC]
    refine tK 10 (some 76) (.slice (some ⟨g1, 0, none⟩) 64 cap1) rfl hHeld ?_
    simp only [Act.put, pA, pB, pC]
    refine tH 11 (some 77) (.string XS) rfl (fun w hw => by have := HCX.out w hw; first | rfl | (go_simp; done) | (go_simp; rfl)) hHeld ?_
    simp only [Act.put, pA, pB, pC]
    refine tK 12 (some 78) (.slice (some ⟨g2, 0, none⟩) 64 cap2) rfl hHeld ?_
    simp only [Act.put, pA, pB, pC]
    refine tH 13 (some 79) (.string YS) rfl (fun w hw => by have := HCY.out w hw; first | rfl | (go_simp; done) | (go_simp; rfl)) hHeld ?_
    simp only [Act.put, pA, pB, pC]
    refine tH 14 (some 80) (.string L2) rfl (fun w hw => by have := A2.out w; first | rfl | (go_simp; done) | (go_simp; rfl)) hHeld ?_
    simp only [Act.put, pA, pB, pC]
    refine wpAnyH_ready (rs := [3, 16]) (by kernel_rfl) (by simp) (AllReadyH.cons rfl (fun K hK => ?_) (AllReadyH.cons rfl (fun K hK => ?_) AllReadyH.nil))
    · rw [if_pos (by rfl)]
      go_simp
      refine (HSB.out _).mono ?_
      rintro e wcc ⟨rfl, hbq⟩
      try go_wp2_with fail
      refine hK.out _ _ (hHeld.trans (hbq.mono hHeld.size)) (fun hH => ?_)
      clear hK hHeld hbq
      have hHeld := hH
      clear hH
      refine tH 4 (some 70) (.string L0) rfl (fun w hw => by have := A0.out w; first | rfl | (go_simp; done) | (go_simp; rfl)) hHeld ?_
      simp only [Act.put, pA, pB, pC]
      refine wpAnyH_ready (rs := [6, 16]) (by kernel_rfl) (by simp) (AllReadyH.cons rfl (fun K hK => ?_) (AllReadyH.cons rfl (fun K hK => ?_) AllReadyH.nil))
      · rw [if_pos (by rfl)]
        go_simp
        refine (HSA.out _).mono ?_
        rintro e wccc ⟨rfl, hbq⟩
        try go_wp2_with fail
        refine hK.out _ _ (hHeld.trans (hbq.mono hHeld.size)) (fun hH => ?_)
        clear hK hHeld hbq
        have hHeld := hH
        clear hH
        refine tH 9 (some 75) (.string L1) rfl (fun w hw => by have := A1.out w; first | rfl | (go_simp; done) | (go_simp; rfl)) hHeld ?_
        simp only [Act.put, pA, pB, pC]
        refine tK 15 (some 81) (.agg #[.string L0, .string L1, .string L2]) rfl hHeld ?_
        simp only [Act.put, pA, pB, pC]
        refine wpAnyH_ready (rs := [16]) (by kernel_rfl) (by simp) (AllReadyH.cons rfl (fun K hK => ?_) AllReadyH.nil)
        rw [if_pos (by rfl)]
        go_simp
        obtain ⟨gl, hgl0⟩ : ∃ x, Array.size (World.heap wccc) = x := ⟨_, rfl⟩
        obtain ⟨wacca, hnw⟩ : ∃ x, World.alloc wccc (.cells #[.string { data := #[] }, .string { data := #[] }, .string { data := #[] }] 43) = x := ⟨_, rfl⟩
        obtain ⟨qN, bN⟩ := laid hgl0 hnw
        have hgl : V4.heap.size ≤ gl := by rw [← hgl0]; exact hHeld.size
        have sN : Below V4.heap.size V4 wacca := hHeld.trans (bN.mono hgl)
        try rw [hgl0, hnw]
        try simp only [hgl0, hnw]
        refine hK.out _ _ sN (fun hH => ?_)
        clear hK hHeld sN bN hnw hgl0
        have hHeld := hH
        clear hH
        try simp only [Act.put, pA, pB, pC]
        have f0 : wacca.frozen? ⟨gl, 0, none⟩ = false := frozen_of_row wacca gl 0 _ _ qN
        have f1 : wacca.frozen? ⟨gl, 1, none⟩ = false := frozen_of_row wacca gl 1 _ _ qN
        have f2 : wacca.frozen? ⟨gl, 2, none⟩ = false := frozen_of_row wacca gl 2 _ _ qN
        have d0 : wacca.cell? ⟨gl, 0, none⟩ = some (.string { data := #[] }) := by rw [cell_of_row wacca gl 0 _ _ (0, 0) qN]; rfl
        have d1 : wacca.cell? ⟨gl, 1, none⟩ = some (.string { data := #[] }) := by rw [cell_of_row wacca gl 1 _ _ (0, 0) qN]; rfl
        have d2 : wacca.cell? ⟨gl, 2, none⟩ = some (.string { data := #[] }) := by rw [cell_of_row wacca gl 2 _ _ (0, 0) qN]; rfl
        obtain ⟨w9, hw9⟩ : ∃ x, ((wacca.setCell ⟨gl, 0, none⟩ (.string L0)).setCell ⟨gl, 1, none⟩ (.string L1)).setCell ⟨gl, 2, none⟩ (.string L2) = x := ⟨_, rfl⟩
        obtain ⟨hb9, hc9⟩ := set3 qN hw9
        have bF : Below V4.heap.size V4 w9 := hHeld.trans (hb9.mono hgl)
        refine rdH 17 rfl (fun K hK => ?_)
        go_simp
        refine hK.out _ _ bF (fun hH => ?_)
        clear hK hHeld hH
        refine wpAnyH_done (by kernel_rfl) ?_ _
        refine NoPanic.normal ?_
        go_wp2
        go_meet
        exact ⟨_, rfl, hc9, hgl, bF⟩
      · rw [if_pos (by rfl)]
        go_simp
        obtain ⟨gl, hgl0⟩ : ∃ x, Array.size (World.heap wcc) = x := ⟨_, rfl⟩
        obtain ⟨waca, hnw⟩ : ∃ x, World.alloc wcc (.cells #[.string { data := #[] }, .string { data := #[] }, .string { data := #[] }] 43) = x := ⟨_, rfl⟩
        obtain ⟨qN, bN⟩ := laid hgl0 hnw
        have hgl : V4.heap.size ≤ gl := by rw [← hgl0]; exact hHeld.size
        have sN : Below V4.heap.size V4 waca := hHeld.trans (bN.mono hgl)
        try rw [hgl0, hnw]
        try simp only [hgl0, hnw]
        refine hK.out _ _ sN (fun hH => ?_)
        clear hK hHeld sN bN hnw hgl0
        have hHeld := hH
        clear hH
        try simp only [Act.put, pA, pB, pC]
        refine wpAnyH_ready (rs := [6]) (by kernel_rfl) (by simp) (AllReadyH.cons rfl (fun K hK => ?_) AllReadyH.nil)
        rw [if_pos (by rfl)]
        go_simp
        refine (HSA.out _).mono ?_
        rintro e wccac ⟨rfl, hbq⟩
        try go_wp2_with fail
        have qN := (hbq.block gl (lt_of_some qN)).trans qN
        refine hK.out _ _ (hHeld.trans (hbq.mono hHeld.size)) (fun hH => ?_)
        clear hK hHeld hbq
        have hHeld := hH
        clear hH
        refine tH 9 (some 75) (.string L1) rfl (fun w hw => by have := A1.out w; first | rfl | (go_simp; done) | (go_simp; rfl)) hHeld ?_
        simp only [Act.put, pA, pB, pC]
        refine tK 15 (some 81) (.agg #[.string L0, .string L1, .string L2]) rfl hHeld ?_
        simp only [Act.put, pA, pB, pC]
        have f0 : wccac.frozen? ⟨gl, 0, none⟩ = false := frozen_of_row wccac gl 0 _ _ qN
        have f1 : wccac.frozen? ⟨gl, 1, none⟩ = false := frozen_of_row wccac gl 1 _ _ qN
        have f2 : wccac.frozen? ⟨gl, 2, none⟩ = false := frozen_of_row wccac gl 2 _ _ qN
        have d0 : wccac.cell? ⟨gl, 0, none⟩ = some (.string { data := #[] }) := by rw [cell_of_row wccac gl 0 _ _ (0, 0) qN]; rfl
        have d1 : wccac.cell? ⟨gl, 1, none⟩ = some (.string { data := #[] }) := by rw [cell_of_row wccac gl 1 _ _ (0, 0) qN]; rfl
        have d2 : wccac.cell? ⟨gl, 2, none⟩ = some (.string { data := #[] }) := by rw [cell_of_row wccac gl 2 _ _ (0, 0) qN]; rfl
        obtain ⟨w9, hw9⟩ : ∃ x, ((wccac.setCell ⟨gl, 0, none⟩ (.string L0)).setCell ⟨gl, 1, none⟩ (.string L1)).setCell ⟨gl, 2, none⟩ (.string L2) = x := ⟨_, rfl⟩
        obtain ⟨hb9, hc9⟩ := set3 qN hw9
        have bF : Below V4.heap.size V4 w9 := hHeld.trans (hb9.mono hgl)
        refine rdH 17 rfl (fun K hK => ?_)
        go_simp
        refine hK.out _ _ bF (fun hH => ?_)
        clear hK hHeld hH
        refine wpAnyH_done (by kernel_rfl) ?_ _
        refine NoPanic.normal ?_
        go_wp2
        go_meet
        exact ⟨_, rfl, hc9, hgl, bF⟩
    · rw [if_pos (by rfl)]
      go_simp
      obtain ⟨gl, hgl0⟩ : ∃ x, Array.size (World.heap wd) = x := ⟨_, rfl⟩
      obtain ⟨waa, hnw⟩ : ∃ x, World.alloc wd (.cells #[.string { data := #[] }, .string { data := #[] }, .string { data := #[] }] 43) = x := ⟨_, rfl⟩
      obtain ⟨qN, bN⟩ := laid hgl0 hnw
      have hgl : V4.heap.size ≤ gl := by rw [← hgl0]; exact hHeld.size
      have sN : Below V4.heap.size V4 waa := hHeld.trans (bN.mono hgl)
      try rw [hgl0, hnw]
      try simp only [hgl0, hnw]
      refine hK.out _ _ sN (fun hH => ?_)
      clear hK hHeld sN bN hnw hgl0
      have hHeld := hH
      clear hH
      try simp only [Act.put, pA, pB, pC]
      refine wpAnyH_ready (rs := [3]) (by kernel_rfl) (by simp) (AllReadyH.cons rfl (fun K hK => ?_) AllReadyH.nil)
      rw [if_pos (by rfl)]
      go_simp
      refine (HSB.out _).mono ?_
      rintro e wcac ⟨rfl, hbq⟩
      try go_wp2_with fail
      have qN := (hbq.block gl (lt_of_some qN)).trans qN
      refine hK.out _ _ (hHeld.trans (hbq.mono hHeld.size)) (fun hH => ?_)
      clear hK hHeld hbq
      have hHeld := hH
      clear hH
      refine tH 4 (some 70) (.string L0) rfl (fun w hw => by have := A0.out w; first | rfl | (go_simp; done) | (go_simp; rfl)) hHeld ?_
      simp only [Act.put, pA, pB, pC]
      refine wpAnyH_ready (rs := [6]) (by kernel_rfl) (by simp) (AllReadyH.cons rfl (fun K hK => ?_) AllReadyH.nil)
      rw [if_pos (by rfl)]
      go_simp
      refine (HSA.out _).mono ?_
      rintro e wcacc ⟨rfl, hbq⟩
      try go_wp2_with fail
      have qN := (hbq.block gl (lt_of_some qN)).trans qN
      refine hK.out _ _ (hHeld.trans (hbq.mono hHeld.size)) (fun hH => ?_)
      clear hK hHeld hbq
      have hHeld := hH
      clear hH
      refine tH 9 (some 75) (.string L1) rfl (fun w hw => by have := A1.out w; first | rfl | (go_simp; done) | (go_simp; rfl)) hHeld ?_
      simp only [Act.put, pA, pB, pC]
      refine tK 15 (some 81) (.agg #[.string L0, .string L1, .string L2]) rfl hHeld ?_
      simp only [Act.put, pA, pB, pC]
      have f0 : wcacc.frozen? ⟨gl, 0, none⟩ = false := frozen_of_row wcacc gl 0 _ _ qN
      have f1 : wcacc.frozen? ⟨gl, 1, none⟩ = false := frozen_of_row wcacc gl 1 _ _ qN
      have f2 : wcacc.frozen? ⟨gl, 2, none⟩ = false := frozen_of_row wcacc gl 2 _ _ qN
      have d0 : wcacc.cell? ⟨gl, 0, none⟩ = some (.string { data := #[] }) := by rw [cell_of_row wcacc gl 0 _ _ (0, 0) qN]; rfl
      have d1 : wcacc.cell? ⟨gl, 1, none⟩ = some (.string { data := #[] }) := by rw [cell_of_row wcacc gl 1 _ _ (0, 0) qN]; rfl
      have d2 : wcacc.cell? ⟨gl, 2, none⟩ = some (.string { data := #[] }) := by rw [cell_of_row wcacc gl 2 _ _ (0, 0) qN]; rfl
      obtain ⟨w9, hw9⟩ : ∃ x, ((wcacc.setCell ⟨gl, 0, none⟩ (.string L0)).setCell ⟨gl, 1, none⟩ (.string L1)).setCell ⟨gl, 2, none⟩ (.string L2) = x := ⟨_, rfl⟩
      obtain ⟨hb9, hc9⟩ := set3 qN hw9
      have bF : Below V4.heap.size V4 w9 := hHeld.trans (hb9.mono hgl)
      refine rdH 17 rfl (fun K hK => ?_)
      go_simp
      refine hK.out _ _ bF (fun hH => ?_)
      clear hK hHeld hH
      refine wpAnyH_done (by kernel_rfl) ?_ _
      refine NoPanic.normal ?_
      go_wp2
      go_meet
      exact ⟨_, rfl, hc9, hgl, bF⟩
  case rest =>
    obtain ⟨la, rfl, hla, hlb, hb5⟩ := hcut
    have HB5 : Hid (Below B w wc) := HV4.out.trans (hb5.mono (by rw [← HBB.out]; exact HV4.out.size))
    have H5 : Hid (Lies B wc [wl la L0 L1 L2]) := (Lies.nil (B := B) (w := V4) (by rw [← HBB.out]; exact HV4.out.size)).push (S' := fun b => b = la) hb5 ⟨hla, fun _ => Iff.rfl⟩ (fun b hb => by rw [hb]; exact hlb)
    clear hla hlb hb5 HV4 HCX HCY A0 A1 A2 hcv1 hcv2 q1 f1 hV3 q2 f2 hV4 rx1 rx2 hoI
    go_wp2
    go_loopw [17] (fun i wr => ∃ (k : Nat), k ≤ 2 ∧ i = .int .i64 (k : Int) ∧ (1 ≤ k → wholeL XL = none) ∧ (2 ≤ k → wholeL YL = none) ∧ Lies B wr [wl la L0 L1 L2] ∧ Below B w wr) (fun i _ => 3 - (intOf i).toNat)
    case atStart => exact ⟨0, by omega, rfl, fun h => absurd h (by omega), fun h => absurd h (by omega), H5.out, HB5.out⟩
    case round =>
      clear H5 HB5
      obtain ⟨k, hk, rfl, hx0, hy0, hlr, hbr⟩ := hrel
      obtain ⟨d0, d1, d2⟩ := wl_cells hlr
      have HX0 := hide hx0
      have HY0 := hide hy0
      have HLR := hide hlr
      have HBR := hide hbr
      have z0 : L0.size = 128 := by rw [← str_len, HT3.out.e0, List.length_append, HT3.out.lx, slotL_length]
      have z1 : L1.size = 128 := by rw [← str_len, HT3.out.e1, List.length_append, HT3.out.ly, slotL_length]
      have z2 : L2.size = 128 := by rw [← str_len, HT3.out.e2, List.length_append, HT3.out.lx, HT3.out.ly]
      have HZ0 := hide z0
      have HZ1 := hide z1
      have HZ2 := hide z2
      clear hlr hbr hx0 hy0 z0 z1 z2
      rcases (by omega : k = 0 ∨ k = 1 ∨ k = 2) with hk' | hk' | hk'
      · subst hk'
        obtain ⟨bw, hbw⟩ : ∃ b, wvB L0 0 = b := ⟨_, rfl⟩
        have hcw := lwhole_any L0 (by rw [HZ0.out]; unfold maxLen; omega) 0 (by decide) wr
        rw [hbw] at hcw
        have hcw' : Calls Tryz.prog 16 #[.string L0, .int .i64 0] wr fun e w' => e = .returned (.tuple #[.int .i64 (wvI L0 0), .bool bw]) ∧ Below wr.heap.size wr w' := hcw
        have HWV := hide hbw
        clear hcw hbw
        go_wp2_with fail
        refine hcw'.mono ?_
        rintro e w6 ⟨rfl, hb6⟩
        have H6 := hide (HLR.out.below hb6)
        have HB6 := hide (HBR.out.trans (hb6.mono HLR.out.base))
        clear hb6 hcw' HLR HBR
        cases bw with
        | true =>
          go_wp2
          go_ret
          exact ⟨rfl, HB6.out⟩
        | false =>
          have HQ : Hid (wholeL XL = none) := by
            have := HWV.out
            rw [(wvB_sec HT3.out.e0 HT3.out.lx (slotL_length b)).1] at this
            show _ = _
            cases hq : wholeL XL with
            | none => rfl
            | some v => rw [hq] at this; cases this
          obtain ⟨e0, e1, e2⟩ := wl_cells H6.out
          have hnew := k_new H6.out 200 (by decide) (by decide)
          clear d0 d1 d2 HWV
          go_wp2_with fail
          refine hnew.mono ?_
          rintro e w7 ⟨p, rfl, h7, hb7⟩
          have HB7 := hide (HB6.out.trans hb7)
          obtain ⟨y0, y1, y2⟩ := wl_cells h7
          have hcwr := to_write h7 HZ0.out
          clear h7 hb7 hnew e0 e1 e2 H6 HB6
          go_wp2_with fail
          refine hcwr.mono ?_
          rintro e w8 ⟨rfl, h8, hb8⟩
          have HB8 := hide (HB7.out.trans hb8)
          have hco := to_open h8 (by rw [str_len]; exact HZ0.out) (v := b) (x := 0) (by rw [HT3.out.e0, pick_sec HT3.out.lx (slotL_length b), HQ.out, wholeL_slot HNB.out]; rfl)
          clear h8 hb8 hcwr y0 y1 y2 HB7
          go_wp2_with fail
          refine hco.mono ?_
          rintro e w9 ⟨g, rfl, h9, hb9⟩
          have HB9 := hide (HB8.out.trans hb9)
          have H9 := hide h9
          have hval := mvalue_any (j := 2) h9 rfl
          have hgg : (b == b) = true := by simp
          have hix : ∀ w : World, (Instr.index 49 (.agg #[.int .i64 b, .int .i64 a]) (.int .i64 0)).run Tryz.prog w = .ok (.int .i64 b) w := fun w => by first | rfl | kernel_rfl | (go_simp; done) | (go_simp; rfl)
          clear h9 hb9 hco HB8
          go_wp2_with fail
          refine hval.mono ?_
          rintro e wv ⟨rfl, hw⟩
          obtain rfl := hw.symm
          clear hw hval
          have hcd := to_dirty H9.out
          go_wp2_with fail
          refine hcd.mono ?_
          rintro e w10 ⟨ad1, cp1, rfl, h10, hb10⟩
          have HB10 := hide (HB9.out.trans hb10)
          have H10 := hide h10
          clear h10 hb10 hcd H9 HB9
          by_cases hg : b < 281474976710655
          · have dg : decide (b < 281474976710655) = true := decide_eq_true hg
            obtain ⟨C, hC⟩ : ∃ C : ByteArray, C.data.toList = sec L0.data.toList (1 - 0) := ⟨⟨(sec L0.data.toList (1 - 0)).toArray⟩, rfl⟩
            obtain ⟨n1, hn1⟩ : ∃ n1, b + 1 = n1 := ⟨_, rfl⟩
            have hwn : wrap64 (b + 1) = n1 := by have := HRB.out; rw [hn1]; unfold wrap64; omega
            have HNN : Hid (numB n1 = true) := numB_iff.2 (by have := HRB.out; omega)
            have HNV : Hid (b < n1) := by show _ < _; omega
            have HL28 : Hid (L0.data.toList.length = 128) := by show _ = _; rw [str_len]; exact HZ0.out
            have hcr := to_read (1 - 0) 64 (by decide) C hC H10.out
            have HC := hide hC
            have HSN : Hid (∀ w, Calls Tryz.prog 10 #[.int .i64 n1] w fun e w' => e = .returned (.string (slotS n1)) ∧ Below w.heap.size w w') := fun w => lslot_any n1 (by have := numB_iff.1 HNN.out; omega) w
            clear hg hC hn1
            go_wp2_with fail
            refine hcr.mono ?_
            rintro e w11 ⟨rfl, h11, hb11⟩
            have HB11 := hide (HB10.out.trans hb11)
            have hra := to_raise h11 HL28.out (by decide) n1 HNN.out HNV.out
            clear h11 hb11 hcr H10 HB10
            go_wp2_with fail
            refine hra.mono ?_
            rintro e w12 ⟨rfl, h12, hb12⟩
            have HB12 := hide (HB11.out.trans hb12)
            have hr2 := to_read 0 0 (by decide) (slotS n1) (by rw [put_same HL28.out (by decide)]; rfl) h12
            clear h12 hb12 hra HB11
            go_wp2_with fail
            refine hr2.mono ?_
            rintro e w13 ⟨rfl, h13, hb13⟩
            have HB13 := hide (HB12.out.trans hb13)
            have hr3 := to_read (1 - 0) 64 (by decide) C (by rw [put_other HL28.out (by decide)]; exact HC.out) h13
            clear h13 hb13 hr2 HB12
            go_wp2_with fail
            refine hr3.mono ?_
            rintro e w14 ⟨rfl, h14, hb14⟩
            have HB14 := hide (HB13.out.trans hb14)
            have H14 := hide h14
            clear h14 hb14 hr3 HB13
            generalize slotS n1 = SN at HSN ⊢
            have hss : (SN.toList == SN.toList) = true := by simp
            have hcc : (C.toList == C.toList) = true := by simp
            go_wp2_with fail
            refine (HSN.out _).mono ?_
            rintro e w15 ⟨rfl, hb15⟩
            have H15 := hide ((H14.out.below hb15))
            have HB15 := hide (HB14.out.trans (hb15.mono H14.out.base))
            clear hb15 H14 HB14
            go_wp2
            go_roundw
            case rel => exact ⟨0 + 1, by omega, by go_num, fun _ => HQ.out, fun h => absurd h (by omega), Lies.drop (L := [wl la L0 L1 L2]) H15.out, HB15.out⟩
            case measure => simp [intOf]
          · have dg : decide (b < 281474976710655) = false := decide_eq_false hg
            clear hg
            go_wp2
            go_roundw
            case rel => exact ⟨0 + 1, by omega, by go_num, fun _ => HQ.out, fun h => absurd h (by omega), Lies.drop (L := [wl la L0 L1 L2]) H10.out, HB10.out⟩
            case measure => simp [intOf]
      · subst hk'
        obtain ⟨bw, hbw⟩ : ∃ b, wvB L1 1 = b := ⟨_, rfl⟩
        have hcw := lwhole_any L1 (by rw [HZ1.out]; unfold maxLen; omega) 1 (by decide) wr
        rw [hbw] at hcw
        have hcw' : Calls Tryz.prog 16 #[.string L1, .int .i64 1] wr fun e w' => e = .returned (.tuple #[.int .i64 (wvI L1 1), .bool bw]) ∧ Below wr.heap.size wr w' := hcw
        have HWV := hide hbw
        clear hcw hbw
        go_wp2_with fail
        refine hcw'.mono ?_
        rintro e w6 ⟨rfl, hb6⟩
        have H6 := hide (HLR.out.below hb6)
        have HB6 := hide (HBR.out.trans (hb6.mono HLR.out.base))
        clear hb6 hcw' HLR HBR
        cases bw with
        | true =>
          go_wp2
          go_ret
          exact ⟨rfl, HB6.out⟩
        | false =>
          have HQ : Hid (wholeL YL = none) := by
            have := HWV.out
            rw [(wvB_sec HT3.out.e1 (slotL_length a) HT3.out.ly).2] at this
            show _ = _
            cases hq : wholeL YL with
            | none => rfl
            | some v => rw [hq] at this; cases this
          obtain ⟨e0, e1, e2⟩ := wl_cells H6.out
          have hnew := k_new H6.out 200 (by decide) (by decide)
          clear d0 d1 d2 HWV
          go_wp2_with fail
          refine hnew.mono ?_
          rintro e w7 ⟨p, rfl, h7, hb7⟩
          have HB7 := hide (HB6.out.trans hb7)
          obtain ⟨y0, y1, y2⟩ := wl_cells h7
          have hcwr := to_write h7 HZ1.out
          clear h7 hb7 hnew e0 e1 e2 H6 HB6
          go_wp2_with fail
          refine hcwr.mono ?_
          rintro e w8 ⟨rfl, h8, hb8⟩
          have HB8 := hide (HB7.out.trans hb8)
          have hco := to_open h8 (by rw [str_len]; exact HZ1.out) (v := a) (x := 1) (by rw [HT3.out.e1, pick_sec (slotL_length a) HT3.out.ly, HQ.out, wholeL_slot HNA.out]; rfl)
          clear h8 hb8 hcwr y0 y1 y2 HB7
          go_wp2_with fail
          refine hco.mono ?_
          rintro e w9 ⟨g, rfl, h9, hb9⟩
          have HB9 := hide (HB8.out.trans hb9)
          have H9 := hide h9
          have hval := mvalue_any (j := 2) h9 rfl
          have hgg : (a == a) = true := by simp
          have hix : ∀ w : World, (Instr.index 49 (.agg #[.int .i64 b, .int .i64 a]) (.int .i64 1)).run Tryz.prog w = .ok (.int .i64 a) w := fun w => by first | rfl | kernel_rfl | (go_simp; done) | (go_simp; rfl)
          clear h9 hb9 hco HB8
          go_wp2_with fail
          refine hval.mono ?_
          rintro e wv ⟨rfl, hw⟩
          obtain rfl := hw.symm
          clear hw hval
          have hcd := to_dirty H9.out
          go_wp2_with fail
          refine hcd.mono ?_
          rintro e w10 ⟨ad1, cp1, rfl, h10, hb10⟩
          have HB10 := hide (HB9.out.trans hb10)
          have H10 := hide h10
          clear h10 hb10 hcd H9 HB9
          by_cases hg : a < 281474976710655
          · have dg : decide (a < 281474976710655) = true := decide_eq_true hg
            obtain ⟨C, hC⟩ : ∃ C : ByteArray, C.data.toList = sec L1.data.toList (1 - 1) := ⟨⟨(sec L1.data.toList (1 - 1)).toArray⟩, rfl⟩
            obtain ⟨n1, hn1⟩ : ∃ n1, a + 1 = n1 := ⟨_, rfl⟩
            have hwn : wrap64 (a + 1) = n1 := by have := HRA.out; rw [hn1]; unfold wrap64; omega
            have HNN : Hid (numB n1 = true) := numB_iff.2 (by have := HRA.out; omega)
            have HNV : Hid (a < n1) := by show _ < _; omega
            have HL28 : Hid (L1.data.toList.length = 128) := by show _ = _; rw [str_len]; exact HZ1.out
            have hcr := to_read (1 - 1) 0 (by decide) C hC H10.out
            have HC := hide hC
            have HSN : Hid (∀ w, Calls Tryz.prog 10 #[.int .i64 n1] w fun e w' => e = .returned (.string (slotS n1)) ∧ Below w.heap.size w w') := fun w => lslot_any n1 (by have := numB_iff.1 HNN.out; omega) w
            clear hg hC hn1
            go_wp2_with fail
            refine hcr.mono ?_
            rintro e w11 ⟨rfl, h11, hb11⟩
            have HB11 := hide (HB10.out.trans hb11)
            have hra := to_raise h11 HL28.out (by decide) n1 HNN.out HNV.out
            clear h11 hb11 hcr H10 HB10
            go_wp2_with fail
            refine hra.mono ?_
            rintro e w12 ⟨rfl, h12, hb12⟩
            have HB12 := hide (HB11.out.trans hb12)
            have hr2 := to_read 1 64 (by decide) (slotS n1) (by rw [put_same HL28.out (by decide)]; rfl) h12
            clear h12 hb12 hra HB11
            go_wp2_with fail
            refine hr2.mono ?_
            rintro e w13 ⟨rfl, h13, hb13⟩
            have HB13 := hide (HB12.out.trans hb13)
            have hr3 := to_read (1 - 1) 0 (by decide) C (by rw [put_other HL28.out (by decide)]; exact HC.out) h13
            clear h13 hb13 hr2 HB12
            go_wp2_with fail
            refine hr3.mono ?_
            rintro e w14 ⟨rfl, h14, hb14⟩
            have HB14 := hide (HB13.out.trans hb14)
            have H14 := hide h14
            clear h14 hb14 hr3 HB13
            generalize slotS n1 = SN at HSN ⊢
            have hss : (SN.toList == SN.toList) = true := by simp
            have hcc : (C.toList == C.toList) = true := by simp
            go_wp2_with fail
            refine (HSN.out _).mono ?_
            rintro e w15 ⟨rfl, hb15⟩
            have H15 := hide ((H14.out.below hb15))
            have HB15 := hide (HB14.out.trans (hb15.mono H14.out.base))
            clear hb15 H14 HB14
            go_wp2
            go_roundw
            case rel => exact ⟨1 + 1, by omega, by go_num, fun _ => HX0.out (by omega), fun _ => HQ.out, Lies.drop (L := [wl la L0 L1 L2]) H15.out, HB15.out⟩
            case measure => simp [intOf]
          · have dg : decide (a < 281474976710655) = false := decide_eq_false hg
            clear hg
            go_wp2
            go_roundw
            case rel => exact ⟨1 + 1, by omega, by go_num, fun _ => HX0.out (by omega), fun _ => HQ.out, Lies.drop (L := [wl la L0 L1 L2]) H10.out, HB10.out⟩
            case measure => simp [intOf]
      · subst hk'
        have HXN := hide (HX0.out (by omega))
        have HYN := hide (HY0.out (by omega))
        have hwv := wvB_sec HT3.out.e2 HT3.out.lx HT3.out.ly
        rw [HXN.out, HYN.out] at hwv
        have hcw := lwhole_any L2 (by rw [HZ2.out]; unfold maxLen; omega) 0 (by decide) wr
        rw [hwv.1] at hcw
        have hcw' : Calls Tryz.prog 16 #[.string L2, .int .i64 0] wr fun e w' => e = .returned (.tuple #[.int .i64 (wvI L2 0), .bool false]) ∧ Below wr.heap.size wr w' := hcw
        have HTO : Hid (∀ w, Calls Tryz.prog 17 #[.string L2] w fun e w' => e = .returned (.bool false) ∧ Below w.heap.size w w') := fun w => torn_any L2 (by rw [HZ2.out]; unfold maxLen; omega) w false false hwv.1 hwv.2
        have HPN : Hid (pickT L2.data.toList = none) := by show _ = _; rw [HT3.out.e2, pick_sec HT3.out.lx HT3.out.ly, HXN.out, HYN.out]; rfl
        have HAN : Hid (∀ w, Calls Tryz.prog 19 #[.string L2, .int .i64 n] w fun e w' => e = .returned (.bool true) ∧ Below w.heap.size w w') := fun w => anew_any L2 HZ2.out HPN.out n w
        have hss : (L2.toList == L2.toList) = true := by simp
        clear hcw hwv
        go_wp2_with fail
        refine hcw'.mono ?_
        rintro e w6 ⟨rfl, hb6⟩
        have h6 := HLR.out.below hb6
        have HB6 := hide (HBR.out.trans (hb6.mono HLR.out.base))
        obtain ⟨e0, e1, e2⟩ := wl_cells h6
        have H6 := hide h6
        clear hb6 h6 hcw' HLR HBR
        go_wp2_with fail
        refine (HTO.out _).mono ?_
        rintro e w7 ⟨rfl, hb7⟩
        have h7 := H6.out.below hb7
        have HB7 := hide (HB6.out.trans (hb7.mono H6.out.base))
        have hnew := k_new h7 200 (by decide) (by decide)
        clear hb7 h7 H6 HB6 d0 d1 d2 e0 e1 e2
        go_wp2_with fail
        refine hnew.mono ?_
        rintro e w8 ⟨p, rfl, h8, hb8⟩
        have HB8 := hide (HB7.out.trans hb8)
        obtain ⟨y0, y1, y2⟩ := wl_cells h8
        have hcwr := to_write h8 HZ2.out
        clear h8 hb8 hnew HB7
        go_wp2_with fail
        refine hcwr.mono ?_
        rintro e w9 ⟨rfl, h9, hb9⟩
        have HB9 := hide (HB8.out.trans hb9)
        have hco := to_none h9 (by rw [str_len]; exact HZ2.out) HPN.out
        clear h9 hb9 hcwr HB8 y0 y1 y2
        go_wp2_with fail
        refine hco.mono ?_
        rintro e w10 ⟨rfl, h10, hb10⟩
        have HB10 := hide (HB9.out.trans hb10)
        have hrd := to_read200 h10 HZ2.out
        clear h10 hb10 hco HB9
        go_wp2_with fail
        refine hrd.mono ?_
        rintro e w11 ⟨rfl, h11, hb11⟩
        have HB11 := hide (HB10.out.trans hb11)
        obtain ⟨u0, u1, u2⟩ := wl_cells h11
        have HL11 : Hid (B ≤ w11.heap.size) := h11.base
        clear h11 hb11 hrd HB10
        go_wp2_with fail
        refine (HAN.out _).mono ?_
        rintro e w12 ⟨rfl, hb12⟩
        have HB12 := hide (HB11.out.trans (hb12.mono HL11.out))
        clear hb12
        go_wp2
        go_ret
        exact ⟨rfl, HB12.out⟩
end Go.Proofs.YtlkimfmilccanaaGreat
