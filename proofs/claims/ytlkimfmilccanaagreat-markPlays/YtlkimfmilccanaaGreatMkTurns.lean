/-
  MarkTurns: the walk (printed by gen_turns.py).
-/
import Derived.Test.YtlkimfmilccanaaGreatMkSlot
import Derived.Test.YtlkimfmilccanaaGreatMkTale
import Derived.Test.YtlkimfmilccanaaGreatMkTale
namespace Go.Proofs.YtlkimfmilccanaaGreat
open Go.RowKit Go.Maps Go.WideMaps
set_option linter.unusedVariables false
set_option linter.unusedSimpArgs false
def slotS (v : Int) : ByteArray := ⟨(slotL v).toArray⟩
def bothS (a b : Int) : ByteArray := ⟨(slotL a ++ slotL b).toArray⟩
theorem slotS_size (v : Int) : (slotS v).size = 64 := by rw [← str_len]; exact slotL_length v
theorem both_add (a b : Int) (w : World) : (Op.stringOp .add (slotS a) (slotS b)).run Tryz.prog w = .ok (.string (bothS a b)) w := k_add w _ _ _ (k_ext (by rw [k_app]; rfl)) (by rw [slotS_size, slotS_size]; decide)
def TLs (p g wa : Nat) (a0 a1 v : Int) (x : Nat) : List Item := [.disk p (TD a0 a1), .mkI 91 g p ⟨#[109]⟩ v x, .block wa (.cells #[.string (slotS a0), .string (slotS a1)] 32 (0, 0))]
structure TSt (a0 a1 v : Int) (x : Nat) : Prop where
  n0 : numB a0 = true
  n1 : numB a1 = true
  lo : -1 ≤ v
  at_ : (x = 1 ∧ a0 = v ∧ a1 ≤ v) ∨ (x = 0 ∧ a1 = v ∧ a0 < v)
theorem TSt.x1 {a0 a1 v : Int} {x : Nat} (h : TSt a0 a1 v x) : x ≤ 1 := by rcases h.at_ with h | h <;> omega
theorem TSt.val {a0 a1 v : Int} {x : Nat} (h : TSt a0 a1 v x) : (if a0 < a1 then (a1, 0) else (a0, 1) : Int × Nat) = (v, x) := by
  rcases h.at_ with ⟨rfl, rfl, h⟩ | ⟨rfl, rfl, h⟩
  · rw [if_neg (by omega)]
  · rw [if_pos h]
section
variable {B : Nat} {w : World} {p g wa : Nat} {a0 a1 v : Int} {x : Nat}
theorem tl_same (h : Lies B w (TLs p g wa a0 a1 v x)) (hx : x ≤ 1) (n : Int) (hn : numB n = true) (hv : n ≤ v) : Calls Tryz.prog 11 #[.pointer (some ⟨g, 0, none⟩), .int .i64 n] w fun e w' => e = .returned (.int .i64 0) ∧ Lies B w' (TLs p g wa a0 a1 v x) ∧ Below B w w' :=
  mraise_any (i := 0) (j := 1) h rfl rfl (by decide) (by decide) hx n (0, (v, x), TD a0 a1) (raise_same hn hv)
theorem tl_up1 (h : Lies B w (TLs p g wa a0 a1 v 1)) (n : Int) (hn : numB n = true) (hv : v < n) : Calls Tryz.prog 11 #[.pointer (some ⟨g, 0, none⟩), .int .i64 n] w fun e w' => e = .returned (.int .i64 0) ∧ Lies B w' [.disk p (TD a0 n), .mkI 91 g p ⟨#[109]⟩ n 0, .block wa (.cells #[.string (slotS a0), .string (slotS a1)] 32 (0, 0))] ∧ Below B w w' :=
  mraise_any (i := 0) (j := 1) h rfl rfl (by decide) (by decide) (by decide) n (0, (n, 0), TD a0 n) (td_raise1 hn hv)
theorem tl_up0 (h : Lies B w (TLs p g wa a0 a1 v 0)) (n : Int) (hn : numB n = true) (hv : v < n) : Calls Tryz.prog 11 #[.pointer (some ⟨g, 0, none⟩), .int .i64 n] w fun e w' => e = .returned (.int .i64 0) ∧ Lies B w' [.disk p (TD n a1), .mkI 91 g p ⟨#[109]⟩ n 1, .block wa (.cells #[.string (slotS a0), .string (slotS a1)] 32 (0, 0))] ∧ Below B w w' :=
  mraise_any (i := 0) (j := 1) h rfl rfl (by decide) (by decide) (by decide) n (0, (n, 1), TD n a1) (td_raise0 hn hv)
theorem tl_read (h : Lies B w (TLs p g wa a0 a1 v x)) : Calls Tryz.prog 12 #[.pointer (some ⟨p, 0, none⟩), .string ⟨#[109]⟩, .int .i64 0, .int .i64 200] w fun e w' => e = .returned (.tuple #[.string (bothS a0 a1), .int .i64 0]) ∧ Lies B w' (TLs p g wa a0 a1 v x) ∧ Below B w w' := by
  have := s_read (i := 0) h rfl ⟨#[109]⟩ (by decide) 0 200
  rw [show (TD a0 a1).read (ByteArray.mk #[109]).data.toList 0 200 = (slotL a0 ++ slotL a1, 0) from td_read] at this
  exact this
theorem tl_dirty (h : Lies B w (TLs p g wa a0 a1 v x)) : Calls Tryz.prog 14 #[.pointer (some ⟨p, 0, none⟩), .string ⟨#[109]⟩] w fun e w' => ∃ ad cap, e = .returned (.slice ad 0 cap) ∧ Lies B w' (TLs p g wa a0 a1 v x) ∧ Below B w w' :=
  (s_dirty (i := 0) h rfl ⟨#[109]⟩ (by decide)).mono (fun e w' ⟨v', he, hr, hl, hb⟩ => by
    have hd : (TD a0 a1).dirtyI (ByteArray.mk #[109]).data.toList = [] := by unfold AD.dirtyI; rw [show (TD a0 a1).dirty (ByteArray.mk #[109]).data.toList = [] from td_dirty]; rfl
    rw [hd] at hr
    obtain ⟨ad, cap, rfl, _⟩ := row_at hr
    exact ⟨ad, cap, he, hl.drop, hb⟩)
theorem tl_cells (h : Lies B w (TLs p g wa a0 a1 v x)) : w.cell? ⟨wa, 0, none⟩ = some (.string (slotS a0)) ∧ w.cell? ⟨wa, 1, none⟩ = some (.string (slotS a1)) := by
  have hc := block_at (q := 2) h rfl
  exact ⟨by rw [cell_of_row w wa 0 _ _ (0, 0) hc]; rfl, by rw [cell_of_row w wa 1 _ _ (0, 0) hc]; rfl⟩
end
def Row16 (w : World) (ad : Option Addr) (zs : List Int) : Prop := zs = [] ∨ ∃ b o, ad = some ⟨b, o, none⟩ ∧ b < w.heap.size ∧ ∀ i (h : i < zs.length), w.cell? ⟨b, o + i, none⟩ = some (.int .u16 zs[i])
set_option maxRecDepth 100000 in
set_option maxHeartbeats 40000000 in
theorem turns_walk (w : World) (ad : Option Addr) (cap : Nat) (zs : List Int) (h : Row16 w ad zs) (hz : ∀ z ∈ zs, 0 ≤ z ∧ z ≤ 65535) (hl : zs.length ≤ 1048576) (back : Int) (hback : -9223372036854775808 ≤ back ∧ back < 9223372036854775808) :
    Calls Tryz.prog 3 #[.slice ad zs.length cap, .int .i64 back] w fun e w' => e = .returned (.bool true) ∧ Below w.heap.size w w' := by
  obtain ⟨B, hB⟩ : ∃ B, w.heap.size = B := ⟨_, rfl⟩
  have hl0 : Lies B w [] := Lies.nil (by rw [hB]; exact Nat.le_refl _)
  have HROW : Hid (∀ (W : World), Below B w W → ∀ k (hk : k < zs.length), ∃ b o, ad = some ⟨b, o, none⟩ ∧ W.cell? ⟨b, o + k, none⟩ = some (.int .u16 zs[k]) ∧ 0 ≤ zs[k] ∧ zs[k] ≤ 65535) := fun W hb k hk => by
    rcases h with he | ⟨b, o, ha, hlt, hc⟩
    · rw [he] at hk; simp at hk
    · refine ⟨b, o, ha, ?_, hz _ (List.getElem_mem hk)⟩
      rw [← hc k hk]
      exact World.cell?_of_block (hb.block b (by rw [← hB]; exact hlt))
  rw [hB]
  have HL0 := hide hl0
  clear hB h hl0 hz hback
  go_enter Tryz.func3, Tryz.ntmps3
  go_wp2_with fail
  refine (head_any w).mono ?_
  rintro e w1 ⟨rfl, hb⟩
  have HB1 := hide (hb.mono HL0.out.base)
  have hc1 := k_new (HL0.out.below hb) 128 (by decide) (by decide)
  clear hb HL0
  go_wp2_with fail
  refine hc1.mono ?_
  rintro e w2 ⟨p, rfl, h, hb⟩
  have HB2 := hide (HB1.out.trans hb)
  have hco := mopen_any (i := 0) h rfl ⟨#[109]⟩ (by decide)
  rw [show (AD.fresh 128).openM (ByteArray.mk #[109]).data.toList = (0, some (-1, 1), TD (-1) (-1)) from td_open0] at hco
  clear h hb hc1 HB1
  go_wp2_with fail
  refine hco.mono ?_
  rintro e w3 hp
  obtain ⟨g, rfl, h3, hb3⟩ := mkp_isSome hp rfl
  have HB3 := hide (HB2.out.trans hb3)
  have H3 : Hid (Lies B w3 [.disk p (TD (-1) (-1)), .mkI 91 g p ⟨#[109]⟩ (-1) 1]) := h3
  clear hp h3 hb3 hco HB2
  have HSL : Hid (∀ (n : Int), -9223372036854775808 ≤ n ∧ n < 9223372036854775808 → ∀ w, Calls Tryz.prog 10 #[.int .i64 n] w fun e w' => e = .returned (.string (slotS n)) ∧ Below w.heap.size w w') := fun n hn w => lslot_any n hn w
  go_wp2_with fail
  refine (HSL.out (-1) (by decide) _).mono ?_
  rintro e w4 ⟨rfl, hb4⟩
  have H4 := hide (H3.out.below hb4)
  have HB4 := hide (HB3.out.trans (hb4.mono H3.out.base))
  clear hb4 H3 HB3
  go_wp2_with fail
  refine (HSL.out (-1) (by decide) _).mono ?_
  rintro e w5 ⟨rfl, hb5⟩
  have h5 := H4.out.below hb5
  have HB5 := hide (HB4.out.trans (hb5.mono H4.out.base))
  obtain ⟨wa, hwa⟩ : ∃ x, w5.heap.size = x := ⟨_, rfl⟩
  obtain ⟨w6, hw6⟩ : ∃ x, w5.alloc (.cells #[.string (slotS (-1)), .string (slotS (-1))] 32) = x := ⟨_, rfl⟩
  obtain ⟨h6, hb6⟩ := h5.box _ _ w6 hw6 wa hwa
  have H6 : Hid (Lies B w6 (TLs p g wa (-1) (-1) (-1) 1)) := h6
  have HB6 := hide (HB5.out.trans hb6)
  clear hb5 h5 h6 hb6 H4 HB4 HB5
  go_wp2
  go_loopw [9, 10, 11] (fun vv nn i wr => ∃ (k : Nat) (a0 a1 v : Int) (x : Nat), k ≤ zs.length ∧ i = .int .i64 (k : Int) ∧ vv = .int .i64 v ∧ nn = .int .i64 (x : Int) ∧ TSt a0 a1 v x ∧ v ≤ 65535 * (k : Int) ∧ Lies B wr (TLs p g wa a0 a1 v x) ∧ Below B w wr) (fun _ _ i _ => zs.length - (intOf i).toNat)
  case atStart => exact ⟨0, -1, -1, -1, 1, by omega, rfl, rfl, rfl, ⟨by decide, by decide, by decide, .inl ⟨rfl, rfl, by decide⟩⟩, by omega, H6.out, HB6.out⟩
  case round =>
    clear H6 HB6 hw6 hwa
    obtain ⟨k, a0, a1, v, x, hk, rfl, rfl, rfl, hst, hvk, hlr, hbr⟩ := hrel
    have HLR := hide hlr
    have HBR := hide hbr
    have HST := hide hst
    have HVK := hide hvk
    clear hlr hbr hst hvk
    by_cases hlt : k < zs.length
    · have dk : decide ((k : Int) < (zs.length : Int)) = true := decide_eq_true (by omega)
      have hk0 : (0 : Int) ≤ (k : Int) := by omega
      have hk1 : (k : Int) < (zs.length : Int) := by omega
      obtain ⟨b, o, rfl, hc, hz0, hz1⟩ := HROW.out wr HBR.out k hlt
      obtain ⟨z, hzz⟩ : ∃ z, zs[k] = z := ⟨_, rfl⟩
      rw [hzz] at hc hz0 hz1
      obtain ⟨n, hn⟩ : ∃ n, v + z = n := ⟨_, rfl⟩
      have HNB : Hid (numB n = true) := numB_iff.2 (by have := HST.out.lo; have := HVK.out; omega)
      have HNK : Hid (n ≤ 65535 * ((k + 1 : Nat) : Int)) := by show _ ≤ _; have := HVK.out; omega
      have HNR : Hid (-9223372036854775808 ≤ n ∧ n < 9223372036854775808) := by have := numB_iff.1 HNB.out; exact ⟨by omega, by omega⟩
      have hwz : IntKind.i64.wrap z = z := wrap_id (by omega) (by omega)
      have hwn : wrap64 (v + z) = n := by have := HNR.out; rw [hn]; unfold wrap64; omega
      have HVN : Hid (n = v + z) := hn.symm
      have HZ0 := hide hz0
      clear hzz hn hz0 hz1
      by_cases hz : z = 0
      · have hnv : n = v := by rw [HVN.out]; omega
        have hcr := tl_same HLR.out HST.out.x1 n HNB.out (by omega)
        have HVB : Hid (numB v = true) := by rw [← hnv]; exact HNB.out
        have HNK2 : Hid (v ≤ 65535 * ((k + 1 : Nat) : Int)) := by rw [← hnv]; exact HNK.out
        rw [hnv] at hcr hwn
        have dg : decide (v > v) = false := decide_eq_false (by omega)
        have dg' : decide (v < v) = false := decide_eq_false (by omega)
        clear hz hnv
        go_wp2_with fail
        refine hcr.mono ?_
        rintro e w7 ⟨rfl, h7, hb7⟩
        have H7 := hide h7
        have HB7 := hide (HBR.out.trans hb7)
        have HST2 := HST
        clear h7 hb7 hcr
        have HSAME := hide (fun (W : World) (hl : Lies B W (TLs p g wa a0 a1 v x)) (hn : numB back = true) (hv : back ≤ v) => tl_same hl HST2.out.x1 back hn hv)
        have HREST : Hid (∀ W : World, Lies B W (TLs p g wa a0 a1 v x) → Calls Tryz.prog 12 #[.pointer (some ⟨p, 0, none⟩), .string ⟨#[109]⟩, .int .i64 0, .int .i64 200] W fun e w' => e = .returned (.tuple #[.string (bothS a0 a1), .int .i64 0]) ∧ Lies B w' (TLs p g wa a0 a1 v x) ∧ Below B W w') := fun W hl => tl_read hl
        obtain ⟨S0, hS0⟩ : ∃ s, slotS a0 = s := ⟨_, rfl⟩
        obtain ⟨S1, hS1⟩ : ∃ s, slotS a1 = s := ⟨_, rfl⟩
        obtain ⟨T, hT⟩ : ∃ s, bothS a0 a1 = s := ⟨_, rfl⟩
        have hadd : ∀ w : World, (Op.stringOp .add S0 S1).run Tryz.prog w = .ok (.string T) w := fun w => by rw [← hS0, ← hS1, ← hT]; exact both_add _ _ w
        have hTT : (T.toList == T.toList) = true := by simp
        have hvv : (v == v) = true := by simp
        have HCEL : Hid (∀ W : World, Lies B W (TLs p g wa a0 a1 v x) → W.cell? ⟨wa, 0, none⟩ = some (.string S0) ∧ W.cell? ⟨wa, 1, none⟩ = some (.string S1)) := fun W hl => by rw [← hS0, ← hS1]; exact tl_cells hl
        rw [hT] at HREST
        clear hS0 hS1 hT
        by_cases hb1 : back ≤ v
        · have db1 : decide (back ≤ v) = true := decide_eq_true hb1
          by_cases hb2 : -1 ≤ back
          · have db2 : decide (back ≥ -1) = true := decide_eq_true hb2
            have hcs := HSAME.out _ H7.out (numB_iff.2 ⟨hb2, by have := numB_iff.1 HVB.out; omega⟩) hb1
            clear hb1 hb2
            go_wp2_with fail
            refine hcs.mono ?_
            rintro e wS ⟨rfl, hS, hbS⟩
            have HS := hide hS
            have HBS := hide (HB7.out.trans hbS)
            clear hS hbS hcs
            have hcr := HREST.out _ HS.out
            go_wp2_with fail
            refine hcr.mono ?_
            rintro e wR ⟨rfl, hR, hbR⟩
            have HBR2 := hide (HBS.out.trans hbR)
            obtain ⟨q0, q1⟩ := HCEL.out _ hR
            have hval := mvalue_any (j := 1) hR rfl
            have HR := hide hR
            clear hR hbR hcr
            go_wp2_with fail
            refine hval.mono ?_
            rintro e wv ⟨rfl, hw⟩
            obtain rfl := hw.symm
            clear hw hval
            have hdi := tl_dirty HR.out
            go_wp2_with fail
            refine hdi.mono ?_
            rintro e wd ⟨ad9, cap9, rfl, hD, hbD⟩
            have HD := hide hD
            have HBD := hide (HBR2.out.trans hbD)
            clear hD hbD hdi
            go_wp2
            go_roundw
            case rel => exact ⟨k + 1, a0, a1, v, x, by omega, by go_num, rfl, rfl, HST2.out, HNK2.out, HD.out, HBD.out⟩
            case measure => simp [intOf]; omega
          · have db2 : decide (back ≥ -1) = false := decide_eq_false hb2
            clear hb1 hb2
            have hcr := HREST.out _ H7.out
            go_wp2_with fail
            refine hcr.mono ?_
            rintro e wR ⟨rfl, hR, hbR⟩
            have HBR2 := hide (HB7.out.trans hbR)
            obtain ⟨q0, q1⟩ := HCEL.out _ hR
            have hval := mvalue_any (j := 1) hR rfl
            have HR := hide hR
            clear hR hbR hcr
            go_wp2_with fail
            refine hval.mono ?_
            rintro e wv ⟨rfl, hw⟩
            obtain rfl := hw.symm
            clear hw hval
            have hdi := tl_dirty HR.out
            go_wp2_with fail
            refine hdi.mono ?_
            rintro e wd ⟨ad9, cap9, rfl, hD, hbD⟩
            have HD := hide hD
            have HBD := hide (HBR2.out.trans hbD)
            clear hD hbD hdi
            go_wp2
            go_roundw
            case rel => exact ⟨k + 1, a0, a1, v, x, by omega, by go_num, rfl, rfl, HST2.out, HNK2.out, HD.out, HBD.out⟩
            case measure => simp [intOf]; omega
        · have db1 : decide (back ≤ v) = false := decide_eq_false hb1
          clear hb1
          have hcr := HREST.out _ H7.out
          go_wp2_with fail
          refine hcr.mono ?_
          rintro e wR ⟨rfl, hR, hbR⟩
          have HBR2 := hide (HB7.out.trans hbR)
          obtain ⟨q0, q1⟩ := HCEL.out _ hR
          have hval := mvalue_any (j := 1) hR rfl
          have HR := hide hR
          clear hR hbR hcr
          go_wp2_with fail
          refine hval.mono ?_
          rintro e wv ⟨rfl, hw⟩
          obtain rfl := hw.symm
          clear hw hval
          have hdi := tl_dirty HR.out
          go_wp2_with fail
          refine hdi.mono ?_
          rintro e wd ⟨ad9, cap9, rfl, hD, hbD⟩
          have HD := hide hD
          have HBD := hide (HBR2.out.trans hbD)
          clear hD hbD hdi
          go_wp2
          go_roundw
          case rel => exact ⟨k + 1, a0, a1, v, x, by omega, by go_num, rfl, rfl, HST2.out, HNK2.out, HD.out, HBD.out⟩
          case measure => simp [intOf]; omega
      have hvn : v < n := by have := HVN.out; have := HZ0.out; omega
      rcases HST.out.at_ with ⟨hx, _, _⟩ | ⟨hx, _, _⟩
      · subst hx
        have hcr := tl_up1 HLR.out n HNB.out hvn
        have HST2 : Hid (TSt a0 n n 0) := ⟨HST.out.n0, HNB.out, by have := HST.out.lo; omega, .inr ⟨rfl, rfl, by rcases HST.out.at_ with ⟨_, h, _⟩ | ⟨h, _, _⟩ <;> omega⟩⟩
        have HVB := HNB
        have dg : decide (n > v) = true := decide_eq_true hvn
        have dg' : decide (v < n) = true := decide_eq_true hvn
        clear hvn
        go_wp2_with fail
        refine hcr.mono ?_
        rintro e w7 ⟨rfl, h7, hb7⟩
        have H7 := hide h7
        have HB7 := hide (HBR.out.trans hb7)
        clear h7 hb7 hcr
        go_wp2_with fail
        refine (HSL.out n HNR.out _).mono ?_
        rintro e w8 ⟨rfl, hb8⟩
        have h8 := H7.out.below hb8
        have HB8 := hide (HB7.out.trans (hb8.mono H7.out.base))
        have hc8 := block_at (q := 2) h8 rfl
        have f8 : w8.frozen? ⟨wa, 1, none⟩ = false := frozen_of_row w8 wa 1 _ _ hc8
        have c8 : w8.cell? ⟨wa, 1, none⟩ = some (.string (slotS a1)) := by rw [cell_of_row w8 wa 1 _ _ (0, 0) hc8]; rfl
        obtain ⟨w9, hw9⟩ : ∃ x, w8.setCell ⟨wa, 1, none⟩ (.string (slotS n)) = x := ⟨_, rfl⟩
        obtain ⟨h9, hb9⟩ := Lies.setBlk (j := 2) (o := 1) (.string (slotS n)) #[.string (slotS a0), .string (slotS n)] rfl h8 rfl
        rw [hw9] at h9 hb9
        have H9 : Hid (Lies B w9 (TLs p g wa a0 n n 0)) := h9
        have HB9 := hide (HB8.out.trans hb9)
        clear h8 hb8 hc8 h9 hb9 H7 HB7 HB8
        have HSAME := hide (fun (W : World) (hl : Lies B W (TLs p g wa a0 n n 0)) (hn : numB back = true) (hv : back ≤ n) => tl_same hl HST2.out.x1 back hn hv)
        have HREST : Hid (∀ W : World, Lies B W (TLs p g wa a0 n n 0) → Calls Tryz.prog 12 #[.pointer (some ⟨p, 0, none⟩), .string ⟨#[109]⟩, .int .i64 0, .int .i64 200] W fun e w' => e = .returned (.tuple #[.string (bothS a0 n), .int .i64 0]) ∧ Lies B w' (TLs p g wa a0 n n 0) ∧ Below B W w') := fun W hl => tl_read hl
        obtain ⟨S0, hS0⟩ : ∃ s, slotS a0 = s := ⟨_, rfl⟩
        obtain ⟨S1, hS1⟩ : ∃ s, slotS n = s := ⟨_, rfl⟩
        obtain ⟨T, hT⟩ : ∃ s, bothS a0 n = s := ⟨_, rfl⟩
        have hadd : ∀ w : World, (Op.stringOp .add S0 S1).run Tryz.prog w = .ok (.string T) w := fun w => by rw [← hS0, ← hS1, ← hT]; exact both_add _ _ w
        have hTT : (T.toList == T.toList) = true := by simp
        have hvv : (n == n) = true := by simp
        have HCEL : Hid (∀ W : World, Lies B W (TLs p g wa a0 n n 0) → W.cell? ⟨wa, 0, none⟩ = some (.string S0) ∧ W.cell? ⟨wa, 1, none⟩ = some (.string S1)) := fun W hl => by rw [← hS0, ← hS1]; exact tl_cells hl
        rw [hT] at HREST
        clear hS0 hS1 hT
        by_cases hb1 : back ≤ n
        · have db1 : decide (back ≤ n) = true := decide_eq_true hb1
          by_cases hb2 : -1 ≤ back
          · have db2 : decide (back ≥ -1) = true := decide_eq_true hb2
            have hcs := HSAME.out _ H9.out (numB_iff.2 ⟨hb2, by have := numB_iff.1 HVB.out; omega⟩) hb1
            clear hb1 hb2
            go_wp2_with fail
            refine hcs.mono ?_
            rintro e wS ⟨rfl, hS, hbS⟩
            have HS := hide hS
            have HBS := hide (HB9.out.trans hbS)
            clear hS hbS hcs
            have hcr := HREST.out _ HS.out
            go_wp2_with fail
            refine hcr.mono ?_
            rintro e wR ⟨rfl, hR, hbR⟩
            have HBR2 := hide (HBS.out.trans hbR)
            obtain ⟨q0, q1⟩ := HCEL.out _ hR
            have hval := mvalue_any (j := 1) hR rfl
            have HR := hide hR
            clear hR hbR hcr
            go_wp2_with fail
            refine hval.mono ?_
            rintro e wv ⟨rfl, hw⟩
            obtain rfl := hw.symm
            clear hw hval
            have hdi := tl_dirty HR.out
            go_wp2_with fail
            refine hdi.mono ?_
            rintro e wd ⟨ad9, cap9, rfl, hD, hbD⟩
            have HD := hide hD
            have HBD := hide (HBR2.out.trans hbD)
            clear hD hbD hdi
            go_wp2
            go_roundw
            case rel => exact ⟨k + 1, a0, n, n, 0, by omega, by go_num, rfl, rfl, HST2.out, HNK.out, HD.out, HBD.out⟩
            case measure => simp [intOf]; omega
          · have db2 : decide (back ≥ -1) = false := decide_eq_false hb2
            clear hb1 hb2
            have hcr := HREST.out _ H9.out
            go_wp2_with fail
            refine hcr.mono ?_
            rintro e wR ⟨rfl, hR, hbR⟩
            have HBR2 := hide (HB9.out.trans hbR)
            obtain ⟨q0, q1⟩ := HCEL.out _ hR
            have hval := mvalue_any (j := 1) hR rfl
            have HR := hide hR
            clear hR hbR hcr
            go_wp2_with fail
            refine hval.mono ?_
            rintro e wv ⟨rfl, hw⟩
            obtain rfl := hw.symm
            clear hw hval
            have hdi := tl_dirty HR.out
            go_wp2_with fail
            refine hdi.mono ?_
            rintro e wd ⟨ad9, cap9, rfl, hD, hbD⟩
            have HD := hide hD
            have HBD := hide (HBR2.out.trans hbD)
            clear hD hbD hdi
            go_wp2
            go_roundw
            case rel => exact ⟨k + 1, a0, n, n, 0, by omega, by go_num, rfl, rfl, HST2.out, HNK.out, HD.out, HBD.out⟩
            case measure => simp [intOf]; omega
        · have db1 : decide (back ≤ n) = false := decide_eq_false hb1
          clear hb1
          have hcr := HREST.out _ H9.out
          go_wp2_with fail
          refine hcr.mono ?_
          rintro e wR ⟨rfl, hR, hbR⟩
          have HBR2 := hide (HB9.out.trans hbR)
          obtain ⟨q0, q1⟩ := HCEL.out _ hR
          have hval := mvalue_any (j := 1) hR rfl
          have HR := hide hR
          clear hR hbR hcr
          go_wp2_with fail
          refine hval.mono ?_
          rintro e wv ⟨rfl, hw⟩
          obtain rfl := hw.symm
          clear hw hval
          have hdi := tl_dirty HR.out
          go_wp2_with fail
          refine hdi.mono ?_
          rintro e wd ⟨ad9, cap9, rfl, hD, hbD⟩
          have HD := hide hD
          have HBD := hide (HBR2.out.trans hbD)
          clear hD hbD hdi
          go_wp2
          go_roundw
          case rel => exact ⟨k + 1, a0, n, n, 0, by omega, by go_num, rfl, rfl, HST2.out, HNK.out, HD.out, HBD.out⟩
          case measure => simp [intOf]; omega
      · subst hx
        have hcr := tl_up0 HLR.out n HNB.out hvn
        have HST2 : Hid (TSt n a1 n 1) := ⟨HNB.out, HST.out.n1, by have := HST.out.lo; omega, .inl ⟨rfl, rfl, by rcases HST.out.at_ with ⟨h, _, _⟩ | ⟨_, h, _⟩ <;> omega⟩⟩
        have HVB := HNB
        have dg : decide (n > v) = true := decide_eq_true hvn
        have dg' : decide (v < n) = true := decide_eq_true hvn
        clear hvn
        go_wp2_with fail
        refine hcr.mono ?_
        rintro e w7 ⟨rfl, h7, hb7⟩
        have H7 := hide h7
        have HB7 := hide (HBR.out.trans hb7)
        clear h7 hb7 hcr
        go_wp2_with fail
        refine (HSL.out n HNR.out _).mono ?_
        rintro e w8 ⟨rfl, hb8⟩
        have h8 := H7.out.below hb8
        have HB8 := hide (HB7.out.trans (hb8.mono H7.out.base))
        have hc8 := block_at (q := 2) h8 rfl
        have f8 : w8.frozen? ⟨wa, 0, none⟩ = false := frozen_of_row w8 wa 0 _ _ hc8
        have c8 : w8.cell? ⟨wa, 0, none⟩ = some (.string (slotS a0)) := by rw [cell_of_row w8 wa 0 _ _ (0, 0) hc8]; rfl
        obtain ⟨w9, hw9⟩ : ∃ x, w8.setCell ⟨wa, 0, none⟩ (.string (slotS n)) = x := ⟨_, rfl⟩
        obtain ⟨h9, hb9⟩ := Lies.setBlk (j := 2) (o := 0) (.string (slotS n)) #[.string (slotS n), .string (slotS a1)] rfl h8 rfl
        rw [hw9] at h9 hb9
        have H9 : Hid (Lies B w9 (TLs p g wa n a1 n 1)) := h9
        have HB9 := hide (HB8.out.trans hb9)
        clear h8 hb8 hc8 h9 hb9 H7 HB7 HB8
        have HSAME := hide (fun (W : World) (hl : Lies B W (TLs p g wa n a1 n 1)) (hn : numB back = true) (hv : back ≤ n) => tl_same hl HST2.out.x1 back hn hv)
        have HREST : Hid (∀ W : World, Lies B W (TLs p g wa n a1 n 1) → Calls Tryz.prog 12 #[.pointer (some ⟨p, 0, none⟩), .string ⟨#[109]⟩, .int .i64 0, .int .i64 200] W fun e w' => e = .returned (.tuple #[.string (bothS n a1), .int .i64 0]) ∧ Lies B w' (TLs p g wa n a1 n 1) ∧ Below B W w') := fun W hl => tl_read hl
        obtain ⟨S0, hS0⟩ : ∃ s, slotS n = s := ⟨_, rfl⟩
        obtain ⟨S1, hS1⟩ : ∃ s, slotS a1 = s := ⟨_, rfl⟩
        obtain ⟨T, hT⟩ : ∃ s, bothS n a1 = s := ⟨_, rfl⟩
        have hadd : ∀ w : World, (Op.stringOp .add S0 S1).run Tryz.prog w = .ok (.string T) w := fun w => by rw [← hS0, ← hS1, ← hT]; exact both_add _ _ w
        have hTT : (T.toList == T.toList) = true := by simp
        have hvv : (n == n) = true := by simp
        have HCEL : Hid (∀ W : World, Lies B W (TLs p g wa n a1 n 1) → W.cell? ⟨wa, 0, none⟩ = some (.string S0) ∧ W.cell? ⟨wa, 1, none⟩ = some (.string S1)) := fun W hl => by rw [← hS0, ← hS1]; exact tl_cells hl
        rw [hT] at HREST
        clear hS0 hS1 hT
        by_cases hb1 : back ≤ n
        · have db1 : decide (back ≤ n) = true := decide_eq_true hb1
          by_cases hb2 : -1 ≤ back
          · have db2 : decide (back ≥ -1) = true := decide_eq_true hb2
            have hcs := HSAME.out _ H9.out (numB_iff.2 ⟨hb2, by have := numB_iff.1 HVB.out; omega⟩) hb1
            clear hb1 hb2
            go_wp2_with fail
            refine hcs.mono ?_
            rintro e wS ⟨rfl, hS, hbS⟩
            have HS := hide hS
            have HBS := hide (HB9.out.trans hbS)
            clear hS hbS hcs
            have hcr := HREST.out _ HS.out
            go_wp2_with fail
            refine hcr.mono ?_
            rintro e wR ⟨rfl, hR, hbR⟩
            have HBR2 := hide (HBS.out.trans hbR)
            obtain ⟨q0, q1⟩ := HCEL.out _ hR
            have hval := mvalue_any (j := 1) hR rfl
            have HR := hide hR
            clear hR hbR hcr
            go_wp2_with fail
            refine hval.mono ?_
            rintro e wv ⟨rfl, hw⟩
            obtain rfl := hw.symm
            clear hw hval
            have hdi := tl_dirty HR.out
            go_wp2_with fail
            refine hdi.mono ?_
            rintro e wd ⟨ad9, cap9, rfl, hD, hbD⟩
            have HD := hide hD
            have HBD := hide (HBR2.out.trans hbD)
            clear hD hbD hdi
            go_wp2
            go_roundw
            case rel => exact ⟨k + 1, n, a1, n, 1, by omega, by go_num, rfl, rfl, HST2.out, HNK.out, HD.out, HBD.out⟩
            case measure => simp [intOf]; omega
          · have db2 : decide (back ≥ -1) = false := decide_eq_false hb2
            clear hb1 hb2
            have hcr := HREST.out _ H9.out
            go_wp2_with fail
            refine hcr.mono ?_
            rintro e wR ⟨rfl, hR, hbR⟩
            have HBR2 := hide (HB9.out.trans hbR)
            obtain ⟨q0, q1⟩ := HCEL.out _ hR
            have hval := mvalue_any (j := 1) hR rfl
            have HR := hide hR
            clear hR hbR hcr
            go_wp2_with fail
            refine hval.mono ?_
            rintro e wv ⟨rfl, hw⟩
            obtain rfl := hw.symm
            clear hw hval
            have hdi := tl_dirty HR.out
            go_wp2_with fail
            refine hdi.mono ?_
            rintro e wd ⟨ad9, cap9, rfl, hD, hbD⟩
            have HD := hide hD
            have HBD := hide (HBR2.out.trans hbD)
            clear hD hbD hdi
            go_wp2
            go_roundw
            case rel => exact ⟨k + 1, n, a1, n, 1, by omega, by go_num, rfl, rfl, HST2.out, HNK.out, HD.out, HBD.out⟩
            case measure => simp [intOf]; omega
        · have db1 : decide (back ≤ n) = false := decide_eq_false hb1
          clear hb1
          have hcr := HREST.out _ H9.out
          go_wp2_with fail
          refine hcr.mono ?_
          rintro e wR ⟨rfl, hR, hbR⟩
          have HBR2 := hide (HB9.out.trans hbR)
          obtain ⟨q0, q1⟩ := HCEL.out _ hR
          have hval := mvalue_any (j := 1) hR rfl
          have HR := hide hR
          clear hR hbR hcr
          go_wp2_with fail
          refine hval.mono ?_
          rintro e wv ⟨rfl, hw⟩
          obtain rfl := hw.symm
          clear hw hval
          have hdi := tl_dirty HR.out
          go_wp2_with fail
          refine hdi.mono ?_
          rintro e wd ⟨ad9, cap9, rfl, hD, hbD⟩
          have HD := hide hD
          have HBD := hide (HBR2.out.trans hbD)
          clear hD hbD hdi
          go_wp2
          go_roundw
          case rel => exact ⟨k + 1, n, a1, n, 1, by omega, by go_num, rfl, rfl, HST2.out, HNK.out, HD.out, HBD.out⟩
          case measure => simp [intOf]; omega
    · have hkl : k = zs.length := by omega
      subst hkl
      have dk : decide ((zs.length : Int) < (zs.length : Int)) = false := decide_eq_false (by omega)
      have hco := mopen_any (i := 0) HLR.out rfl ⟨#[109]⟩ (by decide)
      rw [show (TD a0 a1).openM (ByteArray.mk #[109]).data.toList = _ from td_open HST.out.n0 HST.out.n1, HST.out.val] at hco
      have hvv : (v == v) = true := by simp
      go_wp2_with fail
      refine hco.mono ?_
      rintro e w7 hp
      obtain ⟨g2, rfl, h7, hb7⟩ := mkp_isSome hp rfl
      have HB7 := hide (HBR.out.trans hb7)
      have hval := mvalue_any (j := 3) h7 rfl
      clear hp h7 hb7 hco
      go_wp2_with fail
      refine hval.mono ?_
      rintro e w8 ⟨rfl, hw⟩
      obtain rfl := hw.symm
      clear hw hval
      go_wp2
      go_ret
      exact ⟨rfl, HB7.out⟩
end Go.Proofs.YtlkimfmilccanaaGreat
