/-
  FrameScans.
-/
import Derived.Test.YtcpbcnbgcacgnabRScan
import Derived.Test.YtcpbcnbgcacgnabFFirst
namespace Go.Proofs.Ytcpbcnbgcacgnab
open Go.RowKit C
set_option linter.unusedVariables false
def writtenS : ByteArray := { data := #[119, 114, 105, 116, 116, 101, 110] }
theorem RowAt.grown {w w' : World} {ad : Option Addr} {xs : List Value} {row : Option Nat} (h : RowAt w ad xs) (hg : w.grownBy w' row) (hne : ∀ b o, ad = some ⟨b, o, none⟩ → row ≠ some b) : RowAt w' ad xs := by
  rcases h with h | ⟨b, o, ha, hl, hc⟩
  · exact .inl h
  · exact .inr ⟨b, o, ha, Nat.lt_of_lt_of_le hl hg.size, fun i hi => by rw [← hc i hi]; exact World.cell?_of_block (hg.block b hl (fun e => hne b o ha e.symm))⟩
theorem own_slice {ad : Option Addr} {n c b : Nat} (h : (Value.slice ad n c).ownBlock = some b) : ∃ o s, ad = some ⟨b, o, s⟩ := by
  cases ad with
  | none => cases h
  | some a => obtain ⟨b', o, s⟩ := a; simp only [Value.ownBlock, Option.some.injEq] at h; subst h; exact ⟨o, s, rfl⟩
def moreS : ByteArray := { data := #[109, 111, 114, 101] }
set_option maxRecDepth 8000 in
set_option maxHeartbeats 4000000 in
theorem frameScans_walk (b : ByteArray) (n : Int) (w : World) (hn : n < 9223372036854775808) (hb : b.size ≤ 140737488351232) : Calls Try.prog 3 #[.string b, .int .i64 n] w fun e w' => e = .returned (.bool true) ∧ Below w.heap.size w w' := by
  have fa := fun w => scan_any b n w hn (by omega)
  have fb := fun w => rscan_few b n w hn (by omega) (fun ps t' h => by have := h.suffix.2; rw [str_len] at this; omega)
  have FA := hide fa
  have FB := hide fb
  have HBs := hide hb
  clear fa fb hn hb
  go_enter Try.func3, Try.ntmps3
  go_wp2_with fail
  refine (first_any _).mono ?_
  rintro e w1 ⟨rfl, hb1⟩
  go_wp2_with fail
  refine (FA.out _).mono ?_
  rintro e w2 ⟨ad2, cp2, ps, t', rfl, ho2, hf2, hb2⟩
  go_wp2_with fail
  refine (FA.out _).mono ?_
  rintro e w3 ⟨ad3, cp3, ps3, t3, rfl, ho3, hf3, hb3⟩
  obtain ⟨rfl, rfl⟩ := hf3.told.unique hf3.none hf2.told hf2.none
  go_wp2_with fail
  refine (FB.out _).mono ?_
  rintro e w4 ⟨ad4, cp4, ps4, t4, rfl, ho4, hf4, hb4⟩
  obtain ⟨rfl, rfl⟩ := hf4.told.unique hf4.none hf2.told hf2.none
  have hlen : ps4.length * 64 ≤ b.size := by have := hf2.told.suffix.2; rw [str_len] at this; omega
  have hpl : ps4.length ≤ 8796093022208 := by have := HBs.out; omega
  obtain ⟨E, hE⟩ : ∃ E : Nat, b.size - t4.length = E := ⟨_, rfl⟩
  obtain ⟨Tn, hT⟩ : ∃ Tn : Bool, (!t4.isEmpty) = Tn := ⟨_, rfl⟩
  have hF2 := hide hf2
  have hE2 := hide hE
  have hT2 := hide hT
  rw [hE, hT]
  have hr2 := row_below (row_below ho2 hb3) hb4
  have hr3 := row_below ho3 hb4
  have l23 := hb2.size
  have l34 := hb3.size
  have l45 := hb4.size
  obtain ⟨ad2', cp2', he2, hrow2, hcp2, hcm2, hbk2⟩ := own_at hr2
  cases he2
  obtain ⟨ad3', cp3', he3, hrow3, -, -, hbk3⟩ := own_at hr3
  cases he3
  obtain ⟨ad4', cp4', he4, hrow4, -, -, hbk4⟩ := own_at ho4
  cases he4
  have HM : Hid (ps4.length ≤ maxLen) := by show _ ≤ _; unfold maxLen; omega
  have sm := fun (wx : World) (a1 a2 : Option Addr) (c1 c2 : Nat) (hx : RowAt wx a1 (ps4.map encStr)) (hy : RowAt wx a2 (ps4.map encStr)) => same_any wx a1 a2 c1 c2 ps4 ps4 hx hy HM.out HM.out
  rw [beq_self_eq_true] at sm
  have SM := hide sm
  have HR2 := hide hr2
  have HRow2 := hide hrow2
  have HRow3 := hide hrow3
  have HRow4 := hide hrow4
  have hTT : (Tn != Tn) = false := by cases Tn <;> rfl
  have hTT2 : (Tn == Tn) = true := by cases Tn <;> rfl
  have HB4 := hide (((hb1.trans (hb2.mono hb1.size)).trans (hb3.mono (Nat.le_trans hb1.size l23))).trans (hb4.mono (Nat.le_trans (Nat.le_trans hb1.size l23) l34)))
  have hlt2 : ∀ g, (Value.slice ad2 ps4.length cp2).ownBlock = some g → w1.heap.size ≤ g ∧ g < w2.heap.size := fun g hg => World.ownsRow.lt ho2 g hg
  have HLt2 := hide hlt2
  have HBk3 := hide hbk3
  have HBk4 := hide hbk4
  have HPl := hide hpl
  have HRows : Hid (w.heap.size ≤ w1.heap.size ∧ w1.heap.size ≤ w2.heap.size ∧ w2.heap.size ≤ w3.heap.size ∧ w3.heap.size ≤ w4.heap.size) := ⟨hb1.size, l23, l34, l45⟩
  clear sm hr2 hr3 hrow2 hrow3 hrow4 hf2 hf3 hf4 ho2 ho3 ho4 hlt2 hbk2 hbk3 hbk4 hE hT hlen hb1 hb2 hb3 hb4 l23 l34 l45
  go_wp2_with fail
  refine (SM.out _ ad2 ad4 cp2 cp4 HRow2.out HRow4.out).mono ?_
  rintro e w5 ⟨rfl, hb5⟩
  go_wp2_with fail
  refine (SM.out _ ad3 ad4 cp3 cp4 (HRow3.out.below hb5) (HRow4.out.below hb5)).mono ?_
  rintro e w6 ⟨rfl, hb6⟩
  have HB6 := hide ((HB4.out.trans (hb5.mono HB4.out.size)).trans (hb6.mono (Nat.le_trans HB4.out.size hb5.size)))
  have HO6 := hide (row_below (row_below HR2.out hb5) hb6)
  have HR3 := hide ((HRow3.out.below hb5).below hb6)
  have HR4 := hide ((HRow4.out.below hb5).below hb6)
  have HS6 := hide (Nat.le_trans hb5.size hb6.size)
  clear hb5 hb6
  go_wp2
  go_loopw [14] (fun vi wr => ∃ (k : Nat) (ys : List Value), k ≤ ps4.length ∧ vi = .int .i64 (k : Int) ∧ wr.ownsRow w1.heap.size 9 1 (.slice ad2 ps4.length cp2) ps4.length ys ∧ w6.grownBy wr (Value.slice ad2 ps4.length cp2).ownBlock) (fun vi _ => ps4.length - (intOf vi).toNat)
  case atStart => exact ⟨0, _, Nat.zero_le _, rfl, HO6.out, ⟨rfl, rfl, rfl, Nat.le_refl _, fun _ _ _ => rfl⟩⟩
  case round =>
    obtain ⟨k, ys, hk, rfl, hown, hgr⟩ := hrel
    have HO := hide hown
    have HGr := hide hgr
    clear hown hgr
    by_cases hlt : k < ps4.length
    · have dk : decide ((k : Int) < (ps4.length : Int)) = true := decide_eq_true (by omega)
      have hk0 : (0 : Int) ≤ (k : Int) := by omega
      have hk1 : (k : Int) < (ps4.length : Int) := by omega
      have hform : ∃ g cur, ad2 = some ⟨g, 0, none⟩ ∧ wr.heap[g]? = some (.cells cur 9 (0, 0)) ∧ k < cur.size := by
        have hyl := HO.out.1
        rcases HO.out.2 with ⟨h1, h2⟩ | ⟨g, cp, cur, h1, hb, hg, hnc, hcm, hcs, ht⟩
        · omega
        · simp only [Value.slice.injEq] at h1
          exact ⟨g, cur, h1.1, hg, by omega⟩
      obtain ⟨g, cur, rfl, hg, hkc⟩ := hform
      have f0 : wr.cell? ⟨g, k, none⟩ = some cur[k] := by rw [cell_of_row wr g k _ _ (0, 0) hg]; exact Array.getElem?_eq_getElem hkc
      have f1 : wr.frozen? ⟨g, k, none⟩ = false := frozen_of_row wr g k cur 9 hg
      obtain ⟨h1, h2⟩ := World.ownsRow.stored HO.out k (.string writtenS)
      have H1 := hide h1
      have H2 := hide h2
      clear h1 h2 hg
      generalize cur[k] = x at f0
      go_wp2
      go_roundw
      case rel => exact ⟨k + 1, _, by omega, by go_num, H1.out, grown_trans HGr.out H2.out⟩
      case measure => simp [intOf]; omega
    · have hkn : k = ps4.length := by omega
      subst hkn
      have dk : decide ((ps4.length : Int) < (ps4.length : Int)) = false := decide_eq_false (by omega)
      have ap3 : ∀ b o, ad3 = some ⟨b, o, none⟩ → (Value.slice ad2 ps4.length cp2).ownBlock ≠ some b := fun b o hb he => by
        have h1 := HBk3.out b o hb
        have h2 := (HLt2.out b he).2
        omega
      have ap4 : ∀ b o, ad4 = some ⟨b, o, none⟩ → (Value.slice ad2 ps4.length cp2).ownBlock ≠ some b := fun b o hb he => by
        have h1 := HBk4.out b o hb
        have h2 := (HLt2.out b he).2
        have h3 := HRows.out
        omega
      have HA3 := hide ap3
      have HA4 := hide ap4
      have H16 : Hid ((ps4.length + 1) * 16 ≤ 140737488355328) := by show _ ≤ _; have := HPl.out; have := hE2.out; have := HBs.out; have h64 := hF2.out.told.suffix.2; rw [str_len] at h64; omega
      have hz := Nat.le_trans HRows.out.2.1 (Nat.le_trans HRows.out.2.2.1 (Nat.le_trans HRows.out.2.2.2 (Nat.le_trans HS6.out HGr.out.size)))
      have HZ := hide hz
      have hown := HO.out
      have hyl := HO.out.1
      have HBr := hide (HB6.out.trans (grown_below (B := w.heap.size) HGr.out (fun g hg => Nat.le_trans HRows.out.1 (HLt2.out g hg).1) HB6.out.size))
      clear ap3 ap4 hz hyl
      go_wp2_with (at_builtin; refine wpList_append_one rfl _ _ 23 9 _ 16 rfl Try.underlying23 info9 rfl w1.heap.size _ ps4.length ys (.string moreS) rfl (by rfl) hown (by rfl) rfl H16.out (by decide) HZ.out ?_; intro g7 c7 w7 hn7 hM7)
      refine (FA.out _).mono ?_
      rintro e w8 ⟨ad8, cp8, ps8, t8, rfl, ho8, hf8, hb8⟩
      obtain ⟨rfl, rfl⟩ := hf8.told.unique hf8.none hF2.out.told hF2.out.none
      obtain ⟨ad8', cp8', he8, hrow8, -, -, -⟩ := own_at ho8
      cases he8
      have hr3 := ((HR3.out.grown HGr.out HA3.out).grown hM7.gr HA3.out).below hb8
      have hr4 := ((HR4.out.grown HGr.out HA4.out).grown hM7.gr HA4.out).below hb8
      have HB8 := hide ((HBr.out.trans (hM7.below (B := w.heap.size) (fun g hg => Nat.le_trans HRows.out.1 (HLt2.out g hg).1) HBr.out.size)).trans (hb8.mono (Nat.le_trans HBr.out.size hM7.gr.size)))
      have hpl := HPl.out
      clear hf8 ho8 hown hn7 hM7
      go_wp2_with fail
      refine (SM.out _ ad3 ad4 cp3 cp4 hr3 hr4).mono ?_
      rintro e w9 ⟨rfl, hb9⟩
      go_wp2_with fail
      refine (SM.out _ ad8 ad4 cp8 cp4 (hrow8.below hb9) (hr4.below hb9)).mono ?_
      rintro e w10 ⟨rfl, hb10⟩
      go_wp2
      go_ret
      exact ⟨rfl, (HB8.out.trans (hb9.mono HB8.out.size)).trans (hb10.mono (Nat.le_trans HB8.out.size hb9.size))⟩
end Go.Proofs.Ytcpbcnbgcacgnab
