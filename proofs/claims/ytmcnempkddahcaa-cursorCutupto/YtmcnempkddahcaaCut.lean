/-
  The walk of CursorCut.
-/
import Derived.Test.YtmcnempkddahcaaCutMath
namespace Go.Proofs.Ytmcnempkddahcaa
open Go.RowKit
/-- Where the reader is: broken, or so far. -/
def rdAt (vs : List VL) (m j : Nat) (sh : Bool) : RS := if sh then (nil8, 2) else (ofL (((flS vs).take m).drop (gA vs j)), 0)
theorem apart_lays {p : Nat} {v v3 ve : Value} {w w3 : World} {l : List Nat} {B : Nat} (h : Apart p v ve) (hM : Mw p w v w3 v3) (hO : IntsO w B ve l) : Apart p v3 ve ∧ IntsO w3 B ve l := by
  refine ⟨fun g hg => ⟨(h g hg).1, fun e => ?_⟩, hO.same (fun k hk => hM.block k (hO.block k hk).2 (h k hk).1 (h k hk).2)⟩
  rcases hM.own g e with h1 | h1
  · exact (h g hg).2 h1
  · have := (hO.block g hg).2; omega
theorem apart_ends {p : Nat} {v ve ve5 : Value} {w w5 : World} {s : Option (List UInt8)} (h : Apart p v ve) (hC : CW w p v s) (hM : Mv w ve w5 ve5) : Apart p v ve5 ∧ CW w5 p v s := by
  refine ⟨fun g hg => ?_, hC.same (hM.gr.block p hC.lt (fun e => (h p e.symm).1 rfl)) (fun k hk => hM.gr.block k (hC.own k hk).2 (fun e => (h k e.symm).2 hk))⟩
  rcases hM.own g hg with h1 | h1
  · exact h g h1
  · refine ⟨by have := hC.lt; omega, fun e => by have := (hC.own g e).2; omega⟩
set_option maxRecDepth 5000 in
set_option maxHeartbeats 16000000 in
theorem cut_num (ad : Option Addr) (c : Nat) (vs : List VL) (z : Int) (w : World) (hst : Vals w ad vs) (hok : ∀ V ∈ vs, V.ok (xo V)) (hn : vs.length ≤ 1048576) (hz0 : -9223372036854775808 ≤ z) (hz1 : z < 9223372036854775808) :
    Calls Try.prog 6 #[.slice ad vs.length c, .int .i64 z] w fun e w' => e = .returned (.bool true) ∧ Below w.heap.size w w' := by
  have HST := hide hst
  have HOK := hide hok
  have HZ0 := hide hz0
  have HZ1 := hide hz1
  clear hst hok hz0 hz1
  go_enter Try.func6, Try.ntmps6
  go_wp2_with fail
  refine (head_any _).mono ?_
  rintro e w1 ⟨rfl, hb1⟩
  go_wp2_with fail
  refine (wNew _).mono ?_
  rintro e w2 ⟨rfl, hW2, hb2, hz2⟩
  have kb2 := hb1.trans (hb2.mono hb1.size)
  have HP := hide hb1.size
  clear hb1 hb2 hz2
  generalize w1.heap.size = p at hW2 HP ⊢
  go_wp2
  go_loopw [6, 7] (fun ve i wr => ∃ k : Nat, k ≤ vs.length ∧ i = .int .i64 (k : Int) ∧ IntsO wr w.heap.size ve ((List.range k).map fun i => gA vs (i + 1)) ∧ ∃ v, CW wr p v (some (flS (vs.take k))) ∧ Apart p v ve ∧ Below w.heap.size w wr) (fun _ i _ => vs.length - (intOf i).toNat)
  case atStart => exact ⟨0, by omega, rfl, IntsO.nil _ _, _, hW2, fun g hg => by simp [Value.ownBlock] at hg, kb2⟩
  case round =>
    clear hW2 kb2
    obtain ⟨k, hk, rfl, hO, v, hW, hA, kb⟩ := hrel
    by_cases hlt : k < vs.length
    · have hd : decide ((k : Int) < (vs.length : Int)) = true := decide_eq_true (by omega)
      obtain ⟨b, o, rfl, hbl, hat⟩ := HST.out.get k hlt
      have hk0 : (0 : Int) ≤ (k : Int) := by omega
      have hk1 : (k : Int) < (vs.length : Int) := by omega
      obtain ⟨V, hV⟩ : ∃ V, vs[k] = V := ⟨_, rfl⟩
      have hVok : V.ok (xo V) := HOK.out V (by rw [← hV]; exact List.getElem_mem hlt)
      have HE : Hid (vs.take (k + 1) = vs.take k ++ [V]) := by show _ = _; rw [take_snoc vs k hlt, hV]
      rw [hV] at hat
      have HAT0 := hide hat
      have HAT := hide (hat.below kb hbl)
      have HLN : Hid (∀ l, some (flS (vs.take k)) = some l → l.length + 2097152 ≤ 140737488355328) := fun l e => by
        cases e
        have := flS_length (vs.take k) (mem_take HOK.out)
        rw [List.length_take, Nat.min_eq_left hk] at this
        have : k * 2097152 ≤ 1048576 * 2097152 := Nat.mul_le_mul_right _ (by omega)
        omega
      have HL1 : Hid ((((List.range k).map fun i => gA vs (i + 1)).length + 1) * 8 ≤ 140737488355328) := by show _ ≤ _; rw [List.length_map, List.length_range]; omega
      have HSN : Hid (((List.range k).map fun i => gA vs (i + 1)) ++ [gA vs (k + 1)] = (List.range (k + 1)).map fun i => gA vs (i + 1)) := range_snoc _ k
      have HLK : Hid (((List.range k).map fun i => gA vs (i + 1)).length = k) := by show _ = _; rw [List.length_map, List.length_range]
      clear hat hV
      go_wp2_with (first | (refine wpW_load_at 56 _ rfl b (o + k * 37) (by rfl) (by rfl) _ 37 _ HAT.out Try.underlying56 rfl info56 ?_) | fail)
      refine (valLong V _ hVok.s).mono ?_
      rintro e w3 ⟨rfl, hb3⟩
      have hW3 := hW.below hb3
      have hO3 := hO.below hb3
      have kb3 := kb.trans (hb3.mono kb.size)
      clear hW hO kb hb3
      by_cases hlo : longB V = true
      · rw [hlo]
        have HGE : Hid (flS (vs.take (k + 1)) = flS (vs.take k)) := by show _ = _; rw [HE.out, flS_snoc, if_pos hlo]
        have HGA : Hid (((some (flS (vs.take k)) : Option (List UInt8)).getD []).length = gA vs (k + 1)) := by
          show _ = _
          unfold gA; rw [HGE.out]; rfl
        go_wp2_with fail
        refine (wLen p v _ _ hW3).mono ?_
        rintro e w4 ⟨rfl, rfl⟩
        rw [HGA.out]
        have HSZ := hide kb3.size
        go_wp2_with (at_builtin; refine wpList_append_num rfl _ _ rfl w.heap.size _ ((List.range k).map fun i => gA vs (i + 1)) (gA vs (k + 1)) (by rfl) hO3 (by rfl) rfl HL1.out HSZ.out ?_; intro ge cap w5 hO5 hM5)
        go_roundw
        case rel =>
          rw [HLK.out] at hM5 hO5
          obtain ⟨hA5, hW5⟩ := apart_ends hA hW3 hM5
          rw [HSN.out] at hO5
          refine ⟨k + 1, by omega, by go_num, hO5, v, by rw [HGE.out]; exact hW5, hA5, kb3.trans (grown_below (B := w.heap.size) hM5.gr (fun k hk => (hO3.block k hk).1) kb3.size)⟩
        case measure => simp [intOf]; omega
      · have hlo' : longB V = false := by simpa using hlo
        rw [hlo']
        have HAT3 := hide (HAT0.out.below kb3 hbl)
        go_wp2_with (first | (refine wpW_load_at 56 _ rfl b (o + k * 37) (by rfl) (by rfl) _ 37 _ HAT3.out Try.underlying56 rfl info56 ?_) | fail)
        refine (lays_any V (xo V) hVok p v _ _ hW3 HLN.out).mono ?_
        rintro e w4 ⟨rfl, v4, hW4, hM4⟩
        have HGE : Hid (flS (vs.take (k + 1)) = flS (vs.take k) ++ vB V) := by show _ = _; rw [HE.out, flS_snoc, if_neg hlo]
        have hW4' : CW w4 p v4 (some (flS (vs.take (k + 1)))) := by
          rw [HGE.out]
          unfold layS at hW4
          rw [if_neg hlo] at hW4
          exact hW4
        obtain ⟨hA4, hO4⟩ := apart_lays hA hM4 hO3
        have kb4 := kb3.trans (hM4.below (B := w.heap.size) HP.out kb3.size (fun k hk => by have := (hW3.own k hk).1; have := HP.out; omega))
        clear hW4 hM4 hA hO3 hW3 kb3
        have HGA : Hid (((some (flS (vs.take (k + 1))) : Option (List UInt8)).getD []).length = gA vs (k + 1)) := rfl
        go_wp2_with fail
        refine (wLen p v4 _ _ hW4').mono ?_
        rintro e w5 ⟨rfl, rfl⟩
        rw [HGA.out]
        have HSZ := hide kb4.size
        go_wp2_with (at_builtin; refine wpList_append_num rfl _ _ rfl w.heap.size _ ((List.range k).map fun i => gA vs (i + 1)) (gA vs (k + 1)) (by rfl) hO4 (by rfl) rfl HL1.out HSZ.out ?_; intro ge cap w5 hO5 hM5)
        go_roundw
        case rel =>
          rw [HLK.out] at hM5 hO5
          obtain ⟨hA5, hW5⟩ := apart_ends hA4 hW4' hM5
          rw [HSN.out] at hO5
          refine ⟨k + 1, by omega, by go_num, hO5, v4, hW5, hA5, kb4.trans (grown_below (B := w.heap.size) hM5.gr (fun k hk => (hO4.block k hk).1) kb4.size)⟩
        case measure => simp [intOf]; omega
    · have hkn : k = vs.length := by omega
      subst hkn
      have hd : decide ((vs.length : Int) < (vs.length : Int)) = false := by simp
      rw [List.take_length] at hW
      have hfl := flS_length vs HOK.out
      have hfl2 : vs.length * 2097152 ≤ 1048576 * 2097152 := Nat.mul_le_mul_right _ hn
      have hL : (flS vs).length ≤ 2199023255552 := Nat.le_trans hfl hfl2
      obtain ⟨bb, hbb⟩ : ∃ bb, outS (some (flS vs)) = bb := ⟨_, rfl⟩
      have hbo : bb = ofL (flS vs) := hbb.symm
      have hbs : bb.size = (flS vs).length := by rw [hbo, ofL_size]
      have hbz : bb.size ≤ 2199023255552 := by omega
      have hO2 : outE (some (flS vs)) = 0 := rfl
      obtain ⟨z0, hz0⟩ : ∃ z0 : Int, (if z < 0 then -(z + 1) else z) = z0 := ⟨_, rfl⟩
      have hzz : 0 ≤ z0 := by have := HZ0.out; have := HZ1.out; rw [← hz0]; split <;> omega
      obtain ⟨m, hm⟩ : ∃ m : Nat, z0.tmod ((bb.size : Int) + 1) = (m : Int) := by
        refine ⟨(z0.tmod ((bb.size : Int) + 1)).toNat, ?_⟩
        have := Int.tmod_nonneg ((bb.size : Int) + 1) hzz
        omega
      have hmle : m ≤ bb.size := by
        have := Int.tmod_lt_of_pos z0 (show (0 : Int) < (bb.size : Int) + 1 by omega)
        omega
      have KR : Hid (∀ w : World, (binOp .rem 3 (.int .i64 z0) (.int .i64 ((bb.size : Int) + 1))).run Try.prog w = .ok (.int .i64 (m : Int)) w) := fun w => run_rem 3 .i64 z0 _ _ (by omega) hm w
      have KA : Hid (z < 0 → ∀ w : World, (binOp .add 3 (.int .i64 z) (.int .i64 1)).run Try.prog w = .ok (.int .i64 (z + 1)) w) := fun h w => run_add 3 .i64 z 1 _ (by rw [IntKind.wrap_i64]; have := HZ0.out; omega) w
      have KN : Hid (z < 0 → ∀ w : World, (Op.unary .neg (.int .i64 (z + 1))).run Try.prog w = .ok (.int .i64 z0) w) := fun h w => run_neg .i64 (z + 1) z0 (by rw [← hz0, if_pos h, IntKind.wrap_i64]; have := HZ0.out; omega) w
      have KZ : Hid (¬ z < 0 → z0 = z) := fun h => by rw [← hz0, if_neg h]
      have hex : bb.extract 0 m = ofL ((flS vs).take m) := by rw [hbo, ofL_extract, List.drop_zero]
      obtain ⟨y, hy⟩ : ∃ y, ofL ((flS vs).take m) = y := ⟨_, rfl⟩
      rw [hy] at hex
      have HEX := hide hex
      have HML := hide hmle
      have HY : Hid ((y, (0 : Int)) = rdAt vs m 0 false) := by
        show _ = _
        unfold rdAt gA
        rw [List.take_zero, ← hy]; rfl
      have HBS := hide hbs
      have HLL := hide hL
      clear hfl hfl2 hbo hbs hex hy hm hz0 hmle hL hzz
      go_wp2_with fail
      refine (wOut p v _ _ hW).mono ?_
      rintro e w3 ⟨rfl, hb3⟩
      rw [hbb, hO2]
      have hO3 := hO.below hb3
      have kb3 := kb.trans (hb3.mono kb.size)
      clear hW hO hA kb hb3 hbb hO2
      have main : ∀ (W : World), IntsO W w.heap.size u6 ((List.range vs.length).map fun i => gA vs (i + 1)) → Below w.heap.size w W → True := fun _ _ _ => trivial
      clear main
      by_cases hneg : z < 0
      · have hdn : decide (z < 0) = true := decide_eq_true hneg
        have KA1 := hide (KA.out hneg)
        have KN1 := hide (KN.out hneg)
        clear KA KN KZ
        go_wp2_with (first | (refine wpW_bin .add _ _ _ _ rfl (.int .i64 z) (.int .i64 1) (.int .i64 (z + 1)) (by rfl) (by rfl) (by rfl) rfl (KA1.out _) ?_) | (refine wpW_un .neg _ _ rfl (.int .i64 (z + 1)) (.int .i64 z0) (by rfl) (by rfl) (KN1.out _) ?_) | (refine wpW_bin .rem _ _ _ _ rfl (.int .i64 z0) (.int .i64 ((bb.size : Int) + 1)) (.int .i64 (m : Int)) (by rfl) (by rfl) (by rfl) rfl (KR.out _) ?_) | (refine wpList_slice_to rfl _ _ rfl bb (by rfl) .i64 (m : Int) (by rfl) m rfl HML.out y HEX.out ?_) | fail)
        refine (rOpen y _).mono ?_
        rintro e w4 ⟨rfl, hR4, hb4, hz4⟩
        rw [HY.out] at hR4
        have hO4 := hO3.below hb4
        have hne : ∀ g, u6.ownBlock = some g → g ≠ w3.heap.size := fun g hg => by have := (hO3.block g hg).2; omega
        have HNE := hide hne
        have kb4 := kb3.trans (hb4.mono kb3.size)
        have HQ := hide kb3.size
        clear hO3 hb4 hz4 kb3 hne
        generalize w3.heap.size = q at hR4 HQ HNE ⊢
        go_wp2
        go_loopw [12, 13] (fun sb i wr => ∃ (j : Nat) (sh : Bool), j ≤ vs.length ∧ i = .int .i64 (j : Int) ∧ sb = .bool sh ∧ CR wr q (rdAt vs m j sh) ∧ (sh = false → gA vs j ≤ m) ∧ IntsO wr w.heap.size u6 ((List.range vs.length).map fun i => gA vs (i + 1)) ∧ Below w.heap.size w wr) (fun _ i _ => vs.length - (intOf i).toNat)
        case atStart => exact ⟨0, false, by omega, rfl, rfl, hR4, fun _ => Nat.zero_le _, hO4, kb4⟩
        case round =>
          clear hR4 hO4 kb4
          obtain ⟨j, sh, hj, rfl, rfl, hR, hg, hO, kb⟩ := hrel
          by_cases hlt : j < vs.length
          · have hd : decide ((j : Int) < (vs.length : Int)) = true := decide_eq_true (by omega)
            obtain ⟨b, o, rfl, hbl, hat⟩ := HST.out.get j hlt
            have hk0 : (0 : Int) ≤ (j : Int) := by omega
            have hk1 : (j : Int) < (vs.length : Int) := by omega
            obtain ⟨V, hV⟩ : ∃ V, vs[j] = V := ⟨_, rfl⟩
            have hVok : V.ok (xo V) := HOK.out V (by rw [← hV]; exact List.getElem_mem hlt)
            rw [hV] at hat
            have HAT0 := hide hat
            have HAT := hide (hat.below kb hbl)
            have HVV := hide hV
            clear hat hV
            go_wp2_with (first | (refine wpW_load_at 56 _ rfl b (o + j * 37) (by rfl) (by rfl) _ 37 _ HAT.out Try.underlying56 rfl info56 ?_) | fail)
            refine (valLong V _ hVok.s).mono ?_
            rintro e w5 ⟨rfl, hb5⟩
            have hR5 := hR.below hb5
            have hO5 := hO.below hb5
            have kb5 := kb.trans (hb5.mono kb.size)
            clear hR hO kb hb5
            by_cases hlo : longB V = true
            · rw [hlo]
              have HGL : Hid (gA vs (j + 1) = gA vs j) := gA_long vs j hlt (by rw [HVV.out]; exact hlo)
              go_wp2
              go_roundw
              case rel => exact ⟨j + 1, sh, by omega, by go_num, rfl, by unfold rdAt at hR5 ⊢; rw [HGL.out]; exact hR5, fun h => by rw [HGL.out]; exact hg h, hO5, kb5⟩
              case measure => simp [intOf]; omega
            · have hlo' : longB V = false := by simpa using hlo
              rw [hlo']
              have hlv : longB vs[j] = false := by rw [HVV.out]; exact hlo'
              have HLV := hide hlv
              have HAT5 := hide (HAT0.out.below kb5 hbl)
              have HGS : Hid (gA vs (j + 1) = gA vs j + (vB V).length) := by
                show _ = _
                rw [gA_step vs j hlt hlv, HVV.out]
              obtain ⟨ge, cape, hue, _, _⟩ := World.ownsRow.form hO5 (by rw [List.length_map, List.length_range]; omega)
              have hce : w5.cell? ⟨ge, j, none⟩ = some (.int .i64 (gA vs (j + 1) : Int)) := by
                rw [hue] at hO5
                rw [hO5.cell j (by rw [List.length_map, List.length_range]; omega)]
                simp
              rw [List.length_map, List.length_range] at hue
              have HUE := hide hue
              clear hlv hue
              rw [HUE.out]
              by_cases hcase : sh = false ∧ gA vs (j + 1) ≤ m
              · obtain ⟨rfl, hle⟩ := hcase
                have hdl : decide ((gA vs (j + 1) : Int) ≤ (m : Int)) = true := decide_eq_true (by omega)
                have hC : CR w5 q (ofL (vb V (xo V) ++ ((flS vs).take m).drop (gA vs (j + 1))), 0) := by
                  have e := cutA vs j m hlt HLV.out hle
                  rw [HVV.out] at e
                  unfold rdAt at hR5
                  rw [e] at hR5
                  exact hR5
                have HRL : Hid ((((flS vs).take m).drop (gA vs (j + 1))).length ≤ 140737488355328) := by
                  show _ ≤ _
                  rw [List.length_drop, List.length_take]
                  have := HLL.out
                  omega
                clear hR5
                go_wp2_with (first | (refine wpW_load_at 56 _ rfl b (o + j * 37) (by rfl) (by rfl) _ 37 _ HAT5.out Try.underlying56 rfl info56 ?_) | fail)
                refine (again_any V (xo V) hVok _ HRL.out hlo' q _ hC).mono ?_
                rintro e w6 ⟨rfl, h6, hM6⟩
                go_wp2_with fail
                refine (rErr q _ _ h6).mono ?_
                rintro e w7 ⟨rfl, rfl⟩
                go_wp2
                rw [← HUE.out]
                go_roundw
                case rel => exact ⟨j + 1, false, by omega, by go_num, rfl, h6, fun _ => hle, hO5.same (fun k hk => hM6.block k (hO5.block k hk).2 (HNE.out k hk)), kb5.trans (hM6.below (B := w.heap.size) HQ.out kb5.size)⟩
                case measure => simp [intOf]; omega
              · have hcut : CutS V (xo V) (rdAt vs m j sh) := by
                  cases sh with
                  | true => exact .inl rfl
                  | false =>
                    have hgt : m < gA vs (j + 1) := by
                      rcases Nat.lt_or_ge m (gA vs (j + 1)) with h | h
                      · exact h
                      · exact absurd ⟨rfl, h⟩ hcase
                    obtain ⟨e1, e2⟩ := cutB vs j m hlt HLV.out (hg rfl) hgt
                    rw [HVV.out] at e1 e2
                    have := cutS_of V (m - gA vs j) e2
                    rw [← e1] at this
                    exact this
                have hdl : (!sh && decide ((gA vs (j + 1) : Int) ≤ (m : Int))) = false := by
                  cases sh with
                  | true => rfl
                  | false =>
                    have hgt : m < gA vs (j + 1) := by
                      rcases Nat.lt_or_ge m (gA vs (j + 1)) with h | h
                      · exact h
                      · exact absurd ⟨rfl, h⟩ hcase
                    rw [decide_eq_false (by omega)]; rfl
                have hdl2 : sh = true ∨ (sh = false ∧ (m : Int) < (gA vs (j + 1) : Int)) := by
                  cases sh with
                  | true => exact .inl rfl
                  | false => exact .inr ⟨rfl, by simpa using hdl⟩
                have hn8 : nil8 = { data := #[] } := rfl
                have HD2 : Hid (doneS (nil8, 2) = 2) := rfl
                have HC := hide hcut
                clear hcut hdl hg hcase
                rcases hdl2 with rfl | ⟨rfl, hdq⟩
                · go_wp2_with (first | (refine wpW_load_at 56 _ rfl b (o + j * 37) (by rfl) (by rfl) _ 37 _ HAT5.out Try.underlying56 rfl info56 ?_) | fail)
                  refine (nothing_any V (xo V) hVok hlo' q _ _ hR5 HC.out).mono ?_
                  rintro e w6 ⟨rfl, h6, hM6⟩
                  go_wp2_with fail
                  refine (rErr q _ _ h6).mono ?_
                  rintro e w7 ⟨rfl, rfl⟩
                  go_wp2_with fail
                  refine (rRest q _ _ h6 (Nat.zero_le _)).mono ?_
                  rintro e w8 ⟨rfl, hb8⟩
                  rw [hn8]
                  have h8 := h6.below hb8
                  go_wp2_with fail
                  refine (rDone q _ _ h8).mono ?_
                  rintro e w9 ⟨rfl, rfl⟩
                  rw [HD2.out]
                  go_wp2
                  rw [← HUE.out]
                  go_roundw
                  case rel =>
                    have kb6 := kb5.trans (hM6.below (B := w.heap.size) HQ.out kb5.size)
                    have hO6 := hO5.same (fun k hk => hM6.block k (hO5.block k hk).2 (HNE.out k hk))
                    exact ⟨j + 1, true, by omega, by go_num, rfl, h8, (fun h => by cases h), hO6.below hb8, kb6.trans (hb8.mono kb6.size)⟩
                  case measure => simp [intOf]; omega
                · go_wp2_with (first | (refine wpW_load_at 56 _ rfl b (o + j * 37) (by rfl) (by rfl) _ 37 _ HAT5.out Try.underlying56 rfl info56 ?_) | fail)
                  refine (nothing_any V (xo V) hVok hlo' q _ _ hR5 HC.out).mono ?_
                  rintro e w6 ⟨rfl, h6, hM6⟩
                  go_wp2_with fail
                  refine (rErr q _ _ h6).mono ?_
                  rintro e w7 ⟨rfl, rfl⟩
                  go_wp2_with fail
                  refine (rRest q _ _ h6 (Nat.zero_le _)).mono ?_
                  rintro e w8 ⟨rfl, hb8⟩
                  rw [hn8]
                  have h8 := h6.below hb8
                  go_wp2_with fail
                  refine (rDone q _ _ h8).mono ?_
                  rintro e w9 ⟨rfl, rfl⟩
                  rw [HD2.out]
                  go_wp2
                  rw [← HUE.out]
                  go_roundw
                  case rel =>
                    have kb6 := kb5.trans (hM6.below (B := w.heap.size) HQ.out kb5.size)
                    have hO6 := hO5.same (fun k hk => hM6.block k (hO5.block k hk).2 (HNE.out k hk))
                    exact ⟨j + 1, true, by omega, by go_num, rfl, h8, (fun h => by cases h), hO6.below hb8, kb6.trans (hb8.mono kb6.size)⟩
                  case measure => simp [intOf]; omega
          · have hkn : j = vs.length := by omega
            subst hkn
            have hd : decide ((vs.length : Int) < (vs.length : Int)) = false := by simp
            cases sh with
            | true =>
              go_wp2
              go_ret
              exact ⟨rfl, kb⟩
            | false =>
              have HD0 : Hid (doneS (rdAt vs m vs.length false) = 0) := by
                show _ = _
                have h1 := hg rfl
                unfold rdAt
                have e : ((flS vs).take m).drop (gA vs vs.length) = [] := by
                  apply List.drop_eq_nil_of_le
                  unfold gA
                  rw [List.take_length, List.length_take]; omega
                rw [e]; rfl
              go_wp2_with fail
              refine (rDone q _ _ hR).mono ?_
              rintro e w6 ⟨rfl, rfl⟩
              rw [HD0.out]
              go_wp2
              go_ret
              exact ⟨rfl, kb⟩
      · have hdn : decide (z < 0) = false := decide_eq_false hneg
        have hzz := KZ.out (by omega)
        subst hzz
        clear KA KN KZ
        go_wp2_with (first | (refine wpW_bin .rem _ _ _ _ rfl (.int .i64 z0) (.int .i64 ((bb.size : Int) + 1)) (.int .i64 (m : Int)) (by rfl) (by rfl) (by rfl) rfl (KR.out _) ?_) | (refine wpList_slice_to rfl _ _ rfl bb (by rfl) .i64 (m : Int) (by rfl) m rfl HML.out y HEX.out ?_) | fail)
        refine (rOpen y _).mono ?_
        rintro e w4 ⟨rfl, hR4, hb4, hz4⟩
        rw [HY.out] at hR4
        have hO4 := hO3.below hb4
        have hne : ∀ g, u6.ownBlock = some g → g ≠ w3.heap.size := fun g hg => by have := (hO3.block g hg).2; omega
        have HNE := hide hne
        have kb4 := kb3.trans (hb4.mono kb3.size)
        have HQ := hide kb3.size
        clear hO3 hb4 hz4 kb3 hne
        generalize w3.heap.size = q at hR4 HQ HNE ⊢
        go_wp2
        go_loopw [12, 13] (fun sb i wr => ∃ (j : Nat) (sh : Bool), j ≤ vs.length ∧ i = .int .i64 (j : Int) ∧ sb = .bool sh ∧ CR wr q (rdAt vs m j sh) ∧ (sh = false → gA vs j ≤ m) ∧ IntsO wr w.heap.size u6 ((List.range vs.length).map fun i => gA vs (i + 1)) ∧ Below w.heap.size w wr) (fun _ i _ => vs.length - (intOf i).toNat)
        case atStart => exact ⟨0, false, by omega, rfl, rfl, hR4, fun _ => Nat.zero_le _, hO4, kb4⟩
        case round =>
          clear hR4 hO4 kb4
          obtain ⟨j, sh, hj, rfl, rfl, hR, hg, hO, kb⟩ := hrel
          by_cases hlt : j < vs.length
          · have hd : decide ((j : Int) < (vs.length : Int)) = true := decide_eq_true (by omega)
            obtain ⟨b, o, rfl, hbl, hat⟩ := HST.out.get j hlt
            have hk0 : (0 : Int) ≤ (j : Int) := by omega
            have hk1 : (j : Int) < (vs.length : Int) := by omega
            obtain ⟨V, hV⟩ : ∃ V, vs[j] = V := ⟨_, rfl⟩
            have hVok : V.ok (xo V) := HOK.out V (by rw [← hV]; exact List.getElem_mem hlt)
            rw [hV] at hat
            have HAT0 := hide hat
            have HAT := hide (hat.below kb hbl)
            have HVV := hide hV
            clear hat hV
            go_wp2_with (first | (refine wpW_load_at 56 _ rfl b (o + j * 37) (by rfl) (by rfl) _ 37 _ HAT.out Try.underlying56 rfl info56 ?_) | fail)
            refine (valLong V _ hVok.s).mono ?_
            rintro e w5 ⟨rfl, hb5⟩
            have hR5 := hR.below hb5
            have hO5 := hO.below hb5
            have kb5 := kb.trans (hb5.mono kb.size)
            clear hR hO kb hb5
            by_cases hlo : longB V = true
            · rw [hlo]
              have HGL : Hid (gA vs (j + 1) = gA vs j) := gA_long vs j hlt (by rw [HVV.out]; exact hlo)
              go_wp2
              go_roundw
              case rel => exact ⟨j + 1, sh, by omega, by go_num, rfl, by unfold rdAt at hR5 ⊢; rw [HGL.out]; exact hR5, fun h => by rw [HGL.out]; exact hg h, hO5, kb5⟩
              case measure => simp [intOf]; omega
            · have hlo' : longB V = false := by simpa using hlo
              rw [hlo']
              have hlv : longB vs[j] = false := by rw [HVV.out]; exact hlo'
              have HLV := hide hlv
              have HAT5 := hide (HAT0.out.below kb5 hbl)
              have HGS : Hid (gA vs (j + 1) = gA vs j + (vB V).length) := by
                show _ = _
                rw [gA_step vs j hlt hlv, HVV.out]
              obtain ⟨ge, cape, hue, _, _⟩ := World.ownsRow.form hO5 (by rw [List.length_map, List.length_range]; omega)
              have hce : w5.cell? ⟨ge, j, none⟩ = some (.int .i64 (gA vs (j + 1) : Int)) := by
                rw [hue] at hO5
                rw [hO5.cell j (by rw [List.length_map, List.length_range]; omega)]
                simp
              rw [List.length_map, List.length_range] at hue
              have HUE := hide hue
              clear hlv hue
              rw [HUE.out]
              by_cases hcase : sh = false ∧ gA vs (j + 1) ≤ m
              · obtain ⟨rfl, hle⟩ := hcase
                have hdl : decide ((gA vs (j + 1) : Int) ≤ (m : Int)) = true := decide_eq_true (by omega)
                have hC : CR w5 q (ofL (vb V (xo V) ++ ((flS vs).take m).drop (gA vs (j + 1))), 0) := by
                  have e := cutA vs j m hlt HLV.out hle
                  rw [HVV.out] at e
                  unfold rdAt at hR5
                  rw [e] at hR5
                  exact hR5
                have HRL : Hid ((((flS vs).take m).drop (gA vs (j + 1))).length ≤ 140737488355328) := by
                  show _ ≤ _
                  rw [List.length_drop, List.length_take]
                  have := HLL.out
                  omega
                clear hR5
                go_wp2_with (first | (refine wpW_load_at 56 _ rfl b (o + j * 37) (by rfl) (by rfl) _ 37 _ HAT5.out Try.underlying56 rfl info56 ?_) | fail)
                refine (again_any V (xo V) hVok _ HRL.out hlo' q _ hC).mono ?_
                rintro e w6 ⟨rfl, h6, hM6⟩
                go_wp2_with fail
                refine (rErr q _ _ h6).mono ?_
                rintro e w7 ⟨rfl, rfl⟩
                go_wp2
                rw [← HUE.out]
                go_roundw
                case rel => exact ⟨j + 1, false, by omega, by go_num, rfl, h6, fun _ => hle, hO5.same (fun k hk => hM6.block k (hO5.block k hk).2 (HNE.out k hk)), kb5.trans (hM6.below (B := w.heap.size) HQ.out kb5.size)⟩
                case measure => simp [intOf]; omega
              · have hcut : CutS V (xo V) (rdAt vs m j sh) := by
                  cases sh with
                  | true => exact .inl rfl
                  | false =>
                    have hgt : m < gA vs (j + 1) := by
                      rcases Nat.lt_or_ge m (gA vs (j + 1)) with h | h
                      · exact h
                      · exact absurd ⟨rfl, h⟩ hcase
                    obtain ⟨e1, e2⟩ := cutB vs j m hlt HLV.out (hg rfl) hgt
                    rw [HVV.out] at e1 e2
                    have := cutS_of V (m - gA vs j) e2
                    rw [← e1] at this
                    exact this
                have hdl : (!sh && decide ((gA vs (j + 1) : Int) ≤ (m : Int))) = false := by
                  cases sh with
                  | true => rfl
                  | false =>
                    have hgt : m < gA vs (j + 1) := by
                      rcases Nat.lt_or_ge m (gA vs (j + 1)) with h | h
                      · exact h
                      · exact absurd ⟨rfl, h⟩ hcase
                    rw [decide_eq_false (by omega)]; rfl
                have hdl2 : sh = true ∨ (sh = false ∧ (m : Int) < (gA vs (j + 1) : Int)) := by
                  cases sh with
                  | true => exact .inl rfl
                  | false => exact .inr ⟨rfl, by simpa using hdl⟩
                have hn8 : nil8 = { data := #[] } := rfl
                have HD2 : Hid (doneS (nil8, 2) = 2) := rfl
                have HC := hide hcut
                clear hcut hdl hg hcase
                rcases hdl2 with rfl | ⟨rfl, hdq⟩
                · go_wp2_with (first | (refine wpW_load_at 56 _ rfl b (o + j * 37) (by rfl) (by rfl) _ 37 _ HAT5.out Try.underlying56 rfl info56 ?_) | fail)
                  refine (nothing_any V (xo V) hVok hlo' q _ _ hR5 HC.out).mono ?_
                  rintro e w6 ⟨rfl, h6, hM6⟩
                  go_wp2_with fail
                  refine (rErr q _ _ h6).mono ?_
                  rintro e w7 ⟨rfl, rfl⟩
                  go_wp2_with fail
                  refine (rRest q _ _ h6 (Nat.zero_le _)).mono ?_
                  rintro e w8 ⟨rfl, hb8⟩
                  rw [hn8]
                  have h8 := h6.below hb8
                  go_wp2_with fail
                  refine (rDone q _ _ h8).mono ?_
                  rintro e w9 ⟨rfl, rfl⟩
                  rw [HD2.out]
                  go_wp2
                  rw [← HUE.out]
                  go_roundw
                  case rel =>
                    have kb6 := kb5.trans (hM6.below (B := w.heap.size) HQ.out kb5.size)
                    have hO6 := hO5.same (fun k hk => hM6.block k (hO5.block k hk).2 (HNE.out k hk))
                    exact ⟨j + 1, true, by omega, by go_num, rfl, h8, (fun h => by cases h), hO6.below hb8, kb6.trans (hb8.mono kb6.size)⟩
                  case measure => simp [intOf]; omega
                · go_wp2_with (first | (refine wpW_load_at 56 _ rfl b (o + j * 37) (by rfl) (by rfl) _ 37 _ HAT5.out Try.underlying56 rfl info56 ?_) | fail)
                  refine (nothing_any V (xo V) hVok hlo' q _ _ hR5 HC.out).mono ?_
                  rintro e w6 ⟨rfl, h6, hM6⟩
                  go_wp2_with fail
                  refine (rErr q _ _ h6).mono ?_
                  rintro e w7 ⟨rfl, rfl⟩
                  go_wp2_with fail
                  refine (rRest q _ _ h6 (Nat.zero_le _)).mono ?_
                  rintro e w8 ⟨rfl, hb8⟩
                  rw [hn8]
                  have h8 := h6.below hb8
                  go_wp2_with fail
                  refine (rDone q _ _ h8).mono ?_
                  rintro e w9 ⟨rfl, rfl⟩
                  rw [HD2.out]
                  go_wp2
                  rw [← HUE.out]
                  go_roundw
                  case rel =>
                    have kb6 := kb5.trans (hM6.below (B := w.heap.size) HQ.out kb5.size)
                    have hO6 := hO5.same (fun k hk => hM6.block k (hO5.block k hk).2 (HNE.out k hk))
                    exact ⟨j + 1, true, by omega, by go_num, rfl, h8, (fun h => by cases h), hO6.below hb8, kb6.trans (hb8.mono kb6.size)⟩
                  case measure => simp [intOf]; omega
          · have hkn : j = vs.length := by omega
            subst hkn
            have hd : decide ((vs.length : Int) < (vs.length : Int)) = false := by simp
            cases sh with
            | true =>
              go_wp2
              go_ret
              exact ⟨rfl, kb⟩
            | false =>
              have HD0 : Hid (doneS (rdAt vs m vs.length false) = 0) := by
                show _ = _
                have h1 := hg rfl
                unfold rdAt
                have e : ((flS vs).take m).drop (gA vs vs.length) = [] := by
                  apply List.drop_eq_nil_of_le
                  unfold gA
                  rw [List.take_length, List.length_take]; omega
                rw [e]; rfl
              go_wp2_with fail
              refine (rDone q _ _ hR).mono ?_
              rintro e w6 ⟨rfl, rfl⟩
              rw [HD0.out]
              go_wp2
              go_ret
              exact ⟨rfl, kb⟩
end Go.Proofs.Ytmcnempkddahcaa
