/-
  The walk of CursorBack.
-/
import Derived.Test.YtmcnempkddahcaaVals
namespace Go.Proofs.Ytmcnempkddahcaa
open Go.RowKit
theorem take_snoc {α : Type} (l : List α) (k : Nat) (h : k < l.length) : l.take (k + 1) = l.take k ++ [l[k]] := List.take_succ_eq_append_getElem h
theorem mem_take {vs : List VL} {k : Nat} {P : VL → Prop} (h : ∀ V ∈ vs, P V) : ∀ V ∈ vs.take k, P V := fun V hV => h V (List.mem_of_mem_take hV)
theorem drop_cons (vs : List VL) (k : Nat) (h : k < vs.length) : fl (vs.drop k) = vB vs[k] ++ fl (vs.drop (k + 1)) := by
  rw [List.drop_eq_getElem_cons h, fl_cons]
theorem mem_drop_len (vs : List VL) (k : Nat) (h : ∀ V ∈ vs, V.ok (xo V)) : (fl (vs.drop k)).length ≤ vs.length * 2097152 := by
  have h1 := fl_length (vs.drop k) (fun V hV => h V (List.mem_of_mem_drop hV))
  rw [List.length_drop] at h1
  exact Nat.le_trans h1 (Nat.mul_le_mul_right _ (Nat.sub_le _ _))
set_option maxRecDepth 5000 in
set_option maxHeartbeats 8000000 in
theorem back_num (ad : Option Addr) (c : Nat) (vs : List VL) (behind : ByteArray) (w : World) (hst : Vals w ad vs) (hok : ∀ V ∈ vs, V.ok (xo V)) (hn : vs.length ≤ 1048576) (hbh : behind.size ≤ 1048576) :
    Calls Try.prog 5 #[.slice ad vs.length c, .string behind] w fun e w' => e = .returned (.bool true) ∧ Below w.heap.size w w' := by
  have HST := hide hst
  have HOK := hide hok
  have hn8 : nil8 = { data := #[] } := rfl
  clear hst hok
  go_enter Try.func5, Try.ntmps5
  go_wp2_with fail
  refine (head_any _).mono ?_
  rintro e w1 ⟨rfl, hb1⟩
  go_wp2_with fail
  refine (wNew _).mono ?_
  rintro e w2 ⟨rfl, hW2, hb2, hz2⟩
  have KB2 := hide (hb1.trans (hb2.mono hb1.size))
  have HP := hide hb1.size
  clear hb1 hb2 hz2
  generalize w1.heap.size = p at hW2 HP ⊢
  go_wp2
  go_loopw [6, 7] (fun br i wr => ∃ k : Nat, k ≤ vs.length ∧ i = .int .i64 (k : Int) ∧ br = .bool (anyL (vs.take k)) ∧ ∃ v, CW wr p v (stOf (vs.take k)) ∧ Mw p w2 (.slice none 0 0) wr v) (fun _ i _ => vs.length - (intOf i).toNat)
  case atStart => exact ⟨0, by omega, rfl, rfl, _, hW2, Mw.refl _ _ _⟩
  case round =>
    clear hW2
    obtain ⟨k, hk, rfl, rfl, v, hW, hM⟩ := hrel
    have kb := KB2.out.trans (hM.below (B := w.heap.size) HP.out KB2.out.size (by simp [Value.ownBlock]))
    by_cases hlt : k < vs.length
    · have hd : decide ((k : Int) < (vs.length : Int)) = true := decide_eq_true (by omega)
      obtain ⟨b, o, rfl, hbl, hat⟩ := HST.out.get k hlt
      have hk0 : (0 : Int) ≤ (k : Int) := by omega
      have hk1 : (k : Int) < (vs.length : Int) := by omega
      obtain ⟨V, hV⟩ : ∃ V, vs[k] = V := ⟨_, rfl⟩
      have hVok : V.ok (xo V) := HOK.out V (by rw [← hV]; exact List.getElem_mem hlt)
      have HE : Hid (vs.take (k + 1) = vs.take k ++ [V]) := by show _ = _; rw [take_snoc vs k hlt, hV]
      rw [hV] at hat
      have HAT0 := hide hat
      have HAT := hide (hat.below kb hbl)
      have HLN : Hid (∀ l, stOf (vs.take k) = some l → l.length + 2097152 ≤ 140737488355328) := fun l e => by
        have := st_length (vs.take k) (mem_take HOK.out) l e
        rw [List.length_take, Nat.min_eq_left hk] at this
        have : k * 2097152 ≤ 1048576 * 2097152 := Nat.mul_le_mul_right _ (by omega)
        omega
      clear hat hV
      go_wp2_with (first | (refine wpW_load_at 56 _ rfl b (o + k * 37) (by rfl) (by rfl) _ 37 _ HAT.out Try.underlying56 rfl info56 ?_) | fail)
      refine (lays_any V (xo V) hVok p v _ _ hW HLN.out).mono ?_
      rintro e w3 ⟨rfl, v3, hW3, hM3⟩
      rw [st_snoc, ← HE.out] at hW3
      have hMM := hM.trans hM3
      have kb3 := KB2.out.trans (hMM.below (B := w.heap.size) HP.out KB2.out.size (by simp [Value.ownBlock]))
      clear hW hM hM3 kb
      by_cases hany : anyL (vs.take k) = true
      · rw [hany]
        go_wp2
        go_roundw
        case rel => exact ⟨k + 1, by omega, by go_num, by rw [HE.out, any_snoc, hany]; rfl, v3, hW3, hMM⟩
        case measure => simp [intOf]; omega
      · have hany' : anyL (vs.take k) = false := by simpa using hany
        rw [hany']
        have HAT3 := hide (HAT0.out.below kb3 hbl)
        go_wp2_with (first | (refine wpW_load_at 56 _ rfl b (o + k * 37) (by rfl) (by rfl) _ 37 _ HAT3.out Try.underlying56 rfl info56 ?_) | fail)
        refine (valLong V _ hVok.s).mono ?_
        rintro e w4 ⟨rfl, hb4⟩
        go_wp2
        go_roundw
        case rel => exact ⟨k + 1, by omega, by go_num, by rw [HE.out, any_snoc, hany']; rfl, v3, hW3.below hb4, hMM.trans (Mw.of_below hb4)⟩
        case measure => simp [intOf]; omega
    · have hkn : k = vs.length := by omega
      subst hkn
      have hd : decide ((vs.length : Int) < (vs.length : Int)) = false := by simp
      rw [List.take_length] at hW ⊢
      by_cases hany : anyL vs = true
      · have e1 : stOf vs = none := by unfold stOf; rw [if_pos hany]
        rw [e1] at hW
        rw [hany]
        go_wp2_with fail
        refine (wOut p v _ _ hW).mono ?_
        rintro e w3 ⟨rfl, hb3⟩
        have hW3 := hW.below hb3
        have hO1 : outS none = { data := #[] } := rfl
        have hO2 : outE none = 3 := rfl
        rw [hO1, hO2]
        go_wp2_with fail
        refine (wLen p v _ _ hW3).mono ?_
        rintro e w4 ⟨rfl, rfl⟩
        have hO3 : (((none : Option (List UInt8)).getD []).length : Int) = 0 := rfl
        rw [hO3]
        go_wp2
        go_ret
        exact ⟨rfl, kb.trans (hb3.mono kb.size)⟩
      · have hany' : anyL vs = false := by simpa using hany
        have e1 : stOf vs = some (fl vs) := by unfold stOf; rw [if_neg hany]
        rw [e1] at hW
        rw [hany']
        have hll : ∀ V ∈ vs, longB V = false := fun V hV => by
          unfold anyL at hany'
          rw [List.any_eq_false] at hany'
          simpa using hany' V hV
        have HLL := hide hll
        have hfl := fl_length vs HOK.out
        have hfl2 : vs.length * 2097152 ≤ 1048576 * 2097152 := Nat.mul_le_mul_right _ hn
        obtain ⟨bb, hbb⟩ : ∃ bb, outS (some (fl vs)) = bb := ⟨_, rfl⟩
        have hbo : bb = ofL (fl vs) := hbb.symm
        have hbs : bb.size ≤ 2199023255552 := by rw [hbo, ofL_size]; omega
        have hO2 : outE (some (fl vs)) = 0 := rfl
        have HLEN : Hid ((((some (fl vs) : Option (List UInt8)).getD []).length : Int) = (bb.size : Int)) := by
          show _ = _
          rw [hbo, ofL_size]; rfl
        obtain ⟨y, hy⟩ : ∃ y, bb ++ behind = y := ⟨_, rfl⟩
        have HY : Hid (y = ofL (fl (vs.drop 0) ++ behind.data.toList)) := by
          show _ = _
          rw [← hy, hbo, List.drop_zero, ← ofL_append, ofL_of]
        have hsum : bb.size + behind.size ≤ 9223372036854775807 := by omega
        clear hfl hfl2 hll e1 hbo hany'
        go_wp2_with fail
        refine (wOut p v _ _ hW).mono ?_
        rintro e w3 ⟨rfl, hb3⟩
        rw [hbb, hO2]
        have hW3 := hW.below hb3
        have kb3 := kb.trans (hb3.mono kb.size)
        clear hW hb3 kb hM hbb
        go_wp2_with fail
        refine (rOpen y _).mono ?_
        rintro e w4 ⟨rfl, hR4, hb4, hz4⟩
        have hW4 := hW3.below hb4
        have kb4 := kb3.trans (hb4.mono kb3.size)
        have HQ := hide kb3.size
        clear hW3 hb4 hz4 kb3
        generalize w3.heap.size = q at hR4 HQ ⊢
        rw [HY.out] at hR4
        go_wp2_with fail
        refine (wLen p v _ _ hW4).mono ?_
        rintro e w5 ⟨rfl, rfl⟩
        rw [HLEN.out]
        clear hW4 HY
        go_wp2
        go_loopw [11] (fun i wr => ∃ k : Nat, k ≤ vs.length ∧ i = .int .i64 (k : Int) ∧ CR wr q (ofL (fl (vs.drop k) ++ behind.data.toList), 0) ∧ Below w.heap.size w wr) (fun i _ => vs.length - (intOf i).toNat)
        case atStart => exact ⟨0, by omega, rfl, hR4, kb4⟩
        case round =>
          clear hR4 kb4
          obtain ⟨k, hk, rfl, hR, kb⟩ := hrel
          by_cases hlt : k < vs.length
          · have hd : decide ((k : Int) < (vs.length : Int)) = true := decide_eq_true (by omega)
            obtain ⟨b, o, rfl, hbl, hat⟩ := HST.out.get k hlt
            have hk0 : (0 : Int) ≤ (k : Int) := by omega
            have hk1 : (k : Int) < (vs.length : Int) := by omega
            rw [drop_cons vs k hlt, List.append_assoc] at hR
            obtain ⟨V, hV⟩ : ∃ V, vs[k] = V := ⟨_, rfl⟩
            have hVok : V.ok (xo V) := HOK.out V (by rw [← hV]; exact List.getElem_mem hlt)
            have hVl : longB V = false := HLL.out V (by rw [← hV]; exact List.getElem_mem hlt)
            rw [hV] at hat hR
            have HAT := hide (hat.below kb hbl)
            have HRL : Hid ((fl (vs.drop (k + 1)) ++ behind.data.toList).length ≤ 140737488355328) := by
              show _ ≤ _
              have h1 := mem_drop_len vs (k + 1) HOK.out
              have h2 : vs.length * 2097152 ≤ 1048576 * 2097152 := Nat.mul_le_mul_right _ hn
              rw [List.length_append, str_len]
              omega
            clear hat hV
            go_wp2_with (first | (refine wpW_load_at 56 _ rfl b (o + k * 37) (by rfl) (by rfl) _ 37 _ HAT.out Try.underlying56 rfl info56 ?_) | fail)
            refine (again_any V (xo V) hVok _ HRL.out hVl q _ hR).mono ?_
            rintro e w6 ⟨rfl, h6, hM6⟩
            go_wp2_with fail
            refine (rErr q _ _ h6).mono ?_
            rintro e w7 ⟨rfl, rfl⟩
            go_wp2
            go_roundw
            case rel => exact ⟨k + 1, by omega, by go_num, h6, kb.trans (hM6.below (B := w.heap.size) HQ.out kb.size)⟩
            case measure => simp [intOf]; omega
          · have hkn : k = vs.length := by omega
            subst hkn
            have hd : decide ((vs.length : Int) < (vs.length : Int)) = false := by simp
            have e0 : ofL (fl (vs.drop vs.length) ++ behind.data.toList) = behind := by
              rw [List.drop_length, show fl [] = [] from rfl, List.nil_append, ofL_of]
            rw [e0] at hR
            have HBS : Hid (behind.size ≤ 281474976710656) := by show _ ≤ _; omega
            clear e0
            by_cases hb0 : behind.size = 0
            · have eb := empty_of_size hb0
              subst eb
              have HD : Hid (doneS ({ data := #[] }, 0) = 0) := rfl
              go_wp2_with fail
              refine (rRest q _ _ hR HBS.out).mono ?_
              rintro e w6 ⟨rfl, hb6⟩
              have h6 := hR.below hb6
              go_wp2_with fail
              refine (rDone q _ _ h6).mono ?_
              rintro e w7 ⟨rfl, rfl⟩
              rw [HD.out]
              go_wp2
              go_ret
              exact ⟨rfl, kb.trans (hb6.mono kb.size)⟩
            · have hbe := isEmpty_of hb0
              have HD4 : Hid (doneS (behind, 0) = 4) := by show _ = _; unfold doneS; rw [if_neg hb0]
              have HD0 : Hid (doneS (nil8, 0) = 0) := rfl
              have hr := raw_ok behind.data.toList [] (behind.size : Int) (by rw [str_len])
              rw [List.append_nil, ofL_of] at hr
              have HR1 : Hid (rawA (behind.size : Int) (behind, 0) = behind) := hr.1
              have HR2 : Hid (rawS (behind.size : Int) (behind, 0) = (nil8, 0)) := hr.2
              clear hr
              go_wp2_with fail
              refine (rRest q _ _ hR HBS.out).mono ?_
              rintro e w6 ⟨rfl, hb6⟩
              have h6 := hR.below hb6
              have kb6 := kb.trans (hb6.mono kb.size)
              clear hR hb6 kb
              go_wp2_with fail
              refine (rDone q _ _ h6).mono ?_
              rintro e w7 ⟨rfl, rfl⟩
              rw [HD4.out]
              go_wp2_with fail
              refine (rRaw (behind.size : Int) q _ _ h6 HBS.out).mono ?_
              rintro e w8 ⟨rfl, h8, hM8⟩
              rw [HR1.out]
              rw [HR2.out] at h8
              go_wp2_with fail
              refine (rDone q _ _ h8).mono ?_
              rintro e w9 ⟨rfl, rfl⟩
              rw [HD0.out]
              go_wp2
              go_ret
              exact ⟨rfl, kb6.trans (hM8.below (B := w.heap.size) HQ.out kb6.size)⟩
end Go.Proofs.Ytmcnempkddahcaa
