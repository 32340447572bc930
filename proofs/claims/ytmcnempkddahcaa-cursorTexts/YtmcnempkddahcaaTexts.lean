/-
  The walk of CursorTexts.
-/
import Derived.Test.YtmcnempkddahcaaLawTexts
namespace Go.Proofs.Ytmcnempkddahcaa
open Go.RowKit
set_option maxRecDepth 5000 in
set_option maxHeartbeats 4000000 in
theorem texts_long (s : ByteArray) (most : Int) (more : ByteArray) (w : World) (hmm : more.size ≤ 140737488351232) (x b y : ByteArray) (t : List UInt8) (hxl : x = ofL t) (hx : x.size ≤ 65535) (hb : ofL (nb t.length 2 ++ t) = b) (hy : b ++ more = y) (hm : most < (t.length : Int))
    (hcase : s = x ∨ (65535 < s.size ∧ s.extract 0 65535 = x)) :
    Calls Try.prog 3 #[.string s, .int .i64 most, .string more] w fun e w' => e = .returned (.bool true) ∧ Below w.heap.size w w' := by
  have hxs : x.size = t.length := by rw [hxl, ofL_size]
  have HT : Hid (txt (some []) x = some (nb t.length 2 ++ t)) := by
    show _ = _
    unfold txt
    rw [if_neg (by omega), hxs, hxl]; simp [ofL_data]
  have hbl : b = ofL (nb t.length 2 ++ t) := hb.symm
  have HO : Hid (outS (some (nb t.length 2 ++ t)) = b) := hb
  have HE : Hid (outE (some (nb t.length 2 ++ t)) = 0) := rfl
  have hbs : b.size = x.size + 2 := by rw [hbl, ofL_size, List.length_append, nb_length, hxs]; omega
  have hy2 : y = ofL (nb t.length 2 ++ (t ++ more.data.toList)) := by
    rw [← hy, hbl, ← List.append_assoc, ← ofL_append (nb t.length 2 ++ t), ofL_of]
  have HY : Hid (y.size ≤ 281474976710656) := by
    show _ ≤ _
    rw [hy2, ofL_size, List.length_append, nb_length, List.length_append, str_len]; omega
  have HX3 : Hid (x.size ≤ 9223372036854775807) := by show _ ≤ _; omega
  have hsum : b.size + more.size ≤ 9223372036854775807 := by omega
  have hq : ((b.size : Int) != (x.size : Int) + 2) = false := by
    rw [hbs]; simp
  have HB := hide hbl
  have HN : Hid (t.length ≤ 65535) := by show _ ≤ _; omega
  have HM : Hid (more.size ≤ 281474976710656) := by show _ ≤ _; omega
  have HBS : Hid (b.size ≤ 281474976710656) := by show _ ≤ _; omega
  have hn8 : nil8 = { data := #[] } := rfl
  obtain ⟨l1, l2⟩ := text_long t.length (t ++ more.data.toList) most (by omega) (by omega)
  rw [← hy2] at l1 l2
  have HA1 : Hid (textA most (y, 0) = { data := #[] }) := l1
  have HS1 : Hid (textS most (y, 0) = (nil8, 3)) := l2
  have HA2 : Hid (be (takeA 1 (nil8, 3)).data.toList = 0) := rfl
  have HS2 : Hid (takeS 1 (nil8, 3) = (nil8, 3)) := rfl
  have HD3 : Hid (doneS (nil8, 3) = 3) := rfl
  have HW : Hid ((3 : Int) = if most < (t.length : Int) then 3 else 2) := by show _ = _; rw [if_pos (by omega)]
  have hd : decide ((x.size : Int) > most) = true := decide_eq_true (by omega)
  clear l1 l2
  clear hxl hxs hb hbl hy2 hm hbs
  rcases hcase with rfl | ⟨hbig, hex⟩
  · have hd0 : decide ((s.size : Int) > 65535) = false := decide_eq_false (by omega)
    go_enter Try.func3, Try.ntmps3
    go_wp2_with fail
    refine (head_any _).mono ?_
    rintro e w1 ⟨rfl, hb1⟩
    go_wp2_with fail
    refine (wNew _).mono ?_
    rintro e w2 ⟨rfl, hW2, hb2, hz2⟩
    have kb2 := hb1.trans (hb2.mono hb1.size)
    go_wp2_with fail
    refine (wText s w1.heap.size _ _ _ hW2 HX3.out (fun l e => by cases e; decide)).mono ?_
    rintro e w3 ⟨rfl, v3, hW3, hM3⟩
    rw [HT.out] at hW3
    have kb3 := kb2.trans (hM3.below (B := w.heap.size) hb1.size kb2.size (by simp [Value.ownBlock]))
    clear hW2 hb2 hz2 hM3 kb2
    go_wp2_with fail
    refine (wOut _ _ _ _ hW3).mono ?_
    rintro e w4 ⟨rfl, hb4⟩
    rw [HO.out, HE.out]
    have kb4 := kb3.trans (hb4.mono kb3.size)
    clear kb3 hb4 hW3
    go_wp2_with fail
    refine (rOpen y _).mono ?_
    rintro e w5 ⟨rfl, hR5, hb5, hz5⟩
    have kb5 := kb4.trans (hb5.mono kb4.size)
    have hp4 : w.heap.size ≤ w4.heap.size := kb4.size
    have HP4 := hide hp4
    clear hb5 hz5 kb4 hp4
    generalize w4.heap.size = q at hR5 HP4 ⊢
    go_wp2_with fail
    refine (rText most _ _ _ hR5 HY.out).mono ?_
    rintro e w6 ⟨rfl, h6, hM6⟩
    rw [HS1.out] at h6
    rw [HA1.out]
    have kb6 := kb5.trans (hM6.below (B := w.heap.size) HP4.out kb5.size)
    clear hR5 hM6 kb5
    go_wp2_with fail
    refine (rErr _ _ _ h6).mono ?_
    rintro e w7 ⟨rfl, rfl⟩
    go_wp2_with fail
    refine (rRest _ _ _ h6 (Nat.zero_le _)).mono ?_
    rintro e w8 ⟨rfl, hb8⟩
    rw [hn8]
    have h8 := h6.below hb8
    have kb8 := kb6.trans (hb8.mono kb6.size)
    clear h6 kb6 hb8
    go_wp2_with fail
    refine (rU8 _ _ _ h8).mono ?_
    rintro e w9 ⟨rfl, h9, hM9⟩
    rw [HS2.out] at h9
    rw [HA2.out]
    have kb9 := kb8.trans (hM9.below (B := w.heap.size) HP4.out kb8.size)
    clear h8 hM9 kb8
    go_wp2_with fail
    refine (rDone _ _ _ h9).mono ?_
    rintro e w10 ⟨rfl, rfl⟩
    rw [HD3.out]
    go_wp2_with fail
    refine (cuts_any t most 3 b _ HB.out HN.out HW.out).mono ?_
    rintro e w11 ⟨rfl, hb11⟩
    go_wp2
    go_ret
    exact ⟨rfl, kb9.trans (hb11.mono kb9.size)⟩
  · have hd0 : decide ((s.size : Int) > 65535) = true := decide_eq_true (by omega)
    have HEX := hide hex
    have hb65 : 65535 ≤ s.size := by omega
    clear hex
    go_enter Try.func3, Try.ntmps3
    go_wp2_with fail
    refine (head_any _).mono ?_
    rintro e w1 ⟨rfl, hb1⟩
    go_wp2_with (first | (refine wpList_slice_to rfl _ _ rfl s (by rfl) .i64 65535 (by rfl) 65535 (by omega) hb65 x HEX.out ?_) | fail)
    refine (wNew _).mono ?_
    rintro e w2 ⟨rfl, hW2, hb2, hz2⟩
    have kb2 := hb1.trans (hb2.mono hb1.size)
    go_wp2_with fail
    refine (wText x w1.heap.size _ _ _ hW2 HX3.out (fun l e => by cases e; decide)).mono ?_
    rintro e w3 ⟨rfl, v3, hW3, hM3⟩
    rw [HT.out] at hW3
    have kb3 := kb2.trans (hM3.below (B := w.heap.size) hb1.size kb2.size (by simp [Value.ownBlock]))
    clear hW2 hb2 hz2 hM3 kb2
    go_wp2_with fail
    refine (wOut _ _ _ _ hW3).mono ?_
    rintro e w4 ⟨rfl, hb4⟩
    rw [HO.out, HE.out]
    have kb4 := kb3.trans (hb4.mono kb3.size)
    clear kb3 hb4 hW3
    go_wp2_with fail
    refine (rOpen y _).mono ?_
    rintro e w5 ⟨rfl, hR5, hb5, hz5⟩
    have kb5 := kb4.trans (hb5.mono kb4.size)
    have hp4 : w.heap.size ≤ w4.heap.size := kb4.size
    have HP4 := hide hp4
    clear hb5 hz5 kb4 hp4
    generalize w4.heap.size = q at hR5 HP4 ⊢
    go_wp2_with fail
    refine (rText most _ _ _ hR5 HY.out).mono ?_
    rintro e w6 ⟨rfl, h6, hM6⟩
    rw [HS1.out] at h6
    rw [HA1.out]
    have kb6 := kb5.trans (hM6.below (B := w.heap.size) HP4.out kb5.size)
    clear hR5 hM6 kb5
    go_wp2_with fail
    refine (rErr _ _ _ h6).mono ?_
    rintro e w7 ⟨rfl, rfl⟩
    go_wp2_with fail
    refine (rRest _ _ _ h6 (Nat.zero_le _)).mono ?_
    rintro e w8 ⟨rfl, hb8⟩
    rw [hn8]
    have h8 := h6.below hb8
    have kb8 := kb6.trans (hb8.mono kb6.size)
    clear h6 kb6 hb8
    go_wp2_with fail
    refine (rU8 _ _ _ h8).mono ?_
    rintro e w9 ⟨rfl, h9, hM9⟩
    rw [HS2.out] at h9
    rw [HA2.out]
    have kb9 := kb8.trans (hM9.below (B := w.heap.size) HP4.out kb8.size)
    clear h8 hM9 kb8
    go_wp2_with fail
    refine (rDone _ _ _ h9).mono ?_
    rintro e w10 ⟨rfl, rfl⟩
    rw [HD3.out]
    go_wp2_with fail
    refine (cuts_any t most 3 b _ HB.out HN.out HW.out).mono ?_
    rintro e w11 ⟨rfl, hb11⟩
    go_wp2
    go_ret
    exact ⟨rfl, kb9.trans (hb11.mono kb9.size)⟩
set_option maxRecDepth 5000 in
set_option maxHeartbeats 4000000 in
theorem texts_ok (s : ByteArray) (most : Int) (more : ByteArray) (w : World) (hmm : more.size ≤ 140737488351232) (x b y : ByteArray) (t : List UInt8) (hxl : x = ofL t) (hx : x.size ≤ 65535) (hb : ofL (nb t.length 2 ++ t) = b) (hy : b ++ more = y) (hm : (t.length : Int) ≤ most)
    (hcase : s = x ∨ (65535 < s.size ∧ s.extract 0 65535 = x)) :
    Calls Try.prog 3 #[.string s, .int .i64 most, .string more] w fun e w' => e = .returned (.bool true) ∧ Below w.heap.size w w' := by
  have hxs : x.size = t.length := by rw [hxl, ofL_size]
  have HT : Hid (txt (some []) x = some (nb t.length 2 ++ t)) := by
    show _ = _
    unfold txt
    rw [if_neg (by omega), hxs, hxl]; simp [ofL_data]
  have hbl : b = ofL (nb t.length 2 ++ t) := hb.symm
  have HO : Hid (outS (some (nb t.length 2 ++ t)) = b) := hb
  have HE : Hid (outE (some (nb t.length 2 ++ t)) = 0) := rfl
  have hbs : b.size = x.size + 2 := by rw [hbl, ofL_size, List.length_append, nb_length, hxs]; omega
  have hy2 : y = ofL (nb t.length 2 ++ (t ++ more.data.toList)) := by
    rw [← hy, hbl, ← List.append_assoc, ← ofL_append (nb t.length 2 ++ t), ofL_of]
  have HY : Hid (y.size ≤ 281474976710656) := by
    show _ ≤ _
    rw [hy2, ofL_size, List.length_append, nb_length, List.length_append, str_len]; omega
  have HX3 : Hid (x.size ≤ 9223372036854775807) := by show _ ≤ _; omega
  have hsum : b.size + more.size ≤ 9223372036854775807 := by omega
  have hq : ((b.size : Int) != (x.size : Int) + 2) = false := by
    rw [hbs]; simp
  have HB := hide hbl
  have HN : Hid (t.length ≤ 65535) := by show _ ≤ _; omega
  have HM : Hid (more.size ≤ 281474976710656) := by show _ ≤ _; omega
  have HBS : Hid (b.size ≤ 281474976710656) := by show _ ≤ _; omega
  have hn8 : nil8 = { data := #[] } := rfl
  obtain ⟨l1, l2⟩ := text_ok t.length t more.data.toList most rfl (by omega) (by omega)
  rw [← hy2] at l1 l2
  have HA1 : Hid (textA most (y, 0) = x) := l1.trans hxl.symm
  have HS1 : Hid (textS most (y, 0) = (more, 0)) := by show _ = _; rw [l2, ofL_of]
  have HW : Hid ((2 : Int) = if most < (t.length : Int) then 3 else 2) := by show _ = _; rw [if_neg (by omega)]
  have hd : decide ((x.size : Int) > most) = false := decide_eq_false (by omega)
  have HD1 : Hid (doneS (nil8, 1) = 1) := rfl
  have HD0 : Hid (doneS (nil8, 0) = 0) := rfl
  have HD2 : Hid (doneS (nil8, 2) = 2) := rfl
  have hr := raw_ok (nb t.length 2 ++ t) [] (b.size : Int) (by rw [hbl, ofL_size])
  rw [List.append_nil, ← hbl] at hr
  have HR1 : Hid (rawS (b.size : Int) (b, 0) = (nil8, 0)) := hr.2
  have HR2 : Hid (rawA (b.size : Int) (b, 0) = b) := hr.1
  have hr2 := raw_short [] 1 (by decide)
  have HR3 : Hid (rawS 1 (nil8, 0) = (nil8, 2)) := hr2.2
  have HR4 : Hid (rawA 1 (nil8, 0) = nil8) := hr2.1
  clear l1 l2 hr hr2
  clear hxl hxs hb hbl hy2 hm hbs
  rcases hcase with rfl | ⟨hbig, hex⟩
  · have hd0 : decide ((s.size : Int) > 65535) = false := decide_eq_false (by omega)
    go_enter Try.func3, Try.ntmps3
    go_wp2_with fail
    refine (head_any _).mono ?_
    rintro e w1 ⟨rfl, hb1⟩
    go_wp2_with fail
    refine (wNew _).mono ?_
    rintro e w2 ⟨rfl, hW2, hb2, hz2⟩
    have kb2 := hb1.trans (hb2.mono hb1.size)
    go_wp2_with fail
    refine (wText s w1.heap.size _ _ _ hW2 HX3.out (fun l e => by cases e; decide)).mono ?_
    rintro e w3 ⟨rfl, v3, hW3, hM3⟩
    rw [HT.out] at hW3
    have kb3 := kb2.trans (hM3.below (B := w.heap.size) hb1.size kb2.size (by simp [Value.ownBlock]))
    clear hW2 hb2 hz2 hM3 kb2
    go_wp2_with fail
    refine (wOut _ _ _ _ hW3).mono ?_
    rintro e w4 ⟨rfl, hb4⟩
    rw [HO.out, HE.out]
    have kb4 := kb3.trans (hb4.mono kb3.size)
    clear kb3 hb4 hW3
    go_wp2_with fail
    refine (rOpen y _).mono ?_
    rintro e w5 ⟨rfl, hR5, hb5, hz5⟩
    have kb5 := kb4.trans (hb5.mono kb4.size)
    have hp4 : w.heap.size ≤ w4.heap.size := kb4.size
    have HP4 := hide hp4
    clear hb5 hz5 kb4 hp4
    generalize w4.heap.size = q at hR5 HP4 ⊢
    go_wp2_with fail
    refine (rText most _ _ _ hR5 HY.out).mono ?_
    rintro e w6 ⟨rfl, h6, hM6⟩
    rw [HS1.out] at h6
    rw [HA1.out]
    have kb6 := kb5.trans (hM6.below (B := w.heap.size) HP4.out kb5.size)
    clear hR5 hM6 kb5
    go_wp2_with fail
    refine (rErr _ _ _ h6).mono ?_
    rintro e w7 ⟨rfl, rfl⟩
    go_wp2_with fail
    refine (rRest _ _ _ h6 HM.out).mono ?_
    rintro e w8 ⟨rfl, hb8⟩
    have h8 := h6.below hb8
    have kb8 := kb6.trans (hb8.mono kb6.size)
    clear h6 kb6 hb8
    go_wp2_with fail
    refine (rRaw _ _ _ _ h8 HM.out).mono ?_
    rintro e w9 ⟨rfl, h9, hM9⟩
    rw [(raw_neg more _ (by omega)).2] at h9
    rw [(raw_neg more _ (by omega)).1, hn8]
    have kb9 := kb8.trans (hM9.below (B := w.heap.size) HP4.out kb8.size)
    clear h8 hM9 kb8
    go_wp2_with fail
    refine (rOpen b _).mono ?_
    rintro e w10 ⟨rfl, hR10, hb10, hz10⟩
    have h10 := h9.below hb10
    have hne : q ≠ w9.heap.size := by have := h9.lt; omega
    have kb10 := kb9.trans (hb10.mono kb9.size)
    have hp9 : w.heap.size ≤ w9.heap.size := kb9.size
    have HP9 := hide hp9
    have HNE := hide hne
    clear h9 hb10 hz10 kb9 hp9 hne
    generalize w9.heap.size = z at hR10 HP9 HNE ⊢
    go_wp2_with fail
    refine (rErr _ _ _ h10).mono ?_
    rintro e w11 ⟨rfl, rfl⟩
    go_wp2_with fail
    refine (rText 9 _ _ _ h10 (Nat.zero_le _)).mono ?_
    rintro e w12 ⟨rfl, h12, hM12⟩
    rw [(text_broken nil8 1 9 (by decide)).2] at h12
    rw [(text_broken nil8 1 9 (by decide)).1, hn8]
    have hR12 := hR10.same (hM12.block _ hR10.lt (fun e => HNE.out e.symm))
    have kb12 := kb10.trans (hM12.below (B := w.heap.size) HP4.out kb10.size)
    clear h10 hR10 hM12 kb10
    go_wp2_with fail
    refine (rDone _ _ _ h12).mono ?_
    rintro e w13 ⟨rfl, rfl⟩
    rw [HD1.out]
    clear h12
    go_wp2_with fail
    refine (rRaw _ _ _ _ hR12 HBS.out).mono ?_
    rintro e w14 ⟨rfl, h14, hM14⟩
    rw [HR1.out] at h14
    rw [HR2.out]
    have kb14 := kb12.trans (hM14.below (B := w.heap.size) HP9.out kb12.size)
    clear hR12 hM14 kb12
    go_wp2_with fail
    refine (rDone _ _ _ h14).mono ?_
    rintro e w15 ⟨rfl, rfl⟩
    rw [HD0.out]
    go_wp2_with fail
    refine (rRaw 1 _ _ _ h14 (Nat.zero_le _)).mono ?_
    rintro e w16 ⟨rfl, h16, hM16⟩
    rw [HR3.out] at h16
    rw [HR4.out, hn8]
    have kb16 := kb14.trans (hM16.below (B := w.heap.size) HP9.out kb14.size)
    clear h14 hM16 kb14
    go_wp2_with fail
    refine (rDone _ _ _ h16).mono ?_
    rintro e w17 ⟨rfl, rfl⟩
    rw [HD2.out]
    go_wp2_with fail
    refine (cuts_any t most 2 b _ HB.out HN.out HW.out).mono ?_
    rintro e w18 ⟨rfl, hb18⟩
    go_wp2
    go_ret
    exact ⟨rfl, kb16.trans (hb18.mono kb16.size)⟩
  · have hd0 : decide ((s.size : Int) > 65535) = true := decide_eq_true (by omega)
    have HEX := hide hex
    have hb65 : 65535 ≤ s.size := by omega
    clear hex
    go_enter Try.func3, Try.ntmps3
    go_wp2_with fail
    refine (head_any _).mono ?_
    rintro e w1 ⟨rfl, hb1⟩
    go_wp2_with (first | (refine wpList_slice_to rfl _ _ rfl s (by rfl) .i64 65535 (by rfl) 65535 (by omega) hb65 x HEX.out ?_) | fail)
    refine (wNew _).mono ?_
    rintro e w2 ⟨rfl, hW2, hb2, hz2⟩
    have kb2 := hb1.trans (hb2.mono hb1.size)
    go_wp2_with fail
    refine (wText x w1.heap.size _ _ _ hW2 HX3.out (fun l e => by cases e; decide)).mono ?_
    rintro e w3 ⟨rfl, v3, hW3, hM3⟩
    rw [HT.out] at hW3
    have kb3 := kb2.trans (hM3.below (B := w.heap.size) hb1.size kb2.size (by simp [Value.ownBlock]))
    clear hW2 hb2 hz2 hM3 kb2
    go_wp2_with fail
    refine (wOut _ _ _ _ hW3).mono ?_
    rintro e w4 ⟨rfl, hb4⟩
    rw [HO.out, HE.out]
    have kb4 := kb3.trans (hb4.mono kb3.size)
    clear kb3 hb4 hW3
    go_wp2_with fail
    refine (rOpen y _).mono ?_
    rintro e w5 ⟨rfl, hR5, hb5, hz5⟩
    have kb5 := kb4.trans (hb5.mono kb4.size)
    have hp4 : w.heap.size ≤ w4.heap.size := kb4.size
    have HP4 := hide hp4
    clear hb5 hz5 kb4 hp4
    generalize w4.heap.size = q at hR5 HP4 ⊢
    go_wp2_with fail
    refine (rText most _ _ _ hR5 HY.out).mono ?_
    rintro e w6 ⟨rfl, h6, hM6⟩
    rw [HS1.out] at h6
    rw [HA1.out]
    have kb6 := kb5.trans (hM6.below (B := w.heap.size) HP4.out kb5.size)
    clear hR5 hM6 kb5
    go_wp2_with fail
    refine (rErr _ _ _ h6).mono ?_
    rintro e w7 ⟨rfl, rfl⟩
    go_wp2_with fail
    refine (rRest _ _ _ h6 HM.out).mono ?_
    rintro e w8 ⟨rfl, hb8⟩
    have h8 := h6.below hb8
    have kb8 := kb6.trans (hb8.mono kb6.size)
    clear h6 kb6 hb8
    go_wp2_with fail
    refine (rRaw _ _ _ _ h8 HM.out).mono ?_
    rintro e w9 ⟨rfl, h9, hM9⟩
    rw [(raw_neg more _ (by omega)).2] at h9
    rw [(raw_neg more _ (by omega)).1, hn8]
    have kb9 := kb8.trans (hM9.below (B := w.heap.size) HP4.out kb8.size)
    clear h8 hM9 kb8
    go_wp2_with fail
    refine (rOpen b _).mono ?_
    rintro e w10 ⟨rfl, hR10, hb10, hz10⟩
    have h10 := h9.below hb10
    have hne : q ≠ w9.heap.size := by have := h9.lt; omega
    have kb10 := kb9.trans (hb10.mono kb9.size)
    have hp9 : w.heap.size ≤ w9.heap.size := kb9.size
    have HP9 := hide hp9
    have HNE := hide hne
    clear h9 hb10 hz10 kb9 hp9 hne
    generalize w9.heap.size = z at hR10 HP9 HNE ⊢
    go_wp2_with fail
    refine (rErr _ _ _ h10).mono ?_
    rintro e w11 ⟨rfl, rfl⟩
    go_wp2_with fail
    refine (rText 9 _ _ _ h10 (Nat.zero_le _)).mono ?_
    rintro e w12 ⟨rfl, h12, hM12⟩
    rw [(text_broken nil8 1 9 (by decide)).2] at h12
    rw [(text_broken nil8 1 9 (by decide)).1, hn8]
    have hR12 := hR10.same (hM12.block _ hR10.lt (fun e => HNE.out e.symm))
    have kb12 := kb10.trans (hM12.below (B := w.heap.size) HP4.out kb10.size)
    clear h10 hR10 hM12 kb10
    go_wp2_with fail
    refine (rDone _ _ _ h12).mono ?_
    rintro e w13 ⟨rfl, rfl⟩
    rw [HD1.out]
    clear h12
    go_wp2_with fail
    refine (rRaw _ _ _ _ hR12 HBS.out).mono ?_
    rintro e w14 ⟨rfl, h14, hM14⟩
    rw [HR1.out] at h14
    rw [HR2.out]
    have kb14 := kb12.trans (hM14.below (B := w.heap.size) HP9.out kb12.size)
    clear hR12 hM14 kb12
    go_wp2_with fail
    refine (rDone _ _ _ h14).mono ?_
    rintro e w15 ⟨rfl, rfl⟩
    rw [HD0.out]
    go_wp2_with fail
    refine (rRaw 1 _ _ _ h14 (Nat.zero_le _)).mono ?_
    rintro e w16 ⟨rfl, h16, hM16⟩
    rw [HR3.out] at h16
    rw [HR4.out, hn8]
    have kb16 := kb14.trans (hM16.below (B := w.heap.size) HP9.out kb14.size)
    clear h14 hM16 kb14
    go_wp2_with fail
    refine (rDone _ _ _ h16).mono ?_
    rintro e w17 ⟨rfl, rfl⟩
    rw [HD2.out]
    go_wp2_with fail
    refine (cuts_any t most 2 b _ HB.out HN.out HW.out).mono ?_
    rintro e w18 ⟨rfl, hb18⟩
    go_wp2
    go_ret
    exact ⟨rfl, kb16.trans (hb18.mono kb16.size)⟩
theorem cursorTexts_walk (s : ByteArray) (most : Int) (more : ByteArray) (w : World) (_hs : s.size ≤ 140737488351232) (hm : more.size ≤ 140737488351232) :
    Calls Try.prog 3 #[.string s, .int .i64 most, .string more] w fun e w' => e = .returned (.bool true) ∧ Below w.heap.size w w' := by
  obtain ⟨x, hx, hc⟩ : ∃ x : ByteArray, x.size ≤ 65535 ∧ (s = x ∨ (65535 < s.size ∧ s.extract 0 65535 = x)) := by
    by_cases h : s.size ≤ 65535
    · exact ⟨s, h, .inl rfl⟩
    · exact ⟨s.extract 0 65535, by rw [ByteArray.size_extract]; omega, .inr ⟨by omega, rfl⟩⟩
  by_cases hmo : most < (x.data.toList.length : Int)
  · exact texts_long s most more w hm x _ _ x.data.toList (ofL_of x).symm hx rfl rfl hmo hc
  · exact texts_ok s most more w hm x _ _ x.data.toList (ofL_of x).symm hx rfl rfl (by omega) hc
end Go.Proofs.Ytmcnempkddahcaa
