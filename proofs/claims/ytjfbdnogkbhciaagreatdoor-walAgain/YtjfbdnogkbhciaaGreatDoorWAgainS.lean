import Derived.Test.YtjfbdnogkbhciaaGreatDoorWFirstM
import Derived.Test.YtjfbdnogkbhciaaGreatDoorWAgainR
/-
  first(): the document's example holds.
-/
namespace Go.Proofs.YtjfbdnogkbhciaaGreatDoor
open Go.RowKit Go.Maps
set_option linter.unusedVariables false
set_option linter.unusedSimpArgs false
theorem n_new {B : Nat} {w : World} {L : List Item} (h : Lies B w L) (cap : Int) (h0 : 0 ≤ cap) (h1 : cap ≤ 16777216) : Calls Tryz.prog 6 #[.int .i64 cap] w fun e w' => ∃ p, e = .returned (.tuple #[.pointer (some ⟨p, 0, none⟩), .int .i64 0]) ∧ Lies B w' (L ++ [.disk p (AD.fresh cap)]) ∧ Below B w w' := by
  refine (new_good w cap h0 h1).mono ?_
  rintro e w' ⟨rfl, hd, hb⟩
  refine ⟨_, rfl, h.push (S' := foot (w.heap.size + 1) w.heap.size (fun _ => FC.void) (AD.fresh cap).fs) hb ⟨w.heap.size, _, hd, fun _ => Iff.rfl⟩ ?_, hb.mono h.base⟩
  rintro b (rfl | rfl | ⟨k, F, hk, _⟩)
  · exact Nat.le_succ _
  · exact Nat.le_refl _
  · simp [AD.fresh, fget] at hk
theorem open_some {B : Nat} {w : World} {L : List Item} {i p : Nat} {A A' : AD} {g : AL} {ks : List Key} (h : Lies B w L) (hi : L[i]? = some (.disk p A)) (he : Env B w) (nm : ByteArray) (hn : nm.size ≤ 140737488355328) (sz first : Int) (hs : -9223372036854775808 ≤ sz ∧ sz ≤ 9223372036854775807) (hf : -9223372036854775808 ≤ first ∧ first ≤ 9223372036854775807) (hR : openA A nm sz first = ⟨some g, ks, 0, A'⟩) :
    Calls Tryz.prog 10 #[.pointer (some ⟨p, 0, none⟩), .string nm, .int .i64 sz, .int .i64 first] w fun e w' => ∃ l ad cap, e = .returned (.tuple #[.pointer (some ⟨l, 0, none⟩), .slice ad ks.length cap, .int .i64 0]) ∧ RowAt w' ad (ks.map encStr) ∧ Lies B w' (L.set i (.disk p A') ++ [.log l p g, .sub (.slice ad ks.length cap) ks]) ∧ Below B w w' := by
  refine (open_any h hi he nm hn sz first hs hf _ rfl).mono ?_
  rintro e w' ⟨h1, hb⟩
  rw [hR] at h1
  obtain ⟨l, v, rfl, hl⟩ := h1
  obtain ⟨ad, cap, rfl, hr, _⟩ := hl.subAt (q := (L.set i (.disk p A')).length + 1) (by rw [get_tail]; rfl)
  exact ⟨l, ad, cap, rfl, hr, hl, hb⟩
theorem open_none {B : Nat} {w : World} {L : List Item} {i p : Nat} {A A' : AD} {c : Int} (h : Lies B w L) (hi : L[i]? = some (.disk p A)) (he : Env B w) (nm : ByteArray) (hn : nm.size ≤ 140737488355328) (sz first : Int) (hs : -9223372036854775808 ≤ sz ∧ sz ≤ 9223372036854775807) (hf : -9223372036854775808 ≤ first ∧ first ≤ 9223372036854775807) (hR : openA A nm sz first = ⟨none, [], c, A'⟩) :
    Calls Tryz.prog 10 #[.pointer (some ⟨p, 0, none⟩), .string nm, .int .i64 sz, .int .i64 first] w fun e w' => e = .returned (.tuple #[.pointer none, .slice none 0 0, .int .i64 c]) ∧ Lies B w' (L.set i (.disk p A')) ∧ Below B w w' := by
  refine (open_any h hi he nm hn sz first hs hf _ rfl).mono ?_
  rintro e w' ⟨h1, hb⟩
  rw [hR] at h1
  exact ⟨h1.1, h1.2, hb⟩
theorem rng0 (x : Int) (h : -1000 ≤ x ∧ x ≤ 1000) : -9223372036854775808 ≤ x ∧ x ≤ 9223372036854775807 := by omega
set_option maxRecDepth 100000 in
set_option maxHeartbeats 8000000 in
theorem wfirst_any {B : Nat} (w : World) (he0 : Env B w) (hB : B ≤ w.heap.size) : Calls Tryz.prog 7 #[] w fun e w' => e = .returned (.bool true) ∧ Below w.heap.size w w' := by
  have he : Env w.heap.size w := ⟨he0.tab, he0.syn, he0.rng, Nat.le_trans he0.low hB⟩
  obtain ⟨b, hb⟩ : ∃ b, w.heap.size = b := ⟨_, rfl⟩
  rw [hb] at he ⊢
  have hl0 : Lies b w [] := Lies.nil (Nat.le_of_eq hb.symm)
  have HENV := hide he
  have HNEW := hide (n_new hl0 100000 (by decide) (by decide))
  obtain ⟨A0, hA0⟩ : ∃ x, fA0 = x := ⟨_, rfl⟩
  obtain ⟨A1, hA1⟩ : ∃ x, fR1.2.1 = x := ⟨_, rfl⟩
  obtain ⟨G1, hG1⟩ : ∃ x, fR1.2.2 = x := ⟨_, rfl⟩
  obtain ⟨A2, hA2⟩ : ∃ x, fR2.2.1 = x := ⟨_, rfl⟩
  obtain ⟨G2, hG2⟩ : ∃ x, fR2.2.2 = x := ⟨_, rfl⟩
  obtain ⟨A4, hA4⟩ : ∃ x, fR4.2.2.1 = x := ⟨_, rfl⟩
  obtain ⟨G4, hG4⟩ : ∃ x, fR4.2.2.2 = x := ⟨_, rfl⟩
  obtain ⟨A5, hA5⟩ : ∃ x, fR5.2.1 = x := ⟨_, rfl⟩
  obtain ⟨G5, hG5⟩ : ∃ x, fR5.2.2 = x := ⟨_, rfl⟩
  obtain ⟨A6, hA6⟩ : ∃ x, fR6.2.2.1 = x := ⟨_, rfl⟩
  obtain ⟨G6, hG6⟩ : ∃ x, fR6.2.2.2 = x := ⟨_, rfl⟩
  obtain ⟨g1, hg1⟩ : ∃ x, fg1 = x := ⟨_, rfl⟩
  have HO1 : Hid (openA A0 ⟨#[108, 111, 103]⟩ 64 0 = ⟨some g1, [], 0, A0⟩) := by show _ = _; rw [← hA0, ← hg1]; exact f_open1
  have HR1 : Hid (appA A0 g1 ⟨#[97]⟩ = (0, A1, G1)) := by show _ = _; rw [← hA0, ← hg1, ← hA1, ← hG1]; exact Prod.ext f_err.1 rfl
  have HR2 : Hid (appA (A1.fallen 2) G1 ⟨#[98]⟩ = (9, A2, G2)) := by show _ = _; rw [← hA1, ← hG1, ← hA2, ← hG2]; exact Prod.ext f_err.2.1 rfl
  have HO3 : Hid (openA (A2.crash []).on ⟨#[108, 111, 103]⟩ 64 0 = ⟨some G4, [[97]], 0, A4⟩) := by show _ = _; rw [← hA2, ← hA4, ← hG4]; exact f_open3
  have HR5 : Hid (appA A4 G4 ⟨#[99]⟩ = (0, A5, G5)) := by show _ = _; rw [← hA4, ← hG4, ← hA5, ← hG5]; exact Prod.ext f_err.2.2.2.1 rfl
  have HO6 : Hid (openA A5 ⟨#[108, 111, 103]⟩ 64 1 = ⟨some G6, [[99]], 0, A6⟩) := by show _ = _; rw [← hA5, ← hA6, ← hG6]; exact f_open5
  have HF1 : Hid g1.Fit := by show AL.Fit _; rw [← hg1]; exact AL.fit_of f_fits.1
  have HF2 : Hid G1.Fit := by show AL.Fit _; rw [← hG1]; exact AL.fit_of f_fits.2.1
  have HF4 : Hid G4.Fit := by show AL.Fit _; rw [← hG4]; exact AL.fit_of f_fits.2.2.1
  have HF5 : Hid G5.Fit := by show AL.Fit _; rw [← hG5]; exact AL.fit_of f_fits.2.2.2
  have HNX : Hid (G4.next = 1) := by show _ = _; rw [← hG4]; exact f_pay.2.2
  have HNM : Hid (G5.files = [[108, 111, 103, 46, 48], [108, 111, 103, 46, 49]]) := by show _ = _; rw [← hG5]; exact f_names
  have HA0 : Hid (AD.fresh 100000 = A0) := by show _ = _; rw [← hA0]; rfl
  clear hA0 hA1 hG1 hA2 hG2 hA4 hG4 hA5 hG5 hA6 hG6 hg1 hl0 he he0
  go_enter Tryz.func7, Tryz.ntmps7
  go_wp2_with fail
  refine (HNEW.out).mono ?_
  rintro e w1 ⟨p, rfl, hl1, hb1⟩
  rw [HA0.out] at hl1
  change Lies b w1 [.disk p A0] at hl1
  have HB1 := hide hb1
  have HC := hide (open_some hl1 (i := 0) rfl (HENV.out.below hb1) ⟨#[108, 111, 103]⟩ (by decide) 64 0 (by omega) (by omega) HO1.out)
  clear hl1 hb1
  go_wp2_with fail
  refine (HC.out).mono ?_
  rintro e w2 ⟨l1, ad1, cap1, rfl, _, hl2, hb2⟩
  change Lies b w2 [.disk p A0, .log l1 p g1, .sub (.slice ad1 0 cap1) []] at hl2
  have hbb2 := HB1.out.trans hb2
  have HB2 := hide hbb2
  have HC2 := hide (append_any hl2 (i := 0) (j := 1) rfl rfl (by decide) (HENV.out.below hbb2) HF1.out ⟨#[97]⟩ _ HR1.out)
  clear hl2 hb2 hbb2
  simp only [List.length_nil]
  go_wp2_with fail
  refine (HC2.out).mono ?_
  rintro e w3 ⟨rfl, hl3, hb3⟩
  change Lies b w3 [.disk p A1, .log l1 p G1, .sub (.slice ad1 0 cap1) []] at hl3
  have HB3 := hide (HB2.out.trans hb3)
  have HC3 := hide (s_fall hl3 (i := 0) rfl 2 (by omega))
  clear hl3 hb3
  go_wp2_with fail
  refine (HC3.out).mono ?_
  rintro e w4 ⟨rfl, hl4, hb4⟩
  change Lies b w4 [.disk p (A1.fallen 2), .log l1 p G1, .sub (.slice ad1 0 cap1) []] at hl4
  have hbb4 := HB3.out.trans hb4
  have HB4 := hide hbb4
  have HC4 := hide (append_any hl4 (i := 0) (j := 1) rfl rfl (by decide) (HENV.out.below hbb4) HF2.out ⟨#[98]⟩ _ HR2.out)
  clear hl4 hb4 hbb4
  go_wp2_with fail
  refine (HC4.out).mono ?_
  rintro e w5 ⟨rfl, hl5, hb5⟩
  change Lies b w5 [.disk p A2, .log l1 p G2, .sub (.slice ad1 0 cap1) []] at hl5
  have HB5 := hide (HB4.out.trans hb5)
  have HC5 := hide (s_crash0 hl5 (i := 0) rfl)
  clear hl5 hb5
  go_wp2_with fail
  refine (HC5.out).mono ?_
  rintro e w6 ⟨rfl, hl6, hb6⟩
  change Lies b w6 [.disk p (A2.crash []), .log l1 p G2, .sub (.slice ad1 0 cap1) []] at hl6
  have HB6 := hide (HB5.out.trans hb6)
  have HC6 := hide (s_on hl6 (i := 0) rfl)
  clear hl6 hb6
  go_wp2_with fail
  refine (HC6.out).mono ?_
  rintro e w7 ⟨rfl, hl7, hb7⟩
  change Lies b w7 [.disk p (A2.crash []).on, .log l1 p G2, .sub (.slice ad1 0 cap1) []] at hl7
  have hbb7 := HB6.out.trans hb7
  have HB7 := hide hbb7
  have HC7 := hide (open_some hl7 (i := 0) rfl (HENV.out.below hbb7) ⟨#[108, 111, 103]⟩ (by decide) 64 0 (by omega) (by omega) HO3.out)
  clear hl7 hb7 hbb7
  go_wp2_with fail
  refine (HC7.out).mono ?_
  rintro e w8 ⟨l2, ad2, cap2, rfl, hr8, hl8, hb8⟩
  change Lies b w8 [.disk p A4, .log l1 p G2, .sub (.slice ad1 0 cap1) [], .log l2 p G4, .sub (.slice ad2 1 cap2) [[97]]] at hl8
  have HB8 := hide (HB7.out.trans hb8)
  have HL8 := hide hl8
  have HR8 := hide hr8
  clear hl8 hb8 hr8
  go_wp2_with fail
  have hx9 : Below w8.heap.size w8 (w8.alloc (.cells #[.string ⟨#[97]⟩] 9)) := (Below.refl _ _).alloc (Nat.le_refl _) _
  have hy9 : RowAt (w8.alloc (.cells #[.string ⟨#[97]⟩] 9)) ad2 (([[97]] : List Key).map encStr) := HR8.out.same (Turn.of_below hx9 (fun _ => False)) (fun _ _ _ => id)
  have hz9 : RowAt (w8.alloc (.cells #[.string ⟨#[97]⟩] 9)) (some ⟨w8.heap.size, 0, none⟩) (([[97]] : List Key).map encStr) := .inr ⟨_, 0, rfl, by simp, fun i hi => by
    rw [cell_of_row _ w8.heap.size _ _ _ (0, 0) (heap_alloc_new w8 _)]
    have hi' : i < 1 := hi
    match i, hi' with
    | 0, _ => rfl⟩
  refine (sameTexts_any _ ad2 _ cap2 1 [[97]] [[97]] hy9 hz9 (by decide) (by decide)).mono ?_
  rintro e w9 ⟨rfl, hw9⟩
  rw [show (([[97]] : List Key) == [[97]]) = true by decide]
  have hl9 := (HL8.out.below hx9).below hw9
  have hbb9 := HB8.out.trans ((hx9.mono HL8.out.base).trans (hw9.mono (HL8.out.below hx9).base))
  have HL9 := hide hl9
  have HB9 := hide hbb9
  have hnx := wnext_any hl9 (j := 3) rfl
  rw [HNX.out] at hnx
  have HC9 := hide hnx
  clear hx9 hy9 hz9 hw9 hl9 hbb9 hnx
  go_wp2_with fail
  refine (HC9.out).mono ?_
  rintro e w10 ⟨rfl, rfl⟩
  have HC10 := hide (append_any HL9.out (i := 0) (j := 3) rfl rfl (by decide) (HENV.out.below HB9.out) HF4.out ⟨#[99]⟩ _ HR5.out)
  go_wp2_with fail
  refine (HC10.out).mono ?_
  rintro e w11 ⟨rfl, hl11, hb11⟩
  change Lies b w11 [.disk p A5, .log l1 p G2, .sub (.slice ad1 0 cap1) [], .log l2 p G5, .sub (.slice ad2 1 cap2) [[97]]] at hl11
  have hbb11 := HB9.out.trans hb11
  have HB11 := hide hbb11
  have HC11 := hide (names_any hl11 (j := 3) rfl ⟨HF5.out.name, fun s hs => by have := HF5.out.segs s hs; omega, HF5.out.len⟩ (HENV.out.below hbb11))
  clear hl11 hb11 hbb11
  go_wp2_with fail
  refine (HC11.out).mono ?_
  rintro e w12 ⟨v, rfl, hl12, hb12⟩
  rw [HNM.out] at hl12
  have hrow := hl12.rowOf (i := 5) (e := 9) (v := v) (xs := ([[108, 111, 103, 46, 48], [108, 111, 103, 46, 49]] : List Key).map encStr) rfl
  obtain ⟨ad3, cap3, hv, hr12, _, _⟩ := row_at hrow
  change v = .slice ad3 2 cap3 at hv
  subst hv
  change Lies b w12 [.disk p A5, .log l1 p G2, .sub (.slice ad1 0 cap1) [], .log l2 p G5, .sub (.slice ad2 1 cap2) [[97]], .row 9 (.slice ad3 2 cap3) (([[108, 111, 103, 46, 48], [108, 111, 103, 46, 49]] : List Key).map encStr)] at hl12
  have hbb12 := HB11.out.trans hb12
  have HB12 := hide hbb12
  have HC12 := hide (open_some hl12 (i := 0) rfl (HENV.out.below hbb12) ⟨#[108, 111, 103]⟩ (by decide) 64 1 (by omega) (by omega) HO6.out)
  clear hl12 hb12 hbb12 hrow hr12
  go_wp2_with fail
  refine (HC12.out).mono ?_
  rintro e w13 ⟨l3, ad4, cap4, rfl, hr13, hl13, hb13⟩
  change Lies b w13 [.disk p A6, .log l1 p G2, .sub (.slice ad1 0 cap1) [], .log l2 p G5, .sub (.slice ad2 1 cap2) [[97]], .row 9 (.slice ad3 2 cap3) (([[108, 111, 103, 46, 48], [108, 111, 103, 46, 49]] : List Key).map encStr), .log l3 p G6, .sub (.slice ad4 1 cap4) [[99]]] at hl13
  have HB13 := hide (HB12.out.trans hb13)
  have HL13 := hide hl13
  have HR13 := hide hr13
  clear hl13 hb13 hr13
  go_wp2_with fail
  have hx14 : Below w13.heap.size w13 (w13.alloc (.cells #[.string ⟨#[99]⟩] 9)) := (Below.refl _ _).alloc (Nat.le_refl _) _
  have hy14 : RowAt (w13.alloc (.cells #[.string ⟨#[99]⟩] 9)) ad4 (([[99]] : List Key).map encStr) := HR13.out.same (Turn.of_below hx14 (fun _ => False)) (fun _ _ _ => id)
  have hz14 : RowAt (w13.alloc (.cells #[.string ⟨#[99]⟩] 9)) (some ⟨w13.heap.size, 0, none⟩) (([[99]] : List Key).map encStr) := .inr ⟨_, 0, rfl, by simp, fun i hi => by
    rw [cell_of_row _ w13.heap.size _ _ _ (0, 0) (heap_alloc_new w13 _)]
    have hi' : i < 1 := hi
    match i, hi' with
    | 0, _ => rfl⟩
  refine (sameTexts_any _ ad4 _ cap4 1 [[99]] [[99]] hy14 hz14 (by decide) (by decide)).mono ?_
  rintro e w14 ⟨rfl, hw14⟩
  rw [show (([[99]] : List Key) == [[99]]) = true by decide]
  have hl14 := (HL13.out.below hx14).below hw14
  have hbb14 := HB13.out.trans ((hx14.mono HL13.out.base).trans (hw14.mono (HL13.out.below hx14).base))
  have HL14 := hide hl14
  have HB14 := hide hbb14
  have hrow := hl14.rowOf (i := 5) (e := 9) (v := .slice ad3 2 cap3) (xs := ([[108, 111, 103, 46, 48], [108, 111, 103, 46, 49]] : List Key).map encStr) rfl
  obtain ⟨ad5, cap5, hv, hr14, _, _⟩ := row_at hrow
  cases hv
  have HR14 := hide hr14
  clear hx14 hy14 hz14 hw14 hl14 hbb14 hrow hr14
  go_wp2_with fail
  have hx15 : Below w14.heap.size w14 (w14.alloc (.cells #[.string ⟨#[108, 111, 103, 46, 48]⟩, .string ⟨#[108, 111, 103, 46, 49]⟩] 9)) := (Below.refl _ _).alloc (Nat.le_refl _) _
  have hy15 : RowAt (w14.alloc (.cells #[.string ⟨#[108, 111, 103, 46, 48]⟩, .string ⟨#[108, 111, 103, 46, 49]⟩] 9)) ad3 (([[108, 111, 103, 46, 48], [108, 111, 103, 46, 49]] : List Key).map encStr) := HR14.out.same (Turn.of_below hx15 (fun _ => False)) (fun _ _ _ => id)
  have hz15 : RowAt (w14.alloc (.cells #[.string ⟨#[108, 111, 103, 46, 48]⟩, .string ⟨#[108, 111, 103, 46, 49]⟩] 9)) (some ⟨w14.heap.size, 0, none⟩) (([[108, 111, 103, 46, 48], [108, 111, 103, 46, 49]] : List Key).map encStr) := .inr ⟨_, 0, rfl, by simp, fun i hi => by
    rw [cell_of_row _ w14.heap.size _ _ _ (0, 0) (heap_alloc_new w14 _)]
    have hi' : i < 2 := hi
    match i, hi' with
    | 0, _ => rfl
    | 1, _ => rfl⟩
  refine (sameTexts_any _ ad3 _ cap3 2 [[108, 111, 103, 46, 48], [108, 111, 103, 46, 49]] [[108, 111, 103, 46, 48], [108, 111, 103, 46, 49]] hy15 hz15 (by decide) (by decide)).mono ?_
  rintro e w15 ⟨rfl, hw15⟩
  rw [show (([[108, 111, 103, 46, 48], [108, 111, 103, 46, 49]] : List Key) == [[108, 111, 103, 46, 48], [108, 111, 103, 46, 49]]) = true by decide]
  have hl15 := (HL14.out.below hx15).below hw15
  have hbb15 := HB14.out.trans ((hx15.mono HL14.out.base).trans (hw15.mono (HL14.out.below hx15).base))
  have HB15 := hide hbb15
  clear hx15 hy15 hz15 hw15 hl15 hbb15
  go_wp2
  go_ret
  exact ⟨rfl, HB15.out⟩
end Go.Proofs.YtjfbdnogkbhciaaGreatDoor
/-
  The statements' scripts (a slice of Op structs); what stands on a disk that refuses nothing.
-/
namespace Go.Proofs.YtjfbdnogkbhciaaGreatDoor
open Go.RowKit Go.Maps
set_option linter.unusedVariables false
set_option linter.unusedSimpArgs false
structure WOp where
  kind : Int
  text : ByteArray
  name : ByteArray
  at_ : Int
  n : Int
  first : Int
  ad : Option Addr
  fates : List FT
  cap : Nat
def WOp.cs (o : WOp) : Array Value := #[.int .i64 o.kind, .string o.text, .string o.name, .int .i64 o.at_, .int .i64 o.n, .int .i64 o.first, .slice o.ad o.fates.length o.cap]
structure WOp.Ok (o : WOp) : Prop where
  k0 : -9223372036854775808 ≤ o.kind
  k1 : o.kind < 9223372036854775808
  name : o.name.size ≤ maxLen
  text : o.text.size ≤ 140737488355328
  a0 : -9223372036854775808 ≤ o.at_
  a1 : o.at_ < 9223372036854775808
  n0 : -9223372036854775808 ≤ o.n
  n1 : o.n < 9223372036854775808
  f0 : -9223372036854775808 ≤ o.first
  f1 : o.first < 9223372036854775808
  fates : ∀ x ∈ o.fates, x.Ok
  len : o.fates.length ≤ 9223372036854775807
structure WOp.Lie (B : Nat) (w : World) (o : WOp) : Prop where
  at_ : FatesAt w o.ad o.fates
  lt : o.fates ≠ [] → ∀ b f, o.ad = some ⟨b, f, none⟩ → b < B
theorem WOp.Lie.below {B : Nat} {w w' : World} {o : WOp} (h : o.Lie B w) (hb : Below B w w') : o.Lie B w' := ⟨h.at_.later hb h.lt, h.lt⟩
def WOpsAt (w : World) (ad : Option Addr) (os : List WOp) : Prop := os = [] ∨ ∃ b o, ad = some ⟨b, o, none⟩ ∧ b < w.heap.size ∧ ∀ i (h : i < os.length) j, j < 7 → w.cell? ⟨b, o + i * 7 + j, none⟩ = (os[i].cs)[j]?
structure WScript (B : Nat) (w : World) (ad : Option Addr) (os : List WOp) : Prop where
  at_ : WOpsAt w ad os
  lt : os ≠ [] → ∀ b o, ad = some ⟨b, o, none⟩ → b < B
  ok : ∀ o ∈ os, o.Ok
  lie : ∀ o ∈ os, o.Lie B w
  len : os.length ≤ maxLen
theorem WScript.below {B : Nat} {w w' : World} {ad : Option Addr} {os : List WOp} (h : WScript B w ad os) (hb : Below B w w') : WScript B w' ad os := by
  refine ⟨?_, h.lt, h.ok, fun o ho => (h.lie o ho).below hb, h.len⟩
  rcases h.at_ with x | ⟨b, o, ha, hlt, hc⟩
  · exact .inl x
  · refine .inr ⟨b, o, ha, Nat.lt_of_lt_of_le hlt hb.size, fun i hi j hj => ?_⟩
    rw [← hc i hi j hj]
    exact World.cell?_of_block (hb.block b (h.lt (fun e => by rw [e] at hi; simp at hi) b o ha))
/-- The cells of one step. -/
theorem WScript.cells {B : Nat} {w : World} {ad : Option Addr} {os : List WOp} (h : WScript B w ad os) (k : Nat) (hk : k < os.length) : ∃ b o, ad = some ⟨b, o, none⟩ ∧ w.cell? ⟨b, o + k * 7, none⟩ = some (.int .i64 (os[k]).kind) ∧ w.cell? ⟨b, o + k * 7 + 1, none⟩ = some (.string (os[k]).text) ∧ w.cell? ⟨b, o + k * 7 + 2, none⟩ = some (.string (os[k]).name) ∧ w.cell? ⟨b, o + k * 7 + 3, none⟩ = some (.int .i64 (os[k]).at_) ∧ w.cell? ⟨b, o + k * 7 + 4, none⟩ = some (.int .i64 (os[k]).n) ∧ w.cell? ⟨b, o + k * 7 + 5, none⟩ = some (.int .i64 (os[k]).first) ∧ w.cell? ⟨b, o + k * 7 + 6, none⟩ = some (.slice (os[k]).ad (os[k]).fates.length (os[k]).cap) := by
  rcases h.at_ with x | ⟨b, o, ha, hlt, hc⟩
  · rw [x] at hk; simp at hk
  · exact ⟨b, o, ha, hc k hk 0 (by omega), hc k hk 1 (by omega), hc k hk 2 (by omega), hc k hk 3 (by omega), hc k hk 4 (by omega), hc k hk 5 (by omega), hc k hk 6 (by omega)⟩
/-! ### a disk that nothing refuses stays so -/
theorem write_calm {A : AD} (hp : A.pow = p0) (k : Key) (a : Int) (t : List UInt8) : (A.write k a t).2.pow = p0 := by
  have h1 : A.pow.off = false := by rw [hp]; rfl
  have h2 : A.pow.count 1 = (0, p0) := by rw [hp]; exact p0_count 1
  unfold AD.write
  rw [if_neg (by rw [h1]; decide)]
  split
  · exact hp
  · rw [if_neg (by rw [h2]; simp)]
    split
    · show (A.pow.count 1).2 = p0; rw [h2]
    · show (A.pow.count 1).2 = p0; rw [h2]
theorem sync_keeps_calm {A : AD} (hp : A.pow = p0) (k : Key) : (A.sync k).2.pow = p0 := by
  have h1 : A.pow.off = false := by rw [hp]; rfl
  cases hk : fget A.fs k with
  | none =>
    unfold AD.sync
    rw [if_neg (by rw [h1]; decide), hk]
    exact hp
  | some F => rw [sync_calm hp hk]
end Go.Proofs.YtjfbdnogkbhciaaGreatDoor
/-
  OPEN AND OPEN AGAIN: the last Open; whether a file has bytes; lists that are the caller's own.
-/
namespace Go.Proofs.YtjfbdnogkbhciaaGreatDoor
open Go.RowKit Go.Maps
set_option linter.unusedVariables false
set_option linter.unusedSimpArgs false
/-- Open behind the next number: its form. -/
theorem again_over2 {A : AD} {nm : ByteArray} {sz first nx : Int} {R : RSt} (hT : Tidy A nm.data.toList) (hok : A.Ok) (hc : Cut R (rdOf A nm.data.toList).2) (hnx : nx = if R.pay = [] then first else R.next) (h2 : first ≤ nx) (ha : argsOk nm sz first) :
    ((R.pay ≠ [] ∨ 1152921504606846976 ≤ nx) → ∃ c, c ≠ 0 ∧ openA A nm sz (nx + 1) = ⟨none, [], c, A⟩) ∧
    (¬ (R.pay ≠ [] ∨ 1152921504606846976 ≤ nx) → ∃ g A', openA A nm sz (nx + 1) = ⟨some g, [], 0, A'⟩ ∧ Tidy A' nm.data.toList ∧ Alike A A' nm.data.toList) := by
  by_cases hbig : 1152921504606846976 ≤ nx
  · have : openA A nm sz (nx + 1) = ⟨none, [], 1, A⟩ := by unfold openA; rw [if_pos (.inr (.inr (.inr (.inr (by omega)))))]
    exact ⟨fun _ => ⟨1, by decide, this⟩, fun h => absurd (.inr hbig) h⟩
  · have ha' : argsOk nm sz (nx + 1) := by
      unfold argsOk at ha ⊢
      rintro (h | h | h | h | h)
      · exact ha (.inl h)
      · exact ha (.inr (.inl h))
      · exact ha (.inr (.inr (.inl h)))
      · exact ha (.inr (.inr (.inr (.inl (by omega)))))
      · omega
    by_cases hp : R.pay = []
    · obtain ⟨hgood, _⟩ := open_tidy (sz := sz) (first := nx + 1) (nx := nx + 1) hT hok ha' rfl (by rw [hc.pay, if_pos hp])
      rw [hc.pay, hp] at hgood
      obtain ⟨A', h3, h4, h5⟩ := hgood ⟨by simp, by omega⟩
      refine ⟨fun h => ?_, fun _ => ⟨_, A', by rw [h3, List.drop_nil], h4, h5⟩⟩
      rcases h with h | h
      · exact absurd hp h
      · exact absurd h hbig
    · rw [if_neg hp] at hnx
      obtain ⟨_, hbad⟩ := open_tidy (sz := sz) (first := nx + 1) (nx := nx) hT hok ha' rfl (by rw [hc.pay, if_neg hp, hc.next hp]; exact hnx)
      exact ⟨fun _ => ⟨60, by decide, hbad (by omega)⟩, fun h => absurd (.inl hp) h⟩
/-- Has a file of a tidy log bytes? Just if there is a payload. -/
theorem bytes_tidy {A : AD} {nm : Key} (hT : Tidy A nm) (hok : A.Ok) : bytesA A ((numsL A nm).map (fileL nm)) = true ↔ (rdOf A nm).2.pay ≠ [] := by
  have hoff : A.pow.off = false := by rw [hT.pow]; rfl
  have hsz : ∀ n ∈ numsL A nm, (A.size (fileL nm n)).1 = ((textOf A nm n).length : Int) := fun n hn => by
    obtain ⟨F, hF, hc⟩ := hT.clean n hn
    unfold AD.size
    rw [if_neg (by rw [hoff]; decide), hF]
    show (F.seen.length : Int) = _
    rw [hc.seen]
  unfold bytesA
  rw [List.any_eq_true]
  constructor
  · rintro ⟨k, hk, hd⟩ hp
    obtain ⟨n, hn, rfl⟩ := List.mem_map.1 hk
    rw [hsz n hn, (hT.pay).1 hp n hn] at hd
    simp at hd
  · intro hp
    have : ¬ ∀ n ∈ numsL A nm, textOf A nm n = [] := fun h => hp (hT.pay.2 h)
    rcases Classical.not_forall.1 this with ⟨n, hn2⟩
    rcases Classical.not_imp.1 hn2 with ⟨hn, ht⟩
    refine ⟨fileL nm n, List.mem_map.2 ⟨n, hn, rfl⟩, ?_⟩
    rw [hsz n hn]
    exact decide_eq_true (by have := List.length_pos_iff.2 ht; omega)
theorem files_nums {g : AL} {ns : List Int} (h : g.segs.map ASeg.num = ns) : g.files = ns.map (fileL g.name.data.toList) := by
  unfold AL.files
  rw [← h, List.map_map]
  rfl
theorem files_short {g : AL} (h : g.Ok) : ∀ k ∈ g.files, k.length ≤ 1000 := by
  intro k hk
  unfold AL.files at hk
  obtain ⟨s, hs, rfl⟩ := List.mem_map.1 hk
  have h1 := h.nums s hs
  have h2 := itoa_length h1.1 h1.2
  have h3 := h.name
  rw [← str_len] at h3
  unfold fileL
  rw [List.length_append, List.length_cons]
  omega
section
variable {B : Nat} {w : World} {L : List Item} {q j l p : Nat} {g : AL}
theorem row_text {ad : Option Addr} {n cap : Nat} {fs : List Key} (h : Lies B w L) (hq : L[q]? = some (.row 9 (.slice ad n cap) (fs.map encStr))) : RowAt w ad (fs.map encStr) ∧ fs.length = n ∧ fs.length ≤ maxLen := by
  obtain ⟨ad', cap', hv, hr, hl, hm⟩ := row_at (h.rowOf hq)
  rw [List.length_map] at hv hm
  cases hv
  exact ⟨hr, rfl, hm⟩
theorem names_at (h : Lies B w L) (hj : L[j]? = some (.log l p g)) (hg : g.Ok) (he : Env B w) {fs : List Key} {fn : Nat} (hfs : g.files = fs) (hfn : fs.length = fn) :
    Calls Tryz.prog 12 #[.pointer (some ⟨l, 0, none⟩)] w fun e w' => ∃ ad cap, e = .returned (.slice ad fn cap) ∧ Lies B w' (L ++ [.row 9 (.slice ad fn cap) (fs.map encStr)]) ∧ Below B w w' := by
  refine (names_any h hj hg he).mono ?_
  rintro e w' ⟨v, rfl, hl, hb⟩
  rw [hfs] at hl
  obtain ⟨ad, cap, hv, hr, _⟩ := row_at (hl.rowOf (i := L.length) (by rw [List.getElem?_append_right (Nat.le_refl _), Nat.sub_self]; rfl))
  rw [List.length_map, hfn] at hv
  subst hv
  exact ⟨ad, cap, rfl, hl, hb⟩
theorem texts_same (h : Lies B w L) {ad1 ad2 : Option Addr} {cap1 cap2 n : Nat} {ks : List Key} (h1 : RowAt w ad1 (ks.map encStr)) (h2 : RowAt w ad2 (ks.map encStr)) (hn : ks.length = n) (hm : ks.length ≤ maxLen) :
    Calls Tryz.prog 15 #[.slice ad1 n cap1, .slice ad2 n cap2] w fun e w' => e = .returned (.bool true) ∧ Lies B w' L ∧ Below B w w' := by
  subst hn
  refine (sameTexts_any w ad1 ad2 cap1 cap2 ks ks h1 h2 hm hm).mono ?_
  rintro e w' ⟨rfl, hb⟩
  exact ⟨by simp, h.below hb, hb.mono h.base⟩
theorem Lies.nilRow (h : Lies B w L) : Lies B w (L ++ [.row 9 (.slice none 0 0) (([] : List Key).map encStr)]) := by
  refine h.push (S' := fun _ => False) (Below.refl _ _) ⟨World.ownsRow_nil w 0 9 1, fun b => ?_⟩ (fun b hb => hb.elim)
  simp [Value.ownBlock]
/-- A row whose cells may be written. -/
theorem Lies.rowSub {v : Value} {xs : List Key} (h : Lies B w L) (hq : L[q]? = some (.row 9 v (xs.map encStr))) : Lies B w (L.set q (.sub v xs)) := by
  obtain ⟨ad, cap, hv, h1, h2, h3, h4, h5⟩ := h.toSub hq 0 (Nat.zero_le _)
  have e : (.slice (dropAd ad 0 cap) (xs.length - 0) (cap - 0) : Value) = v := by
    rw [hv, Nat.sub_zero, Nat.sub_zero]
    unfold dropAd
    split
    · rfl
    · cases ad with
      | none => rfl
      | some a =>
        obtain ⟨b, rfl⟩ := h3 a rfl
        rfl
  rw [e, List.drop_zero] at h5
  exact h5
end
/-- Go's s[k:] of texts. -/
theorem RowAt.dropAt {w : World} {b o : Nat} {ks : List Key} (h : RowAt w (some ⟨b, o, none⟩) (ks.map encStr)) (c : Nat) : RowAt w (some ⟨b, o + c, none⟩) ((ks.drop c).map encStr) := by
  rcases h with h | ⟨b', o', e, hl, hc⟩
  · exact .inl (by rw [List.map_eq_nil_iff.1 h, List.drop_nil]; rfl)
  · cases e
    refine .inr ⟨b, o + c, rfl, hl, fun i hi => ?_⟩
    rw [List.length_map, List.length_drop] at hi
    rw [Nat.add_assoc, hc (c + i) (by rw [List.length_map]; omega), List.getElem?_map, List.getElem?_map, List.getElem?_drop]
/-- min(by & 1048575 % (n + 1), 2^60 - from). -/
theorem by_of (X : Int) (n : Nat) (hn : n ≤ 300000) (f : Int) (h0 : 0 ≤ f) (h1 : f ≤ 1152921504606846976) : ∃ c : Nat, c ≤ n ∧ (c : Int) ≤ 1152921504606846976 - f ∧ min ((bits .and .i64 X 1048575).tmod ((n : Int) + 1)) (1152921504606846976 - f) = (c : Int) := by
  have hb : 0 ≤ bits .and .i64 X 1048575 := by
    have e : bits .and .i64 X 1048575 = IntKind.i64.wrap ((BitVec.ofInt 64 X &&& BitVec.ofInt 64 1048575).toNat : Int) := rfl
    have hle : (BitVec.ofInt 64 X &&& BitVec.ofInt 64 1048575).toNat ≤ 1048575 := by
      rw [BitVec.toNat_and]
      refine Nat.le_trans Nat.and_le_right ?_
      decide
    rw [e]
    generalize (BitVec.ofInt 64 X &&& BitVec.ofInt 64 1048575).toNat = m at hle
    rw [IntKind.wrap_i64]
    omega
  have h2 : 0 ≤ (bits .and .i64 X 1048575).tmod ((n : Int) + 1) := Int.tmod_nonneg _ hb
  have h3 : (bits .and .i64 X 1048575).tmod ((n : Int) + 1) < (n : Int) + 1 := Int.tmod_lt_of_pos _ (by omega)
  generalize (bits .and .i64 X 1048575).tmod ((n : Int) + 1) = U at h2 h3
  refine ⟨(min U (1152921504606846976 - f)).toNat, by omega, by omega, by omega⟩
end Go.Proofs.YtjfbdnogkbhciaaGreatDoor
