/-
  The statements' own first: what the document gives.
-/
import Derived.Test.YtobfijpfdibccaaKLoad
namespace Go.Proofs.Ytobfijpfdibccaa
open Go.RowKit Go.Maps Go.WideMaps
set_option linter.unusedVariables false
theorem k_new {B : Nat} {w : World} {L : List Item} (h : Lies B w L) (cap : Int) (h0 : 0 ≤ cap) (h1 : cap ≤ 16777216) : Calls Try.prog 5 #[.int .i64 cap] w fun e w' => ∃ p, e = .returned (.tuple #[.pointer (some ⟨p, 0, none⟩), .int .i64 0]) ∧ Lies B w' (L ++ [.disk p (AD.fresh cap)]) ∧ Below B w w' := by
  refine (new_good w cap h0 h1).mono ?_
  rintro e w' ⟨rfl, hd, hb⟩
  refine ⟨_, rfl, h.push (S' := foot (w.heap.size + 1) w.heap.size (fun _ => FC.void) (AD.fresh cap).fs) hb ⟨w.heap.size, _, hd, fun _ => Iff.rfl⟩ ?_, hb.mono h.base⟩
  rintro b (rfl | rfl | ⟨k, F, hk, _⟩)
  · exact Nat.le_succ _
  · exact Nat.le_refl _
  · simp [AD.fresh, fget] at hk
def KF0 : AD := AD.fresh 100000
def KF1 : AD := (KF0.save [99] [97, 98]).2
def KF2 : AD := (KF1.save [99] [111, 108, 100]).2
def KF3 : AD := KF2.fallen 2
def KF4 : AD := (KF3.save [99] [110, 101, 119]).2
def KF5 : AD := KF4.crash []
def KF6 : AD := KF5.on
set_option maxRecDepth 100000 in
theorem kv1 : (KF0.save [99] [97, 98]).1 = 0 := by decide +kernel
set_option maxRecDepth 100000 in
theorem kv2 : KF1.size [99] = (10, 0) := by decide +kernel
set_option maxRecDepth 100000 in
theorem kv3 : (KF1.save [99] [111, 108, 100]).1 = 0 := by decide +kernel
set_option maxRecDepth 100000 in
theorem kv4 : (KF3.save [99] [110, 101, 119]).1 = 9 := by decide +kernel
set_option maxRecDepth 100000 in
theorem kv5 : KF6.load [99] = ([111, 108, 100], 0) := by decide +kernel
set_option maxRecDepth 100000 in
theorem kv6 : KF6.load [113] = ([], 5) := by decide +kernel
section
variable {B : Nat} {w : World} {p : Nat}
theorem kc1 (h : Lies B w [.disk p KF0]) : Calls Try.prog 7 #[.pointer (some ⟨p, 0, none⟩), .string ⟨#[99]⟩, .string ⟨#[97, 98]⟩] w fun e w' => e = .returned (.int .i64 0) ∧ Lies B w' [.disk p KF1] ∧ Below B w w' :=
  (save_any (i := 0) h rfl ⟨#[99]⟩ ⟨#[97, 98]⟩).mono (fun e w' ⟨he, hl, hb⟩ => ⟨he.trans (ret_int kv1), hl, hb⟩)
theorem kc2 (h : Lies B w [.disk p KF1]) : Calls Try.prog 14 #[.pointer (some ⟨p, 0, none⟩), .string ⟨#[99]⟩] w fun e w' => e = .returned (.tuple #[.int .i64 10, .int .i64 0]) ∧ w' = w := by
  have := s_size (i := 0) h rfl ⟨#[99]⟩ (by decide)
  have e : KF1.size (⟨#[99]⟩ : ByteArray).data.toList = (10, 0) := kv2
  rw [e] at this
  exact this
theorem kc3 (h : Lies B w [.disk p KF1]) : Calls Try.prog 7 #[.pointer (some ⟨p, 0, none⟩), .string ⟨#[99]⟩, .string ⟨#[111, 108, 100]⟩] w fun e w' => e = .returned (.int .i64 0) ∧ Lies B w' [.disk p KF2] ∧ Below B w w' :=
  (save_any (i := 0) h rfl ⟨#[99]⟩ ⟨#[111, 108, 100]⟩).mono (fun e w' ⟨he, hl, hb⟩ => ⟨he.trans (ret_int kv3), hl, hb⟩)
theorem kc4 (h : Lies B w [.disk p KF3]) : Calls Try.prog 7 #[.pointer (some ⟨p, 0, none⟩), .string ⟨#[99]⟩, .string ⟨#[110, 101, 119]⟩] w fun e w' => e = .returned (.int .i64 9) ∧ Lies B w' [.disk p KF4] ∧ Below B w w' :=
  (save_any (i := 0) h rfl ⟨#[99]⟩ ⟨#[110, 101, 119]⟩).mono (fun e w' ⟨he, hl, hb⟩ => ⟨he.trans (ret_int kv4), hl, hb⟩)
theorem kc5 (h : Lies B w [.disk p KF6]) : Calls Try.prog 15 #[.pointer (some ⟨p, 0, none⟩), .string ⟨#[99]⟩] w fun e w' => e = .returned (.tuple #[.string ⟨#[111, 108, 100]⟩, .int .i64 0]) ∧ Lies B w' [.disk p KF6] ∧ Below B w w' := by
  have := load_any (i := 0) h rfl ⟨#[99]⟩
  have e : KF6.load (⟨#[99]⟩ : ByteArray).data.toList = ([111, 108, 100], 0) := kv5
  rw [e] at this
  exact this
theorem kc6 (h : Lies B w [.disk p KF6]) : Calls Try.prog 15 #[.pointer (some ⟨p, 0, none⟩), .string ⟨#[113]⟩] w fun e w' => e = .returned (.tuple #[.string ⟨#[]⟩, .int .i64 5]) ∧ Lies B w' [.disk p KF6] ∧ Below B w w' := by
  have := load_any (i := 0) h rfl ⟨#[113]⟩
  have e : KF6.load (⟨#[113]⟩ : ByteArray).data.toList = ([], 5) := kv6
  rw [e] at this
  exact this
end
set_option maxRecDepth 5000 in
set_option maxHeartbeats 1000000 in
theorem kFirst_any (w : World) : Calls Try.prog 6 #[] w fun e w' => e = .returned (.bool true) ∧ Below w.heap.size w w' := by
  obtain ⟨B, hB⟩ : ∃ B, w.heap.size = B := ⟨_, rfl⟩
  have hl0 : Lies B w [] := Lies.nil (by rw [hB]; exact Nat.le_refl _)
  have hnew := k_new hl0 100000 (by decide) (by decide)
  rw [hB]
  clear hl0 hB
  go_enter Try.func6, Try.ntmps6
  go_wp2_with fail
  refine hnew.mono ?_
  rintro e w1 ⟨p, rfl, h, hb⟩
  have HB1 := hide hb
  have hc := kc1 h
  clear h hb hnew
  go_wp2_with fail
  refine hc.mono ?_
  rintro e w2 ⟨rfl, h, hb⟩
  have HB2 := hide (HB1.out.trans hb)
  replace hc := kc2 h
  have HH := hide h
  clear h hb HB1
  go_wp2_with fail
  refine hc.mono ?_
  rintro e w3 ⟨rfl, rfl⟩
  replace hc := kc3 HH.out
  clear HH
  go_wp2_with fail
  refine hc.mono ?_
  rintro e w4 ⟨rfl, h, hb⟩
  have HB4 := hide (HB2.out.trans hb)
  replace hc := s_fall (i := 0) h rfl 2 (by decide)
  clear h hb HB2
  go_wp2_with fail
  refine hc.mono ?_
  rintro e w5 ⟨rfl, h, hb⟩
  have HB5 := hide (HB4.out.trans hb)
  have h' : Lies B w5 [.disk p KF3] := h
  replace hc := kc4 h'
  clear h h' hb HB4
  go_wp2_with fail
  refine hc.mono ?_
  rintro e w6 ⟨rfl, h, hb⟩
  have HB6 := hide (HB5.out.trans hb)
  replace hc := s_crash0 (i := 0) h rfl
  clear h hb HB5
  go_wp2_with fail
  refine hc.mono ?_
  rintro e w7 ⟨rfl, h, hb⟩
  have HB7 := hide (HB6.out.trans hb)
  have h' : Lies B w7 [.disk p KF5] := h
  replace hc := s_on (i := 0) h' rfl
  clear h h' hb HB6
  go_wp2_with fail
  refine hc.mono ?_
  rintro e w8 ⟨rfl, h, hb⟩
  have HB8 := hide (HB7.out.trans hb)
  have h' : Lies B w8 [.disk p KF6] := h
  replace hc := kc5 h'
  clear h h' hb HB7
  go_wp2_with fail
  refine hc.mono ?_
  rintro e w9 ⟨rfl, h, hb⟩
  have HB9 := hide (HB8.out.trans hb)
  replace hc := kc6 h
  clear h hb HB8
  go_wp2_with fail
  refine hc.mono ?_
  rintro e w10 ⟨rfl, h, hb⟩
  have HB10 := hide (HB9.out.trans hb)
  clear h hb HB9 hc
  go_wp2
  go_ret
  exact ⟨rfl, HB10.out⟩
end Go.Proofs.Ytobfijpfdibccaa
