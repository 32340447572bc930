/-
  The statements' own helper: first.
-/
import Derived.Test.YtcmhfpiglacdaaaGreatText
namespace Go.Proofs.YtcmhfpiglacdaaaGreat
open Go.RowKit Go.Maps Go.WideMaps
set_option linter.unusedVariables false
set_option linter.unusedSimpArgs false
def kA : Key := [97]
def kB : Key := [98]
def FA0 : AD := AD.fresh 1000
def FA1 : AD := (FA0.write kA 0 [104, 101, 108, 108, 111]).2
def FA2 : AD := (FA1.sync kA).2
def FA3 : AD := (FA2.write kA 5 [32, 121, 111, 117]).2
def FA4 : AD := (FA3.write kB 0 (List.replicate 200 120)).2
def fts : List FT := [⟨⟨#[98]⟩, 1, 1, ⟨#[]⟩⟩, ⟨⟨#[98]⟩, 2, 2, ⟨#[121, 121]⟩⟩]
def FA5 : AD := FA4.crash (fts.map FT.abs)
def FA6 : AD := FA5.on
theorem v1 : (FA0.write kA 0 [104, 101, 108, 108, 111]).1 = 0 := by decide +kernel
theorem v2 : (FA1.sync kA).1 = 0 := by decide +kernel
theorem v3 : (FA2.write kA 5 [32, 121, 111, 117]).1 = 0 := by decide +kernel
theorem v4 : (FA3.write kB 0 (List.replicate 200 120)).1 = 0 := by decide +kernel
theorem v5 : (FA5.read kA 0 9).2 = 9 := by decide +kernel
theorem v6 : FA5.pow.off = true := by decide +kernel
theorem v7 : FA6.read kA 0 9 = ([104, 101, 108, 108, 111], 0) := by decide +kernel
theorem v8 : FA6.size kB = (192, 0) := by decide +kernel
theorem v9 : FA6.read kB 63 68 = ([0] ++ List.replicate 64 120 ++ [121, 121, 0], 0) := by decide +kernel
theorem v10 : FA6.list = [kA, kB] := by decide +kernel
theorem v11 : FA6.dirtyI kB = [] := by decide +kernel
theorem v12 : (fused FA6.fs : Int) = 197 := by decide +kernel
section
variable {B : Nat} {w : World} {p : Nat}
theorem c1 (h : Lies B w [.disk p FA0]) : Calls Tryz.prog 9 #[.pointer (some ⟨p, 0, none⟩), .string ⟨#[97]⟩, .int .i64 0, .string ⟨#[104, 101, 108, 108, 111]⟩] w fun e w' => e = .returned (.int .i64 0) ∧ Lies B w' [.disk p FA1] ∧ Below B w w' :=
  (s_write (i := 0) h rfl ⟨#[97]⟩ (by decide) 0 (by decide) ⟨#[104, 101, 108, 108, 111]⟩ (by decide)).mono (fun e w' ⟨he, hl, hb⟩ => ⟨he.trans (ret_int v1), hl, hb⟩)
theorem c2 (h : Lies B w [.disk p FA1]) : Calls Tryz.prog 10 #[.pointer (some ⟨p, 0, none⟩), .string ⟨#[97]⟩] w fun e w' => e = .returned (.int .i64 0) ∧ Lies B w' [.disk p FA2] ∧ Below B w w' :=
  (s_sync (i := 0) h rfl ⟨#[97]⟩ (by decide)).mono (fun e w' ⟨he, hl, hb⟩ => ⟨he.trans (ret_int v2), hl, hb⟩)
theorem c3 (h : Lies B w [.disk p FA2]) : Calls Tryz.prog 9 #[.pointer (some ⟨p, 0, none⟩), .string ⟨#[97]⟩, .int .i64 5, .string ⟨#[32, 121, 111, 117]⟩] w fun e w' => e = .returned (.int .i64 0) ∧ Lies B w' [.disk p FA3] ∧ Below B w w' :=
  (s_write (i := 0) h rfl ⟨#[97]⟩ (by decide) 5 (by decide) ⟨#[32, 121, 111, 117]⟩ (by decide)).mono (fun e w' ⟨he, hl, hb⟩ => ⟨he.trans (ret_int v3), hl, hb⟩)
theorem c4 (h : Lies B w [.disk p FA3]) (t : ByteArray) (ht : t = ⟨(List.replicate 200 120).toArray⟩) : Calls Tryz.prog 9 #[.pointer (some ⟨p, 0, none⟩), .string ⟨#[98]⟩, .int .i64 0, .string t] w fun e w' => e = .returned (.int .i64 0) ∧ Lies B w' [.disk p FA4] ∧ Below B w w' := by
  subst ht
  exact (s_write (i := 0) h rfl ⟨#[98]⟩ (by decide) 0 (by decide) ⟨(List.replicate 200 120).toArray⟩ (by decide +kernel)).mono (fun e w' ⟨he, hl, hb⟩ => ⟨he.trans (ret_int v4), hl, hb⟩)
def ftObj : Obj := .cells #[.string ⟨#[98]⟩, .int .i64 1, .int .i64 1, .string ⟨#[]⟩, .string ⟨#[98]⟩, .int .i64 2, .int .i64 2, .string ⟨#[121, 121]⟩] 51 (0, 0)
theorem fts_ok : ∀ x ∈ fts, x.Ok := by
  intro x hx
  simp only [fts, List.mem_cons, List.not_mem_nil, or_false] at hx
  rcases hx with rfl | rfl
  · exact ⟨by decide, by decide⟩
  · exact ⟨by decide, by decide⟩
theorem c5 {g : Nat} (h : Lies B w [.disk p FA4, .block g ftObj]) (hg : w.heap[g]? = some ftObj) : Calls Tryz.prog 12 #[.pointer (some ⟨p, 0, none⟩), .slice (some ⟨g, 0, none⟩) 2 2] w fun e w' => e = .returned (.tuple #[]) ∧ Lies B w' [.disk p FA5] ∧ Below B w w' := by
  refine (s_crashOwn (i := 0) (j := 1) h rfl (by decide) rfl 0 fts 2 (.inr ⟨g, 0, rfl, lt_of_some hg, fun i hi j hj => ?_⟩) fts_ok (by decide)).mono (fun e w' ⟨he, hl, hb⟩ => ⟨he, (show Lies B w' ([.disk p FA5] ++ [.block g ftObj]) from hl).drop, hb⟩)
  rw [cell_of_row w g _ _ _ (0, 0) hg]
  have hi' : i < 2 := hi
  match i, hi', j, hj with
  | 0, _, 0, _ => rfl
  | 0, _, 1, _ => rfl
  | 0, _, 2, _ => rfl
  | 0, _, 3, _ => rfl
  | 1, _, 0, _ => rfl
  | 1, _, 1, _ => rfl
  | 1, _, 2, _ => rfl
  | 1, _, 3, _ => rfl
theorem c6 (h : Lies B w [.disk p FA5]) : Calls Tryz.prog 13 #[.pointer (some ⟨p, 0, none⟩), .string ⟨#[97]⟩, .int .i64 0, .int .i64 9] w fun e w' => (∃ x, e = .returned (.tuple #[.string x, .int .i64 9])) ∧ Lies B w' [.disk p FA5] ∧ Below B w w' :=
  (s_read (i := 0) h rfl ⟨#[97]⟩ (by decide) 0 9).mono (fun e w' ⟨he, hl, hb⟩ => ⟨⟨_, he.trans (by rw [show (FA5.read ((⟨#[97]⟩ : ByteArray).data.toList) 0 9).2 = 9 from v5])⟩, hl, hb⟩)
theorem c7 (h : Lies B w [.disk p FA5]) : Calls Tryz.prog 14 #[.pointer (some ⟨p, 0, none⟩)] w fun e w' => e = .returned (.bool true) ∧ w' = w :=
  (s_off (i := 0) h rfl).mono (fun e w' ⟨he, hb⟩ => ⟨he.trans (by rw [v6]), hb⟩)
theorem c8 (h : Lies B w [.disk p FA5]) : Calls Tryz.prog 15 #[.pointer (some ⟨p, 0, none⟩)] w fun e w' => e = .returned (.tuple #[]) ∧ Lies B w' [.disk p FA6] ∧ Below B w w' :=
  s_on (i := 0) h rfl
theorem c9 (h : Lies B w [.disk p FA6]) : Calls Tryz.prog 13 #[.pointer (some ⟨p, 0, none⟩), .string ⟨#[97]⟩, .int .i64 0, .int .i64 9] w fun e w' => e = .returned (.tuple #[.string ⟨#[104, 101, 108, 108, 111]⟩, .int .i64 0]) ∧ Lies B w' [.disk p FA6] ∧ Below B w w' :=
  (s_read (i := 0) h rfl ⟨#[97]⟩ (by decide) 0 9).mono (fun e w' ⟨he, hl, hb⟩ => ⟨he.trans (by rw [show FA6.read ((⟨#[97]⟩ : ByteArray).data.toList) 0 9 = _ from v7]), hl, hb⟩)
theorem c10 (h : Lies B w [.disk p FA6]) : Calls Tryz.prog 16 #[.pointer (some ⟨p, 0, none⟩), .string ⟨#[98]⟩] w fun e w' => e = .returned (.tuple #[.int .i64 192, .int .i64 0]) ∧ w' = w :=
  (s_size (i := 0) h rfl ⟨#[98]⟩ (by decide)).mono (fun e w' ⟨he, hb⟩ => ⟨he.trans (by rw [show FA6.size ((⟨#[98]⟩ : ByteArray).data.toList) = _ from v8]), hb⟩)
theorem c11 (h : Lies B w [.disk p FA6]) : Calls Tryz.prog 13 #[.pointer (some ⟨p, 0, none⟩), .string ⟨#[98]⟩, .int .i64 63, .int .i64 68] w fun e w' => (∃ x : ByteArray, e = .returned (.tuple #[.string x, .int .i64 0]) ∧ x = ⟨(([0] ++ List.replicate 64 120 ++ [121, 121, 0] : List UInt8)).toArray⟩) ∧ Lies B w' [.disk p FA6] ∧ Below B w w' :=
  (s_read (i := 0) h rfl ⟨#[98]⟩ (by decide) 63 68).mono (fun e w' ⟨he, hl, hb⟩ => ⟨⟨_, he.trans (by rw [show FA6.read ((⟨#[98]⟩ : ByteArray).data.toList) 63 68 = _ from v9]), rfl⟩, hl, hb⟩)
theorem c12 (h : Lies B w [.disk p FA6]) : Calls Tryz.prog 18 #[.pointer (some ⟨p, 0, none⟩)] w fun e w' => ∃ ad cap, e = .returned (.slice ad 2 cap) ∧ RowAt w' ad ([kA, kB].map encStr) ∧ Lies B w' [.disk p FA6] ∧ Below B w w' := by
  refine (s_list (i := 0) h rfl).mono ?_
  rintro e w' ⟨v, rfl, hr, hl, hb⟩
  rw [v10] at hr
  obtain ⟨ad, cap, rfl, hr, _, _⟩ := row_at hr
  exact ⟨ad, cap, rfl, hr, hl.drop, hb⟩
theorem c13 (h : Lies B w [.disk p FA6]) : Calls Tryz.prog 19 #[.pointer (some ⟨p, 0, none⟩), .string ⟨#[98]⟩] w fun e w' => ∃ ad cap, e = .returned (.slice ad 0 cap) ∧ Lies B w' [.disk p FA6] ∧ Below B w w' := by
  refine (s_dirty (i := 0) h rfl ⟨#[98]⟩ (by decide)).mono ?_
  rintro e w' ⟨v, rfl, hr, hl, hb⟩
  rw [show FA6.dirtyI ((⟨#[98]⟩ : ByteArray).data.toList) = [] from v11] at hr
  obtain ⟨ad, cap, rfl, hr, _, _⟩ := row_at hr
  exact ⟨ad, cap, rfl, hl.drop, hb⟩
theorem c14 (h : Lies B w [.disk p FA6]) : Calls Tryz.prog 20 #[.pointer (some ⟨p, 0, none⟩)] w fun e w' => e = .returned (.int .i64 197) ∧ Lies B w' [.disk p FA6] ∧ Below B w w' :=
  (s_used (i := 0) h rfl).mono (fun e w' ⟨he, hl, hb⟩ => ⟨he.trans (ret_int v12), hl, hb⟩)
end
set_option maxRecDepth 5000 in
set_option maxHeartbeats 1000000 in
theorem first_any (w : World) : Calls Tryz.prog 6 #[] w fun e w' => e = .returned (.bool true) ∧ Below w.heap.size w w' := by
  have hnew := new_good w 1000 (by decide) (by decide)
  obtain ⟨B, hB⟩ : ∃ B, w.heap.size = B := ⟨_, rfl⟩
  obtain ⟨p, hp⟩ : ∃ p, w.heap.size + 1 = p := ⟨_, rfl⟩
  rw [hp] at hnew
  have HBE := hide hB
  have HP := hide hp
  rw [hB] at hnew ⊢
  clear hB hp
  go_enter Tryz.func6, Tryz.ntmps6
  go_wp2_with fail
  refine hnew.mono ?_
  rintro e w1 ⟨rfl, hd1, hb1⟩
  have hl0 : Lies B w [] := Lies.nil (by rw [HBE.out]; exact Nat.le_refl _)
  have hl1 : Lies B w1 [.disk p FA0] := hl0.push (S' := foot p B (fun _ => FC.void) (AD.fresh 1000).fs) (by rw [HBE.out]; exact hb1) ⟨B, _, hd1, fun _ => Iff.rfl⟩ (by
    rintro b (rfl | rfl | ⟨k, F, hk, _⟩)
    · rw [← HP.out]; omega
    · rw [HBE.out]; exact Nat.le_refl _
    · simp [AD.fresh, fget] at hk)
  have hc := c1 hl1
  have HB1 := hide hb1
  clear hl0 hl1 hd1 hb1 hnew
  go_wp2_with fail
  refine hc.mono ?_
  rintro e w2 ⟨rfl, h, hb⟩
  have HB2 := hide (HB1.out.trans hb)
  replace hc := c2 h
  clear h hb HB1
  go_wp2_with fail
  refine hc.mono ?_
  rintro e w3 ⟨rfl, h, hb⟩
  have HB3 := hide (HB2.out.trans hb)
  replace hc := c3 h
  clear h hb HB2
  go_wp2_with fail
  refine hc.mono ?_
  rintro e w4 ⟨rfl, h, hb⟩
  have HB4 := hide (HB3.out.trans hb)
  replace hc := text_any w4 120 200 (by decide) 120 200 (by decide) (by decide)
  have HH := hide h
  clear h hb HB3
  go_wp2_with fail
  refine hc.mono ?_
  rintro e w5 ⟨rfl, hb⟩
  have HB5 := hide (HB4.out.trans (hb.mono HH.out.base))
  obtain ⟨T, hT⟩ : ∃ T : ByteArray, T = ⟨(List.replicate 200 120).toArray⟩ := ⟨_, rfl⟩
  rw [← hT]
  replace hc := c4 (HH.out.below hb) T hT
  clear hb HB4 HH hT
  go_wp2_with fail
  refine hc.mono ?_
  rintro e w6 ⟨rfl, h, hb⟩
  have HB6 := hide (HB5.out.trans hb)
  have HH := hide h
  clear h hb HB5
  go_wp2_with fail
  refine (c5 (g := w6.heap.size) (HH.out.push (it := .block w6.heap.size ftObj) (S' := fun b => b = w6.heap.size) ((Below.refl _ _).alloc (Nat.le_refl _) ftObj) ⟨heap_alloc_new w6 ftObj, fun _ => Iff.rfl⟩ (fun b hb => by rw [hb]; exact Nat.le_refl _)) (heap_alloc_new w6 ftObj)).mono ?_
  rintro e w7 ⟨rfl, h, hb⟩
  have HB7 := hide (HB6.out.trans (Below.trans ((Below.refl _ _).alloc (by rw [← HBE.out]; exact HB6.out.size) ftObj) hb))
  replace hc := c6 h
  clear h hb HB6 HH
  go_wp2_with fail
  refine hc.mono ?_
  rintro e w8 ⟨⟨x8, rfl⟩, h, hb⟩
  have HB8 := hide (HB7.out.trans hb)
  replace hc := c7 h
  have HH := hide h
  clear h hb HB7
  go_wp2_with fail
  refine hc.mono ?_
  rintro e w9 ⟨rfl, rfl⟩
  replace hc := c8 HH.out
  clear HH
  go_wp2_with fail
  refine hc.mono ?_
  rintro e w10 ⟨rfl, h, hb⟩
  have HB10 := hide (HB8.out.trans hb)
  replace hc := c9 h
  clear h hb HB8
  go_wp2_with fail
  refine hc.mono ?_
  rintro e w11 ⟨rfl, h, hb⟩
  have HB11 := hide (HB10.out.trans hb)
  replace hc := c10 h
  have HH := hide h
  clear h hb HB10
  go_wp2_with fail
  refine hc.mono ?_
  rintro e w12 ⟨rfl, rfl⟩
  replace hc := c11 HH.out
  clear HH
  go_wp2_with fail
  refine hc.mono ?_
  rintro e w13 ⟨⟨R, rfl, hR⟩, h, hb⟩
  have HB13 := hide (HB11.out.trans hb)
  have HR := hide hR
  have HH := hide h
  replace hc := text_any w13 120 64 (by decide) 120 64 (by decide) (by decide)
  clear h hb HB11 hR
  go_wp2_with fail
  refine hc.mono ?_
  rintro e w14 ⟨rfl, hb⟩
  have HB14 := hide (HB13.out.trans (hb.mono HH.out.base))
  replace hc := c12 (HH.out.below hb)
  clear hb HB13 HH
  obtain ⟨T2, hT2⟩ : ∃ T2 : ByteArray, T2 = ⟨(List.replicate 64 120).toArray⟩ := ⟨_, rfl⟩
  rw [← hT2]
  have hs2 : T2.size = 64 := by rw [hT2]; decide +kernel
  have g1 : ¬ 9223372036854775807 < 1 + T2.size := by omega
  have g2 : ¬ 9223372036854775807 < 1 + T2.size + 3 := by omega
  have g3 : (R.toList == ((⟨#[0]⟩ : ByteArray) ++ T2 ++ (⟨#[121, 121, 0]⟩ : ByteArray)).toList) = true := by
    rw [HR.out, hT2]
    decide +kernel
  clear hs2 hT2
  go_wp2_with fail
  refine hc.mono ?_
  rintro e w15 ⟨ad, cap, rfl, hr, h, hb⟩
  have HB15 := hide (HB14.out.trans hb)
  have HH := hide h
  have HRW := hide hr
  clear h hb HB14 hr g1 g2 g3
  go_wp2_with fail
  have hb16 : Below w15.heap.size w15 (w15.alloc (.cells #[.string ⟨#[97]⟩, .string ⟨#[98]⟩] 9)) := (Below.refl _ _).alloc (Nat.le_refl _) _
  have hr16 : RowAt (w15.alloc (.cells #[.string ⟨#[97]⟩, .string ⟨#[98]⟩] 9)) ad ([kA, kB].map encStr) := HRW.out.same (Turn.of_below hb16 (fun _ => False)) (fun _ _ _ => id)
  have hr17 : RowAt (w15.alloc (.cells #[.string ⟨#[97]⟩, .string ⟨#[98]⟩] 9)) (some ⟨w15.heap.size, 0, none⟩) ([kA, kB].map encStr) := .inr ⟨_, 0, rfl, by simp, fun i hi => by
    rw [cell_of_row _ w15.heap.size _ _ _ (0, 0) (heap_alloc_new w15 _)]
    have hi' : i < 2 := hi
    match i, hi' with
    | 0, _ => rfl
    | 1, _ => rfl⟩
  refine (sameTexts_any _ ad _ cap 2 [kA, kB] [kA, kB] hr16 hr17 (by decide) (by decide)).mono ?_
  rintro e w16 ⟨rfl, hb⟩
  have hl16 := (HH.out.below hb16).below hb
  have HB16 := hide (HB15.out.trans ((hb16.mono HH.out.base).trans (hb.mono (HH.out.below hb16).base)))
  replace hc := c13 hl16
  clear hb hb16 hr16 hr17 HRW HH HB15 hl16
  go_wp2_with fail
  refine hc.mono ?_
  rintro e w17 ⟨ad2, cap2, rfl, h, hb⟩
  have HB17 := hide (HB16.out.trans hb)
  replace hc := c14 h
  clear h hb HB16
  go_wp2_with fail
  refine hc.mono ?_
  rintro e w18 ⟨rfl, h, hb⟩
  have HB18 := hide (HB17.out.trans hb)
  clear h hb HB17 hc
  go_wp2
  go_ret
  exact ⟨rfl, HB18.out⟩
end Go.Proofs.YtcmhfpiglacdaaaGreat
