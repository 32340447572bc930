/-
  DiskRefused: the walk.
-/
import Derived.Test.YtcmhfpiglacdaaaSeen
import Derived.Deep.CutRange
namespace Go.Proofs.Ytcmhfpiglacdaaa
open Go.RowKit Go.Maps Go.WideMaps
set_option linter.unusedVariables false
set_option linter.unusedSimpArgs false
theorem Lies.one {B : Nat} {w : World} {L : List Item} {it : Item} {i : Nat} (h : Lies B w L) (hi : L[i]? = some it) : Lies B w [it] := by
  obtain ⟨S, hP, hB⟩ := h.get hi
  refine ⟨h.base, fun _ => S, fun j x hj => ?_, fun _ b _ => hB b, fun j k b hj hk hne => ?_⟩
  · have : j = 0 := by have := (List.getElem?_eq_some_iff.1 hj).1; simp at this; omega
    subst this
    cases hj
    exact hP
  · simp at hj hk
    omega
theorem get_set {α : Type} {L : List α} {i : Nat} {x : α} (h : L[i]? = some x) (y : α) : (L.set i y)[i]? = some y := List.getElem?_set_self (List.getElem?_eq_some_iff.1 h).1
section
variable {B : Nat} {w : World} {L : List Item} {i p : Nat} {A : AD} {P P' : AP} {F : AF} {c : UInt8}
theorem w_ok (h : Lies B w L) (hi : L[i]? = some (.disk p A)) (hs : Stands A P F c) (ho : P.off = false) (hc : P.count 1 = (0, P')) (b : UInt8) :
    Calls Try.prog 29 #[.pointer (some ⟨p, 0, none⟩), .string ⟨#[97, 114, 109, 101, 100]⟩, .int .i64 0, .string ⟨#[b]⟩] w fun e w' => e = .returned (.int .i64 0) ∧ ∃ A', Stands A' P' (F.write 0 [b]) b ∧ Lies B w' (L.set i (.disk p A')) ∧ Below B w w' := by
  refine (s_write h hi ⟨#[97, 114, 109, 101, 100]⟩ (by decide) 0 (by decide) ⟨#[b]⟩ (by show 1 ≤ _; omega)).mono ?_
  rintro e w' ⟨he, hl, hb⟩
  have hk := hs.writes ho b hc (hl.ok (get_set hi _))
  exact ⟨by rw [he]; exact congrArg (fun x => Ending.returned (.int .i64 x)) hk.1, _, hk.2, hl, hb⟩
theorem w_no (h : Lies B w L) (hi : L[i]? = some (.disk p A)) (hs : Stands A P F c) (ho : P.off = false) {x : Int} (hx : x ≠ 0) (hc : P.count 1 = (x, P')) (b : UInt8) :
    Calls Try.prog 29 #[.pointer (some ⟨p, 0, none⟩), .string ⟨#[97, 114, 109, 101, 100]⟩, .int .i64 0, .string ⟨#[b]⟩] w fun e w' => e = .returned (.int .i64 x) ∧ ∃ A', Stands A' P' F c ∧ Lies B w' (L.set i (.disk p A')) ∧ Below B w w' := by
  refine (s_write h hi ⟨#[97, 114, 109, 101, 100]⟩ (by decide) 0 (by decide) ⟨#[b]⟩ (by show 1 ≤ _; omega)).mono ?_
  rintro e w' ⟨he, hl, hb⟩
  have hk := hs.refused ho b hx hc (hl.ok (get_set hi _))
  exact ⟨by rw [he]; exact congrArg (fun x => Ending.returned (.int .i64 x)) hk.1, _, hk.2, hl, hb⟩
theorem y_sync (h : Lies B w L) (hi : L[i]? = some (.disk p A)) (hs : Stands A P F c) (ho : P.off = false) {x : Int} (hc : P.count 2 = (x, P')) :
    Calls Try.prog 14 #[.pointer (some ⟨p, 0, none⟩), .string ⟨#[97, 114, 109, 101, 100]⟩] w fun e w' => e = .returned (.int .i64 x) ∧ ∃ A' F', Stands A' P' F' c ∧ Lies B w' (L.set i (.disk p A')) ∧ Below B w w' := by
  refine (s_sync h hi ⟨#[97, 114, 109, 101, 100]⟩ (by decide)).mono ?_
  rintro e w' ⟨he, hl, hb⟩
  have hk := hs.syncs ho hc (hl.ok (get_set hi _))
  obtain ⟨h1, F', h2⟩ := hk
  exact ⟨by rw [he]; exact congrArg (fun x => Ending.returned (.int .i64 x)) h1, _, F', h2, hl, hb⟩
end
def FInv (n k : Nat) (A : AD) : Prop := ∃ F c, Stands A (if k ≤ n then AP.mk false false 0 0 (((n - k : Nat) : Int) + 1) else AP.mk true true 0 0 0) F c ∧ (0 < min k n → ∃ G, F = AF.write G 0 [53] ∧ c = 53)
/-- A write of the falling disk. -/
theorem f_write {B : Nat} {w : World} {p n k : Nat} {A : AD} (h : Lies B w [.disk p A]) (hf : FInv n k A) (hk : k ≤ n) :
    Calls Try.prog 29 #[.pointer (some ⟨p, 0, none⟩), .string ⟨#[97, 114, 109, 101, 100]⟩, .int .i64 0, .string ⟨#[53]⟩] w fun e w' => e = .returned (.int .i64 (if k = n then 9 else 0)) ∧ ∃ A', FInv n (k + 1) A' ∧ A'.pow.off = decide (k = n) ∧ Lies B w' [.disk p A'] ∧ Below B w w' := by
  obtain ⟨F, c, hs, hw⟩ := hf
  rw [if_pos hk] at hs
  have hc := count_fall (n - k) 1
  by_cases e : k = n
  · subst e
    rw [if_pos (by omega)] at hc
    refine (w_no (i := 0) h rfl hs rfl (by decide) hc 53).mono ?_
    rintro e w' ⟨he, A', hs', hl, hb⟩
    refine ⟨by rw [he, if_pos rfl], A', ⟨F, c, by rw [if_neg (by omega)]; exact hs', fun hm => hw (by omega)⟩, by rw [hs'.pow]; simp, hl, hb⟩
  · rw [if_neg (by omega)] at hc
    refine (w_ok (i := 0) h rfl hs rfl hc 53).mono ?_
    rintro e' w' ⟨he, A', hs', hl, hb⟩
    refine ⟨by rw [he, if_neg e], A', ⟨_, _, by rw [if_pos (by omega), show (((n - (k + 1) : Nat) : Int) + 1) = ((n - k : Nat) : Int) by omega]; exact hs', fun hm => ⟨F, rfl, rfl⟩⟩, by rw [hs'.pow]; simp [e], hl, hb⟩
theorem head_take {l : List UInt8} {c : UInt8} (h : l.head? = some c) : l.take 1 = [c] := by
  cases l with
  | nil => simp at h
  | cons a r => simp at h; simp [h]
theorem head_len {l : List UInt8} {c : UInt8} (h : l.head? = some c) : 1 ≤ l.length := by
  cases l with
  | nil => simp at h
  | cons a r => simp
theorem extract_one (l : List UInt8) (M : Nat) : ((⟨l.toArray⟩ : ByteArray).extract 0 M).data.toList = l.take M := by
  rw [ByteArray.data_extract]
  simp
def ftO : Obj := .cells #[.string ⟨#[97, 114, 109, 101, 100]⟩, .int .i64 0, .int .i64 1, .string ⟨#[]⟩] 67 (0, 0)
theorem c_own {B : Nat} {w : World} {p q r g : Nat} {A C D : AD} (h : Lies B w [.disk p D, .disk q C, .disk r A, .block g ftO]) (hg : w.heap[g]? = some ftO) : Calls Try.prog 22 #[.pointer (some ⟨r, 0, none⟩), .slice (some ⟨g, 0, none⟩) 1 1] w fun e w' => e = .returned (.tuple #[]) ∧ Lies B w' [.disk p D, .disk q C, .disk r (A.crash ([ftA].map FT.abs))] ∧ Below B w w' := by
  refine (s_crashOwn (i := 2) (j := 3) h rfl (by decide) rfl 0 [ftA] 1 (.inr ⟨g, 0, rfl, lt_of_some hg, fun i hi j hj => ?_⟩) (fun x hx => by cases List.mem_singleton.1 hx; exact ⟨by decide, by decide⟩) (by decide)).mono (fun e w' ⟨he, hl, hb⟩ => ⟨he, (show Lies B w' ([.disk p D, .disk q C, .disk r (A.crash ([ftA].map FT.abs))] ++ [.block g ftO]) from hl).drop, hb⟩)
  rw [cell_of_row w g _ _ _ (0, 0) hg]
  have hi' : i < 1 := hi
  match i, hi', j, hj with
  | 0, _, 0, _ => rfl
  | 0, _, 1, _ => rfl
  | 0, _, 2, _ => rfl
  | 0, _, 3, _ => rfl
set_option maxRecDepth 5000 in
set_option maxHeartbeats 4000000 in
theorem fallen_any {B : Nat} {w : World} {p : Nat} {X : AD} {F : AF} {c : UInt8} (h : Lies B w [.disk p X]) (hs : Stands X p0 F c) (n : Nat) (hn : n ≤ 7) :
    Calls Try.prog 31 #[.pointer (some ⟨p, 0, none⟩), .int .i64 (n : Int)] w fun e w' => e = .returned (.bool true) ∧ Below B w w' := by
  have hc := s_fall (i := 0) h rfl ((n : Int) + 1) (by omega)
  have HS := hide hs
  have hn0 : (0 : Int) ≤ (n : Int) := by omega
  have hn7 : (n : Int) ≤ 7 := by omega
  have HB0 := hide h.base
  clear h hs
  go_enter Try.func31, Try.ntmps31
  go_wp2_with fail
  refine hc.mono ?_
  rintro e w1 ⟨rfl, h, hb⟩
  have H1 : Hid (Lies B w1 [.disk p (X.fallen ((n : Int) + 1))]) := h
  have HB1 := hide hb
  have HF : Hid (FInv n 0 (X.fallen ((n : Int) + 1))) := ⟨F, c, by rw [if_pos (by omega), Nat.sub_zero]; exact HS.out.fallen _ (by omega) (H1.out.ok (i := 0) rfl), fun hm => by omega⟩
  clear h hb hc
  go_wp2
  go_loopw [5] (fun i wr => ∃ (k : Nat) (A : AD), k ≤ n + 1 ∧ i = .int .i64 (k : Int) ∧ FInv n k A ∧ Lies B wr [.disk p A] ∧ Below B w wr) (fun i _ => n + 1 - (intOf i).toNat)
  case atStart => exact ⟨0, _, by omega, rfl, HF.out, H1.out, HB1.out⟩
  case round =>
    clear HF H1 HB1 HS
    obtain ⟨k, A, hk, rfl, hf, hlr, hbr⟩ := hrel
    by_cases hlt : k ≤ n
    · have dk : decide ((k : Int) ≤ (n : Int)) = true := decide_eq_true (by omega)
      have hc := f_write hlr hf hlt
      have HBR := hide hbr
      clear hlr hbr hf
      by_cases hkn : k = n
      · rw [if_pos hkn] at hc
        subst hkn
        have dlt : decide ((k : Int) < (k : Int)) = false := decide_eq_false (by omega)
        go_wp2_with fail
        refine hc.mono ?_
        rintro e w2 ⟨rfl, A', hf, ho, hl, hb⟩
        have HB2 := hide (HBR.out.trans hb)
        have H2 := hide hl
        have HF := hide hf
        replace hc := s_off (i := 0) hl rfl
        have ho' : A'.pow.off = true := by rw [ho]; simp
        rw [ho'] at hc
        clear ho'
        clear hf ho hl hb HBR
        go_wp2_with fail
        refine hc.mono ?_
        rintro e w3 ⟨rfl, rfl⟩
        clear hc
        go_wp2
        go_roundw
        case rel => exact ⟨k + 1, A', by omega, by go_num, HF.out, H2.out, HB2.out⟩
        case measure => first | (simp [intOf]; done) | (simp [intOf]; omega)
      · rw [if_neg hkn] at hc
        have dlt : decide ((k : Int) < (n : Int)) = true := decide_eq_true (by omega)
        have hln : k < n := by omega
        have deq : ((k : Int) == (n : Int)) = false := beq_eq_false_iff_ne.2 (by omega)
        have HKN := hide hkn
        clear hkn
        go_wp2_with fail
        refine hc.mono ?_
        rintro e w2 ⟨rfl, A', hf, ho, hl, hb⟩
        have HB2 := hide (HBR.out.trans hb)
        have H2 := hide hl
        have HF := hide hf
        replace hc := s_off (i := 0) hl rfl
        rw [ho, decide_eq_false HKN.out] at hc
        clear hf ho hl hb HBR
        go_wp2_with fail
        refine hc.mono ?_
        rintro e w3 ⟨rfl, rfl⟩
        clear hc
        go_wp2
        go_roundw
        case rel => exact ⟨k + 1, A', by omega, by go_num, HF.out, H2.out, HB2.out⟩
        case measure => first | (simp [intOf]; done) | (simp [intOf]; omega)
    · have hkl : k = n + 1 := by omega
      subst hkl
      have dk : decide (((n + 1 : Nat) : Int) ≤ (n : Int)) = false := decide_eq_false (by omega)
      have dk2 : ¬ n + 1 ≤ n := by omega
      obtain ⟨G, b, hst, hw⟩ := hf
      rw [if_neg (by omega)] at hst
      have HST := hide hst
      have HW : Hid (0 < n → ∃ G', G = AF.write G' 0 [53] ∧ b = 53) := fun hp => hw (by omega)
      have HOF : Hid (A.pow.off = true) := by show _ = _; rw [hst.pow]
      have hc := s_copy (i := 0) hlr rfl
      have HBR := hide hbr
      clear hlr hbr hst hw hlt
      go_wp2_with fail
      refine hc.mono ?_
      rintro e w2 ⟨pc, rfl, h, hb⟩
      have HB2 := hide (HBR.out.trans hb)
      have hsy : A.sync nmA = (9, A) := by unfold AD.sync; rw [HOF.out, if_pos rfl]
      replace hc : Calls Try.prog 14 #[.pointer (some ⟨p, 0, none⟩), .string ⟨#[97, 114, 109, 101, 100]⟩] w2 fun e w' => e = .returned (.int .i64 9) ∧ Lies B w' [.disk p A, .disk pc A] ∧ Below B w2 w' := by
        have hx := s_sync (i := 0) h rfl ⟨#[97, 114, 109, 101, 100]⟩ (by decide)
        rw [show (⟨#[97, 114, 109, 101, 100]⟩ : ByteArray).data.toList = nmA from rfl, hsy] at hx
        exact hx
      clear h hb hsy HBR
      go_wp2_with fail
      refine hc.mono ?_
      rintro e w3 ⟨rfl, h, hb⟩
      have HB3 := hide (HB2.out.trans hb)
      replace hc := s_list (i := 0) h rfl
      have hli : A.list = [] := by unfold AD.list; rw [HOF.out, if_pos rfl]
      rw [hli] at hc
      clear h hb HB2 hli
      go_wp2_with fail
      refine hc.mono ?_
      rintro e w4 ⟨v4, rfl, hr, h, hb⟩
      obtain ⟨ad4, cap4, e4, _, _, _⟩ := row_at hr
      subst e4
      have HB4 := hide (HB3.out.trans hb)
      have h4 : Lies B w4 [.disk p A, .disk pc A] := (show Lies B w4 ([.disk p A, .disk pc A] ++ _) from h).drop
      replace hc := s_copy (i := 0) h4 rfl
      clear h h4 hb HB3 hr
      go_wp2_with fail
      refine hc.mono ?_
      rintro e w5 ⟨pk, rfl, h, hb⟩
      have HB5 := hide (HB4.out.trans hb)
      replace hc := s_crash0 (i := 0) h rfl
      clear h hb HB4
      go_wp2_with fail
      refine hc.mono ?_
      rintro e w6 ⟨rfl, h, hb⟩
      have HB6 := hide (HB5.out.trans hb)
      have H6 : Hid (Lies B w6 [.disk p (A.crash []), .disk pc A, .disk pk A]) := h
      clear h hb hc HB5
      go_wp2_with fail
      refine (c_own (g := w6.heap.size) (H6.out.push (it := .block w6.heap.size ftO) (S' := fun b => b = w6.heap.size) ((Below.refl _ _).alloc (Nat.le_refl _) ftO) ⟨heap_alloc_new w6 ftO, fun _ => Iff.rfl⟩ (fun b hb => by rw [hb]; exact Nat.le_refl _)) (heap_alloc_new w6 ftO)).mono ?_
      rintro e w7 ⟨rfl, h, hb⟩
      have HB7 := hide (HB6.out.trans (Below.trans ((Below.refl _ _).alloc (Nat.le_trans HB0.out HB6.out.size) ftO) hb))
      have hc := s_on (i := 0) h rfl
      clear h hb HB6 H6
      go_wp2_with fail
      refine hc.mono ?_
      rintro e w8 ⟨rfl, h, hb⟩
      have HB8 := hide (HB7.out.trans hb)
      replace hc := s_on (i := 1) h rfl
      rw [fallen_same HST.out.pow] at hc
      clear h hb HB7
      go_wp2_with fail
      refine hc.mono ?_
      rintro e w9 ⟨rfl, h, hb⟩
      have HB9 := hide (HB8.out.trans hb)
      replace hc := s_on (i := 2) h rfl
      clear h hb HB8
      go_wp2_with fail
      refine hc.mono ?_
      rintro e w10 ⟨rfl, h, hb⟩
      have HB10 := hide (HB9.out.trans hb)
      obtain ⟨D, hD⟩ : ∃ D, (A.crash []).on = D := ⟨_, rfl⟩
      obtain ⟨K, hK⟩ : ∃ K, (A.crash ([ftA].map FT.abs)).on = K := ⟨_, rfl⟩
      have h10 : Lies B w10 [.disk p D, .disk pc D, .disk pk K] := by rw [← hD, ← hK]; exact h
      have hcr := HST.out.crashed (by rw [hD]; exact h10.ok (i := 0) rfl)
      rw [hD] at hcr
      have HCR := hide hcr
      have HKP : Hid (0 < n → (K.all nmA).head? = some 53) := fun hp => by
        obtain ⟨G', rfl, rfl⟩ := HW.out hp
        have := HST.out.keeps (by rw [hK]; exact h10.ok (i := 2) rfl)
        rw [hK] at this
        exact this
      replace hc := seen_any (i := 1) (j := 0) h10 rfl rfl
      clear h h10 hb HB9 hD hK hcr HST HW HOF
      go_wp2_with fail
      refine hc.mono ?_
      rintro e w11 ⟨rfl, h, hb⟩
      have HB11 := hide (HB10.out.trans hb)
      replace hc := s_dirty (i := 0) h rfl ⟨#[97, 114, 109, 101, 100]⟩ (by decide)
      rw [show (⟨#[97, 114, 109, 101, 100]⟩ : ByteArray).data.toList = nmA from rfl, HCR.out.2] at hc
      clear h hb HB10
      go_wp2_with fail
      refine hc.mono ?_
      rintro e w12 ⟨v12, rfl, hr, h, hb⟩
      obtain ⟨ad12, cap12, e12, _, _, _⟩ := row_at hr
      subst e12
      have HB12 := hide (HB11.out.trans hb)
      have H12 : Hid (Lies B w12 [.disk p D, .disk pc D, .disk pk K]) := (show Lies B w12 ([.disk p D, .disk pc D, .disk pk K] ++ _) from h).drop
      clear h hb hr HB11 hc
      by_cases hn00 : n = 0
      · have d0 : ((n : Int) == 0) = true := beq_iff_eq.2 (by omega)
        have hc := s_write (i := 0) H12.out rfl ⟨#[97, 114, 109, 101, 100]⟩ (by decide) 0 (by decide) ⟨#[54]⟩ (by decide)
        rw [show (⟨#[97, 114, 109, 101, 100]⟩ : ByteArray).data.toList = nmA from rfl, show (⟨#[54]⟩ : ByteArray).data.toList = [54] from rfl, HCR.out.1] at hc
        clear hn00
        go_wp2_with fail
        refine hc.mono ?_
        rintro e w13 ⟨rfl, _, hb⟩
        have HB13 := hide (HB12.out.trans hb)
        clear hc hb HB12
        go_wp2
        go_ret
        exact ⟨rfl, HB13.out⟩
      · have d0 : ((n : Int) == 0) = false := beq_eq_false_iff_ne.2 (by omega)
        obtain ⟨l, hl⟩ : ∃ l, K.all nmA = l := ⟨_, rfl⟩
        have hh := HKP.out (by omega)
        rw [hl] at hh
        obtain ⟨V, hV⟩ : ∃ V, (⟨(K.all nmA).toArray⟩ : ByteArray) = V := ⟨_, rfl⟩
        have hVl : V.data.toList = l := by rw [← hV, ← hl]
        have hVs : 1 ≤ V.size := by rw [← str_len, hVl]; exact head_len hh
        have hVe : V.extract 0 1 = ⟨#[53]⟩ := bytes_ext (by
          rw [ByteArray.data_extract]
          simp only [Array.toList_extract, List.extract, Nat.sub_zero, List.drop_zero]
          rw [hVl, head_take hh])
        have hc := all_to (i := 2) H12.out rfl ⟨#[97, 114, 109, 101, 100]⟩ (by decide) V hV
        clear hn00 hl hh hV hVl HKP
        go_wp2_with fail
        refine hc.mono ?_
        rintro e w13 ⟨rfl, h, hb⟩
        have HB13 := hide (HB12.out.trans hb)
        replace hc := s_write (i := 0) h rfl ⟨#[97, 114, 109, 101, 100]⟩ (by decide) 0 (by decide) ⟨#[54]⟩ (by decide)
        rw [show (⟨#[97, 114, 109, 101, 100]⟩ : ByteArray).data.toList = nmA from rfl, show (⟨#[54]⟩ : ByteArray).data.toList = [54] from rfl, HCR.out.1] at hc
        clear h hb HB12 H12
        go_wp2_with fail
        refine hc.mono ?_
        rintro e w14 ⟨rfl, _, hb⟩
        have HB14 := hide (HB13.out.trans hb)
        clear hc hb HB13
        go_wp2
        go_ret
        exact ⟨rfl, HB14.out⟩
/-- The y loop: an arm for syncs. -/
def YInv (n k : Nat) (A : AD) : Prop := ∃ F, Stands A (AP.mk false false (((n + 1 - k : Nat) : Int)) 2 0) F 49
/-- The z loop: an arm for all. -/
def ZInv (n k : Nat) (A : AD) : Prop := ∃ F, Stands A (AP.mk false false (((n + 1 - k : Nat) : Int)) 0 0) F (if min k n = 0 then 49 else 51)
theorem y_write {B : Nat} {w : World} {L : List Item} {i p n k : Nat} {A : AD} (h : Lies B w L) (hi : L[i]? = some (.disk p A)) (hf : YInv n k A) :
    Calls Try.prog 29 #[.pointer (some ⟨p, 0, none⟩), .string ⟨#[97, 114, 109, 101, 100]⟩, .int .i64 0, .string ⟨#[49]⟩] w fun e w' => e = .returned (.int .i64 0) ∧ ∃ A', YInv n k A' ∧ Lies B w' (L.set i (.disk p A')) ∧ Below B w w' := by
  obtain ⟨F, hs⟩ := hf
  refine (w_ok h hi hs rfl (count_other _) 49).mono ?_
  rintro e w' ⟨he, A', hs', hl, hb⟩
  exact ⟨he, A', ⟨_, hs'⟩, hl, hb⟩
theorem y_syncs {B : Nat} {w : World} {L : List Item} {i p n k : Nat} {A : AD} (h : Lies B w L) (hi : L[i]? = some (.disk p A)) (hf : YInv n k A) (hk : k ≤ n) :
    Calls Try.prog 14 #[.pointer (some ⟨p, 0, none⟩), .string ⟨#[97, 114, 109, 101, 100]⟩] w fun e w' => e = .returned (.int .i64 (if k = n then 40 else 0)) ∧ ∃ A', YInv n (k + 1) A' ∧ Lies B w' (L.set i (.disk p A')) ∧ Below B w w' := by
  obtain ⟨F, hs⟩ := hf
  rw [show (((n + 1 - k : Nat)) : Int) = ((n - k : Nat) : Int) + 1 by omega] at hs
  refine (y_sync h hi hs rfl (count_arm 2 2 (n - k) (.inr rfl))).mono ?_
  rintro e w' ⟨he, A', F', hs', hl, hb⟩
  refine ⟨?_, A', ⟨_, by rw [show n + 1 - (k + 1) = n - k by omega]; exact hs'⟩, hl, hb⟩
  rw [he]
  by_cases e : k = n
  · rw [if_pos e, if_pos (by omega)]
  · rw [if_neg e, if_neg (by omega)]
theorem z_write {B : Nat} {w : World} {L : List Item} {i p n k : Nat} {A : AD} (h : Lies B w L) (hi : L[i]? = some (.disk p A)) (hf : ZInv n k A) (hk : k ≤ n) :
    Calls Try.prog 29 #[.pointer (some ⟨p, 0, none⟩), .string ⟨#[97, 114, 109, 101, 100]⟩, .int .i64 0, .string ⟨#[51]⟩] w fun e w' => e = .returned (.int .i64 (if k = n then 40 else 0)) ∧ ∃ A', ZInv n (k + 1) A' ∧ Lies B w' (L.set i (.disk p A')) ∧ Below B w w' := by
  obtain ⟨F, hs⟩ := hf
  rw [show (((n + 1 - k : Nat)) : Int) = ((n - k : Nat) : Int) + 1 by omega] at hs
  have hc := count_arm 0 1 (n - k) (.inl rfl)
  by_cases e : k = n
  · rw [if_pos (by omega)] at hc
    refine (w_no h hi hs rfl (by decide) hc 51).mono ?_
    rintro e' w' ⟨he, A', hs', hl, hb⟩
    refine ⟨by rw [he, if_pos e], A', ⟨F, ?_⟩, hl, hb⟩
    rw [show n + 1 - (k + 1) = n - k by omega, show min (k + 1) n = min k n by omega]
    exact hs'
  · rw [if_neg (by omega)] at hc
    refine (w_ok h hi hs rfl hc 51).mono ?_
    rintro e' w' ⟨he, A', hs', hl, hb⟩
    refine ⟨by rw [he, if_neg e], A', ⟨F.write 0 [51], ?_⟩, hl, hb⟩
    rw [show n + 1 - (k + 1) = n - k by omega, if_neg (by omega)]
    exact hs'
theorem and7 (x : Int) : ∃ m : Nat, m ≤ 7 ∧ bits .and .i64 x 7 = (m : Int) := by
  have e : bits .and .i64 x 7 = IntKind.i64.wrap ((BitVec.ofInt 64 x &&& BitVec.ofInt 64 7).toNat : Int) := rfl
  have hle : (BitVec.ofInt 64 x &&& BitVec.ofInt 64 7).toNat ≤ 7 := by
    rw [BitVec.toNat_and]
    refine Nat.le_trans Nat.and_le_right ?_
    decide
  rw [e]
  generalize (BitVec.ofInt 64 x &&& BitVec.ofInt 64 7).toNat = m at hle
  refine ⟨m, hle, ?_⟩
  rw [IntKind.wrap_i64]
  omega
set_option maxRecDepth 5000 in
set_option maxHeartbeats 16000000 in
theorem refused_walk (w : World) (ad : Option Addr) (cap : Nat) (os : List OP) (h : Script w.heap.size w ad os) (o : OP) (hok : o.Ok) (hlie : o.Lie w.heap.size w) (n : Int) (hn : -9223372036854775808 ≤ n ∧ n < 9223372036854775808) :
    Calls Try.prog 6 #[.slice ad os.length cap, .agg o.cs, .int .i64 n] w fun e w' => e = .returned (.bool true) ∧ Below w.heap.size w w' := by
  obtain ⟨w0, hw0⟩ : ∃ w0, w.alloc (.cells o.cs 44) = w0 := ⟨_, rfl⟩
  have hb0 : Below w.heap.size w w0 := by rw [← hw0]; exact (Below.refl _ _).alloc (Nat.le_refl _) _
  obtain ⟨g, hg⟩ : ∃ g, w.heap.size = g := ⟨_, rfl⟩
  have hgs : w0.heap.size = g + 1 := by rw [← hw0, ← hg]; simp
  have hcell : ∀ j, w0.cell? ⟨g, j, none⟩ = o.cs[j]? := fun j => by rw [← hw0, ← hg, cell_of_row _ w.heap.size j _ _ (0, 0) (heap_alloc_new w _)]
  have hblk : w0.heap[g]? = some (.cells o.cs 44 (0, 0)) := by rw [← hw0, ← hg]; exact heap_alloc_new w _
  obtain ⟨B, hB⟩ : ∃ B, w0.heap.size = B := ⟨_, rfl⟩
  have hgB : g < B := by omega
  have h1 := h.below hb0
  have hS0 : Script w0.heap.size w0 ad os := ⟨h1.at_, fun hne b o ha => by have := h1.lt hne b o ha; omega, h1.ok, fun x hx => ⟨(h1.lie x hx).at_, fun hne b f ha => by have := (h1.lie x hx).lt hne b f ha; omega⟩, h1.len⟩
  have hl0 : o.Lie B w0 := ⟨(hlie.below hb0).at_, fun hne b f ha => by have := hlie.lt hne b f ha; omega⟩
  have hc := made_any w0 ad cap os hS0
  obtain ⟨D, hD⟩ : ∃ D, madeD os = D := ⟨_, rfl⟩
  have HP : Hid (D.pow = p0) := by rw [← hD]; exact made_pow os
  rw [hB, hD] at hc
  have HB0 : Hid (∀ w', Below B w0 w' → Below w.heap.size w w') := fun w' hb => hb0.trans (hb.mono (by omega))
  have HOK := hide hok
  have HL0 := hide hl0
  have HBLK : Hid (∀ w', Below B w0 w' → w'.heap[g]? = some (.cells o.cs 44 (0, 0))) := fun w' hb => by rw [hb.block g hgB]; exact hblk
  clear h h1 hS0 hl0 hb0 hD hok hlie hcell hblk
  rw [hg]
  go_enter Try.func6, Try.ntmps6
  go_wp2_with fail
  refine hc.mono ?_
  rintro e w1 ⟨p, rfl, h, hb⟩
  have HH := hide h
  have HB1 := hide hb
  clear h hb hc
  go_wp2_with fail
  refine (first_any w1).mono ?_
  rintro e w2 ⟨rfl, hb⟩
  have h2 := HH.out.below hb
  have HB2 := hide (HB1.out.trans (hb.mono HH.out.base))
  have hc := s_copy (i := 0) h2 rfl
  clear h2 hb HH HB1
  go_wp2_with fail
  refine hc.mono ?_
  rintro e w3 ⟨pc, rfl, h, hb⟩
  have HB3 := hide (HB2.out.trans hb)
  have H3 : Hid (Lies B w3 [.disk p D, .disk pc D]) := h
  clear h hb HB2 hc
  have hcell : ∀ j, w3.cell? ⟨g, j, none⟩ = o.cs[j]? := fun j => by rw [cell_of_row _ g j _ _ (0, 0) (HBLK.out w3 HB3.out)]
  have f0 : w3.cell? ⟨g, 0, none⟩ = some (.int .i64 o.kind) := hcell 0
  have f1 : w3.cell? ⟨g, 1, none⟩ = some (.bool o.two) := hcell 1
  have f2 : w3.cell? ⟨g, 2, none⟩ = some (.string o.name) := hcell 2
  have f3 : w3.cell? ⟨g, 3, none⟩ = some (.string o.to) := hcell 3
  have f4 : w3.cell? ⟨g, 4, none⟩ = some (.int .i64 o.at_) := hcell 4
  have f5 : w3.cell? ⟨g, 5, none⟩ = some (.int .i64 o.n) := hcell 5
  have f6 : w3.cell? ⟨g, 6, none⟩ = some (.string o.text) := hcell 6
  have f7 : w3.cell? ⟨g, 7, none⟩ = some (.slice o.ad o.fates.length o.cap) := hcell 7
  have hstep := step_any (i := 1) H3.out rfl o HOK.out (HL0.out.below HB3.out)
  unfold OP.cs at hstep
  clear hcell
  go_upto_region 7 with fail
  go_cut [57] from 28 to 57 (fun s57 wx => s57 = .bool false ∧ (∃ C, Lies B wx [.disk p D, .disk pc C]) ∧ Below B w0 wx)
  case first =>
    go_wp2_with fail
    all_goals try (go_meet; exact ⟨rfl, ⟨_, H3.out⟩, HB3.out⟩)
    by_cases hx : (D.step o).1 = 0
    · rw [hx] at hstep
      clear hx
      refine hstep.mono ?_
      rintro e w4 ⟨rfl, h, hb⟩
      have HB4 := hide (HB3.out.trans hb)
      have H4 := hide h
      clear h hb hstep f0 f1 f2 f3 f4 f5 f6 f7
      go_wp2_with fail
      go_meet
      exact ⟨rfl, ⟨_, H4.out⟩, HB4.out⟩
    · have hsame := step_refused HP.out o hx
      obtain ⟨x, hxe⟩ : ∃ x, (D.step o).1 = x := ⟨_, rfl⟩
      have dx : (x != 0) = true := by rw [bne_iff_ne, ← hxe]; exact hx
      rw [hxe, hsame] at hstep
      clear hx hsame hxe
      refine hstep.mono ?_
      rintro e w4 ⟨rfl, h, hb⟩
      have HB4 := hide (HB3.out.trans hb)
      have hc := equal_any (i := 1) (j := 0) h rfl rfl
      clear h hb hstep f0 f1 f2 f3 f4 f5 f6 f7
      go_wp2_with fail
      refine hc.mono ?_
      rintro e w5 ⟨rfl, h, hb⟩
      have HB5 := hide (HB4.out.trans hb)
      have H5 := hide h
      clear h hb hc
      go_wp2_with fail
      go_meet
      exact ⟨rfl, ⟨_, H5.out⟩, HB5.out⟩
  case rest =>
  clear f0 f1 f2 f3 f4 f5 f6 f7 hstep H3 HB3
  obtain ⟨rfl, ⟨C, h⟩, hb⟩ := hcut
  have HBC := hide hb
  have hc := s_copy (i := 0) (h.one (i := 0) rfl) rfl
  obtain ⟨m, hm, hme⟩ := and7 n
  clear h hb
  have hm7 : (m : Int) ≤ 7 := by omega
  have hm0 : (0 : Int) ≤ (m : Int) := by omega
  go_wp2_with fail
  clear hme hn
  refine hc.mono ?_
  rintro e w6 ⟨px, rfl, h, hb⟩
  have HB6 := hide (HBC.out.trans hb)
  have h6 := h.one (i := 1) rfl
  have hP := HP.out
  replace hc := s_write (i := 0) h6 rfl ⟨#[97, 114, 109, 101, 100]⟩ (by decide) 0 (by decide) ⟨#[49]⟩ (by decide)
  rw [show (⟨#[97, 114, 109, 101, 100]⟩ : ByteArray).data.toList = nmA from rfl, show (⟨#[49]⟩ : ByteArray).data.toList = [49] from rfl] at hc
  have HWR : Hid ((D.write nmA 0 [49]).2.Ok → (D.write nmA 0 [49]).1 = 0 → ∃ F, Stands (D.write nmA 0 [49]).2 p0 F 49) := stands_first hP
  obtain ⟨x, hx⟩ : ∃ x, (D.write nmA 0 [49]).1 = x := ⟨_, rfl⟩
  obtain ⟨X, hX⟩ : ∃ X, (D.write nmA 0 [49]).2 = X := ⟨_, rfl⟩
  rw [hx, hX] at hc HWR
  clear h h6 hb HBC hx hX hP
  by_cases hx0 : x = 0
  · have HWS : Hid (X.Ok → ∃ F, Stands X p0 F 49) := fun hk => HWR.out hk hx0
    subst hx0
    clear HWR
    go_wp2_with fail
    refine hc.mono ?_
    rintro e w7 ⟨rfl, h, hb⟩
    have h7 : Lies B w7 [.disk px X] := h
    have HB7 := hide (HB6.out.trans hb)
    obtain ⟨F, hst⟩ := HWS.out (h7.ok (i := 0) rfl)
    have HST := hide hst
    replace hc := s_copy (i := 0) h7 rfl
    clear h h7 hb HB6 hst HWS
    go_wp2_with fail
    refine hc.mono ?_
    rintro e w8 ⟨py, rfl, h, hb⟩
    have HB8 := hide (HB7.out.trans hb)
    replace hc := s_arm (i := 1) h rfl ((m : Int) + 1) 2 (by omega)
    clear h hb HB7
    go_wp2_with fail
    refine hc.mono ?_
    rintro e w9 ⟨rfl, h, hb⟩
    have HB9 := hide (HB8.out.trans hb)
    have H9 : Hid (Lies B w9 [.disk px X, .disk py (X.armed ((m : Int) + 1) 2)]) := h
    have HY : Hid (YInv m 0 (X.armed ((m : Int) + 1) 2)) := ⟨F, by rw [show ((m + 1 - 0 : Nat) : Int) = (m : Int) + 1 by omega]; exact HST.out.armed (P := p0) _ _ (by omega) (by omega) (H9.out.ok (i := 1) rfl)⟩
    clear h hb HB8 hc
    go_wp2
    go_loopw [11] (fun i wr => ∃ (k : Nat) (A : AD), k ≤ m + 1 ∧ i = .int .i64 (k : Int) ∧ YInv m k A ∧ Lies B wr [.disk px X, .disk py A] ∧ Below B w0 wr) (fun i _ => m + 1 - (intOf i).toNat)
    case atStart => exact ⟨0, _, by omega, rfl, HY.out, H9.out, HB9.out⟩
    case round =>
      clear HY H9 HB9
      obtain ⟨k, A, hk, rfl, hf, hlr, hbr⟩ := hrel
      by_cases hlt : k ≤ m
      · have dk : decide ((k : Int) ≤ (m : Int)) = true := decide_eq_true (by omega)
        have hc := y_write (i := 1) hlr rfl hf
        have HBR := hide hbr
        clear hlr hbr hf
        go_wp2_with fail
        refine hc.mono ?_
        rintro e w10 ⟨rfl, A1, hf, h, hb⟩
        have HB10 := hide (HBR.out.trans hb)
        replace hc := y_syncs (i := 1) h rfl hf hlt
        clear h hb HBR hf
        by_cases hkm : k = m
        · rw [if_pos hkm] at hc
          subst hkm
          go_wp2_with fail
          refine hc.mono ?_
          rintro e w11 ⟨rfl, A2, hf, h, hb⟩
          have HB11 := hide (HB10.out.trans hb)
          have HF := hide hf
          have H11 : Hid (Lies B w11 [.disk px X, .disk py A2]) := h
          clear h hb hf hc HB10
          go_wp2
          go_roundw
          case rel => exact ⟨k + 1, A2, by omega, by go_num, HF.out, H11.out, HB11.out⟩
          case measure => first | (simp [intOf]; done) | (simp [intOf]; omega)
        · rw [if_neg hkm] at hc
          have hln : k < m := by omega
          have dlt : decide ((k : Int) < (m : Int)) = true := decide_eq_true (by omega)
          clear hkm
          go_wp2_with fail
          refine hc.mono ?_
          rintro e w11 ⟨rfl, A2, hf, h, hb⟩
          have HB11 := hide (HB10.out.trans hb)
          have HF := hide hf
          have H11 : Hid (Lies B w11 [.disk px X, .disk py A2]) := h
          clear h hb hf hc HB10
          go_wp2
          go_roundw
          case rel => exact ⟨k + 1, A2, by omega, by go_num, HF.out, H11.out, HB11.out⟩
          case measure => first | (simp [intOf]; done) | (simp [intOf]; omega)
      · have hkl : k = m + 1 := by omega
        subst hkl
        have dk : decide (((m + 1 : Nat) : Int) ≤ (m : Int)) = false := decide_eq_false (by omega)
        have dk2 : ¬ m + 1 ≤ m := by omega
        obtain ⟨G, hst⟩ := hf
        rw [show ((m + 1 - (m + 1) : Nat) : Int) = 0 by omega] at hst
        have hc := w_ok (i := 1) hlr rfl hst rfl (count_none 1 2) 50
        have HBR := hide hbr
        clear hlr hbr hst hlt
        go_wp2_with fail
        refine hc.mono ?_
        rintro e w10 ⟨rfl, A1, hst, h, hb⟩
        have HB10 := hide (HBR.out.trans hb)
        have HMB := hide (hst.member rfl)
        have HS1 := hide hst
        have hdm : (A1.dirtyI nmA).length ≤ maxLen := Nat.le_trans (AD.dirty_few hst.ok nmA) (by unfold maxLen; omega)
        replace hc := s_dirty (i := 1) h rfl ⟨#[97, 114, 109, 101, 100]⟩ (by decide)
        rw [show (⟨#[97, 114, 109, 101, 100]⟩ : ByteArray).data.toList = nmA from rfl] at hc
        obtain ⟨dl, hdl⟩ : ∃ dl, A1.dirtyI nmA = dl := ⟨_, rfl⟩
        rw [hdl] at hc hdm HMB
        have hld : (dl.map (Value.int .i64)).length = dl.length := List.length_map ..
        clear h hb HBR hst hdl
        go_wp2_with fail
        refine hc.mono ?_
        rintro e w11 ⟨v11, rfl, hr, h, hb⟩
        rw [hld] at hr
        obtain ⟨ad11, cap11, e11, hr', _, _⟩ := row_at hr
        subst e11
        have HB11 := hide (HB10.out.trans hb)
        have H11 : Hid (Lies B w11 [.disk px X, .disk py A1]) := (show Lies B w11 ([.disk px X, .disk py A1] ++ _) from h).drop
        replace hc := member_any w11 ad11 cap11 dl hr' hdm 0
        rw [HMB.out] at hc
        clear h hb hr hr' HB10
        go_wp2_with fail
        refine hc.mono ?_
        rintro e w12 ⟨rfl, rfl⟩
        replace hc := y_sync (i := 1) H11.out rfl HS1.out rfl (count_none 2 2)
        go_wp2_with fail
        refine hc.mono ?_
        rintro e w13 ⟨rfl, A2, F2, hst, h, hb⟩
        have HB13 := hide (HB11.out.trans hb)
        replace hc := s_copy (i := 0) (h.one (i := 0) rfl) rfl
        clear h hb HB11 hst HS1 H11
        go_wp2_with fail
        refine hc.mono ?_
        rintro e w14 ⟨pz, rfl, h, hb⟩
        have HB14 := hide (HB13.out.trans hb)
        replace hc := s_arm (i := 1) h rfl ((m : Int) + 1) 0 (by omega)
        clear h hb HB13
        go_wp2_with fail
        refine hc.mono ?_
        rintro e w15 ⟨rfl, h, hb⟩
        have HB15 := hide (HB14.out.trans hb)
        have H15 : Hid (Lies B w15 [.disk px X, .disk pz (X.armed ((m : Int) + 1) 0)]) := h
        have HZ : Hid (ZInv m 0 (X.armed ((m : Int) + 1) 0)) := ⟨F, by rw [show ((m + 1 - 0 : Nat) : Int) = (m : Int) + 1 by omega, if_pos (by omega)]; exact HST.out.armed (P := p0) _ _ (by omega) (by omega) (H15.out.ok (i := 1) rfl)⟩
        clear h hb HB14 hc
        go_wp2
        go_loopw [13] (fun i wr => ∃ (k : Nat) (A : AD), k ≤ m + 1 ∧ i = .int .i64 (k : Int) ∧ ZInv m k A ∧ Lies B wr [.disk px X, .disk pz A] ∧ Below B w0 wr) (fun i _ => m + 1 - (intOf i).toNat)
        case atStart => exact ⟨0, _, by omega, rfl, HZ.out, H15.out, HB15.out⟩
        case round =>
          clear HZ H15 HB15
          obtain ⟨k, A, hk, rfl, hf, hlr, hbr⟩ := hrel
          by_cases hlt : k ≤ m
          · have dk : decide ((k : Int) ≤ (m : Int)) = true := decide_eq_true (by omega)
            have hc := z_write (i := 1) hlr rfl hf hlt
            have HBR := hide hbr
            clear hlr hbr hf
            by_cases hkm : k = m
            · rw [if_pos hkm] at hc
              subst hkm
              go_wp2_with fail
              refine hc.mono ?_
              rintro e w16 ⟨rfl, A2, hf, h, hb⟩
              have HB16 := hide (HBR.out.trans hb)
              have HF := hide hf
              have H16 : Hid (Lies B w16 [.disk px X, .disk pz A2]) := h
              clear h hb hf hc HBR
              go_wp2
              go_roundw
              case rel => exact ⟨k + 1, A2, by omega, by go_num, HF.out, H16.out, HB16.out⟩
              case measure => first | (simp [intOf]; done) | (simp [intOf]; omega)
            · rw [if_neg hkm] at hc
              have hln : k < m := by omega
              have dlt : decide ((k : Int) < (m : Int)) = true := decide_eq_true (by omega)
              clear hkm
              go_wp2_with fail
              refine hc.mono ?_
              rintro e w16 ⟨rfl, A2, hf, h, hb⟩
              have HB16 := hide (HBR.out.trans hb)
              have HF := hide hf
              have H16 : Hid (Lies B w16 [.disk px X, .disk pz A2]) := h
              clear h hb hf hc HBR
              go_wp2
              go_roundw
              case rel => exact ⟨k + 1, A2, by omega, by go_num, HF.out, H16.out, HB16.out⟩
              case measure => first | (simp [intOf]; done) | (simp [intOf]; omega)
          · have hkl : k = m + 1 := by omega
            subst hkl
            have dk : decide (((m + 1 : Nat) : Int) ≤ (m : Int)) = false := decide_eq_false (by omega)
            have dk2 : ¬ m + 1 ≤ m := by omega
            obtain ⟨G, hst⟩ := hf
            rw [show ((m + 1 - (m + 1) : Nat) : Int) = 0 by omega, show min (m + 1) m = m by omega] at hst
            obtain ⟨V, hV⟩ : ∃ V, (⟨(A.all nmA).toArray⟩ : ByteArray) = V := ⟨_, rfl⟩
            obtain ⟨c, hce⟩ : ∃ c : UInt8, (if m = 0 then 49 else 51) = c := ⟨_, rfl⟩
            rw [hce] at hst
            have hVl : V.data.toList = G.seen := by rw [← hV]; exact hst.all rfl
            have hVs : 1 ≤ V.size := by rw [← str_len, hVl]; exact hst.len
            have hVe : V.extract 0 1 = ⟨#[c]⟩ := bytes_ext (by
              rw [ByteArray.data_extract]
              simp only [Array.toList_extract, List.extract, Nat.sub_zero, List.drop_zero]
              rw [hVl, head_take hst.head])
            have hc := all_to (i := 1) hlr rfl ⟨#[97, 114, 109, 101, 100]⟩ (by decide) V hV
            have HS1 := hide hst
            have HBR := hide hbr
            clear hlr hbr hst hlt hV hVl
            go_wp2_with fail
            refine hc.mono ?_
            rintro e w16 ⟨rfl, h, hb⟩
            have HB16 := hide (HBR.out.trans hb)
            replace hc := w_ok (i := 1) h rfl HS1.out rfl (count_none 1 0) 52
            clear h hb HBR
            by_cases hm00 : m = 0
            · rw [if_pos hm00] at hce
              subst hce
              have dm : decide ((0 : Int) < (m : Int)) = false := decide_eq_false (by omega)
              have dm2 : ¬ 0 < m := by omega
              clear hm00
              go_wp2_with fail
              refine hc.mono ?_
              rintro e w17 ⟨rfl, A1, _, h, hb⟩
              have HB17 := hide (HB16.out.trans hb)
              replace hc := fallen_any (h.one (i := 0) rfl) HST.out m hm
              clear h hb HB16
              go_wp2_with fail
              refine hc.mono ?_
              rintro e w18 ⟨rfl, hb⟩
              have HB18 := hide (HB17.out.trans hb)
              clear hb hc
              go_wp2
              go_ret
              exact ⟨rfl, by rw [← hg]; exact HB0.out _ HB18.out⟩
            · rw [if_neg hm00] at hce
              subst hce
              have dm : decide ((0 : Int) < (m : Int)) = true := decide_eq_true (by omega)
              have dm2 : 0 < m := by omega
              clear hm00
              go_wp2_with fail
              refine hc.mono ?_
              rintro e w17 ⟨rfl, A1, _, h, hb⟩
              have HB17 := hide (HB16.out.trans hb)
              replace hc := fallen_any (h.one (i := 0) rfl) HST.out m hm
              clear h hb HB16
              go_wp2_with fail
              refine hc.mono ?_
              rintro e w18 ⟨rfl, hb⟩
              have HB18 := hide (HB17.out.trans hb)
              clear hb hc
              go_wp2
              go_ret
              exact ⟨rfl, by rw [← hg]; exact HB0.out _ HB18.out⟩
  · have dx : (x != 0) = true := bne_iff_ne.2 hx0
    clear hx0 HWR
    go_wp2_with fail
    refine hc.mono ?_
    rintro e w7 ⟨rfl, _, hb⟩
    have HB7 := hide (HB6.out.trans hb)
    clear hb hc HB6
    go_wp2
    go_ret
    exact ⟨rfl, by rw [← hg]; exact HB0.out _ HB7.out⟩
end Go.Proofs.Ytcmhfpiglacdaaa
