/-
  CheckKeeps: told; the walk (printed by gen_keeps.py).
-/
import Derived.Test.YtobfijpfdibccaaKKeep
import Derived.Test.YtobfijpfdibccaaKArgs
namespace Go.Proofs.Ytobfijpfdibccaa
open Go.RowKit Go.Maps Go.WideMaps
set_option linter.unusedVariables false
theorem armed_fs (A : AD) (n x : Int) : (A.armed n x).fs = A.fs := by unfold AD.armed; split <;> rfl
theorem armed_off (A : AD) (n x : Int) : (A.armed n x).pow.off = A.pow.off := by unfold AD.armed; split <;> rfl
def nmL : Key := [110, 97, 109, 101]
def bsL : Key := [98, 101, 115, 105, 100, 101]
def kval (o : Option Key) : ByteArray := ⟨(o.getD []).toArray⟩
/-- What a Load tells of the file, as told says it. -/
def Telled (A : AD) (k : Key) (V : ByteArray) (b : Bool) : Prop := (b = true ∧ A.load k = (V.data.toList, 0)) ∨ (b = false ∧ V = ⟨#[]⟩ ∧ A.load k = ([], 5))
theorem KFile.told {A : AD} {k : Key} {o : Option Key} (h : KFile A k o) (ho : A.pow.off = false) (hok : A.Ok) (hk : knameOk k = true) : Telled A k (kval o) o.isSome := by
  cases o with
  | none => exact .inr ⟨rfl, rfl, load_none h ho hk⟩
  | some p => exact .inl ⟨rfl, load_some h ho hok hk⟩
section
variable {B : Nat} {w : World} {L : List Item} {i p : Nat} {A : AD}
set_option maxRecDepth 5000 in
theorem told_any' (h : Lies B w L) (hi : L[i]? = some (.disk p A)) (k V : ByteArray) (b : Bool) (hT : Telled A k.data.toList V b) :
    Calls Try.prog 12 #[.pointer (some ⟨p, 0, none⟩), .string k] w fun e w' => e = .returned (.tuple #[.string V, .bool b, .bool true]) ∧ Lies B w' L ∧ Below B w w' := by
  have hc := load_any h hi k
  rcases hT with ⟨rfl, hl⟩ | ⟨rfl, rfl, hl⟩
  · rw [hl] at hc
    have hc' : Calls Try.prog 15 #[.pointer (some ⟨p, 0, none⟩), .string k] w fun e w' => e = .returned (.tuple #[.string V, .int .i64 0]) ∧ Lies B w' L ∧ Below B w w' := hc
    clear hc h hi hl
    go_enter Try.func12, Try.ntmps12
    go_wp2_with fail
    refine hc'.mono ?_
    rintro e w1 ⟨rfl, h, hb⟩
    have H := hide h
    have HB := hide hb
    clear h hb hc'
    go_wp2
    go_ret3
    exact ⟨rfl, H.out, HB.out⟩
  · rw [hl] at hc
    have hc' : Calls Try.prog 15 #[.pointer (some ⟨p, 0, none⟩), .string k] w fun e w' => e = .returned (.tuple #[.string ⟨#[]⟩, .int .i64 5]) ∧ Lies B w' L ∧ Below B w w' := hc
    clear hc h hi hl
    go_enter Try.func12, Try.ntmps12
    go_wp2_with fail
    refine hc'.mono ?_
    rintro e w1 ⟨rfl, h, hb⟩
    have H := hide h
    have HB := hide hb
    clear h hb hc'
    go_wp2
    go_ret3
    exact ⟨rfl, H.out, HB.out⟩
end
/-- The disk between two turns. -/
structure KSt (A : AD) (o ob : Option Key) : Prop where
  off : A.pow.off = false
  nm : KFile A nmL o
  bs : KFile A bsL ob
theorem KSt.same {A A' : AD} {o ob : Option Key} (h : KSt A o ob) (hf : A'.fs = A.fs) (hp : A'.pow.off = A.pow.off) : KSt A' o ob := ⟨hp.trans h.off, h.nm.of (by rw [hf]), h.bs.of (by rw [hf])⟩
theorem KSt.crash {A : AD} {o ob : Option Key} (h1 : KFile A nmL o) (h2 : KFile A bsL ob) (l : List AFate) : KSt (A.crash l).on o ob := ⟨rfl, (h1.crash l).on, (h2.crash l).on⟩
theorem bs_keeps {A : AD} {ob : Option Key} {p : Key} (h : KFile A bsL ob) : KFile (A.save nmL p).2 bsL ob := h.of (save_get (by decide) (by decide))
theorem nm_keeps {A : AD} {o : Option Key} {p : Key} (h : KFile A nmL o) (he : (A.save nmL p).1 ≠ 0) : KFile (A.save nmL p).2 nmL o := h.of (save_fail he)
def KR := KRows KTurn.cs KTurn.Good
theorem KR.below {B : Nat} {w w' : World} {ad : Option Addr} {xs : List KTurn} (h : KR B w ad xs) (hb : Below B w w') : KR B w' ad xs := KRows.below (cs := KTurn.cs) (good := KTurn.Good) (fun B w w' x h hb => (KGood.below (show KGood B w [x.arm, x.what, x.fall] [x.text] x.ad x.fates from h) hb : KGood B w' [x.arm, x.what, x.fall] [x.text] x.ad x.fates)) h hb
set_option maxRecDepth 5000 in
set_option maxHeartbeats 40000000 in
theorem keeps_walk (w : World) (ad : Option Addr) (cap : Nat) (os : List KTurn) (h : KR w.heap.size w ad os) (other : ByteArray) (hom : other.size ≤ maxLen) (hoz : other.size ≤ 140737488355328) :
    Calls Try.prog 3 #[.slice ad os.length cap, .string other] w fun e w' => e = .returned (.bool true) ∧ Below w.heap.size w w' := by
  have hlen := h.len
  unfold maxLen at hlen
  obtain ⟨B, hB⟩ : ∃ B, w.heap.size = B := ⟨_, rfl⟩
  have hl0 : Lies B w [] := Lies.nil (by rw [hB]; exact Nat.le_refl _)
  have hnew := k_new hl0 16777216 (by decide) (by decide)
  rw [hB] at h ⊢
  have HS := hide h
  clear hl0 hB h hom hoz
  by_cases hlong : 1048448 < other.size
  · have dl : decide ((other.size : Int) > 1048448) = true := decide_eq_true (by omega)
    have dl' : decide ((1048448 : Int) < (other.size : Int)) = true := decide_eq_true (by omega)
    have dle : decide ((other.size : Int) ≤ 1048448) = false := decide_eq_false (by omega)
    obtain ⟨ob, hob⟩ : ∃ ob : Option Key, ob = none := ⟨_, rfl⟩
    have HSV : Hid (∀ w' p, Lies B w' [.disk p (AD.fresh 16777216)] → Calls Try.prog 7 #[.pointer (some ⟨p, 0, none⟩), .string ⟨#[98, 101, 115, 105, 100, 101]⟩, .string other] w' fun e w'' => e = .returned (.int .i64 3) ∧ (∃ A, KSt A none ob ∧ Lies B w'' [.disk p A]) ∧ Below B w' w'') := fun w' p h => by
      have hc := save_any (i := 0) h rfl ⟨#[98, 101, 115, 105, 100, 101]⟩ other
      rw [show (AD.fresh 16777216).save (⟨#[98, 101, 115, 105, 100, 101]⟩ : ByteArray).data.toList other.data.toList = (3, AD.fresh 16777216) from save_long (by decide) (by rw [str_len]; omega)] at hc
      exact hc.mono (fun e w'' ⟨a, b, c⟩ => ⟨a, ⟨AD.fresh 16777216, ⟨rfl, (show KFile (AD.fresh 16777216) nmL none from rfl), by rw [hob]; exact (show KFile (AD.fresh 16777216) bsL none from rfl)⟩, b⟩, c⟩)
    have HOB := hide hob
    clear hob hlong
    go_enter Try.func3, Try.ntmps3
    go_wp2_with fail
    refine hnew.mono ?_
    rintro e w1 ⟨p, rfl, h, hb⟩
    have H1 := hide h
    have HB1 := hide hb
    clear h hb hnew
    go_wp2_with fail
    refine (kFirst_any w1).mono ?_
    rintro e w2 ⟨rfl, hb⟩
    have hl2 := H1.out.below hb
    have HB2 := hide (HB1.out.trans (hb.mono H1.out.base))
    have hc := HSV.out w2 p hl2
    clear hb hl2 H1 HB1 HSV
    go_wp2_with fail
    refine hc.mono ?_
    rintro e w3 ⟨rfl, ⟨A0, hst, h⟩, hb⟩
    have HB3 := hide (HB2.out.trans hb)
    have H3 := hide h
    have HST0 := hide hst
    clear h hb hst HB2 hc
    go_wp2
    go_loopw [7, 8, 9] (fun va vb i wr => ∃ (k : Nat) (o : Option Key) (A : AD) (V : ByteArray) (b : Bool), va = .string V ∧ vb = .bool b ∧ V = kval o ∧ b = o.isSome ∧ k ≤ os.length ∧ i = .int .i64 (k : Int) ∧ KSt A o ob ∧ Lies B wr [.disk p A] ∧ Below B w wr) (fun _ _ i _ => os.length - (intOf i).toNat)
    case atStart => exact ⟨0, none, A0, _, _, rfl, rfl, rfl, rfl, by omega, rfl, HST0.out, H3.out, HB3.out⟩
    case round =>
      clear H3 HB3 HST0
      obtain ⟨k, o, A, V, b, rfl, rfl, hV, hbb, hk, rfl, hst, hlr, hbr⟩ := hrel
      by_cases hlt : k < os.length
      · have dk : decide ((k : Int) < (os.length : Int)) = true := decide_eq_true (by omega)
        have hk0 : (0 : Int) ≤ (k : Int) := by omega
        have hk1 : (k : Int) < (os.length : Int) := by omega
        have hsr := HS.out.below hbr
        obtain ⟨bb, oo, rfl, hcs⟩ := hsr.cells hlt
        obtain ⟨x, hx⟩ : ∃ x, os[k] = x := ⟨_, rfl⟩
        rw [hx] at hcs
        have hgood : x.Good B wr := hsr.good x (by rw [← hx]; exact List.getElem_mem hlt)
        have s0 : wr.cell? ⟨bb, oo + k * 6, none⟩ = some (.string x.text) := hcs 0 (by omega)
        have s1 : wr.cell? ⟨bb, oo + k * 6 + 1, none⟩ = some (.int .i64 x.arm) := hcs 1 (by omega)
        have s2 : wr.cell? ⟨bb, oo + k * 6 + 2, none⟩ = some (.int .i64 x.what) := hcs 2 (by omega)
        have s3 : wr.cell? ⟨bb, oo + k * 6 + 3, none⟩ = some (.int .i64 x.fall) := hcs 3 (by omega)
        have s4 : wr.cell? ⟨bb, oo + k * 6 + 4, none⟩ = some (.slice x.ad x.fates.length x.cap) := hcs 4 (by omega)
        obtain ⟨cr, hcr⟩ : ∃ t, x.crash = t := ⟨_, rfl⟩
        have s5 : wr.cell? ⟨bb, oo + k * 6 + 5, none⟩ = some (.bool cr) := by rw [← hcr]; exact hcs 5 (by omega)
        obtain ⟨CS, hCS⟩ : ∃ c, x.cs = c := ⟨_, rfl⟩
        obtain ⟨g, hg⟩ : ∃ g, wr.heap.size = g := ⟨_, rfl⟩
        obtain ⟨w1, hw1⟩ : ∃ w1, wr.alloc (.cells CS 31) = w1 := ⟨_, rfl⟩
        have hb1 : Below wr.heap.size wr w1 := by rw [← hw1]; exact (Below.refl _ _).alloc (Nat.le_refl _) _
        have hk1' : w1.heap[g]? = some (.cells CS 31 (0, 0)) := by rw [← hw1, ← hg]; exact heap_alloc_new wr _
        have hl1 : Lies B w1 ([.disk p A] ++ [.block g (.cells CS 31 (0, 0))]) := hlr.push (S' := fun b => b = g) hb1 ⟨hk1', fun _ => Iff.rfl⟩ (fun b hb => by rw [hb, hg]; exact Nat.le_refl _)
        have hw1' : wr.alloc (.cells #[.string x.text, .int .i64 x.arm, .int .i64 x.what, .int .i64 x.fall, .slice x.ad x.fates.length x.cap, .bool cr] 31) = w1 := by rw [← hw1, ← hCS, ← hcr]; rfl
        have hB1 := hb1.mono hlr.base
        have HCELL : Hid (CS = #[.string x.text, .int .i64 x.arm, .int .i64 x.what, .int .i64 x.fall, .slice x.ad x.fates.length x.cap, .bool cr]) := by show _ = _; rw [← hCS, ← hcr]; rfl
        have a1 : w1.cell? ⟨g, 1, none⟩ = some (.int .i64 x.arm) := by rw [kcell (q := 1) hl1 rfl, HCELL.out]; rfl
        have a2 : w1.cell? ⟨g, 2, none⟩ = some (.int .i64 x.what) := by rw [kcell (q := 1) hl1 rfl, HCELL.out]; rfl
        have HG : Hid (KGood B w1 [x.arm, x.what, x.fall] [x.text] x.ad x.fates) := KGood.below hgood hB1
        have HBW := hide (hbr.trans hB1)
        have hc1 := s_arm (i := 0) hl1 rfl x.arm x.what (hgood.ints _ (by simp))
        have HST := hide hst
        have HVV := hide hV
        have HBB := hide hbb
        clear hlr hbr hsr hcs hx hgood hb1 hk1' hl1 hB1 hw1 hcr hCS hst hV hbb
        go_wp2_with fail
        refine hc1.mono ?_
        rintro e w2 ⟨rfl, h, hb⟩
        have h2 : Lies B w2 [.disk p (A.armed x.arm x.what), .block g (.cells CS 31 (0, 0))] := h
        have a3 : w2.cell? ⟨g, 3, none⟩ = some (.int .i64 x.fall) := by rw [kcell (q := 1) h2 rfl, HCELL.out]; rfl
        have hc2 := s_fall (i := 0) h2 rfl x.fall (HG.out.ints _ (by simp))
        have HB2 := hide hb
        clear h h2 hb hc1 hw1' s0 s1 s2 s3 s4 s5 a1 a2 hg
        go_wp2_with fail
        refine hc2.mono ?_
        rintro e w3 ⟨rfl, h, hb⟩
        obtain ⟨A3, hA3⟩ : ∃ X, (A.armed x.arm x.what).fallen x.fall = X := ⟨_, rfl⟩
        have h3 : Lies B w3 [.disk p A3, .block g (.cells CS 31 (0, 0))] := by rw [← hA3]; exact h
        have hst3 : KSt A3 o ob := by rw [← hA3]; exact (HST.out.same (armed_fs A x.arm x.what) (armed_off A x.arm x.what)).same rfl rfl
        have a0 : w3.cell? ⟨g, 0, none⟩ = some (.string x.text) := by rw [kcell (q := 1) h3 rfl, HCELL.out]; rfl
        have HB3 := hide (HB2.out.trans hb)
        have hc3 := save_any (i := 0) h3 rfl ⟨#[110, 97, 109, 101]⟩ x.text
        obtain ⟨E, hE⟩ : ∃ E, (A3.save nmL x.text.data.toList).1 = E := ⟨_, rfl⟩
        obtain ⟨A4, hA4⟩ : ∃ X, (A3.save nmL x.text.data.toList).2 = X := ⟨_, rfl⟩
        have hc3' : Calls Try.prog 7 #[.pointer (some ⟨p, 0, none⟩), .string ⟨#[110, 97, 109, 101]⟩, .string x.text] w3 fun e w' => e = .returned (.int .i64 E) ∧ Lies B w' [.disk p A4, .block g (.cells CS 31 (0, 0))] ∧ Below B w3 w' := by rw [← hE, ← hA4]; exact hc3
        have HBS4 : Hid (KFile A4 bsL ob) := by rw [← hA4]; exact bs_keeps hst3.bs
        have HNO : Hid (E ≠ 0 → KFile A4 nmL o) := fun he => by rw [← hA4]; exact nm_keeps hst3.nm (by rw [hE]; exact he)
        have HNN : Hid (E = 0 → KFile A4 nmL (some x.text.data.toList)) := fun he => by rw [← hA4]; exact save_ok (by rw [hE]; exact he)
        have HOF : Hid (E ≠ 9 → A4.pow.off = false) := fun he => by rw [← hA4, save_off (by rw [hE]; exact he)]; exact hst3.off
        clear h h3 hb hc2 hc3 hst3 hA3 hE hA4 a3 HB2 HST
        go_wp2_with fail
        refine hc3'.mono ?_
        rintro e w4 ⟨rfl, h, hb⟩
        have q0 : w4.cell? ⟨g, 0, none⟩ = some (.string x.text) := by rw [kcell (q := 1) h rfl, HCELL.out]; rfl
        have q4 : w4.cell? ⟨g, 4, none⟩ = some (.slice x.ad x.fates.length x.cap) := by rw [kcell (q := 1) h rfl, HCELL.out]; rfl
        have q5 : w4.cell? ⟨g, 5, none⟩ = some (.bool cr) := by rw [kcell (q := 1) h rfl, HCELL.out]; rfl
        have H4 := hide h
        have HB4' := hide (HB3.out.trans hb)
        have HB4 := hide (HBW.out.trans HB4'.out)
        have HG4 : Hid (KGood B w4 [x.arm, x.what, x.fall] [x.text] x.ad x.fates) := KGood.below HG.out HB4'.out
        clear h hb hc3' a0 HB3 HB4' HBW HG
        by_cases e0 : E = 0
        · subst e0
          have HN4 := hide (HNN.out rfl)
          have HOFF4 := hide (HOF.out (by decide))
          have HV2 : Hid (x.text = kval (some x.text.data.toList)) := rfl
          have HB2E : Hid (true = (some x.text.data.toList).isSome) := rfl
          cases cr with
          | true =>
            obtain ⟨ad5, n5, cap5, w5, hap, hcr⟩ := kcrash (i := 0) H4.out rfl x.ad x.cap x.fates HG4.out.fates 29
            obtain ⟨A5, hA5⟩ : ∃ X, (A4.crash (x.fates.map FT.abs)).on = X := ⟨_, rfl⟩
            have HST5 : Hid (KSt A5 (some x.text.data.toList) ob) := by rw [← hA5]; exact KSt.crash HN4.out HBS4.out _
            have HA5 := hide hA5
            have HCR := hide hcr
            clear hA5 hcr
            go_wp2_with (first | (at_builtin; refine wpList_kapp rfl _ _ _ rfl hap ?_; try go_frame) | fail)
            refine HCR.out.mono ?_
            rintro e w6 ⟨rfl, h, hb⟩
            have HB6 := hide (HB4.out.trans hb)
            have hc7 := s_on (i := 0) h rfl
            clear h hb hap HCR
            go_wp2_with fail
            refine hc7.mono ?_
            rintro e w7 ⟨rfl, h, hb⟩
            have HB7 := hide (HB6.out.trans hb)
            have H7 : Hid (Lies B w7 [.disk p A5, .block g (.cells CS 31 (0, 0))]) := by rw [← HA5.out]; exact h
            clear h hb hc7 HB6 HA5
            have hc20 := s_fall (i := 0) H7.out rfl 0 (by decide)
            go_wp2_with fail
            refine hc20.mono ?_
            rintro e w20 ⟨rfl, h, hb⟩
            have HB20 := hide (HB7.out.trans hb)
            have hc21 := s_arm (i := 0) h rfl 0 0 (by decide)
            clear h hb hc20 H7 HB7
            go_wp2_with fail
            refine hc21.mono ?_
            rintro e w21 ⟨rfl, h, hb⟩
            have HB21 := hide (HB20.out.trans hb)
            obtain ⟨A6, hA6⟩ : ∃ X, (A5.fallen 0).armed 0 0 = X := ⟨_, rfl⟩
            have h' : Lies B w21 ([.disk p A6] ++ [.block g (.cells CS 31 (0, 0))]) := by rw [← hA6]; exact h
            have hst6 : KSt A6 (some x.text.data.toList) ob := by rw [← hA6]; exact (HST5.out.same rfl rfl : KSt (A5.fallen 0) (some x.text.data.toList) ob).same (armed_fs _ _ _) (armed_off _ _ _)
            have HST6 := hide hst6
            have hc22 := told_any' (i := 0) h' rfl ⟨#[110, 97, 109, 101]⟩ x.text true (by rw [HV2.out, HB2E.out]; exact hst6.nm.told hst6.off (h'.ok (i := 0) rfl) (by decide))
            clear h h' hb hc21 HB20 hst6 hA6
            go_wp2_with fail
            refine hc22.mono ?_
            rintro e w22 ⟨rfl, h, hb⟩
            have HB22 := hide (HB21.out.trans hb)
            have H22 := hide h.drop
            clear h hb hc22 HB21
            go_wp2
            go_roundw
            case rel => exact ⟨k + 1, (some x.text.data.toList), A6, x.text, true, rfl, rfl, HV2.out, HB2E.out, by omega, by go_num, HST6.out, H22.out, HB22.out⟩
            case measure => simp [intOf]; omega
          | false =>
            obtain ⟨A5, hA5⟩ : ∃ X, A4 = X := ⟨_, rfl⟩
            have HST5 : Hid (KSt A5 (some x.text.data.toList) ob) := by rw [← hA5]; exact ⟨HOFF4.out, HN4.out, HBS4.out⟩
            have H7 : Hid (Lies B w4 [.disk p A5, .block g (.cells CS 31 (0, 0))]) := by rw [← hA5]; exact H4.out
            have HB7 := HB4
            clear hA5
            have hc20 := s_fall (i := 0) H7.out rfl 0 (by decide)
            go_wp2_with fail
            refine hc20.mono ?_
            rintro e w20 ⟨rfl, h, hb⟩
            have HB20 := hide (HB7.out.trans hb)
            have hc21 := s_arm (i := 0) h rfl 0 0 (by decide)
            clear h hb hc20 H7 HB7
            go_wp2_with fail
            refine hc21.mono ?_
            rintro e w21 ⟨rfl, h, hb⟩
            have HB21 := hide (HB20.out.trans hb)
            obtain ⟨A6, hA6⟩ : ∃ X, (A5.fallen 0).armed 0 0 = X := ⟨_, rfl⟩
            have h' : Lies B w21 ([.disk p A6] ++ [.block g (.cells CS 31 (0, 0))]) := by rw [← hA6]; exact h
            have hst6 : KSt A6 (some x.text.data.toList) ob := by rw [← hA6]; exact (HST5.out.same rfl rfl : KSt (A5.fallen 0) (some x.text.data.toList) ob).same (armed_fs _ _ _) (armed_off _ _ _)
            have HST6 := hide hst6
            have hc22 := told_any' (i := 0) h' rfl ⟨#[110, 97, 109, 101]⟩ x.text true (by rw [HV2.out, HB2E.out]; exact hst6.nm.told hst6.off (h'.ok (i := 0) rfl) (by decide))
            clear h h' hb hc21 HB20 hst6 hA6
            go_wp2_with fail
            refine hc22.mono ?_
            rintro e w22 ⟨rfl, h, hb⟩
            have HB22 := hide (HB21.out.trans hb)
            have H22 := hide h.drop
            clear h hb hc22 HB21
            go_wp2
            go_roundw
            case rel => exact ⟨k + 1, (some x.text.data.toList), A6, x.text, true, rfl, rfl, HV2.out, HB2E.out, by omega, by go_num, HST6.out, H22.out, HB22.out⟩
            case measure => simp [intOf]; omega
        by_cases e9 : E = 9
        · subst e9
          have HN4 := hide (HNO.out e0)
          have HV2 := HVV
          have HB2E := HBB
          clear e0
          obtain ⟨ad5, n5, cap5, w5, hap, hcr⟩ := kcrash (i := 0) H4.out rfl x.ad x.cap x.fates HG4.out.fates 29
          obtain ⟨A5, hA5⟩ : ∃ X, (A4.crash (x.fates.map FT.abs)).on = X := ⟨_, rfl⟩
          have HST5 : Hid (KSt A5 o ob) := by rw [← hA5]; exact KSt.crash HN4.out HBS4.out _
          have HA5 := hide hA5
          have HCR := hide hcr
          clear hA5 hcr
          go_wp2_with (first | (at_builtin; refine wpList_kapp rfl _ _ _ rfl hap ?_; try go_frame) | fail)
          refine HCR.out.mono ?_
          rintro e w6 ⟨rfl, h, hb⟩
          have HB6 := hide (HB4.out.trans hb)
          have hc7 := s_on (i := 0) h rfl
          clear h hb hap HCR
          go_wp2_with fail
          refine hc7.mono ?_
          rintro e w7 ⟨rfl, h, hb⟩
          have HB7 := hide (HB6.out.trans hb)
          have H7 : Hid (Lies B w7 [.disk p A5, .block g (.cells CS 31 (0, 0))]) := by rw [← HA5.out]; exact h
          clear h hb hc7 HB6 HA5
          have hc20 := s_fall (i := 0) H7.out rfl 0 (by decide)
          go_wp2_with fail
          refine hc20.mono ?_
          rintro e w20 ⟨rfl, h, hb⟩
          have HB20 := hide (HB7.out.trans hb)
          have hc21 := s_arm (i := 0) h rfl 0 0 (by decide)
          clear h hb hc20 H7 HB7
          go_wp2_with fail
          refine hc21.mono ?_
          rintro e w21 ⟨rfl, h, hb⟩
          have HB21 := hide (HB20.out.trans hb)
          obtain ⟨A6, hA6⟩ : ∃ X, (A5.fallen 0).armed 0 0 = X := ⟨_, rfl⟩
          have h' : Lies B w21 ([.disk p A6] ++ [.block g (.cells CS 31 (0, 0))]) := by rw [← hA6]; exact h
          have hst6 : KSt A6 o ob := by rw [← hA6]; exact (HST5.out.same rfl rfl : KSt (A5.fallen 0) o ob).same (armed_fs _ _ _) (armed_off _ _ _)
          have HST6 := hide hst6
          have hc22 := told_any' (i := 0) h' rfl ⟨#[110, 97, 109, 101]⟩ V b (by rw [HV2.out, HB2E.out]; exact hst6.nm.told hst6.off (h'.ok (i := 0) rfl) (by decide))
          clear h h' hb hc21 HB20 hst6 hA6
          go_wp2_with fail
          refine hc22.mono ?_
          rintro e w22 ⟨rfl, h, hb⟩
          have HB22 := hide (HB21.out.trans hb)
          have H22 := hide h.drop
          clear h hb hc22 HB21
          go_wp2
          go_roundw
          case rel => exact ⟨k + 1, o, A6, V, b, rfl, rfl, HV2.out, HB2E.out, by omega, by go_num, HST6.out, H22.out, HB22.out⟩
          case measure => simp [intOf]; omega
        have HN4 := hide (HNO.out e0)
        have HOFF4 := hide (HOF.out e9)
        have HV2 := HVV
        have HB2E := HBB
        have d0 : (E == 0) = false := beq_eq_false_iff_ne.2 e0
        have d9 : (E == 9) = false := beq_eq_false_iff_ne.2 e9
        clear e0 e9
        cases cr with
        | true =>
          obtain ⟨ad5, n5, cap5, w5, hap, hcr⟩ := kcrash (i := 0) H4.out rfl x.ad x.cap x.fates HG4.out.fates 29
          obtain ⟨A5, hA5⟩ : ∃ X, (A4.crash (x.fates.map FT.abs)).on = X := ⟨_, rfl⟩
          have HST5 : Hid (KSt A5 o ob) := by rw [← hA5]; exact KSt.crash HN4.out HBS4.out _
          have HA5 := hide hA5
          have HCR := hide hcr
          clear hA5 hcr
          go_wp2_with (first | (at_builtin; refine wpList_kapp rfl _ _ _ rfl hap ?_; try go_frame) | fail)
          refine HCR.out.mono ?_
          rintro e w6 ⟨rfl, h, hb⟩
          have HB6 := hide (HB4.out.trans hb)
          have hc7 := s_on (i := 0) h rfl
          clear h hb hap HCR
          go_wp2_with fail
          refine hc7.mono ?_
          rintro e w7 ⟨rfl, h, hb⟩
          have HB7 := hide (HB6.out.trans hb)
          have H7 : Hid (Lies B w7 [.disk p A5, .block g (.cells CS 31 (0, 0))]) := by rw [← HA5.out]; exact h
          clear h hb hc7 HB6 HA5
          have hc20 := s_fall (i := 0) H7.out rfl 0 (by decide)
          go_wp2_with fail
          refine hc20.mono ?_
          rintro e w20 ⟨rfl, h, hb⟩
          have HB20 := hide (HB7.out.trans hb)
          have hc21 := s_arm (i := 0) h rfl 0 0 (by decide)
          clear h hb hc20 H7 HB7
          go_wp2_with fail
          refine hc21.mono ?_
          rintro e w21 ⟨rfl, h, hb⟩
          have HB21 := hide (HB20.out.trans hb)
          obtain ⟨A6, hA6⟩ : ∃ X, (A5.fallen 0).armed 0 0 = X := ⟨_, rfl⟩
          have h' : Lies B w21 ([.disk p A6] ++ [.block g (.cells CS 31 (0, 0))]) := by rw [← hA6]; exact h
          have hst6 : KSt A6 o ob := by rw [← hA6]; exact (HST5.out.same rfl rfl : KSt (A5.fallen 0) o ob).same (armed_fs _ _ _) (armed_off _ _ _)
          have HST6 := hide hst6
          have hc22 := told_any' (i := 0) h' rfl ⟨#[110, 97, 109, 101]⟩ V b (by rw [HV2.out, HB2E.out]; exact hst6.nm.told hst6.off (h'.ok (i := 0) rfl) (by decide))
          clear h h' hb hc21 HB20 hst6 hA6
          go_wp2_with fail
          refine hc22.mono ?_
          rintro e w22 ⟨rfl, h, hb⟩
          have HB22 := hide (HB21.out.trans hb)
          have H22 := hide h.drop
          clear h hb hc22 HB21
          go_wp2
          go_roundw
          case rel => exact ⟨k + 1, o, A6, V, b, rfl, rfl, HV2.out, HB2E.out, by omega, by go_num, HST6.out, H22.out, HB22.out⟩
          case measure => simp [intOf]; omega
        | false =>
          obtain ⟨A5, hA5⟩ : ∃ X, A4 = X := ⟨_, rfl⟩
          have HST5 : Hid (KSt A5 o ob) := by rw [← hA5]; exact ⟨HOFF4.out, HN4.out, HBS4.out⟩
          have H7 : Hid (Lies B w4 [.disk p A5, .block g (.cells CS 31 (0, 0))]) := by rw [← hA5]; exact H4.out
          have HB7 := HB4
          clear hA5
          have hc20 := s_fall (i := 0) H7.out rfl 0 (by decide)
          go_wp2_with fail
          refine hc20.mono ?_
          rintro e w20 ⟨rfl, h, hb⟩
          have HB20 := hide (HB7.out.trans hb)
          have hc21 := s_arm (i := 0) h rfl 0 0 (by decide)
          clear h hb hc20 H7 HB7
          go_wp2_with fail
          refine hc21.mono ?_
          rintro e w21 ⟨rfl, h, hb⟩
          have HB21 := hide (HB20.out.trans hb)
          obtain ⟨A6, hA6⟩ : ∃ X, (A5.fallen 0).armed 0 0 = X := ⟨_, rfl⟩
          have h' : Lies B w21 ([.disk p A6] ++ [.block g (.cells CS 31 (0, 0))]) := by rw [← hA6]; exact h
          have hst6 : KSt A6 o ob := by rw [← hA6]; exact (HST5.out.same rfl rfl : KSt (A5.fallen 0) o ob).same (armed_fs _ _ _) (armed_off _ _ _)
          have HST6 := hide hst6
          have hc22 := told_any' (i := 0) h' rfl ⟨#[110, 97, 109, 101]⟩ V b (by rw [HV2.out, HB2E.out]; exact hst6.nm.told hst6.off (h'.ok (i := 0) rfl) (by decide))
          clear h h' hb hc21 HB20 hst6 hA6
          go_wp2_with fail
          refine hc22.mono ?_
          rintro e w22 ⟨rfl, h, hb⟩
          have HB22 := hide (HB21.out.trans hb)
          have H22 := hide h.drop
          clear h hb hc22 HB21
          go_wp2
          go_roundw
          case rel => exact ⟨k + 1, o, A6, V, b, rfl, rfl, HV2.out, HB2E.out, by omega, by go_num, HST6.out, H22.out, HB22.out⟩
          case measure => simp [intOf]; omega
      · have hkl : k = os.length := by omega
        subst hkl
        have dk : decide ((os.length : Int) < (os.length : Int)) = false := decide_eq_false (by omega)
        have hc30 := told_any' (i := 0) hlr rfl ⟨#[98, 101, 115, 105, 100, 101]⟩ ⟨#[]⟩ false (by have := hst.bs.told hst.off (hlr.ok (i := 0) rfl) (by decide); rw [HOB.out] at this; exact this)
        have HBR := hide hbr
        clear hlr hbr hst hV hbb
        go_wp2_with fail
        refine hc30.mono ?_
        rintro e w30 ⟨rfl, h, hb⟩
        have HB30 := hide (HBR.out.trans hb)
        clear h hb hc30 HBR
        go_wp2
        go_ret
        exact ⟨rfl, HB30.out⟩
  · have dl : decide ((other.size : Int) > 1048448) = false := decide_eq_false (by omega)
    have dl' : decide ((1048448 : Int) < (other.size : Int)) = false := decide_eq_false (by omega)
    have dle : decide ((other.size : Int) ≤ 1048448) = true := decide_eq_true (by omega)
    obtain ⟨ob, hob⟩ : ∃ ob, ob = some other.data.toList := ⟨_, rfl⟩
    have HSV : Hid (∀ w' p, Lies B w' [.disk p (AD.fresh 16777216)] → Calls Try.prog 7 #[.pointer (some ⟨p, 0, none⟩), .string ⟨#[98, 101, 115, 105, 100, 101]⟩, .string other] w' fun e w'' => e = .returned (.int .i64 0) ∧ (∃ A, KSt A none ob ∧ Lies B w'' [.disk p A]) ∧ Below B w' w'') := fun w' p h => by
      have hc := save_any (i := 0) h rfl ⟨#[98, 101, 115, 105, 100, 101]⟩ other
      rw [show (AD.fresh 16777216).save (⟨#[98, 101, 115, 105, 100, 101]⟩ : ByteArray).data.toList other.data.toList = (0, ⟨16777216, [(bsL, ⟨pbytes other.data.toList, pbytes other.data.toList, fun _ => false⟩)], kP0⟩) from save_fresh (by decide) (by rw [str_len]; omega)] at hc
      exact hc.mono (fun e w'' ⟨a, b, c⟩ => ⟨a, ⟨_, ⟨rfl, by show fget _ _ = none; rw [fget_cons, if_neg (by show ¬ bsL = nmL; decide)]; rfl, by rw [hob]; exact ⟨by rw [str_len]; omega, _, by rw [fget_cons, if_pos rfl], rfl, rfl, fun _ => rfl⟩⟩, b⟩, c⟩)
    have HOB := hide hob
    clear hob hlong
    go_enter Try.func3, Try.ntmps3
    go_wp2_with fail
    refine hnew.mono ?_
    rintro e w1 ⟨p, rfl, h, hb⟩
    have H1 := hide h
    have HB1 := hide hb
    clear h hb hnew
    go_wp2_with fail
    refine (kFirst_any w1).mono ?_
    rintro e w2 ⟨rfl, hb⟩
    have hl2 := H1.out.below hb
    have HB2 := hide (HB1.out.trans (hb.mono H1.out.base))
    have hc := HSV.out w2 p hl2
    clear hb hl2 H1 HB1 HSV
    go_wp2_with fail
    refine hc.mono ?_
    rintro e w3 ⟨rfl, ⟨A0, hst, h⟩, hb⟩
    have HB3 := hide (HB2.out.trans hb)
    have H3 := hide h
    have HST0 := hide hst
    clear h hb hst HB2 hc
    go_wp2
    go_loopw [7, 8, 9] (fun va vb i wr => ∃ (k : Nat) (o : Option Key) (A : AD) (V : ByteArray) (b : Bool), va = .string V ∧ vb = .bool b ∧ V = kval o ∧ b = o.isSome ∧ k ≤ os.length ∧ i = .int .i64 (k : Int) ∧ KSt A o ob ∧ Lies B wr [.disk p A] ∧ Below B w wr) (fun _ _ i _ => os.length - (intOf i).toNat)
    case atStart => exact ⟨0, none, A0, _, _, rfl, rfl, rfl, rfl, by omega, rfl, HST0.out, H3.out, HB3.out⟩
    case round =>
      clear H3 HB3 HST0
      obtain ⟨k, o, A, V, b, rfl, rfl, hV, hbb, hk, rfl, hst, hlr, hbr⟩ := hrel
      by_cases hlt : k < os.length
      · have dk : decide ((k : Int) < (os.length : Int)) = true := decide_eq_true (by omega)
        have hk0 : (0 : Int) ≤ (k : Int) := by omega
        have hk1 : (k : Int) < (os.length : Int) := by omega
        have hsr := HS.out.below hbr
        obtain ⟨bb, oo, rfl, hcs⟩ := hsr.cells hlt
        obtain ⟨x, hx⟩ : ∃ x, os[k] = x := ⟨_, rfl⟩
        rw [hx] at hcs
        have hgood : x.Good B wr := hsr.good x (by rw [← hx]; exact List.getElem_mem hlt)
        have s0 : wr.cell? ⟨bb, oo + k * 6, none⟩ = some (.string x.text) := hcs 0 (by omega)
        have s1 : wr.cell? ⟨bb, oo + k * 6 + 1, none⟩ = some (.int .i64 x.arm) := hcs 1 (by omega)
        have s2 : wr.cell? ⟨bb, oo + k * 6 + 2, none⟩ = some (.int .i64 x.what) := hcs 2 (by omega)
        have s3 : wr.cell? ⟨bb, oo + k * 6 + 3, none⟩ = some (.int .i64 x.fall) := hcs 3 (by omega)
        have s4 : wr.cell? ⟨bb, oo + k * 6 + 4, none⟩ = some (.slice x.ad x.fates.length x.cap) := hcs 4 (by omega)
        obtain ⟨cr, hcr⟩ : ∃ t, x.crash = t := ⟨_, rfl⟩
        have s5 : wr.cell? ⟨bb, oo + k * 6 + 5, none⟩ = some (.bool cr) := by rw [← hcr]; exact hcs 5 (by omega)
        obtain ⟨CS, hCS⟩ : ∃ c, x.cs = c := ⟨_, rfl⟩
        obtain ⟨g, hg⟩ : ∃ g, wr.heap.size = g := ⟨_, rfl⟩
        obtain ⟨w1, hw1⟩ : ∃ w1, wr.alloc (.cells CS 31) = w1 := ⟨_, rfl⟩
        have hb1 : Below wr.heap.size wr w1 := by rw [← hw1]; exact (Below.refl _ _).alloc (Nat.le_refl _) _
        have hk1' : w1.heap[g]? = some (.cells CS 31 (0, 0)) := by rw [← hw1, ← hg]; exact heap_alloc_new wr _
        have hl1 : Lies B w1 ([.disk p A] ++ [.block g (.cells CS 31 (0, 0))]) := hlr.push (S' := fun b => b = g) hb1 ⟨hk1', fun _ => Iff.rfl⟩ (fun b hb => by rw [hb, hg]; exact Nat.le_refl _)
        have hw1' : wr.alloc (.cells #[.string x.text, .int .i64 x.arm, .int .i64 x.what, .int .i64 x.fall, .slice x.ad x.fates.length x.cap, .bool cr] 31) = w1 := by rw [← hw1, ← hCS, ← hcr]; rfl
        have hB1 := hb1.mono hlr.base
        have HCELL : Hid (CS = #[.string x.text, .int .i64 x.arm, .int .i64 x.what, .int .i64 x.fall, .slice x.ad x.fates.length x.cap, .bool cr]) := by show _ = _; rw [← hCS, ← hcr]; rfl
        have a1 : w1.cell? ⟨g, 1, none⟩ = some (.int .i64 x.arm) := by rw [kcell (q := 1) hl1 rfl, HCELL.out]; rfl
        have a2 : w1.cell? ⟨g, 2, none⟩ = some (.int .i64 x.what) := by rw [kcell (q := 1) hl1 rfl, HCELL.out]; rfl
        have HG : Hid (KGood B w1 [x.arm, x.what, x.fall] [x.text] x.ad x.fates) := KGood.below hgood hB1
        have HBW := hide (hbr.trans hB1)
        have hc1 := s_arm (i := 0) hl1 rfl x.arm x.what (hgood.ints _ (by simp))
        have HST := hide hst
        have HVV := hide hV
        have HBB := hide hbb
        clear hlr hbr hsr hcs hx hgood hb1 hk1' hl1 hB1 hw1 hcr hCS hst hV hbb
        go_wp2_with fail
        refine hc1.mono ?_
        rintro e w2 ⟨rfl, h, hb⟩
        have h2 : Lies B w2 [.disk p (A.armed x.arm x.what), .block g (.cells CS 31 (0, 0))] := h
        have a3 : w2.cell? ⟨g, 3, none⟩ = some (.int .i64 x.fall) := by rw [kcell (q := 1) h2 rfl, HCELL.out]; rfl
        have hc2 := s_fall (i := 0) h2 rfl x.fall (HG.out.ints _ (by simp))
        have HB2 := hide hb
        clear h h2 hb hc1 hw1' s0 s1 s2 s3 s4 s5 a1 a2 hg
        go_wp2_with fail
        refine hc2.mono ?_
        rintro e w3 ⟨rfl, h, hb⟩
        obtain ⟨A3, hA3⟩ : ∃ X, (A.armed x.arm x.what).fallen x.fall = X := ⟨_, rfl⟩
        have h3 : Lies B w3 [.disk p A3, .block g (.cells CS 31 (0, 0))] := by rw [← hA3]; exact h
        have hst3 : KSt A3 o ob := by rw [← hA3]; exact (HST.out.same (armed_fs A x.arm x.what) (armed_off A x.arm x.what)).same rfl rfl
        have a0 : w3.cell? ⟨g, 0, none⟩ = some (.string x.text) := by rw [kcell (q := 1) h3 rfl, HCELL.out]; rfl
        have HB3 := hide (HB2.out.trans hb)
        have hc3 := save_any (i := 0) h3 rfl ⟨#[110, 97, 109, 101]⟩ x.text
        obtain ⟨E, hE⟩ : ∃ E, (A3.save nmL x.text.data.toList).1 = E := ⟨_, rfl⟩
        obtain ⟨A4, hA4⟩ : ∃ X, (A3.save nmL x.text.data.toList).2 = X := ⟨_, rfl⟩
        have hc3' : Calls Try.prog 7 #[.pointer (some ⟨p, 0, none⟩), .string ⟨#[110, 97, 109, 101]⟩, .string x.text] w3 fun e w' => e = .returned (.int .i64 E) ∧ Lies B w' [.disk p A4, .block g (.cells CS 31 (0, 0))] ∧ Below B w3 w' := by rw [← hE, ← hA4]; exact hc3
        have HBS4 : Hid (KFile A4 bsL ob) := by rw [← hA4]; exact bs_keeps hst3.bs
        have HNO : Hid (E ≠ 0 → KFile A4 nmL o) := fun he => by rw [← hA4]; exact nm_keeps hst3.nm (by rw [hE]; exact he)
        have HNN : Hid (E = 0 → KFile A4 nmL (some x.text.data.toList)) := fun he => by rw [← hA4]; exact save_ok (by rw [hE]; exact he)
        have HOF : Hid (E ≠ 9 → A4.pow.off = false) := fun he => by rw [← hA4, save_off (by rw [hE]; exact he)]; exact hst3.off
        clear h h3 hb hc2 hc3 hst3 hA3 hE hA4 a3 HB2 HST
        go_wp2_with fail
        refine hc3'.mono ?_
        rintro e w4 ⟨rfl, h, hb⟩
        have q0 : w4.cell? ⟨g, 0, none⟩ = some (.string x.text) := by rw [kcell (q := 1) h rfl, HCELL.out]; rfl
        have q4 : w4.cell? ⟨g, 4, none⟩ = some (.slice x.ad x.fates.length x.cap) := by rw [kcell (q := 1) h rfl, HCELL.out]; rfl
        have q5 : w4.cell? ⟨g, 5, none⟩ = some (.bool cr) := by rw [kcell (q := 1) h rfl, HCELL.out]; rfl
        have H4 := hide h
        have HB4' := hide (HB3.out.trans hb)
        have HB4 := hide (HBW.out.trans HB4'.out)
        have HG4 : Hid (KGood B w4 [x.arm, x.what, x.fall] [x.text] x.ad x.fates) := KGood.below HG.out HB4'.out
        clear h hb hc3' a0 HB3 HB4' HBW HG
        by_cases e0 : E = 0
        · subst e0
          have HN4 := hide (HNN.out rfl)
          have HOFF4 := hide (HOF.out (by decide))
          have HV2 : Hid (x.text = kval (some x.text.data.toList)) := rfl
          have HB2E : Hid (true = (some x.text.data.toList).isSome) := rfl
          cases cr with
          | true =>
            obtain ⟨ad5, n5, cap5, w5, hap, hcr⟩ := kcrash (i := 0) H4.out rfl x.ad x.cap x.fates HG4.out.fates 29
            obtain ⟨A5, hA5⟩ : ∃ X, (A4.crash (x.fates.map FT.abs)).on = X := ⟨_, rfl⟩
            have HST5 : Hid (KSt A5 (some x.text.data.toList) ob) := by rw [← hA5]; exact KSt.crash HN4.out HBS4.out _
            have HA5 := hide hA5
            have HCR := hide hcr
            clear hA5 hcr
            go_wp2_with (first | (at_builtin; refine wpList_kapp rfl _ _ _ rfl hap ?_; try go_frame) | fail)
            refine HCR.out.mono ?_
            rintro e w6 ⟨rfl, h, hb⟩
            have HB6 := hide (HB4.out.trans hb)
            have hc7 := s_on (i := 0) h rfl
            clear h hb hap HCR
            go_wp2_with fail
            refine hc7.mono ?_
            rintro e w7 ⟨rfl, h, hb⟩
            have HB7 := hide (HB6.out.trans hb)
            have H7 : Hid (Lies B w7 [.disk p A5, .block g (.cells CS 31 (0, 0))]) := by rw [← HA5.out]; exact h
            clear h hb hc7 HB6 HA5
            have hc20 := s_fall (i := 0) H7.out rfl 0 (by decide)
            go_wp2_with fail
            refine hc20.mono ?_
            rintro e w20 ⟨rfl, h, hb⟩
            have HB20 := hide (HB7.out.trans hb)
            have hc21 := s_arm (i := 0) h rfl 0 0 (by decide)
            clear h hb hc20 H7 HB7
            go_wp2_with fail
            refine hc21.mono ?_
            rintro e w21 ⟨rfl, h, hb⟩
            have HB21 := hide (HB20.out.trans hb)
            obtain ⟨A6, hA6⟩ : ∃ X, (A5.fallen 0).armed 0 0 = X := ⟨_, rfl⟩
            have h' : Lies B w21 ([.disk p A6] ++ [.block g (.cells CS 31 (0, 0))]) := by rw [← hA6]; exact h
            have hst6 : KSt A6 (some x.text.data.toList) ob := by rw [← hA6]; exact (HST5.out.same rfl rfl : KSt (A5.fallen 0) (some x.text.data.toList) ob).same (armed_fs _ _ _) (armed_off _ _ _)
            have HST6 := hide hst6
            have hc22 := told_any' (i := 0) h' rfl ⟨#[110, 97, 109, 101]⟩ x.text true (by rw [HV2.out, HB2E.out]; exact hst6.nm.told hst6.off (h'.ok (i := 0) rfl) (by decide))
            clear h h' hb hc21 HB20 hst6 hA6
            go_wp2_with fail
            refine hc22.mono ?_
            rintro e w22 ⟨rfl, h, hb⟩
            have HB22 := hide (HB21.out.trans hb)
            have H22 := hide h.drop
            clear h hb hc22 HB21
            go_wp2
            go_roundw
            case rel => exact ⟨k + 1, (some x.text.data.toList), A6, x.text, true, rfl, rfl, HV2.out, HB2E.out, by omega, by go_num, HST6.out, H22.out, HB22.out⟩
            case measure => simp [intOf]; omega
          | false =>
            obtain ⟨A5, hA5⟩ : ∃ X, A4 = X := ⟨_, rfl⟩
            have HST5 : Hid (KSt A5 (some x.text.data.toList) ob) := by rw [← hA5]; exact ⟨HOFF4.out, HN4.out, HBS4.out⟩
            have H7 : Hid (Lies B w4 [.disk p A5, .block g (.cells CS 31 (0, 0))]) := by rw [← hA5]; exact H4.out
            have HB7 := HB4
            clear hA5
            have hc20 := s_fall (i := 0) H7.out rfl 0 (by decide)
            go_wp2_with fail
            refine hc20.mono ?_
            rintro e w20 ⟨rfl, h, hb⟩
            have HB20 := hide (HB7.out.trans hb)
            have hc21 := s_arm (i := 0) h rfl 0 0 (by decide)
            clear h hb hc20 H7 HB7
            go_wp2_with fail
            refine hc21.mono ?_
            rintro e w21 ⟨rfl, h, hb⟩
            have HB21 := hide (HB20.out.trans hb)
            obtain ⟨A6, hA6⟩ : ∃ X, (A5.fallen 0).armed 0 0 = X := ⟨_, rfl⟩
            have h' : Lies B w21 ([.disk p A6] ++ [.block g (.cells CS 31 (0, 0))]) := by rw [← hA6]; exact h
            have hst6 : KSt A6 (some x.text.data.toList) ob := by rw [← hA6]; exact (HST5.out.same rfl rfl : KSt (A5.fallen 0) (some x.text.data.toList) ob).same (armed_fs _ _ _) (armed_off _ _ _)
            have HST6 := hide hst6
            have hc22 := told_any' (i := 0) h' rfl ⟨#[110, 97, 109, 101]⟩ x.text true (by rw [HV2.out, HB2E.out]; exact hst6.nm.told hst6.off (h'.ok (i := 0) rfl) (by decide))
            clear h h' hb hc21 HB20 hst6 hA6
            go_wp2_with fail
            refine hc22.mono ?_
            rintro e w22 ⟨rfl, h, hb⟩
            have HB22 := hide (HB21.out.trans hb)
            have H22 := hide h.drop
            clear h hb hc22 HB21
            go_wp2
            go_roundw
            case rel => exact ⟨k + 1, (some x.text.data.toList), A6, x.text, true, rfl, rfl, HV2.out, HB2E.out, by omega, by go_num, HST6.out, H22.out, HB22.out⟩
            case measure => simp [intOf]; omega
        by_cases e9 : E = 9
        · subst e9
          have HN4 := hide (HNO.out e0)
          have HV2 := HVV
          have HB2E := HBB
          clear e0
          obtain ⟨ad5, n5, cap5, w5, hap, hcr⟩ := kcrash (i := 0) H4.out rfl x.ad x.cap x.fates HG4.out.fates 29
          obtain ⟨A5, hA5⟩ : ∃ X, (A4.crash (x.fates.map FT.abs)).on = X := ⟨_, rfl⟩
          have HST5 : Hid (KSt A5 o ob) := by rw [← hA5]; exact KSt.crash HN4.out HBS4.out _
          have HA5 := hide hA5
          have HCR := hide hcr
          clear hA5 hcr
          go_wp2_with (first | (at_builtin; refine wpList_kapp rfl _ _ _ rfl hap ?_; try go_frame) | fail)
          refine HCR.out.mono ?_
          rintro e w6 ⟨rfl, h, hb⟩
          have HB6 := hide (HB4.out.trans hb)
          have hc7 := s_on (i := 0) h rfl
          clear h hb hap HCR
          go_wp2_with fail
          refine hc7.mono ?_
          rintro e w7 ⟨rfl, h, hb⟩
          have HB7 := hide (HB6.out.trans hb)
          have H7 : Hid (Lies B w7 [.disk p A5, .block g (.cells CS 31 (0, 0))]) := by rw [← HA5.out]; exact h
          clear h hb hc7 HB6 HA5
          have hc20 := s_fall (i := 0) H7.out rfl 0 (by decide)
          go_wp2_with fail
          refine hc20.mono ?_
          rintro e w20 ⟨rfl, h, hb⟩
          have HB20 := hide (HB7.out.trans hb)
          have hc21 := s_arm (i := 0) h rfl 0 0 (by decide)
          clear h hb hc20 H7 HB7
          go_wp2_with fail
          refine hc21.mono ?_
          rintro e w21 ⟨rfl, h, hb⟩
          have HB21 := hide (HB20.out.trans hb)
          obtain ⟨A6, hA6⟩ : ∃ X, (A5.fallen 0).armed 0 0 = X := ⟨_, rfl⟩
          have h' : Lies B w21 ([.disk p A6] ++ [.block g (.cells CS 31 (0, 0))]) := by rw [← hA6]; exact h
          have hst6 : KSt A6 o ob := by rw [← hA6]; exact (HST5.out.same rfl rfl : KSt (A5.fallen 0) o ob).same (armed_fs _ _ _) (armed_off _ _ _)
          have HST6 := hide hst6
          have hc22 := told_any' (i := 0) h' rfl ⟨#[110, 97, 109, 101]⟩ V b (by rw [HV2.out, HB2E.out]; exact hst6.nm.told hst6.off (h'.ok (i := 0) rfl) (by decide))
          clear h h' hb hc21 HB20 hst6 hA6
          go_wp2_with fail
          refine hc22.mono ?_
          rintro e w22 ⟨rfl, h, hb⟩
          have HB22 := hide (HB21.out.trans hb)
          have H22 := hide h.drop
          clear h hb hc22 HB21
          go_wp2
          go_roundw
          case rel => exact ⟨k + 1, o, A6, V, b, rfl, rfl, HV2.out, HB2E.out, by omega, by go_num, HST6.out, H22.out, HB22.out⟩
          case measure => simp [intOf]; omega
        have HN4 := hide (HNO.out e0)
        have HOFF4 := hide (HOF.out e9)
        have HV2 := HVV
        have HB2E := HBB
        have d0 : (E == 0) = false := beq_eq_false_iff_ne.2 e0
        have d9 : (E == 9) = false := beq_eq_false_iff_ne.2 e9
        clear e0 e9
        cases cr with
        | true =>
          obtain ⟨ad5, n5, cap5, w5, hap, hcr⟩ := kcrash (i := 0) H4.out rfl x.ad x.cap x.fates HG4.out.fates 29
          obtain ⟨A5, hA5⟩ : ∃ X, (A4.crash (x.fates.map FT.abs)).on = X := ⟨_, rfl⟩
          have HST5 : Hid (KSt A5 o ob) := by rw [← hA5]; exact KSt.crash HN4.out HBS4.out _
          have HA5 := hide hA5
          have HCR := hide hcr
          clear hA5 hcr
          go_wp2_with (first | (at_builtin; refine wpList_kapp rfl _ _ _ rfl hap ?_; try go_frame) | fail)
          refine HCR.out.mono ?_
          rintro e w6 ⟨rfl, h, hb⟩
          have HB6 := hide (HB4.out.trans hb)
          have hc7 := s_on (i := 0) h rfl
          clear h hb hap HCR
          go_wp2_with fail
          refine hc7.mono ?_
          rintro e w7 ⟨rfl, h, hb⟩
          have HB7 := hide (HB6.out.trans hb)
          have H7 : Hid (Lies B w7 [.disk p A5, .block g (.cells CS 31 (0, 0))]) := by rw [← HA5.out]; exact h
          clear h hb hc7 HB6 HA5
          have hc20 := s_fall (i := 0) H7.out rfl 0 (by decide)
          go_wp2_with fail
          refine hc20.mono ?_
          rintro e w20 ⟨rfl, h, hb⟩
          have HB20 := hide (HB7.out.trans hb)
          have hc21 := s_arm (i := 0) h rfl 0 0 (by decide)
          clear h hb hc20 H7 HB7
          go_wp2_with fail
          refine hc21.mono ?_
          rintro e w21 ⟨rfl, h, hb⟩
          have HB21 := hide (HB20.out.trans hb)
          obtain ⟨A6, hA6⟩ : ∃ X, (A5.fallen 0).armed 0 0 = X := ⟨_, rfl⟩
          have h' : Lies B w21 ([.disk p A6] ++ [.block g (.cells CS 31 (0, 0))]) := by rw [← hA6]; exact h
          have hst6 : KSt A6 o ob := by rw [← hA6]; exact (HST5.out.same rfl rfl : KSt (A5.fallen 0) o ob).same (armed_fs _ _ _) (armed_off _ _ _)
          have HST6 := hide hst6
          have hc22 := told_any' (i := 0) h' rfl ⟨#[110, 97, 109, 101]⟩ V b (by rw [HV2.out, HB2E.out]; exact hst6.nm.told hst6.off (h'.ok (i := 0) rfl) (by decide))
          clear h h' hb hc21 HB20 hst6 hA6
          go_wp2_with fail
          refine hc22.mono ?_
          rintro e w22 ⟨rfl, h, hb⟩
          have HB22 := hide (HB21.out.trans hb)
          have H22 := hide h.drop
          clear h hb hc22 HB21
          go_wp2
          go_roundw
          case rel => exact ⟨k + 1, o, A6, V, b, rfl, rfl, HV2.out, HB2E.out, by omega, by go_num, HST6.out, H22.out, HB22.out⟩
          case measure => simp [intOf]; omega
        | false =>
          obtain ⟨A5, hA5⟩ : ∃ X, A4 = X := ⟨_, rfl⟩
          have HST5 : Hid (KSt A5 o ob) := by rw [← hA5]; exact ⟨HOFF4.out, HN4.out, HBS4.out⟩
          have H7 : Hid (Lies B w4 [.disk p A5, .block g (.cells CS 31 (0, 0))]) := by rw [← hA5]; exact H4.out
          have HB7 := HB4
          clear hA5
          have hc20 := s_fall (i := 0) H7.out rfl 0 (by decide)
          go_wp2_with fail
          refine hc20.mono ?_
          rintro e w20 ⟨rfl, h, hb⟩
          have HB20 := hide (HB7.out.trans hb)
          have hc21 := s_arm (i := 0) h rfl 0 0 (by decide)
          clear h hb hc20 H7 HB7
          go_wp2_with fail
          refine hc21.mono ?_
          rintro e w21 ⟨rfl, h, hb⟩
          have HB21 := hide (HB20.out.trans hb)
          obtain ⟨A6, hA6⟩ : ∃ X, (A5.fallen 0).armed 0 0 = X := ⟨_, rfl⟩
          have h' : Lies B w21 ([.disk p A6] ++ [.block g (.cells CS 31 (0, 0))]) := by rw [← hA6]; exact h
          have hst6 : KSt A6 o ob := by rw [← hA6]; exact (HST5.out.same rfl rfl : KSt (A5.fallen 0) o ob).same (armed_fs _ _ _) (armed_off _ _ _)
          have HST6 := hide hst6
          have hc22 := told_any' (i := 0) h' rfl ⟨#[110, 97, 109, 101]⟩ V b (by rw [HV2.out, HB2E.out]; exact hst6.nm.told hst6.off (h'.ok (i := 0) rfl) (by decide))
          clear h h' hb hc21 HB20 hst6 hA6
          go_wp2_with fail
          refine hc22.mono ?_
          rintro e w22 ⟨rfl, h, hb⟩
          have HB22 := hide (HB21.out.trans hb)
          have H22 := hide h.drop
          clear h hb hc22 HB21
          go_wp2
          go_roundw
          case rel => exact ⟨k + 1, o, A6, V, b, rfl, rfl, HV2.out, HB2E.out, by omega, by go_num, HST6.out, H22.out, HB22.out⟩
          case measure => simp [intOf]; omega
      · have hkl : k = os.length := by omega
        subst hkl
        have dk : decide ((os.length : Int) < (os.length : Int)) = false := decide_eq_false (by omega)
        have hc30 := told_any' (i := 0) hlr rfl ⟨#[98, 101, 115, 105, 100, 101]⟩ other true (by have := hst.bs.told hst.off (hlr.ok (i := 0) rfl) (by decide); rw [HOB.out] at this; exact this)
        have HBR := hide hbr
        clear hlr hbr hst hV hbb
        go_wp2_with fail
        refine hc30.mono ?_
        rintro e w30 ⟨rfl, h, hb⟩
        have HB30 := hide (HBR.out.trans hb)
        clear h hb hc30 HBR
        go_wp2
        go_ret
        exact ⟨rfl, HB30.out⟩
end Go.Proofs.Ytobfijpfdibccaa
