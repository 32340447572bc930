import Derived.Test.YtdffmmiegpndkaaGreatDoorFFrame
import Derived.WalkMore
/-
  The program's payloadOf, HasPrefix, Next.
-/
namespace Go.Proofs.YtdffmmiegpndkaaGreatDoor.Fr
open Go.RowKit C
/-- What payloadOf answers. -/
def payS (b : ByteArray) : ByteArray :=
  let s0 : RS := (b, 0)
  let k := be (takeA 4 s0).data.toList
  if 65536 < k then nil8 else rawA k (takeS 4 (takeS 8 (takeS 4 s0)))
set_option maxHeartbeats 1000000 in
theorem payloadOf_any (b : ByteArray) (w : World) : Calls Tryz.prog 109 #[.string b] w fun e w' => e = .returned (.string (payS b)) ∧ Below w.heap.size w w' := by
  obtain ⟨Z, hZ⟩ : ∃ Z : Int, (be (takeA 4 (b, 0)).data.toList : Int) = Z := ⟨_, rfl⟩
  have hg := fun (p : Nat) (w : World) (h : CR w p (b, 0)) => rU32 p (b, 0) w h
  have hlt : be (takeA 4 (b, 0)).data.toList < 4294967296 := by
    have h := be_lt (takeA 4 (b, 0)).data.toList
    have h2 := takeA_le 4 (b, 0)
    rw [str_len] at h
    have h3 : (takeA ((4 : Nat) : Int) (b, 0)).size = (takeA 4 (b, 0)).size := rfl
    have : 256 ^ (takeA 4 (b, 0)).size ≤ 256 ^ 4 := Nat.pow_le_pow_right (by decide) (by omega)
    omega
  have hc : ∀ w : World, (convert 90 3 (.int .u32 Z)).run Tryz.prog w = .ok (.int .i64 Z) w := fun w => by
    have h := run_convert_int (P := Tryz.prog) (w := w) 90 3 .u32 Z (by kernel_rfl) (by kernel_rfl)
    have e2 : IntKind.i64.wrap Z = Z := by rw [IntKind.wrap_i64]; omega
    rw [show Tryz.prog.intKind 3 = .i64 by kernel_rfl, e2] at h
    exact h
  simp only [hZ] at hg
  have HG := hide hg
  have HC := hide hc
  have HZ := hide hZ
  by_cases hb : 65536 < be (takeA 4 (b, 0)).data.toList
  · have e1 : payS b = nil8 := by simp only [payS]; rw [if_pos hb]
    rw [e1]
    have hd : decide (Z > 65536) = true := decide_eq_true (by omega)
    have hd1 : decide (65536 < Z) = true := decide_eq_true (by omega)
    clear e1 hb hc hg hZ hlt
    go_enter Tryz.func109, Tryz.ntmps109
    go_wp2_with fail
    refine (rOpen b _).mono ?_
    rintro e w1 ⟨rfl, h1, hb1, hs1⟩
    clear hs1
    go_wp2_with fail
    refine (HG.out _ _ h1).mono ?_
    rintro e w2 ⟨rfl, h2, hM2⟩
    go_wp2
    go_ret
    exact ⟨rfl, hb1.trans (hM2.below (Nat.le_refl _) hb1.size)⟩
  · have e1 : payS b = rawA (be (takeA 4 (b, 0)).data.toList) (takeS 4 (takeS 8 (takeS 4 (b, 0)))) := by simp only [payS]; rw [if_neg hb]
    rw [e1, hZ]
    have hd : decide (Z > 65536) = false := decide_eq_false (by omega)
    have hd1 : decide (65536 < Z) = false := decide_eq_false (by omega)
    have HS : Hid ((rawA Z (takeS 4 (takeS 8 (takeS 4 (b, 0))))).size ≤ 281474976710656) := by
      show _ ≤ _
      rw [← hZ]
      have h1 := takeA_le (be (takeA 4 (b, 0)).data.toList) (rawMid (be (takeA 4 (b, 0)).data.toList) (takeS 4 (takeS 8 (takeS 4 (b, 0)))))
      unfold rawA
      omega
    clear e1 hb hc hg hZ hlt
    go_enter Tryz.func109, Tryz.ntmps109
    go_wp2_with fail
    refine (rOpen b _).mono ?_
    rintro e w1 ⟨rfl, h1, hb1, hs1⟩
    clear hs1
    go_wp2_with fail
    refine (HG.out _ _ h1).mono ?_
    rintro e w2 ⟨rfl, h2, hM2⟩
    go_wp2_with fail
    refine (rI64 _ _ _ h2 _ rfl).mono ?_
    rintro e w3 ⟨rfl, h3, hM3⟩
    go_wp2_with fail
    refine (rU32 _ _ _ h3).mono ?_
    rintro e w4 ⟨rfl, h4, hM4⟩
    go_wp2_with (first | (refine wpList_conv rfl _ _ _ rfl .u32 .i64 Z Z (by rfl) (HC.out _) ?_) | fail)
    refine (rRaw Z _ _ _ h4 HS.out).mono ?_
    rintro e w5 ⟨rfl, h5, hM5⟩
    go_wp2
    go_ret
    exact ⟨rfl, hb1.trans ((((hM2.trans hM3).trans hM4).trans hM5).below (Nat.le_refl _) hb1.size)⟩
theorem toList_inj (a b : ByteArray) : a.toList = b.toList ↔ a = b := by
  constructor
  · intro h
    rw [ByteArray.toList_eq, ByteArray.toList_eq] at h
    exact ByteArray.ext (Array.ext' h)
  · intro h
    rw [h]
theorem pre_iff (s t : ByteArray) : (s.extract 0 t.size = t) ↔ t.data.toList <+: s.data.toList := by
  rw [List.prefix_iff_eq_take]
  have e : (s.extract 0 t.size).data.toList = s.data.toList.take t.data.toList.length := by
    rw [ByteArray.data_extract, Array.toList_extract, str_len]
    simp [List.extract]
  constructor
  · intro hx
    rw [← e, hx]
  · intro hx
    apply ByteArray.ext
    apply Array.ext'
    rw [e, ← hx]
set_option maxHeartbeats 1000000 in
theorem prefix_in (s t : ByteArray) (w : World) : Calls Tryz.prog 116 #[.string s, .string t] w fun e w' => e = .returned (.bool (decide (t.data.toList <+: s.data.toList))) ∧ w = w' := by
  by_cases h : t.size ≤ s.size
  · have hd : decide ((t.size : Int) ≤ (s.size : Int)) = true := decide_eq_true (by omega)
    have hd1 : decide ((s.size : Int) ≥ (t.size : Int)) = true := decide_eq_true (by omega)
    have hd2 : decide (t.size ≤ s.size) = true := decide_eq_true h
    have h0 : (0 : Int) ≤ (t.size : Int) := by omega
    have h1 : (t.size : Int) ≤ (s.size : Int) := by omega
    have HI : Hid (((s.extract 0 t.size).toList == t.toList) = decide (t.data.toList <+: s.data.toList)) := by
      show _ = _
      rw [Bool.eq_iff_iff, beq_iff_eq, decide_eq_true_iff, ← pre_iff s t, toList_inj]
    go_enter Tryz.func116, Tryz.ntmps116
    go_wp2
    go_ret
    refine ⟨?_, rfl⟩
    rw [← HI.out]
    rfl
  · have hd : decide ((t.size : Int) ≤ (s.size : Int)) = false := decide_eq_false (by omega)
    have hd1 : decide ((s.size : Int) ≥ (t.size : Int)) = false := decide_eq_false (by omega)
    have hd2 : decide (t.size ≤ s.size) = false := decide_eq_false h
    have e : decide (t.data.toList <+: s.data.toList) = false := decide_eq_false (fun hx => h (by have := hx.length_le; rwa [str_len, str_len] at this))
    rw [e]
    clear h e
    go_enter Tryz.func116, Tryz.ntmps116
    go_wp2
    go_ret
    exact ⟨rfl, rfl⟩
theorem prefix_any (s t : ByteArray) (w : World) (b : Bool) (hb : decide (t.data.toList <+: s.data.toList) = b) : Calls Tryz.prog 88 #[.string s, .string t] w fun e w' => e = .returned (.bool b) ∧ w = w' := by
  have h := prefix_in s t w
  rw [hb] at h
  have H := hide h
  clear h hb
  go_enter Tryz.func88, Tryz.ntmps88
  go_wp2_with fail
  refine H.out.mono ?_
  rintro e w1 ⟨rfl, rfl⟩
  go_wp2
  go_ret
  exact ⟨rfl, rfl⟩
theorem ext_list (s : ByteArray) (m : Nat) : (s.extract m s.size).data.toList = s.data.toList.drop m := by
  rw [ByteArray.data_extract, Array.toList_extract]
  have : s.size = s.data.toList.length := (str_len s).symm
  rw [List.extract, List.take_of_length_le (by rw [List.length_drop]; omega)]
theorem ext_list0 (s : ByteArray) (m : Nat) : (s.extract 0 m).data.toList = s.data.toList.take m := by
  rw [ByteArray.data_extract, Array.toList_extract]
  simp [List.extract]
theorem takeA_ok (m : Nat) (s : ByteArray) (h : m ≤ s.size) : (takeA (m : Int) (s, 0)).data.toList = s.data.toList.take m := by
  unfold takeA
  rw [if_pos rfl, if_neg (by simp only; omega)]
  exact ext_list0 s m
theorem takeS_ok (m : Nat) (s : ByteArray) (h : m ≤ s.size) : takeS (m : Int) (s, 0) = (s.extract m s.size, 0) := by
  unfold takeS
  rw [if_pos rfl, if_neg (by simp only; omega)]
  rfl
theorem ext_size (s : ByteArray) (m : Nat) : (s.extract m s.size).size = s.size - m := by rw [ByteArray.size_extract]; omega
/-- The payload that the program reads, against the document's whole frames. -/
theorem pay_whole (n : Int) (b : ByteArray) (q : List UInt8) (h : Whole n b.data.toList q) : (payS b).data.toList = q := by
  obtain ⟨a1, _, _, a4, a5⟩ := frame_head h.2.2.2
  have hr := room_ge q.length
  rw [str_len] at a5
  have k1 : be (takeA 4 (b, 0)).data.toList = q.length := by
    rw [show takeA 4 (b, 0) = takeA ((4 : Nat) : Int) (b, 0) from rfl, takeA_ok 4 b (by omega), a1, be_nb, Nat.mod_eq_of_lt (by have := h.2.2.1; omega)]
  have k2 : takeS 4 (takeS 8 (takeS 4 (b, 0))) = (((b.extract 4 b.size).extract 8 (b.extract 4 b.size).size).extract 4 ((b.extract 4 b.size).extract 8 (b.extract 4 b.size).size).size, 0) := by
    rw [show takeS 4 (b, 0) = takeS ((4 : Nat) : Int) (b, 0) from rfl, takeS_ok 4 b (by omega)]
    rw [show takeS 8 (b.extract 4 b.size, 0) = takeS ((8 : Nat) : Int) (b.extract 4 b.size, 0) from rfl, takeS_ok 8 _ (by rw [ext_size]; omega)]
    exact takeS_ok 4 _ (by rw [ext_size, ext_size]; omega)
  simp only [payS]
  rw [k1, k2, if_neg (by have := h.2.2.1; omega)]
  unfold rawA rawMid
  rw [if_neg (by omega), takeA_ok _ _ (by rw [ext_size, ext_size, ext_size]; omega), ext_list, ext_list, ext_list, List.drop_drop, List.drop_drop]
  exact a4
theorem pay_size (b : ByteArray) : (payS b).size ≤ 65536 := by
  simp only [payS]
  split
  · exact Nat.zero_le _
  · rename_i hk
    have h1 := takeA_le (be (takeA 4 (b, 0)).data.toList) (rawMid (be (takeA 4 (b, 0)).data.toList) (takeS 4 (takeS 8 (takeS 4 (b, 0)))))
    unfold rawA
    omega
theorem pay_iff (n : Nat) (b : ByteArray) (hn : n < 9223372036854775808) : wholeT b.data.toList n = if frameL n (payS b).data.toList <+: b.data.toList then some (payS b).data.toList else none := by
  split
  · rename_i h
    have := pay_size b
    exact wholeT_some.2 ⟨by omega, by omega, by rw [str_len]; omega, by simpa using h⟩
  · rename_i h
    rw [wholeT_none]
    intro q hq
    have e := pay_whole n b q hq
    apply h
    have := hq.2.2.2
    rw [e]
    simpa using this
def nx (l : List UInt8) (at_ n : Int) : Value := .tuple #[.string ⟨(nextA l at_ n).1.toArray⟩, .int .i64 (nextA l at_ n).2.1, .int .i64 (nextA l at_ n).2.2]
theorem nx_of {l : List UInt8} {at_ n : Int} {p : List UInt8} {k : Nat} {c : Int} (h : nextA l at_ n = (p, k, c)) (s : ByteArray) (hs : s = ⟨p.toArray⟩) (K : Int) (hK : K = (k : Int)) : nx l at_ n = .tuple #[.string s, .int .i64 K, .int .i64 c] := by
  unfold nx; rw [h, hs, hK]
set_option maxHeartbeats 1000000 in
theorem next_any (b : ByteArray) (at_ n : Int) (w : World) (hn : n < 9223372036854775808) : Calls Tryz.prog 82 #[.string b, .int .i64 at_, .int .i64 n] w fun e w' => e = .returned (nx b.data.toList at_ n) ∧ Below w.heap.size w w' := by
  by_cases h0 : at_ = (b.size : Int)
  · have e : nextA b.data.toList at_ n = ([], 0, 0) := by unfold nextA; rw [if_pos (by rw [str_len]; exact h0)]
    rw [nx_of e nil8 rfl 0 rfl]
    subst h0
    clear e hn
    go_enter Tryz.func82, Tryz.ntmps82
    go_wp2
    go_ret3
    exact ⟨rfl, Below.refl _ _⟩
  · have hq0 : (at_ == (b.size : Int)) = false := beq_eq_false_iff_ne.2 h0
    have hq1 : decide (at_ = (b.size : Int)) = false := decide_eq_false h0
    have el : ¬ at_ = (b.data.toList.length : Int) := by rw [str_len]; exact h0
    by_cases hr : at_ < 0 ∨ (b.size : Int) < at_
    · have e : nextA b.data.toList at_ n = ([], 0, 2) := by unfold nextA; rw [if_neg el, if_pos (by rw [str_len]; exact hr)]
      rw [nx_of e nil8 rfl 0 rfl]
      clear e hn el h0
      by_cases h1 : at_ < 0
      · have d1 : decide (at_ < 0) = true := decide_eq_true h1
        clear hr h1
        go_enter Tryz.func82, Tryz.ntmps82
        go_wp2
        go_ret3
        exact ⟨rfl, Below.refl _ _⟩
      · have h2 := hr.resolve_left h1
        have d1 : decide (at_ < 0) = false := decide_eq_false h1
        have d2 : decide (at_ > (b.size : Int)) = true := decide_eq_true h2
        have d3 : decide ((b.size : Int) < at_) = true := decide_eq_true h2
        clear hr h1 h2
        go_enter Tryz.func82, Tryz.ntmps82
        go_wp2
        go_ret3
        exact ⟨rfl, Below.refl _ _⟩
    · obtain ⟨k, rfl⟩ := Int.eq_ofNat_of_zero_le (show 0 ≤ at_ by omega)
      have hk : k < b.size := by omega
      have d1 : decide ((k : Int) < 0) = false := decide_eq_false (by omega)
      have d2 : decide ((k : Int) > (b.size : Int)) = false := decide_eq_false (by omega)
      have d3 : decide ((b.size : Int) < (k : Int)) = false := decide_eq_false (by omega)
      have d4 : decide (b.size < k) = false := decide_eq_false (by omega)
      have g0 : (0 : Int) ≤ (k : Int) := by omega
      have g1 : (k : Int) ≤ (b.size : Int) := by omega
      have e0 : nextA b.data.toList (k : Int) n = match wholeT (b.extract k b.size).data.toList n with
          | some p => (p, room p.length, 1)
          | none => ([], 0, 2) := by
        unfold nextA
        rw [if_neg el, if_neg (by rw [str_len]; omega), ext_list]
        rfl
      have E0 := hide e0
      have HN := hide hn
      obtain ⟨T, hT⟩ : ∃ T : ByteArray, b.extract k b.size = T := ⟨_, rfl⟩
      have HT := hide hT
      obtain ⟨P, hP⟩ : ∃ P : ByteArray, payS T = P := ⟨_, rfl⟩
      have HP := hide hP
      clear hP hT e0 el h0 hr hn
      by_cases hneg : n < 0
      · have f1 : frameE n P = 1 := by unfold frameE; rw [if_pos hneg]
        have f2 : frameS n P = nil8 := by unfold frameS; rw [if_pos hneg]
        have fa := fun w => frame_any n P w HN.out
        rw [f1, f2] at fa
        have FA := hide fa
        have e : nextA b.data.toList (k : Int) n = ([], 0, 2) := by rw [E0.out, none_neg hneg]
        rw [nx_of e nil8 rfl 0 rfl]
        clear f1 f2 fa e hneg
        go_enter Tryz.func82, Tryz.ntmps82
        go_wp2_with fail
        rw [HT.out]
        refine (payloadOf_any T _).mono ?_
        rintro e w1 ⟨rfl, hb1⟩
        rw [HP.out]
        go_wp2_with fail
        refine (FA.out _).mono ?_
        rintro e w2 ⟨rfl, hb2⟩
        go_wp2
        go_ret3
        exact ⟨rfl, hb1.trans (hb2.mono hb1.size)⟩
      · obtain ⟨m, rfl⟩ := Int.eq_ofNat_of_zero_le (show 0 ≤ n by omega)
        have hps : P.size ≤ 65536 := by rw [← HP.out]; exact pay_size T
        have fa := fun w => frame_ok m P w (by have := HN.out; omega) hps
        have FA := hide fa
        obtain ⟨F, hF⟩ : ∃ F : ByteArray, F = ⟨(frameL m P.data.toList).toArray⟩ := ⟨_, rfl⟩
        have HF := hide hF
        have hi := pay_iff m T (by have := HN.out; omega)
        rw [HP.out] at hi
        have hFl : F.data.toList = frameL m P.data.toList := by rw [hF]
        have hFs : (F.size : Int) = (room P.data.toList.length : Int) := by rw [← str_len, hFl, frameL_length]
        rw [← hFl] at hi
        rw [← hF] at fa
        have FA := hide fa
        obtain ⟨M, hM⟩ : ∃ M : Int, (m : Int) = M := ⟨_, rfl⟩
        rw [hM] at fa E0 HN hi ⊢
        by_cases hw : F.data.toList <+: T.data.toList
        case' pos =>
          rw [if_pos hw] at hi
          have hpx := fun w => prefix_any T F w true (decide_eq_true hw)
          have e : nextA b.data.toList (k : Int) M = (P.data.toList, room P.data.toList.length, 1) := by rw [E0.out, HT.out, hi]
          rw [nx_of e P rfl (F.size : Int) hFs]
        case' neg =>
          rw [if_neg hw] at hi
          have hpx := fun w => prefix_any T F w false (decide_eq_false hw)
          have e : nextA b.data.toList (k : Int) M = ([], 0, 2) := by rw [E0.out, HT.out, hi]
          rw [nx_of e nil8 rfl 0 rfl]
        all_goals
          have FA := hide fa
          have HX := hide hpx
          clear fa hi hpx e hFs hFl hF hw hM hneg hps
          go_enter Tryz.func82, Tryz.ntmps82
          go_wp2_with fail
          rw [HT.out]
          refine (payloadOf_any T _).mono ?_
          rintro e w1 ⟨rfl, hb1⟩
          rw [HP.out]
          go_wp2_with fail
          refine (FA.out _).mono ?_
          rintro e w2 ⟨rfl, hb2⟩
          go_wp2_with fail
          rw [HT.out]
          refine (HX.out _).mono ?_
          rintro e w3 ⟨rfl, rfl⟩
          go_wp2
          go_ret3
          exact ⟨rfl, hb1.trans (hb2.mono hb1.size)⟩
end Go.Proofs.YtdffmmiegpndkaaGreatDoor.Fr
/-
  Lists of texts and of numbers: in memory, grown by one, held against one another.
-/
namespace Go.Proofs.YtdffmmiegpndkaaGreatDoor.Fr
open Go.RowKit C
set_option linter.unusedVariables false
abbrev Key := List UInt8
def encStr (k : Key) : Value := .string ⟨k.toArray⟩
def encInt (k : Nat) : Value := .int .i64 (k : Int)
theorem lt_of_some {w : World} {b : Nat} {ob : Obj} (h : w.heap[b]? = some ob) : b < w.heap.size := by
  rcases Nat.lt_or_ge b w.heap.size with hl | hl
  · exact hl
  · rw [Array.getElem?_eq_none hl] at h; cases h
/-- A slice's elements, of one cell each. -/
def RowAt (w : World) (ad : Option Addr) (xs : List Value) : Prop := xs = [] ∨ ∃ b o, ad = some ⟨b, o, none⟩ ∧ b < w.heap.size ∧ ∀ i, i < xs.length → w.cell? ⟨b, o + i, none⟩ = xs[i]?
theorem RowAt.below {w w' : World} {ad : Option Addr} {xs : List Value} (h : RowAt w ad xs) (hb : Below w.heap.size w w') : RowAt w' ad xs := by
  rcases h with h | ⟨b, o, ha, hl, hc⟩
  · exact .inl h
  · exact .inr ⟨b, o, ha, Nat.lt_of_lt_of_le hl hb.size, fun i hi => by rw [← hc i hi]; exact World.cell?_of_block (hb.block b hl)⟩
theorem RowAt.take {w : World} {ad : Option Addr} {xs : List Value} (h : RowAt w ad xs) (k : Nat) : RowAt w ad (xs.take k) := by
  rcases h with h | ⟨b, o, ha, hl, hc⟩
  · exact .inl (by rw [h]; simp)
  · refine .inr ⟨b, o, ha, hl, fun i hi => ?_⟩
    rw [List.length_take] at hi
    rw [hc i (by omega), List.getElem?_take_of_lt (by omega)]
theorem own_at {w : World} {base e n : Nat} {v : Value} {xs : List Value} (h : w.ownsRow base e 1 v n xs) : ∃ ad cap, v = .slice ad n cap ∧ RowAt w ad xs ∧ n ≤ cap ∧ cap ≤ maxLen ∧ (∀ b o, ad = some ⟨b, o, none⟩ → base ≤ b) := by
  obtain ⟨hl, ⟨rfl, rfl⟩ | ⟨g, cap, cur, rfl, hb, hg, hnc, hcm, hcs, htake⟩⟩ := h
  · rw [Nat.zero_mul] at hl
    exact ⟨none, 0, rfl, .inl (List.length_eq_zero_iff.1 hl), Nat.le_refl _, Nat.zero_le _, fun b o hx => by cases hx⟩
  · refine ⟨some ⟨g, 0, none⟩, cap, rfl, ?_, hnc, hcm, fun b o hx => by cases hx; exact hb⟩
    refine .inr ⟨g, 0, rfl, lt_of_some hg, fun i hi => ?_⟩
    rw [Nat.zero_add, cell_of_row w g i _ _ (0, 0) hg, ← htake, List.getElem?_take, if_pos (by omega)]
    rw [Array.getElem?_toList]
theorem row_same {w w' : World} {base e size n : Nat} {v : Value} {xs : List Value} (h : w.ownsRow base e size v n xs) (he : ∀ b, v.ownBlock = some b → w'.heap[b]? = w.heap[b]?) : w'.ownsRow base e size v n xs := by
  refine ⟨h.1, ?_⟩
  rcases h.2 with hn | ⟨g, cap, cur, rfl, hb, hg, rest⟩
  · exact .inl hn
  · exact .inr ⟨g, cap, cur, rfl, hb, by rw [he g rfl]; exact hg, rest⟩
theorem row_below {w w' : World} {base e size n : Nat} {v : Value} {xs : List Value} (h : w.ownsRow base e size v n xs) (hb : Below w.heap.size w w') : w'.ownsRow base e size v n xs := row_same h (fun b hx => hb.block b (World.ownsRow.lt h b hx).2)
/-- Another row stands, where one was grown. -/
theorem row_apart {w w' : World} {base e size n : Nat} {v u u' : Value} {xs : List Value} (h : w.ownsRow base e size v n xs) (hM : Mv w u w' u') (ha : ∀ b, v.ownBlock = some b → u.ownBlock ≠ some b) : w'.ownsRow base e size v n xs :=
  row_same h (fun b hx => hM.gr.block b (World.ownsRow.lt h b hx).2 (fun e => ha b hx e.symm))
theorem Mv.below {B : Nat} {w w' : World} {v v' : Value} (h : Mv w v w' v') (hv : ∀ k, v.ownBlock = some k → B ≤ k) (hB : B ≤ w.heap.size) : Below B w w' := grown_below h.gr (fun k hk => hv k hk) hB
theorem info9 : (Tryz.prog.info? 9).map (fun i => (i.zero, i.size, i.bytes)) = some (some (.string { data := #[] }), 1, 16) := by kernel_rfl
theorem info3 : (Tryz.prog.info? 3).map (fun i => (i.zero, i.size, i.bytes)) = some (some (.int .i64 0), 1, 8) := by kernel_rfl
/-- append(v, x), one element of one cell, in a region that draws no order. -/
theorem wpList_append_one {ops : Array Oper} {rest : List Oper} {o : Oper} {a : Act} {w w0 : World} {Q : Exit → Act → World → Prop} (hgd : o.guard = none) (s x : Operand) (t e : TypeId) (z : Value) (by_ : Nat)
    (ho : o.op = .call { callee := .builtin .append, args := #[s, x], argTypes := #[t, t] }) (ht : Tryz.prog.underlying t = some (.slice e)) (hinf : (Tryz.prog.info? e).map (fun i => (i.zero, i.size, i.bytes)) = some (some z, 1, by_)) (hzc : z.cells.size = 1)
    (B : Nat) (v : Value) (n : Nat) (l : List Value) (X : Value) (hX1 : X.oneCell' = true) (hs : a.eval s = v) (hown : w0.ownsRow B e 1 v n l)
    (hx : a.eval x = .slice (some ⟨w0.heap.size, 0, none⟩) 1 1) (hw : w = w0.alloc (.cells #[X] e)) (hlen : (n + 1) * by_ ≤ 140737488355328) (hb1 : 1 ≤ by_) (hB : B ≤ w0.heap.size)
    (h : ∀ g cap w', w'.ownsRow B e 1 (.slice (some ⟨g, 0, none⟩) (n + 1) cap) (n + 1) (l ++ [X]) → Mv w0 v w' (.slice (some ⟨g, 0, none⟩) (n + 1) cap) → wpList Tryz.prog ops Q rest (a.put o.dst (.slice (some ⟨g, 0, none⟩) (n + 1) cap)) w') : wpList Tryz.prog ops Q (o :: rest) a w := by
  subst hw
  have hmx : n + 1 ≤ 140737488355328 := Nat.le_trans (Nat.le_mul_of_pos_right _ hb1) hlen
  obtain ⟨i, hi, hz0, hz1, hz2⟩ := info_parts hinf
  have hown' : (w0.alloc (.cells #[X] e)).ownsRow B e 1 v n l := World.ownsRow.kept hown (grown_alloc w0 _ none) (by cases v.ownBlock <;> simp)
  refine wpList_append_lies (P := Tryz.prog) _ hgd s x t ho B e i z 1 by_ ht hi hz0 hz1 hz2 hzc (by omega) v n l hs hown' ⟨w0.heap.size, 0, none⟩ 1 1 [X] hx rfl ?_ ?_ (by omega) (by unfold maxLen; omega) hlen (by simp; omega) _ rfl ?_
  · intro j u hu
    exact World.news_of_block (heap_alloc_new w0 _) j u hu
  · intro u hu
    simp at hu; subst hu; exact hX1
  · intro g cap w' h1 h2 h3 h4
    refine h g cap w' h1 ⟨grown_trans (grown_alloc w0 _ v.ownBlock) h2, fun g' hg' => ?_⟩
    have e : g' = g := by simpa [Value.ownBlock] using hg'.symm
    subst e
    rcases h3 with h3 | h3
    · exact .inl h3
    · exact .inr (by simp at h3; omega)
theorem drewN_below {B : Nat} {w w1 : World} (h : Below B w w1) (n : Nat) : Below B w (w1.drewN n) := ⟨h.os, h.tape, h.output, h.size, h.block⟩
theorem take_eq_succ {α : Type} {a b : List α} {k : Nat} (h : a.take k = b.take k) (ha : k < a.length) (hb : k < b.length) (hx : a[k] = b[k]) : a.take (k + 1) = b.take (k + 1) := by
  rw [List.take_succ_eq_append_getElem ha, List.take_succ_eq_append_getElem hb, h, hx]
-- left out in this seat: same_any
end Go.Proofs.YtdffmmiegpndkaaGreatDoor.Fr
/-
  The program's Scan.
-/
namespace Go.Proofs.YtdffmmiegpndkaaGreatDoor.Fr
open Go.RowKit C
set_option linter.unusedVariables false
/-- The number that the loop has behind so many frames. -/
def numAt (n : Int) (k : Nat) : Int := if n + k < 9223372036854775808 then n + k else -9223372036854775808
theorem numAt_zero (n : Int) (h : n < 9223372036854775808) : numAt n 0 = n := by unfold numAt; rw [if_pos (by simpa using h)]; simp
theorem numAt_whole (n : Int) (k : Nat) (t : List UInt8) : wholeT t (numAt n k) = wholeT t (n + k) := by
  unfold numAt
  split
  · rfl
  · rw [none_neg (by decide), none_big (by omega)]
theorem numAt_lt (n : Int) (k : Nat) : numAt n k < 9223372036854775808 := by unfold numAt; split <;> omega
/-- What Scan finds. -/
structure Found (l : List UInt8) (n : Int) (ps : List Key) (t' : List UInt8) : Prop where
  told : Told l n ps t'
  none : wholeT t' (n + ps.length) = none
set_option maxHeartbeats 2000000 in
theorem scan_few (b : ByteArray) (n : Int) (w : World) (hn : n < 9223372036854775808) (hbs : b.size ≤ 4611686018427387904) (few : ∀ ps t', Told b.data.toList n ps t' → ps.length * 16 ≤ 140737488355328) :
    Calls Tryz.prog 63 #[.string b, .int .i64 n] w fun e w' => ∃ ad cap ps t', e = .returned (.tuple #[.slice ad ps.length cap, .int .i64 ((b.size - t'.length : Nat) : Int), .bool (!t'.isEmpty)]) ∧
      w'.ownsRow w.heap.size 9 1 (.slice ad ps.length cap) ps.length (ps.map encStr) ∧ Found b.data.toList n ps t' ∧ Below w.heap.size w w' := by
  have HN0 := hide hn
  have HBS := hide hbs
  have HFew := hide few
  clear hn hbs few
  go_enter Tryz.func63, Tryz.ntmps63
  go_wp2
  go_step3
  go_wp2
  go_step3
  go_wp2
  go_loopw [1, 7, 8, 9] (fun vn v vat vt wr => ∃ (ps : List Key) (t' : List UInt8), vt = .bool false ∧ vn = .int .i64 (numAt n ps.length) ∧ vat = .int .i64 ((b.size - t'.length : Nat) : Int) ∧ wr.ownsRow w.heap.size 9 1 v ps.length (ps.map encStr) ∧ Told b.data.toList n ps t' ∧ Below w.heap.size w wr) (fun _ _ vat _ _ => b.size - (intOf vat).toNat)
  case atStart =>
    refine ⟨[], b.data.toList, rfl, ?_, ?_, World.ownsRow_nil w _ 9 1, rfl, Below.refl _ _⟩
    · rw [List.length_nil, numAt_zero n HN0.out]
    · rw [str_len, Nat.sub_self]; rfl
  case round =>
    obtain ⟨ps, t', rfl, rfl, rfl, hown, htold, hbw⟩ := hrel
    obtain ⟨ad, cap, rfl, hrow, _, _, _⟩ := own_at hown
    have HO := hide hown
    have HT := hide htold
    have HB := hide hbw
    obtain ⟨hs1, hs2⟩ := htold.suffix
    rw [str_len] at hs1 hs2
    obtain ⟨K, hK⟩ : ∃ K : Nat, b.size - t'.length = K := ⟨_, rfl⟩
    have HK := hide hK
    obtain ⟨N, hN⟩ : ∃ N : Int, numAt n ps.length = N := ⟨_, rfl⟩
    have HN := hide hN
    have HNl : Hid (N < 9223372036854775808) := by show _ < _; rw [← hN]; exact numAt_lt _ _
    have HW : Hid (wholeT t' N = wholeT t' (n + ps.length)) := by show _ = _; rw [← hN]; exact numAt_whole _ _ _
    have HD : Hid (b.data.toList.drop K = t') := by show _ = _; rw [← hK]; exact hs1.symm
    rw [hK, hN]
    have HS2 := hide hs2
    clear hown htold hbw hs1 hs2 hrow hK hN
    go_wp2_with fail
    refine (next_any b (K : Int) N _ HNl.out).mono ?_
    rintro e w1 ⟨rfl, hb1⟩
    have hb1' := HB.out.trans (hb1.mono HB.out.size)
    have hrow1 := row_below HO.out hb1
    by_cases hE : t' = []
    · have e1 : nextA b.data.toList (K : Int) N = ([], 0, 0) := by
        unfold nextA
        have := HK.out
        rw [hE] at this
        rw [if_pos (by rw [str_len]; simp at this; omega)]
      rw [nx_of e1 nil8 rfl 0 rfl]
      go_wp2
      (try rw [Exit.noGoto_ret])
      go_ret3
      refine ⟨ad, cap, ps, t', ?_, hrow1, ⟨HT.out, by rw [← HW.out, hE]; exact none_empty _⟩, hb1'⟩
      rw [HK.out, hE]
      rfl
    · have hKb : K < b.size := by
        have := HS2.out
        have := HK.out
        have : 0 < t'.length := List.length_pos_iff.2 hE
        omega
      have e0 : nextA b.data.toList (K : Int) N = match wholeT t' N with
          | some p => (p, room p.length, 1)
          | none => ([], 0, 2) := by
        unfold nextA
        rw [if_neg (by rw [str_len]; omega), if_neg (by rw [str_len]; omega), Int.toNat_natCast, HD.out]
        rfl
      cases hw : wholeT t' N with
      | none =>
        rw [hw] at e0
        rw [nx_of e0 nil8 rfl 0 rfl]
        have HX : Hid (wholeT t' (n + ps.length) = none) := by show _ = _; rw [← HW.out]; exact hw
        have HY : Hid ((!t'.isEmpty) = true) := by
          show _ = _
          cases t' with
          | nil => exact absurd rfl hE
          | cons => rfl
        clear e0 hw hE hKb
        go_wp2
        (try rw [Exit.noGoto_ret])
        go_ret3
        refine ⟨ad, cap, ps, t', ?_, hrow1, ⟨HT.out, HX.out⟩, hb1'⟩
        rw [HK.out, HY.out]
        rfl
      | some p =>
        rw [hw] at e0
        obtain ⟨P, hP⟩ : ∃ P : ByteArray, P = ⟨p.toArray⟩ := ⟨_, rfl⟩
        obtain ⟨R, hR⟩ : ∃ R : Int, R = (room p.length : Int) := ⟨_, rfl⟩
        rw [nx_of e0 P hP R hR]
        have hwh : Whole (n + ps.length) t' p := wholeT_some.1 (by rw [← HW.out]; exact hw)
        have HWh := hide hwh
        have hlen := hwh.len
        have hrm := room_ge p.length
        have hKt := HK.out
        have hst := HS2.out
        have HR' : Hid (wrap64 ((K : Int) + R) = ((b.size - (t'.drop (room p.length)).length : Nat) : Int)) := by
          show _ = _
          have := HBS.out
          rw [hR, List.length_drop]
          unfold wrap64
          omega
        have HR1 : Hid ((K : Int) + R = ((b.size - (t'.drop (room p.length)).length : Nat) : Int)) := by
          show _ = _
          have := HBS.out
          rw [hR, List.length_drop]
          omega
        have HP := hide hP
        have HRR := hide hR
        have HMe : Hid (b.size - (b.size - (t'.drop (room p.length)).length) < b.size - K) := by
          show _ < _
          rw [List.length_drop]
          omega
        have hnr := Told.range (HT.out.snoc hwh) (by simp)
        have HNR := hide hnr
        have HLn : Hid ((ps.length + 1) * 16 ≤ 140737488355328) := by
          show _ ≤ _
          have := HFew.out _ _ (HT.out.snoc hwh)
          rwa [List.length_append, List.length_singleton] at this
        have HBw := hide (show w.heap.size ≤ w1.heap.size from hb1'.size)
        have hne : numAt n (ps.length + 1) = wrap64 (N + 1) := by
          rw [List.length_append, List.length_singleton] at hnr
          rw [← HN.out]
          unfold numAt wrap64
          split <;> split <;> omega
        have HNE := hide hne
        clear e0 hw hE hKb hP hR hwh hlen hrm hKt hst hnr hne
        go_wp2_with (at_builtin; refine wpList_append_one rfl _ _ 30 9 _ 16 rfl Tryz.underlying30 info9 rfl w.heap.size _ ps.length (ps.map encStr) (.string P) rfl (by rfl) hrow1 (by rfl) rfl HLn.out (by decide) HBw.out ?_; intro g cap2 w2 hown2 hM2)
        go_roundw
        case rel =>
          refine ⟨ps ++ [p], t'.drop (room p.length), rfl, ?_, ?_, ?_, HT.out.snoc HWh.out, ?_⟩
          · rw [List.length_append, List.length_singleton, HNE.out]
          · rw [← HR'.out]
          · rw [List.length_append, List.length_singleton, List.map_append]
            have e : [p].map encStr = [.string P] := by rw [HP.out]; rfl
            rw [e]
            exact hown2
          · exact hb1'.trans (hM2.below (World.ownsRow.lt hrow1 · · |>.1) HBw.out)
        case measure =>
          rw [HR'.out]
          show b.size - (((b.size - (t'.drop (room p.length)).length : Nat) : Int)).toNat < b.size - ((K : Nat) : Int).toNat
          rw [Int.toNat_natCast, Int.toNat_natCast]
          exact HMe.out
theorem scan_any (b : ByteArray) (n : Int) (w : World) (hn : n < 9223372036854775808) (hbs : b.size ≤ 140737488355328) :
    Calls Tryz.prog 63 #[.string b, .int .i64 n] w fun e w' => ∃ ad cap ps t', e = .returned (.tuple #[.slice ad ps.length cap, .int .i64 ((b.size - t'.length : Nat) : Int), .bool (!t'.isEmpty)]) ∧
      w'.ownsRow w.heap.size 9 1 (.slice ad ps.length cap) ps.length (ps.map encStr) ∧ Found b.data.toList n ps t' ∧ Below w.heap.size w w' :=
  scan_few b n w hn (by omega) (fun ps t' h => by have := h.suffix.2; rw [str_len] at this; omega)
end Go.Proofs.YtdffmmiegpndkaaGreatDoor.Fr
