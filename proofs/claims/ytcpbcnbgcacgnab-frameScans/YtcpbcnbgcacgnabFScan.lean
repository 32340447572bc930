/-
  The program's Scan.
-/
import Derived.Test.YtcpbcnbgcacgnabFTexts
import Derived.WalkMore
namespace Go.Proofs.Ytcpbcnbgcacgnab
open Go.RowKit C
set_option linter.unusedVariables false
/-- The number that the loop has behind so many frames. -/
def numAt (n : Int) (k : Nat) : Int := if n + k < 9223372036854775808 then n + k else -9223372036854775808
theorem numAt_zero (n : Int) (h : n < 9223372036854775808) : numAt n 0 = n := by unfold numAt; rw [if_pos (by simpa using h)]; simp
theorem numAt_whole (n : Int) (k : Nat) (t : List UInt8) : wholeT t (numAt n k) = wholeT t (n + k) := by
  unfold numAt
  split
  · rfl
  · rw [none_neg (by decide), none_big (by omega)]
theorem numAt_lt (n : Int) (k : Nat) : numAt n k < 9223372036854775808 := by unfold numAt; split <;> omega
/-- What Scan finds. -/
structure Found (l : List UInt8) (n : Int) (ps : List Key) (t' : List UInt8) : Prop where
  told : Told l n ps t'
  none : wholeT t' (n + ps.length) = none
set_option maxHeartbeats 2000000 in
theorem scan_few (b : ByteArray) (n : Int) (w : World) (hn : n < 9223372036854775808) (hbs : b.size ≤ 4611686018427387904) (few : ∀ ps t', Told b.data.toList n ps t' → ps.length * 16 ≤ 140737488355328) :
    Calls Try.prog 5 #[.string b, .int .i64 n] w fun e w' => ∃ ad cap ps t', e = .returned (.tuple #[.slice ad ps.length cap, .int .i64 ((b.size - t'.length : Nat) : Int), .bool (!t'.isEmpty)]) ∧
      w'.ownsRow w.heap.size 9 1 (.slice ad ps.length cap) ps.length (ps.map encStr) ∧ Found b.data.toList n ps t' ∧ Below w.heap.size w w' := by
  have HN0 := hide hn
  have HBS := hide hbs
  have HFew := hide few
  clear hn hbs few
  go_enter Try.func5, Try.ntmps5
  go_wp2
  go_step3
  go_wp2
  go_step3
  go_wp2
  go_loopw [1, 7, 8, 9] (fun vn v vat vt wr => ∃ (ps : List Key) (t' : List UInt8), vt = .bool false ∧ vn = .int .i64 (numAt n ps.length) ∧ vat = .int .i64 ((b.size - t'.length : Nat) : Int) ∧ wr.ownsRow w.heap.size 9 1 v ps.length (ps.map encStr) ∧ Told b.data.toList n ps t' ∧ Below w.heap.size w wr) (fun _ _ vat _ _ => b.size - (intOf vat).toNat)
  case atStart =>
    refine ⟨[], b.data.toList, rfl, ?_, ?_, World.ownsRow_nil w _ 9 1, rfl, Below.refl _ _⟩
    · rw [List.length_nil, numAt_zero n HN0.out]
    · rw [str_len, Nat.sub_self]; rfl
  case round =>
    obtain ⟨ps, t', rfl, rfl, rfl, hown, htold, hbw⟩ := hrel
    obtain ⟨ad, cap, rfl, hrow, _, _, _⟩ := own_at hown
    have HO := hide hown
    have HT := hide htold
    have HB := hide hbw
    obtain ⟨hs1, hs2⟩ := htold.suffix
    rw [str_len] at hs1 hs2
    obtain ⟨K, hK⟩ : ∃ K : Nat, b.size - t'.length = K := ⟨_, rfl⟩
    have HK := hide hK
    obtain ⟨N, hN⟩ : ∃ N : Int, numAt n ps.length = N := ⟨_, rfl⟩
    have HN := hide hN
    have HNl : Hid (N < 9223372036854775808) := by show _ < _; rw [← hN]; exact numAt_lt _ _
    have HW : Hid (wholeT t' N = wholeT t' (n + ps.length)) := by show _ = _; rw [← hN]; exact numAt_whole _ _ _
    have HD : Hid (b.data.toList.drop K = t') := by show _ = _; rw [← hK]; exact hs1.symm
    rw [hK, hN]
    have HS2 := hide hs2
    clear hown htold hbw hs1 hs2 hrow hK hN
    go_wp2_with fail
    refine (next_any b (K : Int) N _ HNl.out).mono ?_
    rintro e w1 ⟨rfl, hb1⟩
    have hb1' := HB.out.trans (hb1.mono HB.out.size)
    have hrow1 := row_below HO.out hb1
    by_cases hE : t' = []
    · have e1 : nextA b.data.toList (K : Int) N = ([], 0, 0) := by
        unfold nextA
        have := HK.out
        rw [hE] at this
        rw [if_pos (by rw [str_len]; simp at this; omega)]
      rw [nx_of e1 nil8 rfl 0 rfl]
      go_wp2
      (try rw [Exit.noGoto_ret])
      go_ret3
      refine ⟨ad, cap, ps, t', ?_, hrow1, ⟨HT.out, by rw [← HW.out, hE]; exact none_empty _⟩, hb1'⟩
      rw [HK.out, hE]
      rfl
    · have hKb : K < b.size := by
        have := HS2.out
        have := HK.out
        have : 0 < t'.length := List.length_pos_iff.2 hE
        omega
      have e0 : nextA b.data.toList (K : Int) N = match wholeT t' N with
          | some p => (p, room p.length, 1)
          | none => ([], 0, 2) := by
        unfold nextA
        rw [if_neg (by rw [str_len]; omega), if_neg (by rw [str_len]; omega), Int.toNat_natCast, HD.out]
        rfl
      cases hw : wholeT t' N with
      | none =>
        rw [hw] at e0
        rw [nx_of e0 nil8 rfl 0 rfl]
        have HX : Hid (wholeT t' (n + ps.length) = none) := by show _ = _; rw [← HW.out]; exact hw
        have HY : Hid ((!t'.isEmpty) = true) := by
          show _ = _
          cases t' with
          | nil => exact absurd rfl hE
          | cons => rfl
        clear e0 hw hE hKb
        go_wp2
        (try rw [Exit.noGoto_ret])
        go_ret3
        refine ⟨ad, cap, ps, t', ?_, hrow1, ⟨HT.out, HX.out⟩, hb1'⟩
        rw [HK.out, HY.out]
        rfl
      | some p =>
        rw [hw] at e0
        obtain ⟨P, hP⟩ : ∃ P : ByteArray, P = ⟨p.toArray⟩ := ⟨_, rfl⟩
        obtain ⟨R, hR⟩ : ∃ R : Int, R = (room p.length : Int) := ⟨_, rfl⟩
        rw [nx_of e0 P hP R hR]
        have hwh : Whole (n + ps.length) t' p := wholeT_some.1 (by rw [← HW.out]; exact hw)
        have HWh := hide hwh
        have hlen := hwh.len
        have hrm := room_ge p.length
        have hKt := HK.out
        have hst := HS2.out
        have HR' : Hid (wrap64 ((K : Int) + R) = ((b.size - (t'.drop (room p.length)).length : Nat) : Int)) := by
          show _ = _
          have := HBS.out
          rw [hR, List.length_drop]
          unfold wrap64
          omega
        have HR1 : Hid ((K : Int) + R = ((b.size - (t'.drop (room p.length)).length : Nat) : Int)) := by
          show _ = _
          have := HBS.out
          rw [hR, List.length_drop]
          omega
        have HP := hide hP
        have HRR := hide hR
        have HMe : Hid (b.size - (b.size - (t'.drop (room p.length)).length) < b.size - K) := by
          show _ < _
          rw [List.length_drop]
          omega
        have hnr := Told.range (HT.out.snoc hwh) (by simp)
        have HNR := hide hnr
        have HLn : Hid ((ps.length + 1) * 16 ≤ 140737488355328) := by
          show _ ≤ _
          have := HFew.out _ _ (HT.out.snoc hwh)
          rwa [List.length_append, List.length_singleton] at this
        have HBw := hide (show w.heap.size ≤ w1.heap.size from hb1'.size)
        have hne : numAt n (ps.length + 1) = wrap64 (N + 1) := by
          rw [List.length_append, List.length_singleton] at hnr
          rw [← HN.out]
          unfold numAt wrap64
          split <;> split <;> omega
        have HNE := hide hne
        clear e0 hw hE hKb hP hR hwh hlen hrm hKt hst hnr hne
        go_wp2_with (at_builtin; refine wpList_append_one rfl _ _ 23 9 _ 16 rfl Try.underlying23 info9 rfl w.heap.size _ ps.length (ps.map encStr) (.string P) rfl (by rfl) hrow1 (by rfl) rfl HLn.out (by decide) HBw.out ?_; intro g cap2 w2 hown2 hM2)
        go_roundw
        case rel =>
          refine ⟨ps ++ [p], t'.drop (room p.length), rfl, ?_, ?_, ?_, HT.out.snoc HWh.out, ?_⟩
          · rw [List.length_append, List.length_singleton, HNE.out]
          · rw [← HR'.out]
          · rw [List.length_append, List.length_singleton, List.map_append]
            have e : [p].map encStr = [.string P] := by rw [HP.out]; rfl
            rw [e]
            exact hown2
          · exact hb1'.trans (hM2.below (World.ownsRow.lt hrow1 · · |>.1) HBw.out)
        case measure =>
          rw [HR'.out]
          show b.size - (((b.size - (t'.drop (room p.length)).length : Nat) : Int)).toNat < b.size - ((K : Nat) : Int).toNat
          rw [Int.toNat_natCast, Int.toNat_natCast]
          exact HMe.out
theorem scan_any (b : ByteArray) (n : Int) (w : World) (hn : n < 9223372036854775808) (hbs : b.size ≤ 140737488355328) :
    Calls Try.prog 5 #[.string b, .int .i64 n] w fun e w' => ∃ ad cap ps t', e = .returned (.tuple #[.slice ad ps.length cap, .int .i64 ((b.size - t'.length : Nat) : Int), .bool (!t'.isEmpty)]) ∧
      w'.ownsRow w.heap.size 9 1 (.slice ad ps.length cap) ps.length (ps.map encStr) ∧ Found b.data.toList n ps t' ∧ Below w.heap.size w w' :=
  scan_few b n w hn (by omega) (fun ps t' h => by have := h.suffix.2; rw [str_len] at this; omega)
end Go.Proofs.Ytcpbcnbgcacgnab
