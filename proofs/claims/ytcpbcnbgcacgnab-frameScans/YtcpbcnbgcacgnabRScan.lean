/-
  The document's Scan.
-/
import Derived.Test.YtcpbcnbgcacgnabRNext
import Derived.Test.YtcpbcnbgcacgnabFScan
namespace Go.Proofs.Ytcpbcnbgcacgnab
open Go.RowKit C
set_option linter.unusedVariables false
set_option maxHeartbeats 2000000 in
theorem rscan_few (b : ByteArray) (n : Int) (w : World) (hn : n < 9223372036854775808) (hbs : b.size ≤ 281474976710656) (few : ∀ ps t', Told b.data.toList n ps t' → ps.length * 16 ≤ 140737488355328) :
    Calls Try.prog 6 #[.string b, .int .i64 n] w fun e w' => ∃ ad cap ps t', e = .returned (.tuple #[.slice ad ps.length cap, .int .i64 ((b.size - t'.length : Nat) : Int), .bool (!t'.isEmpty)]) ∧
      w'.ownsRow w.heap.size 9 1 (.slice ad ps.length cap) ps.length (ps.map encStr) ∧ Found b.data.toList n ps t' ∧ Below w.heap.size w w' := by
  have HN0 := hide hn
  have HBS := hide hbs
  have HFew := hide few
  clear hn hbs few
  go_enter Try.func6, Try.ntmps6
  go_wp2
  go_loopw [1, 7, 8] (fun vn v vat wr => ∃ (ps : List Key) (t' : List UInt8), n + ps.length < 9223372036854775808 ∧ vn = .int .i64 (n + ps.length) ∧ vat = .int .i64 ((b.size - t'.length : Nat) : Int) ∧ wr.ownsRow w.heap.size 9 1 v ps.length (ps.map encStr) ∧ Told b.data.toList n ps t' ∧ Below w.heap.size w wr) (fun _ _ vat _ => b.size - (intOf vat).toNat)
  case atStart =>
    refine ⟨[], b.data.toList, ?_, ?_, ?_, World.ownsRow_nil w _ 9 1, rfl, Below.refl _ _⟩
    · have := HN0.out; simpa using this
    · simp
    · rw [str_len, Nat.sub_self]; rfl
  case round =>
    obtain ⟨ps, t', hlt, rfl, rfl, hown, htold, hbw⟩ := hrel
    obtain ⟨ad, cap, rfl, hrow, _, _, _⟩ := own_at hown
    have HO := hide hown
    have HT := hide htold
    have HB := hide hbw
    obtain ⟨hs1, hs2⟩ := htold.suffix
    rw [str_len] at hs1 hs2
    obtain ⟨K, hK⟩ : ∃ K : Nat, b.size - t'.length = K := ⟨_, rfl⟩
    have HK := hide hK
    obtain ⟨N, hN⟩ : ∃ N : Int, n + (ps.length : Int) = N := ⟨_, rfl⟩
    have HN := hide hN
    have HNl : Hid (N < 9223372036854775808) := by show _ < _; rw [← hN]; exact hlt
    have HW : Hid (wholeT t' N = wholeT t' (n + ps.length)) := by show _ = _; rw [← hN]
    clear hlt
    have HD : Hid (b.data.toList.drop K = t') := by show _ = _; rw [← hK]; exact hs1.symm
    rw [hK, hN]
    have HS2 := hide hs2
    clear hown htold hbw hs1 hs2 hrow hK hN
    go_wp2_with fail
    refine (rnext_any b (K : Int) N _ HNl.out HBS.out).mono ?_
    rintro e w1 ⟨rfl, hb1⟩
    have hb1' := HB.out.trans (hb1.mono HB.out.size)
    have hrow1 := row_below HO.out hb1
    by_cases hE : t' = []
    · have e1 : nextA b.data.toList (K : Int) N = ([], 0, 0) := by
        unfold nextA
        have := HK.out
        rw [hE] at this
        rw [if_pos (by rw [str_len]; simp at this; omega)]
      rw [nx_of e1 nil8 rfl 0 rfl]
      have dK : decide ((K : Int) < (b.size : Int)) = false := decide_eq_false (by have h1 := HK.out; rw [hE] at h1; simp at h1; omega)
      have dK2 : decide (K < b.size) = false := decide_eq_false (by have h1 := HK.out; rw [hE] at h1; simp at h1; omega)
      clear e1
      go_wp2
      (try rw [Exit.noGoto_ret])
      go_ret3
      refine ⟨ad, cap, ps, t', ?_, hrow1, ⟨HT.out, by rw [← HW.out, hE]; exact none_empty _⟩, hb1'⟩
      rw [HK.out, hE]
      rfl
    · have hKb : K < b.size := by
        have := HS2.out
        have := HK.out
        have : 0 < t'.length := List.length_pos_iff.2 hE
        omega
      have e0 : nextA b.data.toList (K : Int) N = match wholeT t' N with
          | some p => (p, room p.length, 1)
          | none => ([], 0, 2) := by
        unfold nextA
        rw [if_neg (by rw [str_len]; omega), if_neg (by rw [str_len]; omega), Int.toNat_natCast, HD.out]
        rfl
      cases hw : wholeT t' N with
      | none =>
        rw [hw] at e0
        rw [nx_of e0 nil8 rfl 0 rfl]
        have HX : Hid (wholeT t' (n + ps.length) = none) := by show _ = _; rw [← HW.out]; exact hw
        have HY : Hid ((!t'.isEmpty) = true) := by
          show _ = _
          cases t' with
          | nil => exact absurd rfl hE
          | cons => rfl
        have dK : decide ((K : Int) < (b.size : Int)) = true := decide_eq_true (by omega)
        have dK2 : decide (K < b.size) = true := decide_eq_true hKb
        clear e0 hw hE hKb
        go_wp2
        (try rw [Exit.noGoto_ret])
        go_ret3
        refine ⟨ad, cap, ps, t', ?_, hrow1, ⟨HT.out, HX.out⟩, hb1'⟩
        rw [HK.out, HY.out]
        rfl
      | some p =>
        rw [hw] at e0
        obtain ⟨P, hP⟩ : ∃ P : ByteArray, P = ⟨p.toArray⟩ := ⟨_, rfl⟩
        obtain ⟨R, hR⟩ : ∃ R : Int, R = (room p.length : Int) := ⟨_, rfl⟩
        rw [nx_of e0 P hP R hR]
        have hwh : Whole (n + ps.length) t' p := wholeT_some.1 (by rw [← HW.out]; exact hw)
        have HWh := hide hwh
        have hlen := hwh.len
        have hrm := room_ge p.length
        have hKt := HK.out
        have hst := HS2.out
        have HR' : Hid (wrap64 ((K : Int) + R) = ((b.size - (t'.drop (room p.length)).length : Nat) : Int)) := by
          show _ = _
          have := HBS.out
          rw [hR, List.length_drop]
          unfold wrap64
          omega
        have HR1 : Hid ((K : Int) + R = ((b.size - (t'.drop (room p.length)).length : Nat) : Int)) := by
          show _ = _
          have := HBS.out
          rw [hR, List.length_drop]
          omega
        have HP := hide hP
        have HRR := hide hR
        have HMe : Hid (b.size - (b.size - (t'.drop (room p.length)).length) < b.size - K) := by
          show _ < _
          rw [List.length_drop]
          omega
        have hnr := Told.range (HT.out.snoc hwh) (by simp)
        have HNR := hide hnr
        have HLn : Hid ((ps.length + 1) * 16 ≤ 140737488355328) := by
          show _ ≤ _
          have := HFew.out _ _ (HT.out.snoc hwh)
          rwa [List.length_append, List.length_singleton] at this
        have HBw := hide (show w.heap.size ≤ w1.heap.size from hb1'.size)
        obtain ⟨K', hK'⟩ : ∃ K' : Nat, b.size - (t'.drop (room p.length)).length = K' := ⟨_, rfl⟩
        rw [hK'] at HR' HR1 HMe
        have HK' := hide hK'
        have hK'b : Hid (decide (K' < b.size) = !(t'.drop (room p.length)).isEmpty) := by
          show _ = _
          have h2 : (t'.drop (room p.length)).length ≤ b.size := by rw [List.length_drop]; omega
          cases hd : t'.drop (room p.length) with
          | nil => rw [hd] at hK'; simp at hK'; rw [decide_eq_false (by omega)]; rfl
          | cons x xs => rw [hd] at hK' h2; simp at hK' h2; rw [decide_eq_true (by omega)]; rfl
        have hN1 := HN.out
        have hNl := HNl.out
        have hK'lt : K' < 9223372036854775808 := by have := HBS.out; omega
        have HK'l := hide hK'lt
        have h2l : ((ps ++ [p]).length : Int) = (ps.length : Int) + 1 := by simp
        by_cases hmax : N = 9223372036854775807
        · have dm : (N == 9223372036854775807) = true := beq_iff_eq.2 hmax
          have HNo : Hid (wholeT (t'.drop (room p.length)) (n + (ps ++ [p]).length) = none) := by
            show _ = _
            rw [h2l]
            exact none_big (by omega) _
          clear e0 hw hE hKb hP hR hwh hlen hrm hKt hst hnr hK' hN1 hNl hmax hK'lt h2l
          have xr := HR'.out
          go_wp2_with (at_builtin; refine wpList_append_one rfl _ _ 23 9 _ 16 rfl Try.underlying23 info9 rfl w.heap.size _ ps.length (ps.map encStr) (.string P) rfl (by rfl) hrow1 (by rfl) rfl HLn.out (by decide) HBw.out ?_; intro g cap2 w2 hown2 hM2)
          (try rw [Exit.noGoto_ret])
          go_ret3
          refine ⟨some ⟨g, 0, none⟩, cap2, ps ++ [p], t'.drop (room p.length), ?_, ?_, ⟨HT.out.snoc HWh.out, HNo.out⟩, ?_⟩
          · rw [HK'.out, List.length_append, List.length_singleton, ← hK'b.out]
            rw [xr]
            rfl
          · rw [List.length_append, List.length_singleton, List.map_append]
            have e : [p].map encStr = [.string P] := by rw [HP.out]; rfl
            rw [e]
            exact hown2
          · exact hb1'.trans (hM2.below (World.ownsRow.lt hrow1 · · |>.1) HBw.out)
        · have dm : (N == 9223372036854775807) = false := beq_eq_false_iff_ne.2 hmax
          have HNE : Hid (wrap64 (N + 1) = n + ((ps ++ [p]).length : Nat)) := by
            show _ = _
            rw [h2l]
            unfold wrap64
            omega
          have HNL : Hid (n + ((ps ++ [p]).length : Int) < 9223372036854775808) := by
            show _ < _
            rw [h2l]; omega
          clear e0 hw hE hKb hP hR hwh hlen hrm hKt hst hnr hK' hN1 hNl hmax hK'lt h2l
          have xr := HR'.out
          go_wp2_with (at_builtin; refine wpList_append_one rfl _ _ 23 9 _ 16 rfl Try.underlying23 info9 rfl w.heap.size _ ps.length (ps.map encStr) (.string P) rfl (by rfl) hrow1 (by rfl) rfl HLn.out (by decide) HBw.out ?_; intro g cap2 w2 hown2 hM2)
          go_roundw
          case rel =>
            refine ⟨ps ++ [p], t'.drop (room p.length), HNL.out, ?_, ?_, ?_, HT.out.snoc HWh.out, ?_⟩
            · rw [← HNE.out]
            · rw [HK'.out, ← HR'.out]
            · rw [List.length_append, List.length_singleton, List.map_append]
              have e : [p].map encStr = [.string P] := by rw [HP.out]; rfl
              rw [e]
              exact hown2
            · exact hb1'.trans (hM2.below (World.ownsRow.lt hrow1 · · |>.1) HBw.out)
          case measure =>
            rw [HR'.out]
            show b.size - ((K' : Nat) : Int).toNat < b.size - ((K : Nat) : Int).toNat
            rw [Int.toNat_natCast, Int.toNat_natCast]
            exact HMe.out
end Go.Proofs.Ytcpbcnbgcacgnab
