/-
  A checkpoint's name.
-/
import Derived.Test.YtobfijpfdibccaaKMath
namespace Go.Proofs.Ytobfijpfdibccaa
open Go.RowKit Go.Maps
theorem knameOk_eq (l : Key) : knameOk l = (decide (1 ≤ l.length) && decide (l.length ≤ 28) && l.all chOk) := rfl
set_option maxHeartbeats 800000 in
theorem kName_any (s : ByteArray) (w : World) : Calls Try.prog 20 #[.string s] w fun e w' => e = .returned (.bool (knameOk s.data.toList)) ∧ w' = w := by
  rw [knameOk_eq, str_len]
  by_cases h1 : s.size < 1
  · have hd : decide ((s.size : Int) < 1) = true := decide_eq_true (by omega)
    have hn : (decide (1 ≤ s.size) && decide (s.size ≤ 28) && s.data.toList.all chOk) = false := by
      rw [decide_eq_false (by omega : ¬ 1 ≤ s.size)]; rfl
    rw [hn]
    go_enter Try.func20, Try.ntmps20
    go_wp2
    go_ret
    exact ⟨rfl, rfl⟩
  · have hd : decide ((s.size : Int) < 1) = false := decide_eq_false (by omega)
    by_cases h2 : 28 < s.size
    · have hd2 : decide ((28 : Int) < (s.size : Int)) = true := decide_eq_true (by omega)
      have hn : (decide (1 ≤ s.size) && decide (s.size ≤ 28) && s.data.toList.all chOk) = false := by
        rw [decide_eq_false (by omega : ¬ s.size ≤ 28), Bool.and_false]; rfl
      rw [hn]
      go_enter Try.func20, Try.ntmps20
      go_wp2
      go_ret
      exact ⟨rfl, rfl⟩
    · have hd2 : decide ((28 : Int) < (s.size : Int)) = false := decide_eq_false (by omega)
      have hn : (decide (1 ≤ s.size) && decide (s.size ≤ 28) && s.data.toList.all chOk) = s.data.toList.all chOk := by
        rw [decide_eq_true (by omega : 1 ≤ s.size), decide_eq_true (by omega : s.size ≤ 28)]; rfl
      rw [hn]
      obtain ⟨n, hsn⟩ : ∃ n, s.size = n := ⟨_, rfl⟩
      have hn28 : n ≤ 28 := by omega
      have HL : Hid (s.data.toList.length = n) := by show _ = _; rw [str_len, hsn]
      have HG : Hid (∀ i, i < n → s[i]? = some (byteAt s.data.toList i)) := fun i hi => str_get s i (by omega)
      clear hn h1 h2
      rw [hsn] at hd hd2
      go_enter Try.func20, Try.ntmps20
      go_wp2
      go_loopw [14] (fun i wr => ∃ k : Nat, k ≤ n ∧ i = .int .i64 (k : Int) ∧ (∀ j, j < k → chOk (byteAt s.data.toList j) = true) ∧ wr = w) (fun i _ => n - (intOf i).toNat)
      case atStart => exact ⟨0, by omega, rfl, fun j hj => absurd hj (by omega), rfl⟩
      case round =>
        obtain ⟨k, hk, rfl, hall, rfl⟩ := hrel
        have HA := hide hall
        clear hall
        by_cases hlt : k < n
        · have hx : ∀ w' : World, (Instr.index 9 (.string s) (.int .i64 (k : Int))).run Try.prog w' = .ok (.int .u8 ((byteAt s.data.toList k).toNat : Int)) w' := fun w' => run_index_str w' s .i64 k _ (HG.out k hlt)
          have hd3 : decide ((k : Int) < (n : Int)) = true := decide_eq_true (by omega)
          obtain ⟨c, hc⟩ : ∃ c, byteAt s.data.toList k = c := ⟨_, rfl⟩
          rw [hc] at hx
          have HC := hide hc
          clear hc
          by_cases b1 : c.toNat < 33
          · have e1 : decide ((c.toNat : Int) < 33) = true := decide_eq_true (by omega)
            have HB : Hid (s.data.toList.all chOk = false) := by
              show _ = false
              rw [← Bool.not_eq_true, all_at]
              intro h
              have := h k (by rw [HL.out]; exact hlt)
              rw [HC.out] at this
              simp [chOk] at this
              omega
            go_wp2
            go_ret
            exact ⟨by rw [HB.out]; rfl, rfl⟩
          · have e1 : decide ((c.toNat : Int) < 33) = false := decide_eq_false (by omega)
            by_cases b2 : 126 < c.toNat
            · have e2 : decide ((126 : Int) < (c.toNat : Int)) = true := decide_eq_true (by omega)
              have HB : Hid (s.data.toList.all chOk = false) := by
                show _ = false
                rw [← Bool.not_eq_true, all_at]
                intro h
                have := h k (by rw [HL.out]; exact hlt)
                rw [HC.out] at this
                simp [chOk] at this
                omega
              go_wp2
              go_ret
              exact ⟨by rw [HB.out]; rfl, rfl⟩
            · have e2 : decide ((126 : Int) < (c.toNat : Int)) = false := decide_eq_false (by omega)
              have HB : Hid (chOk c = true) := by show _ = true; simp [chOk]; omega
              clear b1 b2
              go_wp2
              go_roundw
              case rel =>
                refine ⟨k + 1, by omega, by go_num, fun j hj => ?_, by first | rfl | trivial⟩
                by_cases e : j = k
                · rw [e, HC.out]; exact HB.out
                · exact HA.out j (by omega)
              case measure => simp [intOf]; omega
        · have hkn : k = n := by omega
          subst hkn
          have hd3 : decide ((k : Int) < (k : Int)) = false := decide_eq_false (by omega)
          have HB : Hid (s.data.toList.all chOk = true) := by
            show _ = true
            rw [all_at]
            intro i hi
            rw [HL.out] at hi
            exact HA.out i hi
          go_wp2
          go_ret
          exact ⟨by rw [HB.out]; rfl, rfl⟩
end Go.Proofs.Ytobfijpfdibccaa
