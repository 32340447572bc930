/-
  Names; the power's count.
-/
import Derived.Test.YtobfijpfdibccaaClone
namespace Go.Proofs.Ytobfijpfdibccaa
open Go.RowKit Go.Maps
theorem str_get (s : ByteArray) (i : Nat) (h : i < s.size) : s[i]? = some (byteAt s.data.toList i) := by
  have hl : i < s.data.toList.length := by rw [str_len]; exact h
  rw [getElem?_pos s i h]
  unfold byteAt
  rw [List.getD_eq_getElem?_getD, List.getElem?_eq_getElem hl]
  rfl
theorem run_index_str (w : World) (s : ByteArray) (k : IntKind) (i : Nat) (c : UInt8) (h : s[i]? = some c) : (Instr.index 9 (.string s) (.int k (i : Int))).run Try.prog w = .ok (.int .u8 (c.toNat : Int)) w := by
  simp [Instr.index, run_underlying Try.underlying9, asIntOf, h, go_sem]
def chOk (b : UInt8) : Bool := decide (33 ≤ b.toNat) && decide (b.toNat ≤ 126)
theorem all_at (l : Key) : l.all chOk = true ↔ ∀ i, i < l.length → chOk (byteAt l i) = true := by
  rw [List.all_eq_true]
  constructor
  · intro h i hi
    have : byteAt l i = l[i] := by unfold byteAt; rw [List.getD_eq_getElem?_getD, List.getElem?_eq_getElem hi]; rfl
    rw [this]
    exact h _ (List.getElem_mem hi)
  · intro h x hx
    obtain ⟨i, hi, rfl⟩ := List.getElem_of_mem hx
    have : byteAt l i = l[i] := by unfold byteAt; rw [List.getD_eq_getElem?_getD, List.getElem?_eq_getElem hi]; rfl
    rw [← this]
    exact h i hi
theorem nameOk_eq (l : Key) : nameOk l = (decide (1 ≤ l.length) && decide (l.length ≤ 32) && l.all chOk) := rfl
set_option maxHeartbeats 800000 in
theorem isName_any (s : ByteArray) (w : World) : Calls Try.prog 40 #[.string s] w fun e w' => e = .returned (.bool (nameOk s.data.toList)) ∧ w' = w := by
  rw [nameOk_eq, str_len]
  by_cases h1 : s.size < 1
  · have hd : decide ((s.size : Int) < 1) = true := decide_eq_true (by omega)
    have hn : (decide (1 ≤ s.size) && decide (s.size ≤ 32) && s.data.toList.all chOk) = false := by
      rw [decide_eq_false (by omega : ¬ 1 ≤ s.size)]; rfl
    rw [hn]
    go_enter Try.func40, Try.ntmps40
    go_wp2
    go_ret
    exact ⟨rfl, rfl⟩
  · have hd : decide ((s.size : Int) < 1) = false := decide_eq_false (by omega)
    by_cases h2 : 32 < s.size
    · have hd2 : decide ((32 : Int) < (s.size : Int)) = true := decide_eq_true (by omega)
      have hn : (decide (1 ≤ s.size) && decide (s.size ≤ 32) && s.data.toList.all chOk) = false := by
        rw [decide_eq_false (by omega : ¬ s.size ≤ 32), Bool.and_false]; rfl
      rw [hn]
      go_enter Try.func40, Try.ntmps40
      go_wp2
      go_ret
      exact ⟨rfl, rfl⟩
    · have hd2 : decide ((32 : Int) < (s.size : Int)) = false := decide_eq_false (by omega)
      have hn : (decide (1 ≤ s.size) && decide (s.size ≤ 32) && s.data.toList.all chOk) = s.data.toList.all chOk := by
        rw [decide_eq_true (by omega : 1 ≤ s.size), decide_eq_true (by omega : s.size ≤ 32)]; rfl
      rw [hn]
      obtain ⟨n, hsn⟩ : ∃ n, s.size = n := ⟨_, rfl⟩
      have hn32 : n ≤ 32 := by omega
      have HL : Hid (s.data.toList.length = n) := by show _ = _; rw [str_len, hsn]
      have HG : Hid (∀ i, i < n → s[i]? = some (byteAt s.data.toList i)) := fun i hi => str_get s i (by omega)
      clear hn h1 h2
      rw [hsn] at hd hd2
      go_enter Try.func40, Try.ntmps40
      go_wp2
      go_loopw [14] (fun i wr => ∃ k : Nat, k ≤ n ∧ i = .int .i64 (k : Int) ∧ (∀ j, j < k → chOk (byteAt s.data.toList j) = true) ∧ wr = w) (fun i _ => n - (intOf i).toNat)
      case atStart => exact ⟨0, by omega, rfl, fun j hj => absurd hj (by omega), rfl⟩
      case round =>
        obtain ⟨k, hk, rfl, hall, rfl⟩ := hrel
        have HA := hide hall
        clear hall
        by_cases hlt : k < n
        · have hx : ∀ w' : World, (Instr.index 9 (.string s) (.int .i64 (k : Int))).run Try.prog w' = .ok (.int .u8 ((byteAt s.data.toList k).toNat : Int)) w' := fun w' => run_index_str w' s .i64 k _ (HG.out k hlt)
          have hd3 : decide ((k : Int) < (n : Int)) = true := decide_eq_true (by omega)
          obtain ⟨c, hc⟩ : ∃ c, byteAt s.data.toList k = c := ⟨_, rfl⟩
          rw [hc] at hx
          have HC := hide hc
          clear hc
          by_cases b1 : c.toNat < 33
          · have e1 : decide ((c.toNat : Int) < 33) = true := decide_eq_true (by omega)
            have HB : Hid (s.data.toList.all chOk = false) := by
              show _ = false
              rw [← Bool.not_eq_true, all_at]
              intro h
              have := h k (by rw [HL.out]; exact hlt)
              rw [HC.out] at this
              simp [chOk] at this
              omega
            go_wp2
            go_ret
            exact ⟨by rw [HB.out]; rfl, rfl⟩
          · have e1 : decide ((c.toNat : Int) < 33) = false := decide_eq_false (by omega)
            by_cases b2 : 126 < c.toNat
            · have e2 : decide ((126 : Int) < (c.toNat : Int)) = true := decide_eq_true (by omega)
              have HB : Hid (s.data.toList.all chOk = false) := by
                show _ = false
                rw [← Bool.not_eq_true, all_at]
                intro h
                have := h k (by rw [HL.out]; exact hlt)
                rw [HC.out] at this
                simp [chOk] at this
                omega
              go_wp2
              go_ret
              exact ⟨by rw [HB.out]; rfl, rfl⟩
            · have e2 : decide ((126 : Int) < (c.toNat : Int)) = false := decide_eq_false (by omega)
              have HB : Hid (chOk c = true) := by show _ = true; simp [chOk]; omega
              clear b1 b2
              go_wp2
              go_roundw
              case rel =>
                refine ⟨k + 1, by omega, by go_num, fun j hj => ?_, by first | rfl | trivial⟩
                by_cases e : j = k
                · rw [e, HC.out]; exact HB.out
                · exact HA.out j (by omega)
              case measure => simp [intOf]; omega
        · have hkn : k = n := by omega
          subst hkn
          have hd3 : decide ((k : Int) < (k : Int)) = false := decide_eq_false (by omega)
          have HB : Hid (s.data.toList.all chOk = true) := by
            show _ = true
            rw [all_at]
            intro i hi
            rw [HL.out] at hi
            exact HA.out i hi
          go_wp2
          go_ret
          exact ⟨by rw [HB.out]; rfl, rfl⟩
end Go.Proofs.Ytobfijpfdibccaa
