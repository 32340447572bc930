/-
  Hex, value, Parse.
-/
import Derived.Test.YtkhogpnmkonajaaDoorMacText
import Derived.Laws.ResultCell
namespace Go.Proofs.YtkhogpnmkonajaaDoor
open Go.RowKit S
/-- A digit. -/
def dig (v : Nat) : UInt8 := if v < 10 then UInt8.ofNat (48 + v) else UInt8.ofNat (87 + v)
def digD : ByteArray := { data := #[48, 49, 50, 51, 52, 53, 54, 55, 56, 57, 97, 98, 99, 100, 101, 102] }
/-- A hash in digits. -/
def hexd (h : Nat → UInt8) : Nat → UInt8 := fun i => if i % 2 = 0 then dig ((h (i / 2)).toNat / 16) else dig ((h (i / 2)).toNat % 16)
theorem run_index_str (w : World) (s : ByteArray) (k : IntKind) (i : Nat) (c : UInt8) (h : s[i]? = some c) : (Instr.index 9 (.string s) (.int k (i : Int))).run Tryd.prog w = .ok (.int .u8 (c.toNat : Int)) w := by
  simp [Instr.index, run_underlying Tryd.underlying9, asIntOf, h, go_sem]
theorem dig_at : ∀ v : Fin 16, digD[v.val]? = some (dig v.val) := by decide
theorem upper_at (w : World) (b : UInt8) : (Instr.index 9 (.string { data := #[48, 49, 50, 51, 52, 53, 54, 55, 56, 57, 97, 98, 99, 100, 101, 102] }) (.int .u8 ((b.toNat : Int) / 16))).run Tryd.prog w = .ok (.int .u8 ((dig (b.toNat / 16)).toNat : Int)) w := by
  have hb := b.toNat_lt
  exact run_index_str w digD .u8 (b.toNat / 16) _ (dig_at ⟨b.toNat / 16, by omega⟩)
theorem and15_all : ∀ b : Fin 256, bits .and .u8 (b.val : Int) 15 = ((b.val % 16 : Nat) : Int) := by decide +kernel
theorem lower_at (w : World) (b : UInt8) : (Instr.index 9 (.string { data := #[48, 49, 50, 51, 52, 53, 54, 55, 56, 57, 97, 98, 99, 100, 101, 102] }) (.int .u8 (bits .and .u8 (b.toNat : Int) 15))).run Tryd.prog w = .ok (.int .u8 ((dig (b.toNat % 16)).toNat : Int)) w := by
  have hb := b.toNat_lt
  rw [and15_all ⟨b.toNat, hb⟩]
  exact run_index_str w digD .u8 (b.toNat % 16) _ (dig_at ⟨b.toNat % 16, by omega⟩)
theorem idx26 (f : Nat → Value) (w : World) (k : Nat) (hk : k < 32) : (Instr.index 26 (.agg (tabv f 32)) (.int .i64 (k : Int))).run Tryd.prog w = .ok (f k) w := by
  have h2 : (0 : Int) ≤ (k : Int) ∧ (k : Int) < 32 := by omega
  have h3 := tabv_get f 32 k hk
  simp [Instr.index, asIntOf, run_underlying Tryd.underlying26, h2, part, isAgg, run_underlying Tryd.underlying5, h3]
  omega
def uptoB (f : Nat → UInt8) (k : Nat) : Nat → UInt8 := fun i => if i < k then f i else 0
theorem uptoB_next (f : Nat → UInt8) (k : Nat) : upd (uptoB f k) k (f k) = uptoB f (k + 1) := by
  funext i; unfold upd uptoB
  by_cases e : i = k
  · subst e; rw [if_pos rfl, if_pos (by omega)]
  · rw [if_neg e]; by_cases h : i < k
    · rw [if_pos h, if_pos (by omega)]
    · rw [if_neg h, if_neg (by omega)]
theorem strOf_congr (f g : Nat → UInt8) (m : Nat) (h : ∀ i, i < m → f i = g i) : strOf f m = strOf g m := by
  unfold strOf; congr 2; exact List.map_congr_left fun i hi => h i (List.mem_range.1 hi)
set_option maxHeartbeats 800000 in
theorem hex_any (h : Nat → UInt8) (w : World) :
    Calls Tryd.prog 13 #[.agg (tabv (bv h) 32)] w fun e w' => e = .returned (.string (strOf (hexd h) 64)) ∧ Below w.heap.size w w' := by
  have h0 : Has ((w.alloc (.cells (tabv (bv h) 32) 26)).alloc (.cells (tabv (fun _ => .int .u8 0) 64) 44)) w.heap.size 26 (bv h) 32 := (Has.new w 26 (bv h) 32 _ rfl).old _
  have H0 := hide h0
  clear h0
  go_enter Tryd.func13, Tryd.ntmps13
  go_wp2_with (refine wpList_load_part rfl 26 _ rfl w.heap.size 0 rfl 26 _ 32 32 _ H0.out (by omega) Tryd.underlying26 rfl info26 (bv h) (fun i _ => by rw [Nat.zero_add]) ?_)
  generalize hW : World.alloc (World.alloc w _) _ = w3
  have g1 : Has w3 (w.heap.size + 1) 44 (bv (uptoB (hexd h) 0)) 64 := by
    rw [← hW]
    have := (Has.new (w.alloc (.cells (tabv (bv h) 32) 26)) 44 (fun _ => .int .u8 0) 64 _ rfl).congr (bv (uptoB (hexd h) 0)) (fun i _ => by unfold bv uptoB; rw [if_neg (by omega)]; rfl)
    rw [size_alloc] at this
    exact this
  have gb : Below w.heap.size w w3 := by rw [← hW]; exact ((Below.refl w.heap.size w).alloc (Nat.le_refl _) _).alloc (by simp) _
  clear hW H0
  go_loopw [7] (fun i wr => ∃ k : Nat, k ≤ 32 ∧ i = .int .i64 k ∧ Has wr (w.heap.size + 1) 44 (bv (uptoB (hexd h) (2 * k))) 64 ∧ Below w.heap.size w wr) (fun i _ => 32 - (intOf i).toNat)
  case atStart => exact ⟨0, by omega, rfl, g1, gb⟩
  case round =>
    clear g1 gb
    obtain ⟨k, hk, rfl, g1, gb⟩ := hrel
    by_cases hlt : k < 32
    · have c0 := g1.cell (2 * k) (by omega)
      have c1 := g1.cell (2 * k + 1) (by omega)
      have f0 := g1.frozen (2 * k)
      have f1 := g1.frozen (2 * k + 1)
      have ht := idx26 (bv h) wr k hlt
      simp only [bv] at ht
      have hU := fun w => upper_at w (h k)
      have hL := fun w => lower_at w (h k)
      have hd : decide ((k : Int) < 32) = true := by simp; omega
      go_wp2
      go_roundw
      case rel =>
        refine ⟨k + 1, by omega, by go_num, ?_, (gb.setCell (by simp) _).setCell (by simp) _⟩
        have e0 : dig ((h k).toNat / 16) = hexd h (2 * k) := by unfold hexd; rw [if_pos (by omega), show 2 * k / 2 = k by omega]
        have e1 : dig ((h k).toNat % 16) = hexd h (2 * k + 1) := by unfold hexd; rw [if_neg (by omega), show (2 * k + 1) / 2 = k by omega]
        rw [e0, e1]
        have := (g1.set (2 * k) (.int .u8 ((hexd h (2 * k)).toNat : Int))).set (2 * k + 1) (.int .u8 ((hexd h (2 * k + 1)).toNat : Int))
        rw [bv_upd, bv_upd, uptoB_next, uptoB_next] at this
        exact this
      case measure => simp [intOf]; omega
    · have hk32 : k = 32 := by omega
      subst hk32
      have hcv := run_conv g1 64 64 (Nat.le_refl _)
      go_wp2
      go_ret
      refine ⟨?_, gb⟩
      rw [strOf_congr (uptoB (hexd h) (2 * 32)) (hexd h) 64 (fun i hi => by unfold uptoB; rw [if_pos (by omega)])]
      rfl
/-- What a digit stands for, and whether it is one. -/
def dv (c : UInt8) : UInt8 × Bool := if 48 ≤ c.toNat ∧ c.toNat ≤ 57 then (UInt8.ofNat (c.toNat - 48), true) else if 97 ≤ c.toNat ∧ c.toNat ≤ 102 then (UInt8.ofNat (c.toNat - 87), true) else (0, false)
set_option maxHeartbeats 800000 in
theorem value_any (c : UInt8) (w : World) :
    Calls Tryd.prog 26 #[.int .u8 (c.toNat : Int)] w fun e w' => e = .returned (.tuple #[.int .u8 ((dv c).1.toNat : Int), .bool (dv c).2]) ∧ w' = w := by
  have hc := c.toNat_lt
  go_enter Tryd.func26, Tryd.ntmps26
  by_cases h1 : 48 ≤ c.toNat ∧ c.toNat ≤ 57
  · have e : dv c = (UInt8.ofNat (c.toNat - 48), true) := by unfold dv; rw [if_pos h1]
    have e2 : (UInt8.ofNat (c.toNat - 48)).toNat = c.toNat - 48 := by rw [UInt8.toNat_ofNat', Nat.mod_eq_of_lt (by omega)]
    rw [e, e2]
    obtain ⟨h1, h2⟩ := h1
    have d1 : decide ((48 : Int) ≤ (c.toNat : Int)) = true := by simp; omega
    have d2 : decide ((c.toNat : Int) ≤ 57) = true := by simp; omega
    go_wp2
    go_ret2
    refine ⟨?_, rfl⟩
    congr 4
    go_num
  · by_cases h2 : 97 ≤ c.toNat ∧ c.toNat ≤ 102
    · have e : dv c = (UInt8.ofNat (c.toNat - 87), true) := by unfold dv; rw [if_neg h1, if_pos h2]
      have e2 : (UInt8.ofNat (c.toNat - 87)).toNat = c.toNat - 87 := by rw [UInt8.toNat_ofNat', Nat.mod_eq_of_lt (by omega)]
      rw [e, e2]
      obtain ⟨h3, h4⟩ := h2
      have d1 : decide ((48 : Int) ≤ (c.toNat : Int)) = true := by simp; omega
      have d2 : decide ((c.toNat : Int) ≤ 57) = false := by simp; omega
      have d3 : decide ((97 : Int) ≤ (c.toNat : Int)) = true := by simp; omega
      have d4 : decide ((c.toNat : Int) ≤ 102) = true := by simp; omega
      go_wp2
      go_ret2
      refine ⟨?_, rfl⟩
      congr 4
      go_num
    · have e : dv c = (0, false) := by unfold dv; rw [if_neg h1, if_neg h2]
      rw [e]
      rcases Nat.lt_or_ge c.toNat 48 with l1 | l1
      · have d1 : decide ((48 : Int) ≤ (c.toNat : Int)) = false := by simp; omega
        have d3 : decide ((97 : Int) ≤ (c.toNat : Int)) = false := by simp; omega
        go_wp2
        go_ret2
        exact ⟨rfl, rfl⟩
      · have d1 : decide ((48 : Int) ≤ (c.toNat : Int)) = true := by simp; omega
        have d2 : decide ((c.toNat : Int) ≤ 57) = false := by simp; omega
        rcases Nat.lt_or_ge c.toNat 97 with l2 | l2
        · have d3 : decide ((97 : Int) ≤ (c.toNat : Int)) = false := by simp; omega
          go_wp2
          go_ret2
          exact ⟨rfl, rfl⟩
        · have d3 : decide ((97 : Int) ≤ (c.toNat : Int)) = true := by simp; omega
          have d4 : decide ((c.toNat : Int) ≤ 102) = false := by simp; omega
          go_wp2
          go_ret2
          exact ⟨rfl, rfl⟩
end Go.Proofs.YtkhogpnmkonajaaDoor
