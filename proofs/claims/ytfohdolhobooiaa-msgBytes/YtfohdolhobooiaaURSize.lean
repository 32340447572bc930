/-
  Read of the document (printed by gen_rread.py).
-/
import Derived.Test.YtfohdolhobooiaaUMath
import Derived.Test.YtfohdolhobooiaaURow
import Derived.Test.YtfohdolhobooiaaCurRef
namespace Go.Proofs.Ytfohdolhobooiaa
open Go.RowKit S
set_option linter.unusedVariables false
set_option linter.unusedSimpArgs false
open Cu (nb be hl ofL)
/-- What of a hash is there behind j rounds. -/
def upH (l : List UInt8) (j : Nat) : Nat → UInt8 := fun i => if i < j then hashOf l i else 0
theorem upH_next (l : List UInt8) (j : Nat) (i : Nat) : upd (bv (upH l j)) j (.int .u8 ((hashOf l j).toNat : Int)) i = bv (upH l (j + 1)) i := by
  unfold upd bv upH
  by_cases h : i = j
  · subst h; rw [if_pos rfl, if_pos (by omega)]
  · rw [if_neg h]
    by_cases h2 : i < j
    · rw [if_pos h2, if_pos (by omega)]
    · rw [if_neg h2, if_neg (by omega)]
theorem zeroB : tabv (bv (fun _ => (0 : UInt8))) 32 = tabv (fun _ => (.int .u8 0 : Value)) 32 := rfl
set_option maxRecDepth 100000 in
set_option maxHeartbeats 1000000 in
theorem rhash_any (b : ByteArray) (hb : b.size = 32) (w : World) : Calls Try.prog 56 #[.string b] w fun e w' => e = .returned (.agg (tabv (bv (hashOf b.data.toList)) 32)) ∧ Below w.heap.size w w' := by
  obtain ⟨l, hl⟩ : ∃ l, b.data.toList = l := ⟨_, rfl⟩
  rw [hl]
  have HI : Hid (∀ (k : Nat), k < 32 → ∀ w : World, (Instr.index 9 (.string b) (.int .i64 (k : Int))).run Try.prog w = .ok (.int .u8 ((hashOf l k).toNat : Int)) w) := fun k hk w => by
    have := Cu.index_text b k (by omega) w
    rw [hl] at this
    exact this
  have hbs : (b.size : Int) = 32 := by omega
  clear hl
  go_enter Try.func56, Try.ntmps56
  go_wp2
  generalize hW : World.alloc (World.alloc w _) _ = w2
  have kb : Below w.heap.size w w2 := by rw [← hW]; exact ((Below.refl _ _).alloc (Nat.le_refl _) _).alloc (by simp) _
  have k0 : Has w2 w.heap.size 23 (fun _ => .int .u8 0) 32 := by rw [← hW]; exact (Has.new w 23 (fun _ => .int .u8 0) 32 _ rfl).old _
  have k1 : Has w2 (w.heap.size + 1) 23 (bv (upH l 0)) 32 := by
    rw [← hW]
    have := Has.new (w.alloc (.cells (tabv (fun _ => .int .u8 0) 32) 23)) 23 (fun _ => .int .u8 0) 32 _ rfl
    simp only [World.size_alloc] at this
    exact this
  clear hW
  go_loopw [4] (fun i wr => ∃ j : Nat, j ≤ 32 ∧ i = .int .i64 (j : Int) ∧ Has wr w.heap.size 23 (fun _ => .int .u8 0) 32 ∧ Has wr (w.heap.size + 1) 23 (bv (upH l j)) 32 ∧ Below w.heap.size w wr) (fun i _ => 32 - (intOf i).toNat)
  case atStart => exact ⟨0, by omega, rfl, k0, k1, kb⟩
  case round =>
    clear k0 k1 kb
    obtain ⟨j, hj, rfl, k0, k1, kb⟩ := hrel
    by_cases hlt : j < 32
    · have hd : decide ((j : Int) < 32) = true := by simp; omega
      have hk0 : (0 : Int) ≤ (j : Int) := by omega
      have hk1 : (j : Int) < 32 := by omega
      have c1 := k1.cell j hlt
      simp only [bv] at c1
      have f1 := k1.frozen j
      have hix := HI.out j hlt
      have HX := hide hix
      clear hix
      have K1 := hide k1
      have K0 := hide k0
      clear k0 k1
      go_wp2_with (first | (refine Cu.wpList_index_lit rfl _ _ _ rfl (.int .u8 ((hashOf l j).toNat : Int)) ?_ ?_; · exact HX.out _))
      go_roundw
      case rel => exact ⟨j + 1, by omega, by go_num, K0.out.other _ _ (by simp), (K1.out.set j _).congr _ (fun i _ => upH_next l j i), kb.setCell (by simp) _⟩
      case measure => simp [intOf]; omega
    · have hjn : j = 32 := by omega
      subst hjn
      have hd : decide (((32 : Nat) : Int) < 32) = false := by decide
      rw [show ((32 : Nat) : Int) = 32 from rfl]
      have e : tabv (bv (upH l 32)) 32 = tabv (bv (hashOf l)) 32 := tabv_congr _ _ _ fun i hi => by unfold bv upH; rw [if_pos hi]
      have k1 : Has wr (w.heap.size + 1) 23 (bv (hashOf l)) 32 := by have := k1; unfold Has at this ⊢; rw [e] at this; exact this
      have K1 := hide k1
      have K0 := hide k0
      clear k0 k1 e
      go_wp2_with (first | refine wpW_load_at 23 _ rfl (w.heap.size + 1) (0) (by rfl) (by rfl) _ 32 _ (K1.out.at_ 0 (by omega) (fun i hi => by rw [Nat.zero_add])) Try.underlying23 rfl info26 ?_ | refine wpList_storeH rfl _ _ rfl rfl w.heap.size (hashOf l) rfl rfl _ K0.out ?_)
      exact bodyPost_ret (results_cell_row rfl _ _ w.heap.size 23 _ (0, 0) _ rfl (K0.out.row _ _ rfl) Try.underlying23 rfl (by rw [tabv_size]; exact info26)) rfl ⟨rfl, below_setRow kb (Nat.le_refl _) _⟩
def sizeA : List UInt8 → Int
  | [] => 0
  | c :: r => if c = 1 then 43 else if c = 2 then 35 else if c = 3 then (if r.length < 4 then 0 else if 64 < be ((r.drop 2).take 2) then -1 else 5 + (be ((r.drop 2).take 2) : Int)) else -1
theorem u8_beq (c : UInt8) (k : Nat) (hk : k < 256) (b : Bool) (h : decide (c = UInt8.ofNat k) = b) : ((c.toNat : Int) == (k : Int)) = b := by
  rw [← h, Bool.eq_iff_iff, beq_iff_eq, decide_eq_true_iff]
  exact u8_int c k hk
set_option maxRecDepth 100000 in
set_option maxHeartbeats 4000000 in
theorem rsize_any (c : UInt8) (r : List UInt8) (b : ByteArray) (hb : b.data.toList = c :: r) (hz : b.size ≤ 281474976710656) (w : World) : Calls Try.prog 54 #[.string b] w fun e w' => e = .returned (.int .i64 (sizeA (c :: r))) ∧ w = w' := by
  have hsz : b.size = r.length + 1 := by rw [← Cu.str_len, hb]; rfl
  obtain ⟨C, hC⟩ : ∃ C : Int, (c.toNat : Int) = C := ⟨_, rfl⟩
  have HX : Hid (∀ w : World, (Instr.index 9 (.string b) (.int .i64 0)).run Try.prog w = .ok (.int .u8 C) w) := fun w => by
    have := Cu.index_text b 0 (by omega) w
    rw [hb, show (Cu.byteAt (c :: r) 0) = c from rfl, hC] at this
    exact this
  have hC1 : (C == 1) = decide (c = 1) := by rw [← hC]; exact u8_beq c 1 (by omega) _ rfl
  have hC2 : (C == 2) = decide (c = 2) := by rw [← hC]; exact u8_beq c 2 (by omega) _ rfl
  have hC3 : (C == 3) = decide (c = 3) := by rw [← hC]; exact u8_beq c 3 (by omega) _ rfl
  have hzi : (b.size : Int) ≤ 281474976710656 := by omega
  have hex : b.extract 3 5 = ofL ((r.drop 2).take 2) := by
    have := Cu.ofL_extract (c :: r) 3 5
    rw [← hb, Cu.ofL_of] at this
    rw [this, hb, List.drop_take]
    rfl
  by_cases c1 : c = 1
  · rw [show sizeA (c :: r) = 43 by unfold sizeA; dsimp only; rw [if_pos c1]]
    rw [decide_eq_true c1] at hC1
    clear hC hC2 hC3 c1 hb hex
    go_enter Try.func54, Try.ntmps54
    go_wp2_with (first | (refine Cu.wpList_index_lit rfl _ _ _ rfl (.int .u8 C) ?_ ?_; · exact HX.out _))
    go_ret
    exact ⟨rfl, rfl⟩
  rw [decide_eq_false c1] at hC1
  by_cases c2 : c = 2
  · rw [show sizeA (c :: r) = 35 by unfold sizeA; dsimp only; rw [if_neg c1, if_pos c2]]
    rw [decide_eq_true c2] at hC2
    clear hC hC3 c1 c2 hb hex
    go_enter Try.func54, Try.ntmps54
    go_wp2_with (first | (refine Cu.wpList_index_lit rfl _ _ _ rfl (.int .u8 C) ?_ ?_; · exact HX.out _))
    go_ret
    exact ⟨rfl, rfl⟩
  rw [decide_eq_false c2] at hC2
  by_cases c3 : c = 3
  · rw [decide_eq_true c3] at hC3
    have hC3n : (C != 3) = false := by unfold bne; rw [hC3]; rfl
    by_cases h4 : r.length < 4
    · rw [show sizeA (c :: r) = 0 by unfold sizeA; dsimp only; rw [if_neg c1, if_neg c2, if_pos c3, if_pos h4]]
      have hd : decide ((b.size : Int) < 5) = true := decide_eq_true (by omega)
      clear hC c1 c2 c3 hb hex
      go_enter Try.func54, Try.ntmps54
      go_wp2_with (first | (refine Cu.wpList_index_lit rfl _ _ _ rfl (.int .u8 C) ?_ ?_; · exact HX.out _))
      go_ret
      exact ⟨rfl, rfl⟩
    · have hd : decide ((b.size : Int) < 5) = false := decide_eq_false (by omega)
      have hle : (5 : Int) ≤ (b.size : Int) := by omega
      have hsl : (ofL ((r.drop 2).take 2)).size ≤ 8 := by rw [Cu.ofL_size, List.length_take]; omega
      have NB := fun w : World => Cu.xNumber (ofL ((r.drop 2).take 2)) w hsl
      rw [Cu.ofL_data] at NB
      have hbb := be2_lt (r.drop 2)
      obtain ⟨m, hm⟩ : ∃ m, be ((r.drop 2).take 2) = m := ⟨_, rfl⟩
      rw [hm] at NB hbb
      have hcv : ∀ w : World, (convert 72 3 (.int .u64 (m : Int))).run Try.prog w = .ok (.int .i64 (m : Int)) w := fun w => by
        have h := run_convert_int (P := Try.prog) (w := w) 72 3 .u64 (m : Int) (by kernel_rfl) (by kernel_rfl)
        rw [show Try.prog.intKind 3 = .i64 by kernel_rfl, show IntKind.i64.wrap (m : Int) = m by rw [IntKind.wrap_i64]; omega] at h
        exact h
      have HCV := hide hcv
      have NB := hide NB
      rw [← hex] at NB
      by_cases h64 : 64 < m
      · rw [show sizeA (c :: r) = -1 by unfold sizeA; dsimp only; rw [if_neg c1, if_neg c2, if_pos c3, if_neg h4, hm, if_pos h64]]
        have hd6 : decide ((m : Int) > 64) = true := decide_eq_true (by omega)
        clear hC c1 c2 c3 hb hex hm hsl hcv h64
        go_enter Try.func54, Try.ntmps54
        go_wp2_with (first | (refine Cu.wpList_index_lit rfl _ _ _ rfl (.int .u8 C) ?_ ?_; · exact HX.out _) | fail)
        refine (NB.out _).mono ?_
        rintro e w1 ⟨rfl, rfl⟩
        go_wp2_with (first | refine Cu.wpList_conv rfl _ _ _ rfl .u64 .i64 (m : Int) (m : Int) (by rfl) (HCV.out _) ?_)
        go_ret
        exact ⟨rfl, rfl⟩
      · rw [show sizeA (c :: r) = 5 + (m : Int) by unfold sizeA; dsimp only; rw [if_neg c1, if_neg c2, if_pos c3, if_neg h4, hm, if_neg h64]]
        have hd6 : decide ((m : Int) > 64) = false := decide_eq_false (by omega)
        have hmi : (m : Int) ≤ 65535 := by omega
        have hm0 : (0 : Int) ≤ (m : Int) := by omega
        clear hC c1 c2 c3 hb hex hm hsl hcv h64
        go_enter Try.func54, Try.ntmps54
        go_wp2_with (first | (refine Cu.wpList_index_lit rfl _ _ _ rfl (.int .u8 C) ?_ ?_; · exact HX.out _) | fail)
        refine (NB.out _).mono ?_
        rintro e w1 ⟨rfl, rfl⟩
        go_wp2_with (first | refine Cu.wpList_conv rfl _ _ _ rfl .u64 .i64 (m : Int) (m : Int) (by rfl) (HCV.out _) ?_)
        go_ret
        exact ⟨rfl, rfl⟩
  · rw [decide_eq_false c3] at hC3
    have hC3n : (C != 3) = true := by unfold bne; rw [hC3]; rfl
    rw [show sizeA (c :: r) = -1 by unfold sizeA; dsimp only; rw [if_neg c1, if_neg c2, if_neg c3]]
    clear hC c1 c2 c3 hb hex
    go_enter Try.func54, Try.ntmps54
    go_wp2_with (first | (refine Cu.wpList_index_lit rfl _ _ _ rfl (.int .u8 C) ?_ ?_; · exact HX.out _))
    go_ret
    exact ⟨rfl, rfl⟩
end Go.Proofs.Ytfohdolhobooiaa
