/-
  The document's Read (printed by gen_m12.py).
-/
import Derived.Test.YtfohdolhobooiaaMDocW
import Derived.Test.YtfohdolhobooiaaURRead
namespace Go.Proofs.Ytfohdolhobooiaa
open Go.RowKit S
set_option linter.unusedVariables false
set_option linter.unusedSimpArgs false
open Cu (nb be hl ofL CW Mw CR Mr RS takeS takeA hOf nil8 num doneS)
def numD (l : List UInt8) (a : Nat) : Int := if l.length < a + 8 then -1 else if 281474976710655 < be ((l.drop a).take 8) then -1 else (be ((l.drop a).take 8) : Int)
def hD (l : List UInt8) (a : Nat) : Nat → UInt8 := fun i => l.getD (a + i) 0
theorem gt_nat (X : Nat) (c : Bool) (h : decide (281474976710655 < X) = c) : decide ((281474976710655 : Int) < (X : Int)) = c := by
  rw [← h]
  exact decide_eq_decide.2 (by omega)
set_option maxRecDepth 100000 in
set_option maxHeartbeats 40000000 in
theorem rnumM_any (b : ByteArray) (a : Nat) (ha : a ≤ 9) (hz : b.size ≤ 281474976710656) (w : World) : Calls Try.prog 37 #[.string b, .int .i64 (a : Int)] w fun e w' => e = .returned (.int .i64 (numD b.data.toList a)) ∧ w = w' := by
  have hzi : (b.size : Int) ≤ 281474976710656 := by omega
  have ha0 : (0 : Int) ≤ (a : Int) := by omega
  have ha9 : (a : Int) ≤ 9 := by omega
  obtain ⟨a8, ha8⟩ : ∃ a8 : Nat, a8 = a + 8 := ⟨_, rfl⟩
  have e8 : IntKind.i64.wrap ((a : Int) + 8) = (a8 : Int) := by rw [IntKind.wrap_i64]; omega
  have e8' : (a : Int) + 8 = (a8 : Int) := by omega
  by_cases h1 : b.size < a8
  · have hD : Hid (numD b.data.toList a = -1) := by show _ = _; unfold numD; rw [if_pos (by rw [Cu.str_len]; omega)]
    have d1 : decide ((b.size : Int) < (a8 : Int)) = true := decide_eq_true (by omega)
    have d1n : decide (b.size < a8) = true := decide_eq_true h1
    clear h1 ha8
    go_enter Try.func37, Try.ntmps37
    go_wp2
    go_ret
    exact ⟨by rw [hD.out]; rfl, by first | rfl | trivial⟩
  · have d1 : decide ((b.size : Int) < (a8 : Int)) = false := decide_eq_false (by omega)
    have d1n : decide (b.size < a8) = false := decide_eq_false h1
    have hl : (b.extract a a8).size ≤ 8 := by rw [ByteArray.size_extract]; omega
    have hX := hide (fun w : World => Cu.xNumber (b.extract a a8) w hl)
    have he : (b.extract a a8).data.toList = (b.data.toList.drop a).take 8 := by
      rw [ext_ofL b _ rfl a a8, Cu.ofL_data, ha8]
      congr 1
      omega
    rw [he] at hX
    obtain ⟨X, hXe⟩ : ∃ X, be ((b.data.toList.drop a).take 8) = X := ⟨_, rfl⟩
    rw [hXe] at hX
    have q1 : (a : Int) ≤ (a8 : Int) := by omega
    have q2 : (a8 : Int) ≤ (b.size : Int) := by omega
    have q3 : (0 : Int) ≤ (a8 : Int) := by omega
    by_cases h2 : 281474976710655 < X
    · have hD : Hid (numD b.data.toList a = -1) := by show _ = _; unfold numD; rw [if_neg (by rw [Cu.str_len]; omega), hXe, if_pos h2]
      have d2 : decide ((281474976710655 : Int) < (X : Int)) = true := decide_eq_true (by omega)
      clear h1 ha8 hl he hXe h2
      go_enter Try.func37, Try.ntmps37
      go_wp2_with fail
      refine (hX.out _).mono ?_
      rintro e wv ⟨rfl, rfl⟩
      go_wp2
      go_ret
      exact ⟨by rw [hD.out]; rfl, by first | rfl | trivial⟩
    · have hD : Hid (numD b.data.toList a = (X : Int)) := by show _ = _; unfold numD; rw [if_neg (by rw [Cu.str_len]; omega), hXe, if_neg h2]
      have d2 : decide ((281474976710655 : Int) < (X : Int)) = false := decide_eq_false (by omega)
      have hcv := conv_i64 X (by omega)
      clear h1 ha8 hl he hXe h2
      go_enter Try.func37, Try.ntmps37
      go_wp2_with fail
      refine (hX.out _).mono ?_
      rintro e wv ⟨rfl, rfl⟩
      go_wp2
      go_ret
      exact ⟨by rw [hD.out]; rfl, by first | rfl | trivial⟩
def upD (l : List UInt8) (a j : Nat) : Nat → UInt8 := fun i => if i < j then hD l a i else 0
theorem upD_next (l : List UInt8) (a j i : Nat) : upd (bv (upD l a j)) j (.int .u8 ((hD l a j).toNat : Int)) i = bv (upD l a (j + 1)) i := by
  unfold upd bv upD
  by_cases e : i = j
  · subst e; rw [if_pos rfl, if_pos (by omega)]
  · rw [if_neg e]
    by_cases h : i < j
    · rw [if_pos h, if_pos (by omega)]
    · rw [if_neg h, if_neg (by omega)]
theorem upD_all (l : List UInt8) (a j : Nat) (hj : j ≤ 32) (h : j = 32 ∨ l.length ≤ a + j) : tabv (bv (upD l a j)) 32 = tabv (bv (hD l a)) 32 := tabv_congr _ _ _ fun i hi => by
  unfold bv upD
  by_cases e : i < j
  · rw [if_pos e]
  · rw [if_neg e]
    unfold hD
    rw [List.getD_eq_getElem?_getD, List.getElem?_eq_none (by omega)]
    rfl
set_option maxRecDepth 100000 in
set_option maxHeartbeats 40000000 in
theorem rhashM_any (b : ByteArray) (a : Nat) (ha : a ≤ 41) (hz : b.size ≤ 281474976710656) (w : World) : Calls Try.prog 38 #[.string b, .int .i64 (a : Int)] w fun e w' => e = .returned (.agg (tabv (bv (hD b.data.toList a)) 32)) ∧ Below w.heap.size w w' := by
  obtain ⟨l, hl⟩ : ∃ l, b.data.toList = l := ⟨_, rfl⟩
  have hsz : b.size = l.length := by rw [← hl, Cu.str_len]
  rw [hl]
  have HI : Hid (∀ (k : Nat), a + k < b.size → ∀ w : World, (Instr.index 9 (.string b) (.int .i64 ((a + k : Nat) : Int))).run Try.prog w = .ok (.int .u8 ((hD l a k).toNat : Int)) w) := fun k hk w => by
    have := Cu.index_text b (a + k) hk w
    rw [hl] at this
    exact this
  have HSZ := hide hsz
  have hzi : (b.size : Int) ≤ 281474976710656 := by omega
  have hai : (a : Int) ≤ 41 := by omega
  have ha0 : (0 : Int) ≤ (a : Int) := by omega
  clear hl hsz
  go_enter Try.func38, Try.ntmps38
  go_wp2
  generalize hW : World.alloc (World.alloc w _) _ = w2
  have kb : Below w.heap.size w w2 := by rw [← hW]; exact ((Below.refl _ _).alloc (Nat.le_refl _) _).alloc (by simp) _
  have k0 : Has w2 w.heap.size 23 (fun _ => .int .u8 0) 32 := by rw [← hW]; exact (Has.new w 23 (fun _ => .int .u8 0) 32 _ rfl).old _
  have k1 : Has w2 (w.heap.size + 1) 23 (bv (upD l a 0)) 32 := by
    rw [← hW]
    have := Has.new (w.alloc (.cells (tabv (fun _ => .int .u8 0) 32) 23)) 23 (fun _ => .int .u8 0) 32 _ rfl
    simp only [World.size_alloc] at this
    exact this
  clear hW
  go_loopw [6] (fun i wr => ∃ j : Nat, j ≤ 32 ∧ i = .int .i64 (j : Int) ∧ Has wr w.heap.size 23 (fun _ => .int .u8 0) 32 ∧ Has wr (w.heap.size + 1) 23 (bv (upD l a j)) 32 ∧ Below w.heap.size w wr) (fun i _ => 32 - (intOf i).toNat)
  case atStart => exact ⟨0, by omega, rfl, k0, k1, kb⟩
  case round =>
    clear k0 k1 kb
    obtain ⟨j, hj, rfl, k0, k1, kb⟩ := hrel
    obtain ⟨c, hc⟩ : ∃ c : Nat, c = a + j := ⟨_, rfl⟩
    have ec : IntKind.i64.wrap ((a : Int) + (j : Int)) = (c : Int) := by rw [IntKind.wrap_i64]; omega
    have ec' : (a : Int) + (j : Int) = (c : Int) := by omega
    by_cases hlt : j < 32
    · have hd : decide ((j : Int) < 32) = true := decide_eq_true (by omega)
      by_cases hb : c < b.size
      · have hd2 : decide ((c : Int) < (b.size : Int)) = true := decide_eq_true (by omega)
        have hd3 : decide (c < b.size) = true := decide_eq_true hb
        have hk0 : (0 : Int) ≤ (j : Int) := by omega
        have hk1 : (j : Int) < 32 := by omega
        have hk2 : (0 : Int) ≤ (c : Int) := by omega
        have hk3 : (c : Int) < (b.size : Int) := by omega
        have c1 := k1.cell j hlt
        simp only [bv] at c1
        have f1 := k1.frozen j
        have hix := HI.out j (by omega)
        rw [← hc] at hix
        have HX := hide hix
        have HJ := hide hlt
        clear hix hc hb hj hlt
        have K1 := hide k1
        have K0 := hide k0
        clear k0 k1
        go_wp2_with (first | (refine Cu.wpList_index_lit rfl _ _ _ rfl (.int .u8 ((hD l a j).toNat : Int)) ?_ ?_; · exact HX.out _))
        go_roundw
        case rel => exact ⟨j + 1, by have := HJ.out; omega, by go_num, K0.out.other _ _ (by simp), (K1.out.set j _).congr _ (fun i _ => upD_next l a j i), kb.setCell (by simp) _⟩
        case measure => have := HJ.out; simp [intOf]; omega
      · have hd2 : decide ((c : Int) < (b.size : Int)) = false := decide_eq_false (by omega)
        have hd3 : decide (c < b.size) = false := decide_eq_false hb
        have hc0 : (0 : Int) ≤ (c : Int) := by omega
        have hcb : (c : Int) ≤ 73 := by omega
        have e := upD_all l a j hj (.inr (by rw [← HSZ.out]; omega))
        have k1 : Has wr (w.heap.size + 1) 23 (bv (hD l a)) 32 := by have := k1; unfold Has at this ⊢; rw [e] at this; exact this
        have K1 := hide k1
        have K0 := hide k0
        clear k0 k1 e hc hb hlt hj
        go_wp2_with (first | refine wpW_load_at 23 _ rfl (w.heap.size + 1) (0) (by rfl) (by rfl) _ 32 _ (K1.out.at_ 0 (by omega) (fun i hi => by rw [Nat.zero_add])) Try.underlying23 rfl info26 ?_ | refine wpList_storeH rfl _ _ rfl rfl w.heap.size (hD l a) rfl rfl _ K0.out ?_ | fail)
        (try simp only [Exit.inBlock, Exit.then])
        exact bodyPost_ret (results_cell_row rfl _ _ w.heap.size 23 _ (0, 0) _ rfl (K0.out.row _ _ rfl) Try.underlying23 rfl (by rw [tabv_size]; exact info26)) rfl ⟨rfl, below_setRow kb (Nat.le_refl _) _⟩
    · have hjn : j = 32 := by omega
      subst hjn
      have hd : decide (((32 : Nat) : Int) < 32) = false := by decide
      rw [show ((32 : Nat) : Int) = 32 from rfl]
      have e := upD_all l a 32 (by omega) (.inl rfl)
      have k1 : Has wr (w.heap.size + 1) 23 (bv (hD l a)) 32 := by have := k1; unfold Has at this ⊢; rw [e] at this; exact this
      have K1 := hide k1
      have K0 := hide k0
      clear k0 k1 e hc ec ec' hj hlt
      go_wp2_with (first | refine wpW_load_at 23 _ rfl (w.heap.size + 1) (0) (by rfl) (by rfl) _ 32 _ (K1.out.at_ 0 (by omega) (fun i hi => by rw [Nat.zero_add])) Try.underlying23 rfl info26 ?_ | refine wpList_storeH rfl _ _ rfl rfl w.heap.size (hD l a) rfl rfl _ K0.out ?_ | fail)
      (try simp only [Exit.inBlock, Exit.then])
      exact bodyPost_ret (results_cell_row rfl _ _ w.heap.size 23 _ (0, 0) _ rfl (K0.out.row _ _ rfl) Try.underlying23 rfl (by rw [tabv_size]; exact info26)) rfl ⟨rfl, below_setRow kb (Nat.le_refl _) _⟩
end Go.Proofs.Ytfohdolhobooiaa
