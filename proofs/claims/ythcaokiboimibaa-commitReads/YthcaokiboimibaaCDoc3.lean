/-
  The document's get, hash (printed by gen_c14.py).
-/
import Derived.Test.YthcaokiboimibaaCDoc2

namespace Go.Proofs.Ythcaokiboimibaa
open Go.RowKit S
set_option linter.unusedVariables false
set_option linter.unusedSimpArgs false
open Cu (nb be hl ofL)
def sub (b : ByteArray) (a k : Nat) : List UInt8 := (b.data.toList.drop a).take k
theorem sub_len {b : ByteArray} {a k : Nat} (h : a + k ≤ b.size) : (sub b a k).length = k := by unfold sub; rw [List.length_take, List.length_drop, Array.length_toList]; have : b.data.size = b.size := rfl; omega
theorem sub_next {b : ByteArray} {a j : Nat} (h : a + j < b.size) : sub b a (j + 1) = sub b a j ++ [Cu.byteAt b.data.toList (a + j)] := by
  unfold sub
  have hl : a + j < b.data.toList.length := by rw [Array.length_toList]; exact h
  have e : (b.data.toList.drop a)[j]? = some (Cu.byteAt b.data.toList (a + j)) := by
    rw [List.getElem?_drop, List.getElem?_eq_getElem hl]
    unfold Cu.byteAt
    rw [List.getD_eq_getElem?_getD, List.getElem?_eq_getElem hl]
    rfl
  exact take_snoc e
theorem sub_get {b : ByteArray} {a k i : Nat} (hi : i < k) (h : a + k ≤ b.size) : (sub b a k).getD i 0 = Cu.byteAt b.data.toList (a + i) := by
  unfold sub Cu.byteAt
  rw [List.getD_eq_getElem?_getD, List.getD_eq_getElem?_getD, List.getElem?_take_of_lt hi, List.getElem?_drop]
theorem or_shl (v c : Nat) (hv : v < 72057594037927936) (hc : c < 256) : bits .or .u64 ((v * 256 : Nat) : Int) (c : Int) = ((v * 256 + c : Nat) : Int) := by
  have e : bits .or .u64 ((v * 256 : Nat) : Int) (c : Int) = IntKind.u64.wrap ((BitVec.ofInt 64 ((v * 256 : Nat) : Int) ||| BitVec.ofInt 64 (c : Int)).toNat : Int) := rfl
  rw [e, BitVec.toNat_or, BitVec.ofInt_natCast, BitVec.ofInt_natCast, BitVec.toNat_ofNat, BitVec.toNat_ofNat, Nat.mod_eq_of_lt (by omega), Nat.mod_eq_of_lt (by omega)]
  have e2 : v * 256 ||| c = v * 256 + c := by
    have := Nat.shiftLeft_add_eq_or_of_lt (i := 8) (b := c) (by omega) v
    rw [Nat.shiftLeft_eq] at this
    exact this.symm
  rw [e2]
  simp [IntKind.wrap, IntKind.bits, IntKind.signed]
  omega
set_option maxRecDepth 100000 in
set_option maxHeartbeats 4000000 in
theorem rget_any (b : ByteArray) (a : Nat) (ha : a + 8 ≤ b.size) (hb : b.size ≤ 140737488351232) (A : Int) (hA : A = (a : Int)) (w : World) : Calls Try.prog 38 #[.string b, .int .i64 A, .int .i64 8] w fun e w' => e = .returned (.int .i64 (i64 (be (sub b a 8)))) ∧ w' = w := by
  subst hA
  have HA := hide ha
  have HB := hide hb
  have hai : (a : Int) ≤ 140737488351232 := by omega
  have z8 : IntKind.i64.wrap ((a : Int) + 8) = (a : Int) + 8 := by rw [IntKind.wrap_i64]; omega
  clear ha hb
  go_enter Try.func38, Try.ntmps38
  go_wp2
  go_loopw [7, 8] (fun vx ix wr => ∃ j : Nat, j ≤ 8 ∧ ix = .int .i64 ((a + j : Nat) : Int) ∧ vx = .int .u64 (be (sub b a j) : Int) ∧ wr = w) (fun _ ix _ => a + 8 - (intOf ix).toNat)
  case atStart => exact ⟨0, by omega, rfl, by simp [sub, be], rfl⟩
  case round =>
    obtain ⟨j, hj, rfl, rfl, hwr⟩ := hrel
    obtain rfl := hwr.symm
    obtain ⟨V, hV⟩ : ∃ V, be (sub b a j) = V := ⟨_, rfl⟩
    have HV := hide hV
    rw [hV]
    obtain ⟨aj, haj⟩ : ∃ z, a + j = z := ⟨_, rfl⟩
    have HAJ := hide haj
    rw [haj]
    by_cases hlt : j < 8
    · have hd : decide ((aj : Int) < (a : Int) + 8) = true := decide_eq_true (by omega)
      have hVb : V < 72057594037927936 := by
        rw [← hV]
        have h1 := Cu.be_lt (sub b a j)
        rw [sub_len (by have := HA.out; omega)] at h1
        have h2 : 256 ^ j ≤ 256 ^ 7 := Nat.pow_le_pow_right (by omega) (by omega)
        omega
      have hajs : aj < b.size := by have := HA.out; omega
      obtain ⟨c, hc⟩ : ∃ c, Cu.byteAt b.data.toList aj = c := ⟨_, rfl⟩
      have HI : Hid (∀ w : World, (Instr.index 9 (.string b) (.int .i64 (aj : Int))).run Try.prog w = .ok (.int .u8 (c.toNat : Int)) w) := fun w => by rw [← hc]; exact Cu.index_text b aj hajs w
      have hcl := c.toNat_lt
      have HCV : Hid (∀ w : World, (convert 5 71 (.int .u8 (c.toNat : Int))).run Try.prog w = .ok (.int .u64 (c.toNat : Int)) w) := fun w => by
        have h := run_convert_int (P := Try.prog) (w := w) 5 71 .u8 (c.toNat : Int) (by kernel_rfl) (by kernel_rfl)
        rw [show Try.prog.intKind 71 = .u64 by kernel_rfl, show IntKind.u64.wrap (c.toNat : Int) = (c.toNat : Int) by simp [IntKind.wrap, IntKind.bits, IntKind.signed]; omega] at h
        exact h
      have HSH : Hid (∀ w : World, (binOp .shl 71 (.int .u64 (V : Int)) (.int .u64 8)).run Try.prog w = .ok (.int .u64 ((V * 256 : Nat) : Int)) w) := fun w => Cu.run_shl 71 .u64 .u64 (V : Int) 8 _ 8 rfl (by decide) (by simp [IntKind.wrap, IntKind.bits, IntKind.signed]; omega) w
      have HOR : Hid (∀ w : World, (binOp .or 71 (.int .u64 ((V * 256 : Nat) : Int)) (.int .u64 (c.toNat : Int))).run Try.prog w = .ok (.int .u64 ((V * 256 + c.toNat : Nat) : Int)) w) := fun w => Cu.run_or 71 .u64 _ _ _ (or_shl V c.toNat hVb (by omega)) w
      have HNX : Hid (be (sub b a (j + 1)) = V * 256 + c.toNat) := by
        show _ = _
        rw [sub_next (by rw [haj]; exact hajs), Cu.be_snoc, hV, haj, hc]
      have zaj1 : IntKind.i64.wrap ((aj : Int) + 1) = (aj : Int) + 1 := by rw [IntKind.wrap_i64]; have := HB.out; omega
      clear hV haj hVb hajs hc hcl
      go_wp2_with (first | refine Cu.wpW_bin .shl 71 _ _ _ rfl (.int .u64 (V : Int)) (.int .u64 8) (.int .u64 ((V * 256 : Nat) : Int)) (by rfl) (by rfl) (by rfl) rfl (HSH.out _) ?_ | refine wpW_index (by rfl) 9 _ _ rfl (.string b) (.int .i64 (aj : Int)) (.int .u8 (c.toNat : Int)) (by rfl) (by rfl) (HI.out _) ?_ | refine Cu.wpW_conv 5 71 _ rfl (.int .u8 (c.toNat : Int)) (.int .u64 (c.toNat : Int)) (by rfl) (by rfl) (HCV.out _) ?_ | refine Cu.wpW_bin .or 71 _ _ _ rfl (.int .u64 ((V * 256 : Nat) : Int)) (.int .u64 (c.toNat : Int)) (.int .u64 ((V * 256 + c.toNat : Nat) : Int)) (by rfl) (by rfl) (by rfl) rfl (HOR.out _) ?_)
      go_roundw
      case rel => exact ⟨j + 1, by omega, by have := HAJ.out; exact int_eq (by omega), by rw [HNX.out]; exact int_eq (by omega), by first | rfl | trivial⟩
      case measure => have := HAJ.out; simp [intOf]; omega
    · have hj8 : j = 8 := by omega
      subst hj8
      have hd : decide ((aj : Int) < (a : Int) + 8) = false := decide_eq_false (by omega)
      have HCV : Hid (∀ w : World, (convert 71 2 (.int .u64 (V : Int))).run Try.prog w = .ok (.int .i64 (i64 V)) w) := fun w => by
        have h := run_convert_int (P := Try.prog) (w := w) 71 2 .u64 (V : Int) (by kernel_rfl) (by kernel_rfl)
        rw [show Try.prog.intKind 2 = .i64 by kernel_rfl] at h
        exact h
      go_wp2_with (first | refine Cu.wpW_conv 71 2 _ rfl (.int .u64 (V : Int)) (.int .i64 (i64 V)) (by rfl) (by rfl) (HCV.out _) ?_)
      go_ret
      exact ⟨by first | rfl | (rw [HV.out]; rfl), rfl⟩
def hAt (b : ByteArray) (a j : Nat) : Nat → UInt8 := fun i => if i < j then Cu.byteAt b.data.toList (a + i) else 0
theorem hAt_next (b : ByteArray) (a j : Nat) : ∀ i, hAt b a (j + 1) i = if i = j then Cu.byteAt b.data.toList (a + j) else hAt b a j i := fun i => by
  unfold hAt
  by_cases h : i = j
  · subst h; rw [if_pos (by omega), if_pos rfl]
  · rw [if_neg h]
    by_cases h2 : i < j
    · rw [if_pos (by omega), if_pos h2]
    · rw [if_neg (by omega), if_neg h2]
set_option maxRecDepth 100000 in
set_option maxHeartbeats 4000000 in
theorem rhash_any (b : ByteArray) (a : Nat) (ha : a + 32 ≤ b.size) (hb : b.size ≤ 140737488351232) (A : Int) (hA : A = (a : Int)) (w : World) : Calls Try.prog 39 #[.string b, .int .i64 A] w fun e w' => e = .returned (.agg (tabv (bv (hAt b a 32)) 32)) ∧ Below w.heap.size w w' := by
  subst hA
  have HA := hide ha
  have HB := hide hb
  have hai : (a : Int) ≤ 140737488351232 := by omega
  obtain ⟨wa, hWa⟩ : ∃ z, w.alloc (.cells #[.int .u8 0, .int .u8 0, .int .u8 0, .int .u8 0, .int .u8 0, .int .u8 0, .int .u8 0, .int .u8 0, .int .u8 0, .int .u8 0, .int .u8 0, .int .u8 0, .int .u8 0, .int .u8 0, .int .u8 0, .int .u8 0, .int .u8 0, .int .u8 0, .int .u8 0, .int .u8 0, .int .u8 0, .int .u8 0, .int .u8 0, .int .u8 0, .int .u8 0, .int .u8 0, .int .u8 0, .int .u8 0, .int .u8 0, .int .u8 0, .int .u8 0, .int .u8 0] 23) = z := ⟨_, rfl⟩
  obtain ⟨wb, hWb⟩ : ∃ z, wa.alloc (.cells #[.int .u8 0, .int .u8 0, .int .u8 0, .int .u8 0, .int .u8 0, .int .u8 0, .int .u8 0, .int .u8 0, .int .u8 0, .int .u8 0, .int .u8 0, .int .u8 0, .int .u8 0, .int .u8 0, .int .u8 0, .int .u8 0, .int .u8 0, .int .u8 0, .int .u8 0, .int .u8 0, .int .u8 0, .int .u8 0, .int .u8 0, .int .u8 0, .int .u8 0, .int .u8 0, .int .u8 0, .int .u8 0, .int .u8 0, .int .u8 0, .int .u8 0, .int .u8 0] 23) = z := ⟨_, rfl⟩
  have ra : Has wa w.heap.size 23 (bv (fun _ => 0)) 32 := by rw [← hWa, zero32c]; exact Has.new w 23 _ 32 _ rfl
  have ba : Below w.heap.size w wa := by rw [← hWa]; exact (Below.refl _ _).alloc (Nat.le_refl _) _
  have rb : Has wb wa.heap.size 23 (bv (hAt b a 0)) 32 := by rw [← hWb, zero32c]; exact (Has.new wa 23 _ 32 _ rfl).congr _ (fun i hi => by unfold bv hAt; simp)
  have bb : Below wa.heap.size wa wb := by rw [← hWb]; exact (Below.refl _ _).alloc (Nat.le_refl _) _
  have gb : Below w.heap.size w wb := ba.trans (bb.mono ba.size)
  have I0 := hide (ra.below bb ra.lt)
  have R0 := hide rb
  have hl0 : w.heap.size < wa.heap.size := ra.lt
  clear ha hb ra ba rb bb
  go_enter Try.func39, Try.ntmps39
  go_upto_region 2 with fail
  generalize hg0 : w.heap.size = g0 at I0 hl0 gb ⊢
  generalize hg1 : wa.heap.size = g1 at R0 hl0 ⊢
  have HG := hide hl0
  have HGB := hide gb
  clear hWa hWb hg1 hl0 gb
  go_wp2
  go_loopw [6] (fun ix wr => ∃ j : Nat, j ≤ 32 ∧ ix = .int .i64 (j : Int) ∧ Hid (Has wr g1 23 (bv (hAt b a j)) 32 ∧ Has wr g0 23 (bv (fun _ => 0)) 32 ∧ Below g0 w wr)) (fun ix _ => 32 - (intOf ix).toNat)
  case atStart => exact ⟨0, by omega, rfl, R0.out, I0.out, HGB.out⟩
  case round =>
    obtain ⟨j, hj, rfl, HS⟩ := hrel
    clear R0 I0 HGB
    by_cases hlt : j < 32
    · have hd : decide ((j : Int) < 32) = true := decide_eq_true (by omega)
      have hk0 : (0 : Int) ≤ (j : Int) := by omega
      have hk1 : (j : Int) < 32 := by omega
      have hk2 : j < 32 := hlt
      obtain ⟨aj, haj⟩ : ∃ z, a + j = z := ⟨_, rfl⟩
      have zaj : IntKind.i64.wrap ((a : Int) + (j : Int)) = (aj : Int) := by rw [IntKind.wrap_i64]; omega
      have hajs : aj < b.size := by have := HA.out; omega
      obtain ⟨c, hc⟩ : ∃ c, Cu.byteAt b.data.toList aj = c := ⟨_, rfl⟩
      have HI : Hid (∀ w : World, (Instr.index 9 (.string b) (.int .i64 (aj : Int))).run Try.prog w = .ok (.int .u8 (c.toNat : Int)) w) := fun w => by rw [← hc]; exact Cu.index_text b aj hajs w
      have cz : wr.cell? ⟨g1, j, none⟩ = some (bv (hAt b a j) j) := HS.out.1.cell j hlt
      have fz := HS.out.1.frozen j
      obtain ⟨wz, hwz⟩ : ∃ z, wr.setCell ⟨g1, j, none⟩ (.int .u8 (c.toNat : Int)) = z := ⟨_, rfl⟩
      have HSN : Hid (Has wz g1 23 (bv (hAt b a (j + 1))) 32 ∧ Has wz g0 23 (bv (fun _ => 0)) 32 ∧ Below g0 w wz) := by
        rw [← hwz]
        refine ⟨(HS.out.1.set j _).congr _ (fun i hi => ?_), HS.out.2.1.same (Below.heap_setCell _ ⟨g1, j, none⟩ _ g0 (by have := HG.out; show g0 ≠ g1; omega)), HS.out.2.2.setCell (show g0 ≤ g1 by have := HG.out; omega) _⟩
        unfold upd bv
        rw [hAt_next]
        by_cases h : i = j
        · rw [if_pos h, if_pos h, haj, hc]
        · rw [if_neg h, if_neg h]
      have hone : (bv (hAt b a j) j) = .int .u8 ((hAt b a j j).toNat : Int) := rfl
      rw [hone] at cz
      clear haj hc hajs hone
      go_wp2_with (first | refine wpW_index (by rfl) 9 _ _ rfl (.string b) (.int .i64 (aj : Int)) (.int .u8 (c.toNat : Int)) (by rfl) (by rfl) (HI.out _) ?_)
      go_roundw
      case rel => exact ⟨j + 1, by omega, by go_num, HSN.out⟩
      case measure => simp [intOf]; omega
    · have hj8 : j = 32 := by omega
      subst hj8
      rw [show ((32 : Nat) : Int) = 32 from rfl]
      have HS1 := hide HS.out.1
      have HS0 := hide HS.out.2.1
      have gF := below_setRow HS.out.2.2 (Nat.le_refl g0) (tabv (bv (hAt b a 32)) 32)
      have HGF := hide gF
      clear gF
      go_wp2_with (first | refine wpW_load_at 23 _ rfl (g1) (0) (by rfl) (by rfl) _ 32 _ (HS1.out.at_ 0 (by omega) (fun i hi => by rw [Nat.zero_add])) Try.underlying23 rfl info26 ?_ | refine wpList_storeHH rfl _ _ rfl rfl g0 (hAt b a 32) rfl rfl _ HS0.out ?_)
      exact bodyPost_ret (results_cell_row rfl _ _ g0 23 _ (0, 0) _ rfl (HS0.out.row _ (bv (hAt b a 32)) rfl) Try.underlying23 rfl (by rw [tabv_size]; exact info26)) rfl ⟨rfl, by first | exact HGF.out | (rw [hg0]; exact HGF.out)⟩
end Go.Proofs.Ythcaokiboimibaa
