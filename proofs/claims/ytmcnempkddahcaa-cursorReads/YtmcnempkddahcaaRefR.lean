/-
  The document's reader.
-/
import Derived.Test.YtmcnempkddahcaaAgain
namespace Go.Proofs.Ytmcnempkddahcaa
open Go.RowKit
set_option linter.unusedVariables false
def RR (w : World) (p : Nat) (st : RS) : Prop := ∃ left : ByteArray, Two 99 w p (.string left) st.2 ∧ (st.2 = 0 → left = st.1) ∧ (st.2 ≠ 0 → st.1 = nil8)
theorem RR.lt {w : World} {p : Nat} {st : RS} (h : RR w p st) : p < w.heap.size := by obtain ⟨l, h, _⟩ := h; exact h.lt
theorem RR.same {w w' : World} {p : Nat} {st : RS} (h : RR w p st) (e : w'.heap[p]? = w.heap[p]?) : RR w' p st := by obtain ⟨l, h, h2⟩ := h; exact ⟨l, h.same e, h2⟩
theorem RR.below {w w' : World} {p : Nat} {st : RS} (h : RR w p st) (hb : Below w.heap.size w w') : RR w' p st := h.same (hb.block p h.lt)
theorem RR.fine {w : World} {p : Nat} {s : ByteArray} (h : RR w p (s, 0)) : Two 99 w p (.string s) 0 := by obtain ⟨l, h1, h2, _⟩ := h; rw [h2 rfl] at h1; exact h1
theorem RR.mk0 {w : World} {p : Nat} {s : ByteArray} (h : Two 99 w p (.string s) 0) : RR w p (s, 0) := ⟨s, h, fun _ => rfl, fun h => absurd rfl h⟩
set_option maxRecDepth 5000 in
set_option maxHeartbeats 1000000 in
theorem xBreaks (c : Int) (hc : c ≠ 0) (p : Nat) (st : RS) (w : World) (h : RR w p st) :
    Calls Try.prog 94 #[.pointer (some ⟨p, 0, none⟩), .int .i64 c] w fun e w' => e = .returned (.tuple #[]) ∧ RR w' p (stopS c st) ∧ Mr p w w' := by
  obtain ⟨s, f⟩ := st
  obtain ⟨l, hT, h1, h2⟩ := h
  have c1 := Two.c1 hT
  have f1 := Two.fz hT 1
  have hS := Two.set1 hT c
  simp only at c1
  by_cases hf : f = 0
  · subst hf
    go_enter Try.func94, Try.ntmps94
    go_wp2
    go_end0
    exact ⟨rfl, ⟨l, hS, fun e => absurd e hc, fun _ => rfl⟩, Mr.set _⟩
  · have hq : (f == 0) = false := beq_eq_false_iff_ne.2 hf
    have hs : stopS c (s, f) = (s, f) := by unfold stopS; rw [if_neg hf]
    rw [hs]
    have HR : Hid (RR w p (s, f)) := ⟨l, hT, h1, h2⟩
    clear hs hS f1 h1 h2
    go_enter Try.func94, Try.ntmps94
    go_wp2
    go_end0
    exact ⟨rfl, HR.out, Mr.refl _ _⟩
def takeB (n : Int) (st : RS) : Bool := decide (st.2 = 0) && decide (n ≤ (st.1.size : Int))
set_option maxRecDepth 5000 in
set_option maxHeartbeats 1000000 in
theorem xTake (n : Int) (p : Nat) (st : RS) (w : World) (h : RR w p st) (hn : st.2 ≠ 0 ∨ 0 ≤ n) :
    Calls Try.prog 93 #[.pointer (some ⟨p, 0, none⟩), .int .i64 n] w fun e w' => e = .returned (.tuple #[.string (takeA n st), .bool (takeB n st)]) ∧ RR w' p (takeS n st) ∧ Mr p w w' := by
  obtain ⟨s, f⟩ := st
  by_cases hf : f = 0
  · subst hf
    have hT := h.fine
    have c0 := Two.c0 hT
    have c1 := Two.c1 hT
    have hn0 : 0 ≤ n := hn.resolve_left (fun h => h rfl)
    clear hn
    by_cases hgt : (s.size : Int) < n
    · have e1 : takeA n (s, 0) = nil8 := by unfold takeA; rw [if_pos rfl, if_pos hgt]
      have e2 : takeS n (s, 0) = stopS 2 (s, 0) := by unfold takeS stopS; rw [if_pos rfl, if_pos rfl, if_pos hgt]
      have hm : nil8 = { data := #[] } := rfl
      have e3 : takeB n (s, 0) = false := by unfold takeB; rw [decide_eq_false (show ¬ n ≤ (s.size : Int) by omega), Bool.and_false]
      rw [e1, e2, e3, hm]
      clear e1 e2 e3
      go_enter Try.func93, Try.ntmps93
      go_wp2_with fail
      refine (xBreaks 2 (by decide) p (s, 0) _ h).mono ?_
      rintro e w1 ⟨rfl, h1, hM⟩
      go_wp2
      go_ret2
      exact ⟨rfl, h1, hM⟩
    · obtain ⟨m, rfl⟩ := Int.eq_ofNat_of_zero_le hn0
      have hms : m ≤ s.size := by omega
      have e1 : takeA (m : Int) (s, 0) = s.extract 0 m := by unfold takeA; rw [if_pos rfl, if_neg hgt]; rfl
      have e2 : takeS (m : Int) (s, 0) = (s.extract m s.size, 0) := by unfold takeS; rw [if_pos rfl, if_neg hgt]; rfl
      have e3 : takeB (m : Int) (s, 0) = true := by unfold takeB; rw [decide_eq_true rfl, decide_eq_true (show (m : Int) ≤ (s.size : Int) by omega)]; rfl
      rw [e1, e2, e3]
      clear e3
      have f0 := Two.fz hT 0
      have hS := Two.set0 hT (.string (s.extract m s.size))
      clear e1 e2
      have hi0 : (0 : Int) ≤ (m : Int) := by omega
      have hi1 : (m : Int) ≤ (s.size : Int) := by omega
      go_enter Try.func93, Try.ntmps93
      go_wp2
      go_ret2
      exact ⟨rfl, RR.mk0 hS, Mr.set _⟩
  · obtain ⟨l, hT, h1, h2⟩ := h
    have c1 := Two.c1 hT
    simp only at c1
    have hq : (f == 0) = false := beq_eq_false_iff_ne.2 hf
    have hq2 : (f != 0) = true := by simp [hf]
    have e1 : takeA n (s, f) = nil8 := by unfold takeA; rw [if_neg hf]
    have e2 : takeS n (s, f) = (s, f) := by unfold takeS; rw [if_neg hf]
    have hm : nil8 = { data := #[] } := rfl
    have e3 : takeB n (s, f) = false := by unfold takeB; rw [decide_eq_false (show ¬ (s, f).2 = 0 from hf), Bool.false_and]
    rw [e1, e2, e3, hm]
    have HR : Hid (RR w p (s, f)) := ⟨l, hT, h1, h2⟩
    clear e1 e2 e3 hn h1 h2
    go_enter Try.func93, Try.ntmps93
    go_wp2
    go_ret2
    exact ⟨rfl, HR.out, Mr.refl _ _⟩
theorem be_take_lt (s : ByteArray) (i : Nat) (hi : i ≤ s.size) (hs : s.size ≤ 8) : be (s.data.toList.take i) < 18446744073709551616 := by
  have h := be_lt (s.data.toList.take i)
  rw [List.length_take, str_len, Nat.min_eq_left hi] at h
  have : 256 ^ i ≤ 256 ^ 8 := Nat.pow_le_pow_right (by decide) (by omega)
  omega
set_option maxRecDepth 5000 in
set_option maxHeartbeats 1000000 in
theorem xNumber (s : ByteArray) (w : World) (hs : s.size ≤ 8) : Calls Try.prog 95 #[.string s] w fun e w' => e = .returned (.int .u64 (be s.data.toList : Int)) ∧ w = w' := by
  obtain ⟨F, hF⟩ : ∃ F : Nat → Int, ∀ i, F i = (be (s.data.toList.take i) : Int) := ⟨_, fun _ => rfl⟩
  have h0 : F 0 = 0 := by rw [hF]; rfl
  have h1 : (be s.data.toList : Int) = F s.size := by rw [hF, ← str_len, List.take_length]
  rw [h1]
  have HV := hide hF
  have H0 := hide h0.symm
  have HS := hide hs
  clear hF h0 h1 hs
  go_enter Try.func95, Try.ntmps95
  go_wp2
  go_loop [3, 4] (fun v i => ∃ k : Nat, k ≤ s.size ∧ i = .int .i64 (k : Int) ∧ v = .int .u64 (F k)) (fun _ i => s.size - (intOf i).toNat)
  case atStart => exact ⟨0, Nat.zero_le _, rfl, by rw [← H0.out]⟩
  case round =>
    obtain ⟨k, hk, rfl, rfl⟩ := hrel
    by_cases hlt : k < s.size
    · have hd : decide ((k : Int) < (s.size : Int)) = true := decide_eq_true (by omega)
      have hs8 := HS.out
      have hkb : (k : Int) < 8 := by omega
      obtain ⟨c, hc⟩ : ∃ c : Int, ((byteAt s.data.toList k).toNat : Int) = c := ⟨_, rfl⟩
      obtain ⟨M, hM⟩ : ∃ M : Int, F k * 256 = M := ⟨_, rfl⟩
      have e1 : s.data.toList.take (k + 1) = s.data.toList.take k ++ [byteAt s.data.toList k] := by
        rw [List.take_succ_eq_append_getElem (by rw [str_len]; exact hlt)]; unfold byteAt; rw [List.getD_eq_getElem?_getD, List.getElem?_eq_getElem (by rw [str_len]; exact hlt)]; rfl
      have e2 : F (k + 1) = M + c := by rw [HV.out, e1, be_snoc, ← hM, HV.out, ← hc]; omega
      have hb := be_take_lt s (k + 1) (by omega) HS.out
      have hb2 : F (k + 1) < 18446744073709551616 := by rw [HV.out]; omega
      have hF0 : 0 ≤ F k := by rw [HV.out]; omega
      have hc0 : 0 ≤ c := by omega
      have HI : Hid (∀ w : World, (Instr.index 9 (.string s) (.int .i64 (k : Int))).run Try.prog w = .ok (.int .u8 c) w) := fun w => by rw [← hc]; exact index_text s k hlt w
      have KM : Hid (∀ w : World, (binOp .mul 37 (.int .u64 (F k)) (.int .u64 256)).run Try.prog w = .ok (.int .u64 M) w) := fun w => run_mul 37 .u64 (F k) 256 M (by
        obtain ⟨m, rfl⟩ := Int.eq_ofNat_of_zero_le (show 0 ≤ M by omega)
        rw [hM, wrap_un .u64 64 rfl rfl, Nat.mod_eq_of_lt (by omega)]) w
      have KC : Hid (∀ w : World, (convert 5 37 (.int .u8 c)).run Try.prog w = .ok (.int .u64 c) w) := fun w => run_conv 5 37 .u8 .u64 c c (by kernel_rfl) (by kernel_rfl) (by kernel_rfl) (by rw [← hc, wrap_un .u64 64 rfl rfl, Nat.mod_eq_of_lt (by have := (byteAt s.data.toList k).toNat_lt; omega)]) w
      have KA : Hid (∀ w : World, (binOp .add 37 (.int .u64 M) (.int .u64 c)).run Try.prog w = .ok (.int .u64 (F (k + 1))) w) := fun w => by
        have : IntKind.u64.wrap (M + c) = F (k + 1) := by
          obtain ⟨m, hm⟩ := Int.eq_ofNat_of_zero_le (show 0 ≤ M + c by omega)
          rw [e2, hm, wrap_un .u64 64 rfl rfl, Nat.mod_eq_of_lt (by omega)]
        show (Op.intArith .add .u64 M c).run Try.prog w = _
        rw [← this]; rfl
      clear hc hM e1 e2 hb hb2 hF0 hc0 hs8
      go_wp2_with (first | (refine wpList_index_lit rfl _ _ _ rfl (.int .u8 c) ?_ ?_; · exact HI.out _) | (refine wpW_bin .mul _ _ _ _ rfl (.int .u64 (F k)) (.int .u64 256) (.int .u64 M) (by rfl) (by rfl) (by rfl) rfl (KM.out _) ?_) | (refine wpW_conv _ _ _ rfl (.int .u8 c) (.int .u64 c) (by rfl) (by rfl) (KC.out _) ?_) | (refine wpW_bin .add _ _ _ _ rfl (.int .u64 M) (.int .u64 c) (.int .u64 (F (k + 1))) (by rfl) (by rfl) (by rfl) rfl (KA.out _) ?_))
      go_round
      case rel => exact ⟨k + 1, by omega, by go_num, rfl⟩
      case measure => simp [intOf]; omega
    · have e : k = s.size := by omega
      subst e
      have hd : decide ((s.size : Int) < (s.size : Int)) = false := by simp
      go_wp2
      go_ret
      exact ⟨rfl, rfl⟩
theorem xNum (n : Nat) (N : Int) (hN : N = (n : Int)) (hn : n ≤ 8) (p : Nat) (st : RS) (w : World) (h : RR w p st) : Calls Try.prog 92 #[.pointer (some ⟨p, 0, none⟩), .int .i64 N] w fun e w' => e = .returned (.int .u64 (num N st : Int)) ∧ RR w' p (takeS N st) ∧ Mr p w w' := by
  subst hN
  go_enter Try.func92, Try.ntmps92
  go_wp2_with fail
  refine (xTake (n : Int) p st _ h (.inr (by omega))).mono ?_
  rintro e w1 ⟨rfl, h1, hM⟩
  have hsz := takeA_le n st
  go_wp2_with fail
  refine (xNumber (takeA (n : Int) st) _ (by omega)).mono ?_
  rintro e w2 ⟨rfl, rfl⟩
  go_wp2
  go_ret
  exact ⟨rfl, h1, hM⟩
theorem num_lt (n : Nat) (st : RS) : num n st < 256 ^ n := by
  have h := be_lt (takeA n st).data.toList
  rw [str_len] at h
  exact Nat.lt_of_lt_of_le h (Nat.pow_le_pow_right (by decide) (takeA_le n st))
set_option maxRecDepth 5000 in
theorem xU8 (p : Nat) (st : RS) (w : World) (h : RR w p st) : Calls Try.prog 69 #[.pointer (some ⟨p, 0, none⟩)] w fun e w' => e = .returned (.int .u8 (be (takeA 1 st).data.toList : Int)) ∧ RR w' p (takeS 1 st) ∧ Mr p w w' := by
  have hlt : num 1 st < 256 := num_lt 1 st
  obtain ⟨Z, hZ⟩ : ∃ Z : Int, (num 1 st : Int) = Z := ⟨_, rfl⟩
  have HN := hide (fun (w : World) (h : RR w p st) => xNum 1 1 rfl (by omega) p st w h)
  have KC : Hid (∀ w : World, (convert 37 5 (.int .u64 Z)).run Try.prog w = .ok (.int .u8 Z) w) := fun w => run_conv 37 5 .u64 .u8 Z Z (by kernel_rfl) (by kernel_rfl) (by kernel_rfl) (by rw [← hZ, wrap_un .u8 8 rfl rfl, Nat.mod_eq_of_lt (by omega)]) w
  have e : (be (takeA 1 st).data.toList : Int) = Z := hZ
  rw [e]
  rw [hZ] at HN
  clear e hZ hlt
  go_enter Try.func69, Try.ntmps69
  go_wp2_with fail
  refine (HN.out _ h).mono ?_
  rintro e w1 ⟨rfl, h1, hM⟩
  go_wp2_with (refine wpW_conv _ _ _ rfl (.int .u64 Z) (.int .u8 Z) (by rfl) (by rfl) (KC.out _) ?_)
  go_ret
  exact ⟨rfl, h1, hM⟩
set_option maxRecDepth 5000 in
theorem xU16 (p : Nat) (st : RS) (w : World) (h : RR w p st) : Calls Try.prog 70 #[.pointer (some ⟨p, 0, none⟩)] w fun e w' => e = .returned (.int .u16 (be (takeA 2 st).data.toList : Int)) ∧ RR w' p (takeS 2 st) ∧ Mr p w w' := by
  have hlt : num 2 st < 65536 := num_lt 2 st
  obtain ⟨Z, hZ⟩ : ∃ Z : Int, (num 2 st : Int) = Z := ⟨_, rfl⟩
  have HN := hide (fun (w : World) (h : RR w p st) => xNum 2 2 rfl (by omega) p st w h)
  have KC : Hid (∀ w : World, (convert 37 45 (.int .u64 Z)).run Try.prog w = .ok (.int .u16 Z) w) := fun w => run_conv 37 45 .u64 .u16 Z Z (by kernel_rfl) (by kernel_rfl) (by kernel_rfl) (by rw [← hZ, wrap_un .u16 16 rfl rfl, Nat.mod_eq_of_lt (by omega)]) w
  have e : (be (takeA 2 st).data.toList : Int) = Z := hZ
  rw [e]
  rw [hZ] at HN
  clear e hZ hlt
  go_enter Try.func70, Try.ntmps70
  go_wp2_with fail
  refine (HN.out _ h).mono ?_
  rintro e w1 ⟨rfl, h1, hM⟩
  go_wp2_with (refine wpW_conv _ _ _ rfl (.int .u64 Z) (.int .u16 Z) (by rfl) (by rfl) (KC.out _) ?_)
  go_ret
  exact ⟨rfl, h1, hM⟩
set_option maxRecDepth 5000 in
theorem xU32 (p : Nat) (st : RS) (w : World) (h : RR w p st) : Calls Try.prog 71 #[.pointer (some ⟨p, 0, none⟩)] w fun e w' => e = .returned (.int .u32 (be (takeA 4 st).data.toList : Int)) ∧ RR w' p (takeS 4 st) ∧ Mr p w w' := by
  have hlt : num 4 st < 4294967296 := num_lt 4 st
  obtain ⟨Z, hZ⟩ : ∃ Z : Int, (num 4 st : Int) = Z := ⟨_, rfl⟩
  have HN := hide (fun (w : World) (h : RR w p st) => xNum 4 4 rfl (by omega) p st w h)
  have KC : Hid (∀ w : World, (convert 37 42 (.int .u64 Z)).run Try.prog w = .ok (.int .u32 Z) w) := fun w => run_conv 37 42 .u64 .u32 Z Z (by kernel_rfl) (by kernel_rfl) (by kernel_rfl) (by rw [← hZ, wrap_un .u32 32 rfl rfl, Nat.mod_eq_of_lt (by omega)]) w
  have e : (be (takeA 4 st).data.toList : Int) = Z := hZ
  rw [e]
  rw [hZ] at HN
  clear e hZ hlt
  go_enter Try.func71, Try.ntmps71
  go_wp2_with fail
  refine (HN.out _ h).mono ?_
  rintro e w1 ⟨rfl, h1, hM⟩
  go_wp2_with (refine wpW_conv _ _ _ rfl (.int .u64 Z) (.int .u32 Z) (by rfl) (by rfl) (KC.out _) ?_)
  go_ret
  exact ⟨rfl, h1, hM⟩
set_option maxRecDepth 5000 in
theorem xU64 (p : Nat) (st : RS) (w : World) (h : RR w p st) : Calls Try.prog 72 #[.pointer (some ⟨p, 0, none⟩)] w fun e w' => e = .returned (.int .u64 (be (takeA 8 st).data.toList : Int)) ∧ RR w' p (takeS 8 st) ∧ Mr p w w' := by
  go_enter Try.func72, Try.ntmps72
  go_wp2_with fail
  refine (xNum 8 8 rfl (by omega) p st _ h).mono ?_
  rintro e w1 ⟨rfl, h1, hM⟩
  go_wp2
  go_ret
  exact ⟨rfl, h1, hM⟩
set_option maxRecDepth 5000 in
theorem xI64 (p : Nat) (st : RS) (w : World) (h : RR w p st) (z : Int) (hz : IntKind.i64.wrap (num 8 st : Int) = z) : Calls Try.prog 73 #[.pointer (some ⟨p, 0, none⟩)] w fun e w' => e = .returned (.int .i64 z) ∧ RR w' p (takeS 8 st) ∧ Mr p w w' := by
  obtain ⟨Z, hZ⟩ : ∃ Z : Int, (num 8 st : Int) = Z := ⟨_, rfl⟩
  have HN := hide (fun (w : World) (h : RR w p st) => xNum 8 8 rfl (by omega) p st w h)
  have KC : Hid (∀ w : World, (convert 37 2 (.int .u64 Z)).run Try.prog w = .ok (.int .i64 z) w) := fun w => run_conv 37 2 .u64 .i64 Z z (by kernel_rfl) (by kernel_rfl) (by kernel_rfl) (by rw [← hZ, hz]) w
  rw [hZ] at HN
  clear hZ hz
  go_enter Try.func73, Try.ntmps73
  go_wp2_with fail
  refine (HN.out _ h).mono ?_
  rintro e w1 ⟨rfl, h1, hM⟩
  go_wp2_with (refine wpW_conv _ _ _ rfl (.int .u64 Z) (.int .i64 z) (by rfl) (by rfl) (KC.out _) ?_)
  go_ret
  exact ⟨rfl, h1, hM⟩
set_option maxRecDepth 5000 in
set_option maxHeartbeats 1000000 in
theorem xRaw (n : Int) (p : Nat) (st : RS) (w : World) (h : RR w p st) : Calls Try.prog 76 #[.pointer (some ⟨p, 0, none⟩), .int .i64 n] w fun e w' => e = .returned (.string (rawA n st)) ∧ RR w' p (rawS n st) ∧ Mr p w w' := by
  unfold rawA rawS rawMid
  by_cases hlt : n < 0
  · have hd : decide (n < 0) = true := decide_eq_true hlt
    rw [if_pos hlt]
    have hne : (stopS 1 st).2 ≠ 0 := by
      unfold stopS
      split
      · decide
      · assumption
    have e1 : takeA n (stopS 1 st) = { data := #[] } := takeA_broken _ _ _ hne
    have e2 : takeS n (stopS 1 st) = stopS 1 st := takeS_broken _ _ _ hne
    rw [e1, e2]
    clear e1 e2
    go_enter Try.func76, Try.ntmps76
    go_wp2_with fail
    refine (xBreaks 1 (by decide) p _ _ h).mono ?_
    rintro e w2 ⟨rfl, h2, hM2⟩
    go_wp2
    go_ret
    exact ⟨rfl, h2, hM2⟩
  · have hd : decide (n < 0) = false := decide_eq_false hlt
    rw [if_neg hlt]
    go_enter Try.func76, Try.ntmps76
    go_wp2_with fail
    refine (xTake n p _ _ h (.inr (by omega))).mono ?_
    rintro e w3 ⟨rfl, h3, hM3⟩
    go_wp2
    go_ret
    exact ⟨rfl, h3, hM3⟩
theorem xErr (p : Nat) (st : RS) (w : World) (h : RR w p st) : Calls Try.prog 41 #[.pointer (some ⟨p, 0, none⟩)] w fun e w' => e = .returned (.int .i64 st.2) ∧ w = w' := by
  obtain ⟨l, hT, _⟩ := h
  have c1 := Two.c1 hT
  go_enter Try.func41, Try.ntmps41
  go_wp2
  go_ret
  exact ⟨rfl, rfl⟩
theorem xRest (p : Nat) (st : RS) (w : World) (h : RR w p st) : Calls Try.prog 42 #[.pointer (some ⟨p, 0, none⟩)] w fun e w' => e = .returned (.string st.1) ∧ w = w' := by
  obtain ⟨s, f⟩ := st
  by_cases hf : f = 0
  · subst hf
    have hT := h.fine
    have c0 := Two.c0 hT
    have c1 := Two.c1 hT
    go_enter Try.func42, Try.ntmps42
    go_wp2
    go_ret
    exact ⟨rfl, rfl⟩
  · obtain ⟨l, hT, _, h2⟩ := h
    have c1 := Two.c1 hT
    simp only at c1
    have e : s = { data := #[] } := h2 hf
    subst e
    have hq : (f == 0) = false := beq_eq_false_iff_ne.2 hf
    have hq2 : (f != 0) = true := by simp [hf]
    go_enter Try.func42, Try.ntmps42
    go_wp2
    go_ret
    exact ⟨rfl, rfl⟩
theorem xDone (p : Nat) (st : RS) (w : World) (h : RR w p st) : Calls Try.prog 43 #[.pointer (some ⟨p, 0, none⟩)] w fun e w' => e = .returned (.int .i64 (doneS st)) ∧ w = w' := by
  obtain ⟨s, f⟩ := st
  by_cases hf : f = 0
  · subst hf
    have hT := h.fine
    have c0 := Two.c0 hT
    have c1 := Two.c1 hT
    by_cases h0 : s.size = 0
    · have e := empty_of_size h0
      have ed : doneS (s, 0) = 0 := by unfold doneS; rw [if_pos h0]
      rw [ed]
      subst e
      clear ed
      go_enter Try.func43, Try.ntmps43
      go_wp2
      go_ret
      exact ⟨rfl, rfl⟩
    · have ed : doneS (s, 0) = 4 := by unfold doneS; rw [if_neg h0]
      rw [ed]
      have hb := isEmpty_of h0
      clear ed
      go_enter Try.func43, Try.ntmps43
      go_wp2
      go_ret
      exact ⟨rfl, rfl⟩
  · obtain ⟨l, hT, _, h2⟩ := h
    have c1 := Two.c1 hT
    simp only at c1
    have e : s = nil8 := h2 hf
    subst e
    rw [done_empty]
    have hq : (f == 0) = false := beq_eq_false_iff_ne.2 hf
    go_enter Try.func43, Try.ntmps43
    go_wp2
    go_ret
    exact ⟨rfl, rfl⟩
theorem xOpen (s : ByteArray) (w : World) : Calls Try.prog 39 #[.string s] w fun e w' => e = .returned (.pointer (some ⟨w.heap.size, 0, none⟩)) ∧ RR w' w.heap.size (s, 0) ∧ Below w.heap.size w w' ∧ w'.heap.size = w.heap.size + 1 := by
  go_enter Try.func39, Try.ntmps39
  go_wp2
  go_ret
  exact ⟨rfl, RR.mk0 (Two.new w 99 _ 0), (Below.refl _ _).alloc (Nat.le_refl _) _, by simp⟩
end Go.Proofs.Ytmcnempkddahcaa
