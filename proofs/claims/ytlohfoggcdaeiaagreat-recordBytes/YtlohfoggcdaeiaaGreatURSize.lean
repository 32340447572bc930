import Derived.Test.YtlohfoggcdaeiaaGreatCurRef
import Derived.Test.YtlohfoggcdaeiaaGreatCurHashRead
import Derived.Test.YtlohfoggcdaeiaaGreatCurRead
import Derived.Test.YtlohfoggcdaeiaaGreatUMath
import Derived.Test.YtlohfoggcdaeiaaGreatSStep
/-
  The document's reader (out of wip/cursor RefR, RefR2, as a template).
-/
namespace Go.Proofs.YtlohfoggcdaeiaaGreat.Cu
set_option maxRecDepth 20000
open Go.RowKit S
set_option linter.unusedVariables false
def RR (w : World) (p : Nat) (st : RS) : Prop := ∃ left : ByteArray, Two 120 w p (.string left) st.2 ∧ (st.2 = 0 → left = st.1) ∧ (st.2 ≠ 0 → st.1 = nil8)
theorem RR.lt {w : World} {p : Nat} {st : RS} (h : RR w p st) : p < w.heap.size := by obtain ⟨l, h, _⟩ := h; exact h.lt
theorem RR.same {w w' : World} {p : Nat} {st : RS} (h : RR w p st) (e : w'.heap[p]? = w.heap[p]?) : RR w' p st := by obtain ⟨l, h, h2⟩ := h; exact ⟨l, h.same e, h2⟩
theorem RR.below {w w' : World} {p : Nat} {st : RS} (h : RR w p st) (hb : Below w.heap.size w w') : RR w' p st := h.same (hb.block p h.lt)
theorem RR.fine {w : World} {p : Nat} {s : ByteArray} (h : RR w p (s, 0)) : Two 120 w p (.string s) 0 := by obtain ⟨l, h1, h2, _⟩ := h; rw [h2 rfl] at h1; exact h1
theorem RR.mk0 {w : World} {p : Nat} {s : ByteArray} (h : Two 120 w p (.string s) 0) : RR w p (s, 0) := ⟨s, h, fun _ => rfl, fun h => absurd rfl h⟩
set_option maxRecDepth 100000 in
set_option maxHeartbeats 1000000 in
theorem xBreaks (c : Int) (hc : c ≠ 0) (p : Nat) (st : RS) (w : World) (h : RR w p st) :
    Calls Tryz.prog 67 #[.pointer (some ⟨p, 0, none⟩), .int .i64 c] w fun e w' => e = .returned (.tuple #[]) ∧ RR w' p (stopS c st) ∧ Mr p w w' := by
  obtain ⟨s, f⟩ := st
  obtain ⟨l, hT, h1, h2⟩ := h
  have c1 := Two.c1 hT
  have f1 := Two.fz hT 1
  have hS := Two.set1 hT c
  simp only at c1
  by_cases hf : f = 0
  · subst hf
    go_enter Tryz.func67, Tryz.ntmps67
    go_wp2
    go_end0
    exact ⟨rfl, ⟨l, hS, fun e => absurd e hc, fun _ => rfl⟩, Mr.set _⟩
  · have hq : (f == 0) = false := beq_eq_false_iff_ne.2 hf
    have hs : stopS c (s, f) = (s, f) := by unfold stopS; rw [if_neg hf]
    rw [hs]
    have HR : Hid (RR w p (s, f)) := ⟨l, hT, h1, h2⟩
    clear hs hS f1 h1 h2
    go_enter Tryz.func67, Tryz.ntmps67
    go_wp2
    go_end0
    exact ⟨rfl, HR.out, Mr.refl _ _⟩
def takeB (n : Int) (st : RS) : Bool := decide (st.2 = 0) && decide (n ≤ (st.1.size : Int))
set_option maxRecDepth 100000 in
set_option maxHeartbeats 1000000 in
theorem xTake (n : Int) (p : Nat) (st : RS) (w : World) (h : RR w p st) (hn : st.2 ≠ 0 ∨ 0 ≤ n) :
    Calls Tryz.prog 68 #[.pointer (some ⟨p, 0, none⟩), .int .i64 n] w fun e w' => e = .returned (.tuple #[.string (takeA n st), .bool (takeB n st)]) ∧ RR w' p (takeS n st) ∧ Mr p w w' := by
  obtain ⟨s, f⟩ := st
  by_cases hf : f = 0
  · subst hf
    have hT := h.fine
    have c0 := Two.c0 hT
    have c1 := Two.c1 hT
    have hn0 : 0 ≤ n := hn.resolve_left (fun h => h rfl)
    clear hn
    by_cases hgt : (s.size : Int) < n
    · have e1 : takeA n (s, 0) = nil8 := by unfold takeA; rw [if_pos rfl, if_pos hgt]
      have e2 : takeS n (s, 0) = stopS 2 (s, 0) := by unfold takeS stopS; rw [if_pos rfl, if_pos rfl, if_pos hgt]
      have hm : nil8 = { data := #[] } := rfl
      have e3 : takeB n (s, 0) = false := by unfold takeB; rw [decide_eq_false (show ¬ n ≤ (s.size : Int) by omega), Bool.and_false]
      rw [e1, e2, e3, hm]
      clear e1 e2 e3
      go_enter Tryz.func68, Tryz.ntmps68
      go_wp2_with fail
      refine (xBreaks 2 (by decide) p (s, 0) _ h).mono ?_
      rintro e w1 ⟨rfl, h1, hM⟩
      go_wp2
      go_ret2
      exact ⟨rfl, h1, hM⟩
    · obtain ⟨m, rfl⟩ := Int.eq_ofNat_of_zero_le hn0
      have hms : m ≤ s.size := by omega
      have e1 : takeA (m : Int) (s, 0) = s.extract 0 m := by unfold takeA; rw [if_pos rfl, if_neg hgt]; rfl
      have e2 : takeS (m : Int) (s, 0) = (s.extract m s.size, 0) := by unfold takeS; rw [if_pos rfl, if_neg hgt]; rfl
      have e3 : takeB (m : Int) (s, 0) = true := by unfold takeB; rw [decide_eq_true rfl, decide_eq_true (show (m : Int) ≤ (s.size : Int) by omega)]; rfl
      rw [e1, e2, e3]
      clear e3
      have f0 := Two.fz hT 0
      have hS := Two.set0 hT (.string (s.extract m s.size))
      clear e1 e2
      have hi0 : (0 : Int) ≤ (m : Int) := by omega
      have hi1 : (m : Int) ≤ (s.size : Int) := by omega
      go_enter Tryz.func68, Tryz.ntmps68
      go_wp2
      go_ret2
      exact ⟨rfl, RR.mk0 hS, Mr.set _⟩
  · obtain ⟨l, hT, h1, h2⟩ := h
    have c1 := Two.c1 hT
    simp only at c1
    have hq : (f == 0) = false := beq_eq_false_iff_ne.2 hf
    have hq2 : (f != 0) = true := by simp [hf]
    have e1 : takeA n (s, f) = nil8 := by unfold takeA; rw [if_neg hf]
    have e2 : takeS n (s, f) = (s, f) := by unfold takeS; rw [if_neg hf]
    have hm : nil8 = { data := #[] } := rfl
    have e3 : takeB n (s, f) = false := by unfold takeB; rw [decide_eq_false (show ¬ (s, f).2 = 0 from hf), Bool.false_and]
    rw [e1, e2, e3, hm]
    have HR : Hid (RR w p (s, f)) := ⟨l, hT, h1, h2⟩
    clear e1 e2 e3 hn h1 h2
    go_enter Tryz.func68, Tryz.ntmps68
    go_wp2
    go_ret2
    exact ⟨rfl, HR.out, Mr.refl _ _⟩
theorem xNum (n : Nat) (N : Int) (hN : N = (n : Int)) (hn : n ≤ 8) (p : Nat) (st : RS) (w : World) (h : RR w p st) : Calls Tryz.prog 63 #[.pointer (some ⟨p, 0, none⟩), .int .i64 N] w fun e w' => e = .returned (.int .u64 (num N st : Int)) ∧ RR w' p (takeS N st) ∧ Mr p w w' := by
  subst hN
  go_enter Tryz.func63, Tryz.ntmps63
  go_wp2_with fail
  refine (xTake (n : Int) p st _ h (.inr (by omega))).mono ?_
  rintro e w1 ⟨rfl, h1, hM⟩
  have hsz := takeA_le n st
  go_wp2_with fail
  refine (xNumber (takeA (n : Int) st) _ (by omega)).mono ?_
  rintro e w2 ⟨rfl, rfl⟩
  go_wp2
  go_ret
  exact ⟨rfl, h1, hM⟩
theorem num_lt (n : Nat) (st : RS) : num n st < 256 ^ n := by
  have h := be_lt (takeA n st).data.toList
  rw [str_len] at h
  exact Nat.lt_of_lt_of_le h (Nat.pow_le_pow_right (by decide) (takeA_le n st))
set_option maxRecDepth 100000 in
theorem xU8 (p : Nat) (st : RS) (w : World) (h : RR w p st) : Calls Tryz.prog 38 #[.pointer (some ⟨p, 0, none⟩)] w fun e w' => e = .returned (.int .u8 (be (takeA 1 st).data.toList : Int)) ∧ RR w' p (takeS 1 st) ∧ Mr p w w' := by
  have hlt : num 1 st < 256 := num_lt 1 st
  obtain ⟨Z, hZ⟩ : ∃ Z : Int, (num 1 st : Int) = Z := ⟨_, rfl⟩
  have HN := hide (fun (w : World) (h : RR w p st) => xNum 1 1 rfl (by omega) p st w h)
  have KC : Hid (∀ w : World, (convert 79 5 (.int .u64 Z)).run Tryz.prog w = .ok (.int .u8 Z) w) := fun w => run_conv 79 5 .u64 .u8 Z Z (by kernel_rfl) (by kernel_rfl) (by kernel_rfl) (by rw [← hZ, wrap_un .u8 8 rfl rfl, Nat.mod_eq_of_lt (by omega)]) w
  have e : (be (takeA 1 st).data.toList : Int) = Z := hZ
  rw [e]
  rw [hZ] at HN
  clear e hZ hlt
  go_enter Tryz.func38, Tryz.ntmps38
  go_wp2_with fail
  refine (HN.out _ h).mono ?_
  rintro e w1 ⟨rfl, h1, hM⟩
  go_wp2_with (refine wpW_conv _ _ _ rfl (.int .u64 Z) (.int .u8 Z) (by rfl) (by rfl) (KC.out _) ?_)
  go_ret
  exact ⟨rfl, h1, hM⟩
set_option maxRecDepth 100000 in
theorem xU16 (p : Nat) (st : RS) (w : World) (h : RR w p st) : Calls Tryz.prog 69 #[.pointer (some ⟨p, 0, none⟩)] w fun e w' => e = .returned (.int .u16 (be (takeA 2 st).data.toList : Int)) ∧ RR w' p (takeS 2 st) ∧ Mr p w w' := by
  have hlt : num 2 st < 65536 := num_lt 2 st
  obtain ⟨Z, hZ⟩ : ∃ Z : Int, (num 2 st : Int) = Z := ⟨_, rfl⟩
  have HN := hide (fun (w : World) (h : RR w p st) => xNum 2 2 rfl (by omega) p st w h)
  have KC : Hid (∀ w : World, (convert 79 115 (.int .u64 Z)).run Tryz.prog w = .ok (.int .u16 Z) w) := fun w => run_conv 79 115 .u64 .u16 Z Z (by kernel_rfl) (by kernel_rfl) (by kernel_rfl) (by rw [← hZ, wrap_un .u16 16 rfl rfl, Nat.mod_eq_of_lt (by omega)]) w
  have e : (be (takeA 2 st).data.toList : Int) = Z := hZ
  rw [e]
  rw [hZ] at HN
  clear e hZ hlt
  go_enter Tryz.func69, Tryz.ntmps69
  go_wp2_with fail
  refine (HN.out _ h).mono ?_
  rintro e w1 ⟨rfl, h1, hM⟩
  go_wp2_with (refine wpW_conv _ _ _ rfl (.int .u64 Z) (.int .u16 Z) (by rfl) (by rfl) (KC.out _) ?_)
  go_ret
  exact ⟨rfl, h1, hM⟩
set_option maxRecDepth 100000 in
theorem xI64 (p : Nat) (st : RS) (w : World) (h : RR w p st) (z : Int) (hz : IntKind.i64.wrap (num 8 st : Int) = z) : Calls Tryz.prog 42 #[.pointer (some ⟨p, 0, none⟩)] w fun e w' => e = .returned (.int .i64 z) ∧ RR w' p (takeS 8 st) ∧ Mr p w w' := by
  obtain ⟨Z, hZ⟩ : ∃ Z : Int, (num 8 st : Int) = Z := ⟨_, rfl⟩
  have HN := hide (fun (w : World) (h : RR w p st) => xNum 8 8 rfl (by omega) p st w h)
  have KC : Hid (∀ w : World, (convert 79 2 (.int .u64 Z)).run Tryz.prog w = .ok (.int .i64 z) w) := fun w => run_conv 79 2 .u64 .i64 Z z (by kernel_rfl) (by kernel_rfl) (by kernel_rfl) (by rw [← hZ, hz]) w
  rw [hZ] at HN
  clear hZ hz
  go_enter Tryz.func42, Tryz.ntmps42
  go_wp2_with fail
  refine (HN.out _ h).mono ?_
  rintro e w1 ⟨rfl, h1, hM⟩
  go_wp2_with (refine wpW_conv _ _ _ rfl (.int .u64 Z) (.int .i64 z) (by rfl) (by rfl) (KC.out _) ?_)
  go_ret
  exact ⟨rfl, h1, hM⟩
set_option maxRecDepth 100000 in
set_option maxHeartbeats 1000000 in
theorem xRaw (n : Int) (p : Nat) (st : RS) (w : World) (h : RR w p st) : Calls Tryz.prog 41 #[.pointer (some ⟨p, 0, none⟩), .int .i64 n] w fun e w' => e = .returned (.string (rawA n st)) ∧ RR w' p (rawS n st) ∧ Mr p w w' := by
  unfold rawA rawS rawMid
  by_cases hlt : n < 0
  · have hd : decide (n < 0) = true := decide_eq_true hlt
    rw [if_pos hlt]
    have hne : (stopS 1 st).2 ≠ 0 := by
      unfold stopS
      split
      · decide
      · assumption
    have e1 : takeA n (stopS 1 st) = { data := #[] } := takeA_broken _ _ _ hne
    have e2 : takeS n (stopS 1 st) = stopS 1 st := takeS_broken _ _ _ hne
    rw [e1, e2]
    clear e1 e2
    go_enter Tryz.func41, Tryz.ntmps41
    go_wp2_with fail
    refine (xBreaks 1 (by decide) p _ _ h).mono ?_
    rintro e w2 ⟨rfl, h2, hM2⟩
    go_wp2
    go_ret
    exact ⟨rfl, h2, hM2⟩
  · have hd : decide (n < 0) = false := decide_eq_false hlt
    rw [if_neg hlt]
    go_enter Tryz.func41, Tryz.ntmps41
    go_wp2_with fail
    refine (xTake n p _ _ h (.inr (by omega))).mono ?_
    rintro e w3 ⟨rfl, h3, hM3⟩
    go_wp2
    go_ret
    exact ⟨rfl, h3, hM3⟩
theorem xErr (p : Nat) (st : RS) (w : World) (h : RR w p st) : Calls Tryz.prog 46 #[.pointer (some ⟨p, 0, none⟩)] w fun e w' => e = .returned (.int .i64 st.2) ∧ w = w' := by
  obtain ⟨l, hT, _⟩ := h
  have c1 := Two.c1 hT
  go_enter Tryz.func46, Tryz.ntmps46
  go_wp2
  go_ret
  exact ⟨rfl, rfl⟩
theorem xRest (p : Nat) (st : RS) (w : World) (h : RR w p st) : Calls Tryz.prog 40 #[.pointer (some ⟨p, 0, none⟩)] w fun e w' => e = .returned (.string st.1) ∧ w = w' := by
  obtain ⟨s, f⟩ := st
  by_cases hf : f = 0
  · subst hf
    have hT := h.fine
    have c0 := Two.c0 hT
    have c1 := Two.c1 hT
    go_enter Tryz.func40, Tryz.ntmps40
    go_wp2
    go_ret
    exact ⟨rfl, rfl⟩
  · obtain ⟨l, hT, _, h2⟩ := h
    have c1 := Two.c1 hT
    simp only at c1
    have e : s = { data := #[] } := h2 hf
    subst e
    have hq : (f == 0) = false := beq_eq_false_iff_ne.2 hf
    have hq2 : (f != 0) = true := by simp [hf]
    go_enter Tryz.func40, Tryz.ntmps40
    go_wp2
    go_ret
    exact ⟨rfl, rfl⟩
theorem xOpen (s : ByteArray) (w : World) : Calls Tryz.prog 37 #[.string s] w fun e w' => e = .returned (.pointer (some ⟨w.heap.size, 0, none⟩)) ∧ RR w' w.heap.size (s, 0) ∧ Below w.heap.size w w' ∧ w'.heap.size = w.heap.size + 1 := by
  go_enter Tryz.func37, Tryz.ntmps37
  go_wp2
  go_ret
  exact ⟨rfl, RR.mk0 (Two.new w 120 _ 0), (Below.refl _ _).alloc (Nat.le_refl _) _, by simp⟩
def hPart (A : ByteArray) (k : Nat) : Nat → UInt8 := fun i => if i < k then hOf A i else 0
set_option maxRecDepth 100000 in
set_option maxHeartbeats 2000000 in
theorem xHash (p : Nat) (st : RS) (w : World) (h : RR w p st) : Calls Tryz.prog 45 #[.pointer (some ⟨p, 0, none⟩)] w fun e w' => e = .returned (.agg (tabv (bv (hOf (takeA 32 st))) 32)) ∧ RR w' p (takeS 32 st) ∧ Mr p w w' := by
  obtain ⟨A, hA⟩ : ∃ A, takeA 32 st = A := ⟨_, rfl⟩
  have hAs : A.size ≤ 32 := by rw [← hA]; exact takeA_le 32 st
  have hplt := h.lt
  go_enter Tryz.func45, Tryz.ntmps45
  go_wp2_with fail
  have hb2 : Below w.heap.size w ((w.alloc (.cells (tabv (fun _ => .int .u8 0) 32) 25)).alloc (.cells (tabv (fun _ => .int .u8 0) 32) 25)) := ((Below.refl _ _).alloc (Nat.le_refl _) _).alloc (by simp) _
  refine (xTake 32 p st _ (h.below hb2) (.inr (by decide))).mono ?_
  rintro e w3 ⟨rfl, h3, hM3⟩
  have hsz : ((w.alloc (.cells (tabv (fun _ => .int .u8 0) 32) 25)).alloc (.cells (tabv (fun _ => .int .u8 0) 32) 25)).heap.size = w.heap.size + 2 := by simp
  have k0 : Has w3 w.heap.size 25 (fun _ => .int .u8 0) 32 := by
    have := hM3.block w.heap.size (by omega) (by omega)
    unfold Has; rw [this]
    exact (Has.new w 25 (fun _ => .int .u8 0) 32 _ rfl).old _
  have k1 : Has w3 (w.heap.size + 1) 25 (bv (hPart A 0)) 32 := by
    have := hM3.block (w.heap.size + 1) (by omega) (by omega)
    unfold Has; rw [this]
    have e := Has.new (w.alloc (.cells (tabv (fun _ => .int .u8 0) 32) 25)) 25 (fun _ => .int .u8 0) 32 _ rfl
    simp only [World.size_alloc] at e
    exact e.congr _ (fun i _ => by unfold bv hPart; rw [if_neg (by omega)]; rfl)
  have hMw : Mr p w w3 := (Mr.of hb2).trans hM3
  rw [hA]
  clear hb2 hsz hM3
  go_wp2
  go_loopw [6] (fun i wr => ∃ k : Nat, k ≤ A.size ∧ i = .int .i64 (k : Int) ∧ Has wr (w.heap.size + 1) 25 (bv (hPart A k)) 32 ∧ Has wr w.heap.size 25 (fun _ => .int .u8 0) 32 ∧ Below w.heap.size w3 wr) (fun i _ => A.size - (intOf i).toNat)
  case atStart => exact ⟨0, Nat.zero_le _, rfl, k1, k0, Below.refl _ _⟩
  case round =>
    clear k0 k1
    obtain ⟨k, hk, rfl, k1, k0, kb⟩ := hrel
    by_cases hlt : k < A.size
    · have hd : decide ((k : Int) < (A.size : Int)) = true := decide_eq_true (by omega)
      have hk0 : (0 : Int) ≤ (k : Int) := by omega
      have hk1 : (k : Int) < 32 := by omega
      have cc := k1.cell k (by omega)
      have cf := k1.frozen k
      have HI : Hid (∀ w : World, (Instr.index 9 (.string A) (.int .i64 (k : Int))).run Tryz.prog w = .ok (.int .u8 ((hOf A k).toNat : Int)) w) := fun w => index_text A k hlt w
      obtain ⟨c, hc⟩ : ∃ c : Int, ((hOf A k).toNat : Int) = c := ⟨_, rfl⟩
      rw [hc] at HI
      have HK1 : Hid (Has (wr.setCell ⟨w.heap.size + 1, k, none⟩ (.int .u8 c)) (w.heap.size + 1) 25 (bv (hPart A (k + 1))) 32) := by
        have := k1.set k (.int .u8 c)
        refine this.congr _ (fun i hi => ?_)
        unfold upd bv hPart
        by_cases e : i = k
        · subst e; rw [if_pos rfl, if_pos (by omega), hc]
        · rw [if_neg e]
          by_cases e2 : i < k
          · rw [if_pos e2, if_pos (by omega)]
          · rw [if_neg e2, if_neg (by omega)]
      have HK0 := hide (k0.other ⟨w.heap.size + 1, k, none⟩ (.int .u8 c) (by show w.heap.size ≠ w.heap.size + 1; omega))
      have HKB := hide (kb.setCell (p := ⟨w.heap.size + 1, k, none⟩) (by show w.heap.size ≤ w.heap.size + 1; omega) (.int .u8 c))
      clear hc k0 kb k1
      go_wp2_with (refine wpList_index_lit rfl _ _ _ rfl (.int .u8 c) ?_ ?_; · exact HI.out _)
      go_roundw
      case rel => exact ⟨k + 1, by omega, by go_num, HK1.out, HK0.out, HKB.out⟩
      case measure => simp [intOf]; omega
    · have hkk : k = A.size := by omega
      subst hkk
      have hd : decide ((A.size : Int) < (A.size : Int)) = false := by simp
      have e1 : Has wr (w.heap.size + 1) 25 (bv (hOf A)) 32 := k1.congr _ (fun i hi => by
        unfold bv hPart
        by_cases e : i < A.size
        · rw [if_pos e]
        · rw [if_neg e]
          unfold hOf byteAt
          rw [List.getD_eq_getElem?_getD, List.getElem?_eq_none (by rw [str_len]; omega)]; rfl)
      have I0 := hide k0
      have I1 := hide e1
      clear k0 k1 e1
      go_wp2_with (first | (refine wpList_load_part rfl 25 _ rfl (w.heap.size + 1) 0 rfl 25 _ 32 32 _ I1.out (by omega) Tryz.underlying25 rfl info54 (bv (hOf A)) (fun i _ => by rw [Nat.zero_add]) ?_) | (refine wpList_store_part rfl 25 _ _ rfl rfl w.heap.size 0 (bv (hOf A)) 32 rfl rfl 25 _ 32 I0.out (by omega) info54 (fun _ _ => rfl) (bv (hOf A)) (fun i hi => by unfold splice; rw [if_pos (by omega), Nat.sub_zero]) ?_))
      have bf := below_setRow kb (Nat.le_refl w.heap.size) (tabv (bv (hOf A)) 32)
      refine bodyPost_ret (results_cell_row rfl _ _ w.heap.size 25 _ (0, 0) _ rfl (I0.out.row _ _ rfl) Tryz.underlying25 rfl (by rw [tabv_size]; exact info54)) rfl ⟨by rw [hA], h3.same (bf.block p hplt), Mr.low hMw bf⟩
end Go.Proofs.YtlohfoggcdaeiaaGreat.Cu
/-
  Read of the document (printed by gen_rread.py).
-/
namespace Go.Proofs.YtlohfoggcdaeiaaGreat
set_option maxRecDepth 20000
open Go.RowKit S
set_option linter.unusedVariables false
set_option linter.unusedSimpArgs false
open Cu (nb be hl ofL)
/-- What of a hash is there behind j rounds. -/
def upH (l : List UInt8) (j : Nat) : Nat → UInt8 := fun i => if i < j then hashOf l i else 0
theorem upH_next (l : List UInt8) (j : Nat) (i : Nat) : upd (bv (upH l j)) j (.int .u8 ((hashOf l j).toNat : Int)) i = bv (upH l (j + 1)) i := by
  unfold upd bv upH
  by_cases h : i = j
  · subst h; rw [if_pos rfl, if_pos (by omega)]
  · rw [if_neg h]
    by_cases h2 : i < j
    · rw [if_pos h2, if_pos (by omega)]
    · rw [if_neg h2, if_neg (by omega)]
theorem zeroB : tabv (bv (fun _ => (0 : UInt8))) 32 = tabv (fun _ => (.int .u8 0 : Value)) 32 := rfl
set_option maxRecDepth 100000 in
set_option maxHeartbeats 1000000 in
theorem rhash_any (b : ByteArray) (hb : b.size = 32) (w : World) : Calls Tryz.prog 66 #[.string b] w fun e w' => e = .returned (.agg (tabv (bv (hashOf b.data.toList)) 32)) ∧ Below w.heap.size w w' := by
  obtain ⟨l, hl⟩ : ∃ l, b.data.toList = l := ⟨_, rfl⟩
  rw [hl]
  have HI : Hid (∀ (k : Nat), k < 32 → ∀ w : World, (Instr.index 9 (.string b) (.int .i64 (k : Int))).run Tryz.prog w = .ok (.int .u8 ((hashOf l k).toNat : Int)) w) := fun k hk w => by
    have := Cu.index_text b k (by omega) w
    rw [hl] at this
    exact this
  have hbs : (b.size : Int) = 32 := by omega
  clear hl
  go_enter Tryz.func66, Tryz.ntmps66
  go_wp2
  generalize hW : World.alloc (World.alloc w _) _ = w2
  have kb : Below w.heap.size w w2 := by rw [← hW]; exact ((Below.refl _ _).alloc (Nat.le_refl _) _).alloc (by simp) _
  have k0 : Has w2 w.heap.size 25 (fun _ => .int .u8 0) 32 := by rw [← hW]; exact (Has.new w 25 (fun _ => .int .u8 0) 32 _ rfl).old _
  have k1 : Has w2 (w.heap.size + 1) 25 (bv (upH l 0)) 32 := by
    rw [← hW]
    have := Has.new (w.alloc (.cells (tabv (fun _ => .int .u8 0) 32) 25)) 25 (fun _ => .int .u8 0) 32 _ rfl
    simp only [World.size_alloc] at this
    exact this
  clear hW
  go_loopw [4] (fun i wr => ∃ j : Nat, j ≤ 32 ∧ i = .int .i64 (j : Int) ∧ Has wr w.heap.size 25 (fun _ => .int .u8 0) 32 ∧ Has wr (w.heap.size + 1) 25 (bv (upH l j)) 32 ∧ Below w.heap.size w wr) (fun i _ => 32 - (intOf i).toNat)
  case atStart => exact ⟨0, by omega, rfl, k0, k1, kb⟩
  case round =>
    clear k0 k1 kb
    obtain ⟨j, hj, rfl, k0, k1, kb⟩ := hrel
    by_cases hlt : j < 32
    · have hd : decide ((j : Int) < 32) = true := by simp; omega
      have hk0 : (0 : Int) ≤ (j : Int) := by omega
      have hk1 : (j : Int) < 32 := by omega
      have c1 := k1.cell j hlt
      simp only [bv] at c1
      have f1 := k1.frozen j
      have hix := HI.out j hlt
      have HX := hide hix
      clear hix
      have K1 := hide k1
      have K0 := hide k0
      clear k0 k1
      go_wp2_with (first | (refine Cu.wpList_index_lit rfl _ _ _ rfl (.int .u8 ((hashOf l j).toNat : Int)) ?_ ?_; · exact HX.out _))
      go_roundw
      case rel => exact ⟨j + 1, by omega, by go_num, K0.out.other _ _ (by simp), (K1.out.set j _).congr _ (fun i _ => upH_next l j i), kb.setCell (by simp) _⟩
      case measure => simp [intOf]; omega
    · have hjn : j = 32 := by omega
      subst hjn
      have hd : decide (((32 : Nat) : Int) < 32) = false := by decide
      rw [show ((32 : Nat) : Int) = 32 from rfl]
      have e : tabv (bv (upH l 32)) 32 = tabv (bv (hashOf l)) 32 := tabv_congr _ _ _ fun i hi => by unfold bv upH; rw [if_pos hi]
      have k1 : Has wr (w.heap.size + 1) 25 (bv (hashOf l)) 32 := by have := k1; unfold Has at this ⊢; rw [e] at this; exact this
      have K1 := hide k1
      have K0 := hide k0
      clear k0 k1 e
      go_wp2_with (first | refine wpW_load_at 25 _ rfl (w.heap.size + 1) (0) (by rfl) (by rfl) _ 32 _ (K1.out.at_ 0 (by omega) (fun i hi => by rw [Nat.zero_add])) Tryz.underlying25 rfl info26 ?_ | refine wpList_storeH rfl _ _ rfl rfl w.heap.size (hashOf l) rfl rfl _ K0.out ?_)
      exact bodyPost_ret (results_cell_row rfl _ _ w.heap.size 25 _ (0, 0) _ rfl (K0.out.row _ _ rfl) Tryz.underlying25 rfl (by rw [tabv_size]; exact info26)) rfl ⟨rfl, below_setRow kb (Nat.le_refl _) _⟩
def sizeA : List UInt8 → Int
  | [] => 0
  | c :: r => if c = 1 then 43 else if c = 2 then 35 else if c = 3 then (if r.length < 4 then 0 else if 64 < be ((r.drop 2).take 2) then -1 else 5 + (be ((r.drop 2).take 2) : Int)) else -1
theorem u8_beq (c : UInt8) (k : Nat) (hk : k < 256) (b : Bool) (h : decide (c = UInt8.ofNat k) = b) : ((c.toNat : Int) == (k : Int)) = b := by
  rw [← h, Bool.eq_iff_iff, beq_iff_eq, decide_eq_true_iff]
  exact u8_int c k hk
set_option maxRecDepth 100000 in
set_option maxHeartbeats 4000000 in
theorem rsize_any (c : UInt8) (r : List UInt8) (b : ByteArray) (hb : b.data.toList = c :: r) (hz : b.size ≤ 281474976710656) (w : World) : Calls Tryz.prog 64 #[.string b] w fun e w' => e = .returned (.int .i64 (sizeA (c :: r))) ∧ w = w' := by
  have hsz : b.size = r.length + 1 := by rw [← Cu.str_len, hb]; rfl
  obtain ⟨C, hC⟩ : ∃ C : Int, (c.toNat : Int) = C := ⟨_, rfl⟩
  have HX : Hid (∀ w : World, (Instr.index 9 (.string b) (.int .i64 0)).run Tryz.prog w = .ok (.int .u8 C) w) := fun w => by
    have := Cu.index_text b 0 (by omega) w
    rw [hb, show (Cu.byteAt (c :: r) 0) = c from rfl, hC] at this
    exact this
  have hC1 : (C == 1) = decide (c = 1) := by rw [← hC]; exact u8_beq c 1 (by omega) _ rfl
  have hC2 : (C == 2) = decide (c = 2) := by rw [← hC]; exact u8_beq c 2 (by omega) _ rfl
  have hC3 : (C == 3) = decide (c = 3) := by rw [← hC]; exact u8_beq c 3 (by omega) _ rfl
  have hzi : (b.size : Int) ≤ 281474976710656 := by omega
  have hex : b.extract 3 5 = ofL ((r.drop 2).take 2) := by
    have := Cu.ofL_extract (c :: r) 3 5
    rw [← hb, Cu.ofL_of] at this
    rw [this, hb, List.drop_take]
    rfl
  by_cases c1 : c = 1
  · rw [show sizeA (c :: r) = 43 by unfold sizeA; dsimp only; rw [if_pos c1]]
    rw [decide_eq_true c1] at hC1
    clear hC hC2 hC3 c1 hb hex
    go_enter Tryz.func64, Tryz.ntmps64
    go_wp2_with (first | (refine Cu.wpList_index_lit rfl _ _ _ rfl (.int .u8 C) ?_ ?_; · exact HX.out _))
    go_ret
    exact ⟨rfl, rfl⟩
  rw [decide_eq_false c1] at hC1
  by_cases c2 : c = 2
  · rw [show sizeA (c :: r) = 35 by unfold sizeA; dsimp only; rw [if_neg c1, if_pos c2]]
    rw [decide_eq_true c2] at hC2
    clear hC hC3 c1 c2 hb hex
    go_enter Tryz.func64, Tryz.ntmps64
    go_wp2_with (first | (refine Cu.wpList_index_lit rfl _ _ _ rfl (.int .u8 C) ?_ ?_; · exact HX.out _))
    go_ret
    exact ⟨rfl, rfl⟩
  rw [decide_eq_false c2] at hC2
  by_cases c3 : c = 3
  · rw [decide_eq_true c3] at hC3
    have hC3n : (C != 3) = false := by unfold bne; rw [hC3]; rfl
    by_cases h4 : r.length < 4
    · rw [show sizeA (c :: r) = 0 by unfold sizeA; dsimp only; rw [if_neg c1, if_neg c2, if_pos c3, if_pos h4]]
      have hd : decide ((b.size : Int) < 5) = true := decide_eq_true (by omega)
      clear hC c1 c2 c3 hb hex
      go_enter Tryz.func64, Tryz.ntmps64
      go_wp2_with (first | (refine Cu.wpList_index_lit rfl _ _ _ rfl (.int .u8 C) ?_ ?_; · exact HX.out _))
      go_ret
      exact ⟨rfl, rfl⟩
    · have hd : decide ((b.size : Int) < 5) = false := decide_eq_false (by omega)
      have hle : (5 : Int) ≤ (b.size : Int) := by omega
      have hsl : (ofL ((r.drop 2).take 2)).size ≤ 8 := by rw [Cu.ofL_size, List.length_take]; omega
      have NB := fun w : World => Cu.xNumber (ofL ((r.drop 2).take 2)) w hsl
      rw [Cu.ofL_data] at NB
      have hbb := be2_lt (r.drop 2)
      obtain ⟨m, hm⟩ : ∃ m, be ((r.drop 2).take 2) = m := ⟨_, rfl⟩
      rw [hm] at NB hbb
      have hcv : ∀ w : World, (convert 79 3 (.int .u64 (m : Int))).run Tryz.prog w = .ok (.int .i64 (m : Int)) w := fun w => by
        have h := run_convert_int (P := Tryz.prog) (w := w) 79 3 .u64 (m : Int) (by kernel_rfl) (by kernel_rfl)
        rw [show Tryz.prog.intKind 3 = .i64 by kernel_rfl, show IntKind.i64.wrap (m : Int) = m by rw [IntKind.wrap_i64]; omega] at h
        exact h
      have HCV := hide hcv
      have NB := hide NB
      rw [← hex] at NB
      by_cases h64 : 64 < m
      · rw [show sizeA (c :: r) = -1 by unfold sizeA; dsimp only; rw [if_neg c1, if_neg c2, if_pos c3, if_neg h4, hm, if_pos h64]]
        have hd6 : decide ((m : Int) > 64) = true := decide_eq_true (by omega)
        clear hC c1 c2 c3 hb hex hm hsl hcv h64
        go_enter Tryz.func64, Tryz.ntmps64
        go_wp2_with (first | (refine Cu.wpList_index_lit rfl _ _ _ rfl (.int .u8 C) ?_ ?_; · exact HX.out _) | fail)
        refine (NB.out _).mono ?_
        rintro e w1 ⟨rfl, rfl⟩
        go_wp2_with (first | refine Cu.wpList_conv rfl _ _ _ rfl .u64 .i64 (m : Int) (m : Int) (by rfl) (HCV.out _) ?_)
        go_ret
        exact ⟨rfl, rfl⟩
      · rw [show sizeA (c :: r) = 5 + (m : Int) by unfold sizeA; dsimp only; rw [if_neg c1, if_neg c2, if_pos c3, if_neg h4, hm, if_neg h64]]
        have hd6 : decide ((m : Int) > 64) = false := decide_eq_false (by omega)
        have hmi : (m : Int) ≤ 65535 := by omega
        have hm0 : (0 : Int) ≤ (m : Int) := by omega
        clear hC c1 c2 c3 hb hex hm hsl hcv h64
        go_enter Tryz.func64, Tryz.ntmps64
        go_wp2_with (first | (refine Cu.wpList_index_lit rfl _ _ _ rfl (.int .u8 C) ?_ ?_; · exact HX.out _) | fail)
        refine (NB.out _).mono ?_
        rintro e w1 ⟨rfl, rfl⟩
        go_wp2_with (first | refine Cu.wpList_conv rfl _ _ _ rfl .u64 .i64 (m : Int) (m : Int) (by rfl) (HCV.out _) ?_)
        go_ret
        exact ⟨rfl, rfl⟩
  · rw [decide_eq_false c3] at hC3
    have hC3n : (C != 3) = true := by unfold bne; rw [hC3]; rfl
    rw [show sizeA (c :: r) = -1 by unfold sizeA; dsimp only; rw [if_neg c1, if_neg c2, if_neg c3]]
    clear hC c1 c2 c3 hb hex
    go_enter Tryz.func64, Tryz.ntmps64
    go_wp2_with (first | (refine Cu.wpList_index_lit rfl _ _ _ rfl (.int .u8 C) ?_ ?_; · exact HX.out _))
    go_ret
    exact ⟨rfl, rfl⟩
end Go.Proofs.YtlohfoggcdaeiaaGreat
