/-
  The document's writer.
-/
import Derived.Test.YtmcnempkddahcaaLays
namespace Go.Proofs.Ytmcnempkddahcaa
open Go.RowKit
set_option linter.unusedVariables false
def RW (w : World) (p : Nat) (v : Value) : Option (List UInt8) → Prop
  | some l => Two 97 w p v 0 ∧ Bytes w (p + 1) v l
  | none => Two 97 w p v 3 ∧ ∃ l, Bytes w (p + 1) v l
theorem RW.two {w : World} {p : Nat} {v : Value} {s : Option (List UInt8)} (h : RW w p v s) : ∃ f l, Two 97 w p v f ∧ Bytes w (p + 1) v l := by
  cases s with
  | none => exact ⟨_, h.2.choose, h.1, h.2.choose_spec⟩
  | some l => exact ⟨_, _, h.1, h.2⟩
theorem RW.lt {w : World} {p : Nat} {v : Value} {s : Option (List UInt8)} (h : RW w p v s) : p < w.heap.size := by
  obtain ⟨f, l, h1, _⟩ := h.two; exact h1.lt
theorem RW.own {w : World} {p : Nat} {v : Value} {s : Option (List UInt8)} (h : RW w p v s) : ∀ k, v.ownBlock = some k → p + 1 ≤ k ∧ k < w.heap.size := by
  obtain ⟨f, l, _, h2⟩ := h.two; exact fun k hk => ⟨h2.block k hk, h2.lt k hk⟩
theorem RW.same {w w' : World} {p : Nat} {v : Value} {s : Option (List UInt8)} (h : RW w p v s) (e1 : w'.heap[p]? = w.heap[p]?) (e2 : ∀ k, v.ownBlock = some k → w'.heap[k]? = w.heap[k]?) : RW w' p v s := by
  cases s with
  | none => obtain ⟨h1, l, h2⟩ := h; exact ⟨h1.same e1, l, h2.same e2⟩
  | some l => exact ⟨h.1.same e1, h.2.same e2⟩
theorem RW.below {w w' : World} {p : Nat} {v : Value} {s : Option (List UInt8)} (h : RW w p v s) (hb : Below w.heap.size w w') : RW w' p v s :=
  h.same (hb.block p h.lt) (fun k hk => hb.block k (h.own k hk).2)
set_option maxRecDepth 5000 in
set_option maxHeartbeats 4000000 in
theorem refBytes (X : Int) (x n : Nat) (hX : X = (x : Int)) (N : Int) (hN : N = (n : Int)) (hn : n ≤ 8) (w : World) : Calls Try.prog 91 #[.int .u64 X, .int .i64 N] w fun e w' => e = .returned (.string (ofL (nb x n))) ∧ Below w.heap.size w w' := by
  have HX := hide hX
  subst hN
  obtain ⟨R, hR⟩ : ∃ R, ofL (nb x n) = R := ⟨_, rfl⟩
  rw [hR]
  have HR := hide hR
  clear hX hR
  go_enter Try.func91, Try.ntmps91
  go_wp2
  go_loopw [5, 6] (fun b i wr => ∃ k : Nat, k ≤ n ∧ i = .int .i64 ((k : Int) - 1) ∧ Bytes wr w.heap.size b ((List.range (n - k)).map (digit x n)) ∧ Below w.heap.size w wr) (fun _ i _ => (intOf i + 1).toNat)
  case atStart => exact ⟨n, Nat.le_refl _, rfl, by rw [Nat.sub_self]; exact Bytes.nil _ _, Below.refl _ _⟩
  case round =>
    obtain ⟨k, hk, rfl, hB, kb⟩ := hrel
    by_cases hm0 : 0 < k
    · obtain ⟨I, hI⟩ : ∃ I : Int, (k : Int) - 1 = I := ⟨_, rfl⟩
      obtain ⟨J, hJ⟩ : ∃ J : Int, 8 * I = J := ⟨_, rfl⟩
      obtain ⟨Z, hZ⟩ : ∃ Z : Int, X / (2 : Int) ^ (8 * (k - 1)) = Z := ⟨_, rfl⟩
      have K1 : Hid (∀ w : World, (convert 3 43 (.int .i64 I)).run Try.prog w = .ok (.int .u64 I) w) := fun w => run_conv 3 43 .i64 .u64 I I (by kernel_rfl) (by kernel_rfl) (by kernel_rfl) (by
        obtain ⟨i, rfl⟩ := Int.eq_ofNat_of_zero_le (show 0 ≤ I by omega)
        rw [wrap_un .u64 64 rfl rfl, Nat.mod_eq_of_lt (by omega)]) w
      have K2 : Hid (∀ w : World, (binOp .mul 43 (.int .u64 8) (.int .u64 I)).run Try.prog w = .ok (.int .u64 J) w) := fun w => run_mul 43 .u64 8 I J (by
        obtain ⟨j, rfl⟩ := Int.eq_ofNat_of_zero_le (show 0 ≤ J by omega)
        rw [hJ, wrap_un .u64 64 rfl rfl, Nat.mod_eq_of_lt (by omega)]) w
      have K3 : Hid (∀ w : World, (binOp .shr 37 (.int .u64 X) (.int .u64 J)).run Try.prog w = .ok (.int .u64 Z) w) := fun w => run_shr 37 .u64 .u64 X J Z (8 * (k - 1)) (by omega) (by show _ ≤ 64; omega) hZ w
      have K4 : Hid (∀ w : World, (convert 37 5 (.int .u64 Z)).run Try.prog w = .ok (.int .u8 ((digit x n (n - k)).toNat : Int)) w) := fun w => by
        rw [← wrap8_digit x n (n - k) (8 * (k - 1)) (by omega), ← HX.out, hZ]
        exact conv_u8 37 .u64 Z (by kernel_rfl) w
      have hd : decide (I ≥ 0) = true := decide_eq_true (by omega)
      have hd2 : (0 : Int) ≤ I := by omega
      have hd3 : I ≤ 8 := by omega
      have HI := hide hI
      rw [hI]
      have HLL : Hid (((List.range (n - k)).map (digit x n)).length + 1 ≤ 140737488355328) := by
        show _ ≤ _
        rw [List.length_map, List.length_range]; omega
      obtain ⟨L, hL⟩ : ∃ L, (List.range (n - k)).map (digit x n) = L := ⟨_, rfl⟩
      rw [hL] at hB HLL
      have HE := hide hL
      have HSZ := hide kb.size
      clear hI hJ hZ hL
      go_wp2_with (first | (refine wpW_conv _ _ _ rfl (.int .i64 I) (.int .u64 I) (by rfl) (by rfl) (K1.out _) ?_) | (refine wpW_bin .mul _ _ _ _ rfl (.int .u64 8) (.int .u64 I) (.int .u64 J) (by rfl) (by rfl) (by rfl) rfl (K2.out _) ?_) | (refine wpW_bin .shr _ _ _ _ rfl (.int .u64 X) (.int .u64 J) (.int .u64 Z) (by rfl) (by rfl) (by rfl) rfl (K3.out _) ?_) | (refine wpW_conv _ _ _ rfl (.int .u64 Z) (.int .u8 ((digit x n (n - k)).toNat : Int)) (by rfl) (by rfl) (K4.out _) ?_) | (at_builtin; refine wpList_append_byte rfl _ _ rfl w.heap.size _ L (digit x n (n - k)) _ rfl (by rfl) hB (by rfl) rfl HLL.out HSZ.out ?_; intro g cap w5 hB5 hM5))
      go_roundw
      case rel =>
        have hI := HI.out
        refine ⟨k - 1, by omega, by rw [show I - 1 = ((k - 1 : Nat) : Int) - 1 by omega], ?_, kb.trans (grown_below (B := w.heap.size) hM5.gr hB.block kb.size)⟩
        rw [← HE.out, range_snoc, show n - k + 1 = n - (k - 1) by omega] at hB5
        rw [HE.out] at hB5
        exact hB5
      case measure => have := HI.out; simp [intOf]; omega
    · have hk0 : k = 0 := by omega
      subst hk0
      have hcv := hB.conv
      obtain ⟨ad, n1, c1, rfl⟩ := hB.shape
      have HN : Hid ((⟨((List.range (n - 0)).map (digit x n)).toArray⟩ : ByteArray) = ofL (nb x n)) := rfl
      rw [HN.out, HR.out] at hcv
      clear hB
      go_wp2
      go_ret
      exact ⟨rfl, kb⟩
set_option maxRecDepth 5000 in
set_option maxHeartbeats 1000000 in
theorem qLay (t : ByteArray) (p : Nat) (v : Value) (s : Option (List UInt8)) (w : World) (h : RW w p v s) (hl : ∀ l, s = some l → l.length + t.size ≤ 140737488355328) :
    Calls Try.prog 90 #[.pointer (some ⟨p, 0, none⟩), .string t] w fun e w' => e = .returned (.tuple #[]) ∧ ∃ v', RW w' p v' (s.map (· ++ t.data.toList)) ∧ Mw p w v w' v' := by
  have HL := hide hl
  clear hl
  cases s with
  | none =>
    have c1 := h.1.c1
    go_enter Try.func90, Try.ntmps90
    go_wp2
    go_end0
    exact ⟨rfl, v, h, Mw.refl _ _ _⟩
  | some l =>
    have c1 := h.1.c1
    have c0 := h.1.c0
    have hp : p + 1 ≤ w.heap.size := by have := h.1.lt; omega
    have HP := hide hp
    clear hp
    have HLL : Hid (l.length + t.data.toList.length ≤ 140737488355328) := by
      show _ ≤ _
      rw [str_len]; exact HL.out l rfl
    go_enter Try.func90, Try.ntmps90
    go_wp2_with (at_builtin; refine wpList_append_src rfl _ _ 9 rfl (p + 1) v l (by rfl) h.2 (.string t) t.data.toList (by rfl) (src_text t _) HLL.out HP.out ?_; intro ad n1 c1' w1 hB1 hM; obtain ⟨t1, t2, t3, t4⟩ := stored h.1 h.2 hM hB1; have d0 := t1.c0; have df := t1.fz 0)
    go_end0
    exact ⟨rfl, _, ⟨t2, t3⟩, t4⟩
set_option maxRecDepth 5000 in
set_option maxHeartbeats 1000000 in
theorem qU8 (X : Int) (x : Nat) (hx : x < 256) (hX : X = (x : Int)) (p : Nat) (v : Value) (s : Option (List UInt8)) (w : World) (h : RW w p v s) (hl : ∀ l, s = some l → l.length + 1 ≤ 140737488355328) :
    Calls Try.prog 61 #[.pointer (some ⟨p, 0, none⟩), .int .u8 X] w fun e w' => e = .returned (.tuple #[]) ∧ ∃ v', RW w' p v' (s.map (· ++ nb x 1)) ∧ Mw p w v w' v' := by
  have KC : Hid (∀ w : World, (convert 5 37 (.int .u8 X)).run Try.prog w = .ok (.int .u64 X) w) := fun w => run_conv 5 37 .u8 .u64 X X (by kernel_rfl) (by kernel_rfl) (by kernel_rfl) (by rw [hX, wrap_un .u64 64 rfl rfl, Nat.mod_eq_of_lt (by omega)]) w
  have HL := hide hl
  have HX := hide hX
  clear hl hX
  go_enter Try.func61, Try.ntmps61
  go_wp2_with (first | (refine wpW_conv _ _ _ rfl (.int .u8 X) (.int .u64 X) (by rfl) (by rfl) (KC.out _) ?_) | fail)
  refine (refBytes X x 1 HX.out 1 rfl (by omega) _).mono ?_
  rintro e w1 ⟨rfl, hb1⟩
  have h1 := h.below hb1
  go_wp2_with fail
  refine (qLay (ofL (nb x 1)) p v s _ h1 (fun l e => by have := HL.out l e; rw [ofL_size, nb_length]; omega)).mono ?_
  rintro e w2 ⟨rfl, v2, h2, hM2⟩
  rw [ofL_data] at h2
  go_wp2
  go_end0
  exact ⟨rfl, v2, h2, (Mw.of_below hb1).trans hM2⟩
set_option maxRecDepth 5000 in
set_option maxHeartbeats 1000000 in
theorem qU16 (X : Int) (x : Nat) (hx : x < 65536) (hX : X = (x : Int)) (p : Nat) (v : Value) (s : Option (List UInt8)) (w : World) (h : RW w p v s) (hl : ∀ l, s = some l → l.length + 2 ≤ 140737488355328) :
    Calls Try.prog 62 #[.pointer (some ⟨p, 0, none⟩), .int .u16 X] w fun e w' => e = .returned (.tuple #[]) ∧ ∃ v', RW w' p v' (s.map (· ++ nb x 2)) ∧ Mw p w v w' v' := by
  have KC : Hid (∀ w : World, (convert 45 37 (.int .u16 X)).run Try.prog w = .ok (.int .u64 X) w) := fun w => run_conv 45 37 .u16 .u64 X X (by kernel_rfl) (by kernel_rfl) (by kernel_rfl) (by rw [hX, wrap_un .u64 64 rfl rfl, Nat.mod_eq_of_lt (by omega)]) w
  have HL := hide hl
  have HX := hide hX
  clear hl hX
  go_enter Try.func62, Try.ntmps62
  go_wp2_with (first | (refine wpW_conv _ _ _ rfl (.int .u16 X) (.int .u64 X) (by rfl) (by rfl) (KC.out _) ?_) | fail)
  refine (refBytes X x 2 HX.out 2 rfl (by omega) _).mono ?_
  rintro e w1 ⟨rfl, hb1⟩
  have h1 := h.below hb1
  go_wp2_with fail
  refine (qLay (ofL (nb x 2)) p v s _ h1 (fun l e => by have := HL.out l e; rw [ofL_size, nb_length]; omega)).mono ?_
  rintro e w2 ⟨rfl, v2, h2, hM2⟩
  rw [ofL_data] at h2
  go_wp2
  go_end0
  exact ⟨rfl, v2, h2, (Mw.of_below hb1).trans hM2⟩
set_option maxRecDepth 5000 in
set_option maxHeartbeats 1000000 in
theorem qU32 (X : Int) (x : Nat) (hx : x < 4294967296) (hX : X = (x : Int)) (p : Nat) (v : Value) (s : Option (List UInt8)) (w : World) (h : RW w p v s) (hl : ∀ l, s = some l → l.length + 4 ≤ 140737488355328) :
    Calls Try.prog 63 #[.pointer (some ⟨p, 0, none⟩), .int .u32 X] w fun e w' => e = .returned (.tuple #[]) ∧ ∃ v', RW w' p v' (s.map (· ++ nb x 4)) ∧ Mw p w v w' v' := by
  have KC : Hid (∀ w : World, (convert 42 37 (.int .u32 X)).run Try.prog w = .ok (.int .u64 X) w) := fun w => run_conv 42 37 .u32 .u64 X X (by kernel_rfl) (by kernel_rfl) (by kernel_rfl) (by rw [hX, wrap_un .u64 64 rfl rfl, Nat.mod_eq_of_lt (by omega)]) w
  have HL := hide hl
  have HX := hide hX
  clear hl hX
  go_enter Try.func63, Try.ntmps63
  go_wp2_with (first | (refine wpW_conv _ _ _ rfl (.int .u32 X) (.int .u64 X) (by rfl) (by rfl) (KC.out _) ?_) | fail)
  refine (refBytes X x 4 HX.out 4 rfl (by omega) _).mono ?_
  rintro e w1 ⟨rfl, hb1⟩
  have h1 := h.below hb1
  go_wp2_with fail
  refine (qLay (ofL (nb x 4)) p v s _ h1 (fun l e => by have := HL.out l e; rw [ofL_size, nb_length]; omega)).mono ?_
  rintro e w2 ⟨rfl, v2, h2, hM2⟩
  rw [ofL_data] at h2
  go_wp2
  go_end0
  exact ⟨rfl, v2, h2, (Mw.of_below hb1).trans hM2⟩
set_option maxRecDepth 5000 in
set_option maxHeartbeats 1000000 in
theorem qU64 (X : Int) (x : Nat) (hX : X = (x : Int)) (p : Nat) (v : Value) (s : Option (List UInt8)) (w : World) (h : RW w p v s) (hl : ∀ l, s = some l → l.length + 8 ≤ 140737488355328) :
    Calls Try.prog 64 #[.pointer (some ⟨p, 0, none⟩), .int .u64 X] w fun e w' => e = .returned (.tuple #[]) ∧ ∃ v', RW w' p v' (s.map (· ++ nb x 8)) ∧ Mw p w v w' v' := by
  have HL := hide hl
  have HX := hide hX
  clear hl hX
  go_enter Try.func64, Try.ntmps64
  go_wp2_with fail
  refine (refBytes X x 8 HX.out 8 rfl (by omega) _).mono ?_
  rintro e w1 ⟨rfl, hb1⟩
  have h1 := h.below hb1
  go_wp2_with fail
  refine (qLay (ofL (nb x 8)) p v s _ h1 (fun l e => by have := HL.out l e; rw [ofL_size, nb_length]; omega)).mono ?_
  rintro e w2 ⟨rfl, v2, h2, hM2⟩
  rw [ofL_data] at h2
  go_wp2
  go_end0
  exact ⟨rfl, v2, h2, (Mw.of_below hb1).trans hM2⟩
set_option maxRecDepth 5000 in
set_option maxHeartbeats 1000000 in
theorem qI64 (X : Int) (x : Nat) (hX : IntKind.u64.wrap X = (x : Int)) (p : Nat) (v : Value) (s : Option (List UInt8)) (w : World) (h : RW w p v s) (hl : ∀ l, s = some l → l.length + 8 ≤ 140737488355328) :
    Calls Try.prog 65 #[.pointer (some ⟨p, 0, none⟩), .int .i64 X] w fun e w' => e = .returned (.tuple #[]) ∧ ∃ v', RW w' p v' (s.map (· ++ nb x 8)) ∧ Mw p w v w' v' := by
  have HL := hide hl
  obtain ⟨Z, hZ⟩ : ∃ Z : Int, (x : Int) = Z := ⟨_, rfl⟩
  have KC : Hid (∀ w : World, (convert 2 37 (.int .i64 X)).run Try.prog w = .ok (.int .u64 Z) w) := fun w => run_conv 2 37 .i64 .u64 X Z (by kernel_rfl) (by kernel_rfl) (by kernel_rfl) (by rw [hX, hZ]) w
  have HZ := hide hZ.symm
  clear hl hX hZ
  go_enter Try.func65, Try.ntmps65
  go_wp2_with (first | (refine wpW_conv _ _ _ rfl (.int .i64 X) (.int .u64 Z) (by rfl) (by rfl) (KC.out _) ?_) | fail)
  refine (refBytes Z x 8 HZ.out 8 rfl (by omega) _).mono ?_
  rintro e w1 ⟨rfl, hb1⟩
  have h1 := h.below hb1
  go_wp2_with fail
  refine (qLay (ofL (nb x 8)) p v s _ h1 (fun l e => by have := HL.out l e; rw [ofL_size, nb_length]; omega)).mono ?_
  rintro e w2 ⟨rfl, v2, h2, hM2⟩
  rw [ofL_data] at h2
  go_wp2
  go_end0
  exact ⟨rfl, v2, h2, (Mw.of_below hb1).trans hM2⟩
theorem qRaw (t : ByteArray) (p : Nat) (v : Value) (s : Option (List UInt8)) (w : World) (h : RW w p v s) (hl : ∀ l, s = some l → l.length + t.size ≤ 140737488355328) :
    Calls Try.prog 68 #[.pointer (some ⟨p, 0, none⟩), .string t] w fun e w' => e = .returned (.tuple #[]) ∧ ∃ v', RW w' p v' (s.map (· ++ t.data.toList)) ∧ Mw p w v w' v' := by
  have HL := hide hl
  clear hl
  go_enter Try.func68, Try.ntmps68
  go_wp2_with fail
  refine (qLay t p v s _ h HL.out).mono ?_
  rintro e w1 ⟨rfl, h1⟩
  go_wp2
  go_end0
  exact ⟨rfl, h1⟩
set_option maxRecDepth 5000 in
set_option maxHeartbeats 1000000 in
theorem qText (t : ByteArray) (p : Nat) (v : Value) (s : Option (List UInt8)) (w : World) (h : RW w p v s) (ht : t.size ≤ 9223372036854775807) (hl : ∀ l, s = some l → l.length + 65537 ≤ 140737488355328) :
    Calls Try.prog 67 #[.pointer (some ⟨p, 0, none⟩), .string t] w fun e w' => e = .returned (.tuple #[]) ∧ ∃ v', RW w' p v' (txt s t) ∧ Mw p w v w' v' := by
  have HL := hide hl
  clear hl
  by_cases hb : t.size > 65535
  · have e1 : txt s t = none := by unfold txt; rw [if_pos hb]
    rw [e1]
    have hd : decide ((t.size : Int) > 65535) = true := decide_eq_true (by omega)
    cases s with
    | none =>
      have c1 := h.1.c1
      go_enter Try.func67, Try.ntmps67
      go_wp2
      exact bodyPost_ret (results_none rfl _ _ _) rfl ⟨rfl, v, h, Mw.refl _ _ _⟩
    | some l =>
      have c1 := h.1.c1
      have f1 := h.1.fz 1
      have hS := h.1.set1 3
      have HB : Hid (Bytes (w.setCell ⟨p, 1, none⟩ (.int .i64 3)) (p + 1) v l) := ownsRow_setCell_below h.2 (by show p < p + 1; omega) _
      go_enter Try.func67, Try.ntmps67
      go_wp2
      exact bodyPost_ret (results_none rfl _ _ _) rfl ⟨rfl, v, ⟨hS, l, HB.out⟩, rfl, rfl, rfl, by simp, fun k hk hp hn => Below.heap_setCell _ ⟨p, 1, none⟩ _ k hp, fun _ h => .inl h⟩
  · have e1 : txt s t = (s.map (· ++ nb t.size 2)).map (· ++ t.data.toList) := by unfold txt; rw [if_neg hb]
    rw [e1]
    have hd : decide ((t.size : Int) > 65535) = false := decide_eq_false (by omega)
    obtain ⟨Z, hZ⟩ : ∃ Z : Int, (t.size : Int) = Z := ⟨_, rfl⟩
    have KC : Hid (∀ w : World, (convert 3 37 (.int .i64 (t.size : Int))).run Try.prog w = .ok (.int .u64 Z) w) := fun w => run_conv 3 37 .i64 .u64 _ Z (by kernel_rfl) (by kernel_rfl) (by kernel_rfl) (by rw [wrap_un .u64 64 rfl rfl, Nat.mod_eq_of_lt (by omega), hZ]) w
    have HZ := hide hZ.symm
    have HB := hide hb
    clear hZ hb e1
    go_enter Try.func67, Try.ntmps67
    go_wp2_with (first | (refine wpW_conv _ _ _ rfl (.int .i64 (t.size : Int)) (.int .u64 Z) (by rfl) (by rfl) (KC.out _) ?_) | fail)
    refine (refBytes Z t.size 2 HZ.out 2 rfl (by omega) _).mono ?_
    rintro e w1 ⟨rfl, hb1⟩
    have h1 := h.below hb1
    go_wp2_with fail
    refine (qLay (ofL (nb t.size 2)) p v s _ h1 (fun l e => by have := HL.out l e; rw [ofL_size, nb_length]; omega)).mono ?_
    rintro e w2 ⟨rfl, v2, h2, hM2⟩
    rw [ofL_data] at h2
    go_wp2_with fail
    refine (qLay t p v2 _ _ h2 (fun l e => by
      cases s with
      | none => cases e
      | some l0 =>
        have := HL.out l0 rfl
        have hb := HB.out
        simp only [Option.map_some, Option.some.injEq] at e
        rw [← e, List.length_append, nb_length]; omega)).mono ?_
    rintro e w3 ⟨rfl, v3, h3, hM3⟩
    go_wp2
    go_end0
    exact ⟨rfl, v3, h3, ((Mw.of_below hb1).trans hM2).trans hM3⟩
theorem hash_take (h : Nat → UInt8) (k : Nat) (hk : k < 32) (s : Option (List UInt8)) : (s.map (· ++ (List.range k).map h)).map (· ++ nb (h k).toNat 1) = s.map (· ++ (List.range (k + 1)).map h) := by
  have e : nb (h k).toNat 1 = [h k] := by
    unfold nb digit
    simp
  cases s with
  | none => rfl
  | some l =>
    simp only [Option.map_some, List.append_assoc]
    rw [e, range_snoc]
set_option maxRecDepth 5000 in
set_option maxHeartbeats 2000000 in
theorem qHash (h : Nat → UInt8) (p : Nat) (v : Value) (s : Option (List UInt8)) (w : World) (hC : RW w p v s) (hlen : ∀ l, s = some l → l.length + 32 ≤ 140737488355328) :
    Calls Try.prog 66 #[.pointer (some ⟨p, 0, none⟩), .agg (tabv (bv h) 32)] w fun e w' => e = .returned (.tuple #[]) ∧ ∃ v', RW w' p v' (s.map (· ++ hl h)) ∧ Mw p w v w' v' := by
  have HL := hide hlen
  have g0 := Has.new w 54 (bv h) 32 _ rfl
  have gb := (Below.refl w.heap.size w).alloc (Nat.le_refl _) (.cells (tabv (bv h) 32) 54)
  have hC1 := hC.below gb
  have hplt := hC.lt
  have hown := hC.own
  have HG := hide gb
  have HH := hide g0
  have HNE : Hid (∀ k, v.ownBlock = some k → k < w.heap.size) := fun k hk => (hown k hk).2
  clear hlen gb g0 hC hown
  go_enter Try.func66, Try.ntmps66
  go_wp2
  generalize hW : World.alloc w _ = w1 at hC1 HG HH ⊢
  have hs1 : w1.heap.size = w.heap.size + 1 := by rw [← hW]; simp
  have HS1 := hide hs1
  clear hW hs1
  go_loopw [4] (fun i wr => ∃ k : Nat, k ≤ 32 ∧ i = .int .i64 (k : Int) ∧ ∃ v', RW wr p v' (s.map (· ++ (List.range k).map h)) ∧ Mw p w1 v wr v') (fun i _ => 32 - (intOf i).toNat)
  case atStart => exact ⟨0, by omega, rfl, v, by cases s with | none => exact hC1 | some l => simpa using hC1, Mw.refl _ _ _⟩
  case round =>
    clear hC1
    obtain ⟨k, hk, rfl, v', hC, hM⟩ := hrel
    have hHr : Has wr w.heap.size 54 (bv h) 32 := by
      have := hM.block w.heap.size (by have := HS1.out; omega) (by omega) (fun e => by have := HNE.out _ e; omega)
      unfold Has; rw [this]; exact HH.out
    by_cases hlt : k < 32
    · have hd : decide ((k : Int) < 32) = true := decide_eq_true (by omega)
      have hc := hHr.cell k hlt
      have hk0 : (0 : Int) ≤ (k : Int) := by omega
      have hk1 : (k : Int) < 32 := by omega
      obtain ⟨C, hCc⟩ : ∃ C : Int, ((h k).toNat : Int) = C := ⟨_, rfl⟩
      simp only [bv, hCc] at hc
      have KC : Hid (∀ w : World, (convert 5 37 (.int .u8 C)).run Try.prog w = .ok (.int .u64 C) w) := fun w => run_conv 5 37 .u8 .u64 C C (by kernel_rfl) (by kernel_rfl) (by kernel_rfl) (by rw [← hCc, wrap_un .u64 64 rfl rfl, Nat.mod_eq_of_lt (by have := (h k).toNat_lt; omega)]) w
      have HCC := hide hCc.symm
      clear hCc hHr
      go_wp2_with (first | (refine wpW_conv _ _ _ rfl (.int .u8 C) (.int .u64 C) (by rfl) (by rfl) (KC.out _) ?_) | fail)
      refine (refBytes C (h k).toNat 1 HCC.out 1 rfl (by omega) _).mono ?_
      rintro e w2 ⟨rfl, hb2⟩
      have hC2 := hC.below hb2
      go_wp2_with fail
      refine (qLay (ofL (nb (h k).toNat 1)) p v' _ _ hC2 (fun l e => by
        rw [ofL_size, nb_length]
        cases s with
        | none => cases e
        | some l0 =>
          have := HL.out l0 rfl
          simp only [Option.map_some, Option.some.injEq] at e
          rw [← e, List.length_append, List.length_map, List.length_range]; omega)).mono ?_
      rintro e w3 ⟨rfl, v3, h3, hM3⟩
      rw [ofL_data, hash_take h k hlt] at h3
      go_wp2
      go_roundw
      case rel => exact ⟨k + 1, by omega, by go_num, v3, h3, (hM.trans (Mw.of_below hb2)).trans hM3⟩
      case measure => simp [intOf]; omega
    · have hk32 : k = 32 := by omega
      subst hk32
      go_wp2
      go_end0
      exact ⟨rfl, v', hC, (Mw.of_below HG.out).trans hM⟩
set_option maxRecDepth 5000 in
theorem qNew (w : World) : Calls Try.prog 35 #[] w fun e w' => e = .returned (.pointer (some ⟨w.heap.size, 0, none⟩)) ∧ RW w' w.heap.size (.slice none 0 0) (some []) ∧ Below w.heap.size w w' ∧ w'.heap.size = w.heap.size + 1 := by
  go_enter Try.func35, Try.ntmps35
  go_wp2
  go_ret
  exact ⟨rfl, ⟨Two.new w 97 _ 0, Bytes.nil _ _⟩, (Below.refl _ _).alloc (Nat.le_refl _) _, by simp⟩
set_option maxRecDepth 5000 in
set_option maxHeartbeats 1000000 in
theorem qLen (p : Nat) (v : Value) (s : Option (List UInt8)) (w : World) (h : RW w p v s) :
    Calls Try.prog 38 #[.pointer (some ⟨p, 0, none⟩)] w fun e w' => e = .returned (.int .i64 ((s.getD []).length : Int)) ∧ w = w' := by
  cases s with
  | none =>
    have c1 := h.1.c1
    go_enter Try.func38, Try.ntmps38
    go_wp2
    go_ret
    exact ⟨rfl, rfl⟩
  | some l =>
    have c0 := h.1.c0
    have c1 := h.1.c1
    have hh : ∃ ad c, v = .slice ad l.length c := by
      rcases h.2.2 with hn | ⟨g, cap, cur, rfl, _⟩
      · exact ⟨none, 0, by rw [hn.1, hn.2]⟩
      · exact ⟨_, _, rfl⟩
    obtain ⟨ad, c, rfl⟩ := hh
    go_enter Try.func38, Try.ntmps38
    go_wp2
    go_ret
    exact ⟨rfl, rfl⟩
set_option maxRecDepth 5000 in
set_option maxHeartbeats 1000000 in
theorem qOut (p : Nat) (v : Value) (s : Option (List UInt8)) (w : World) (h : RW w p v s) :
    Calls Try.prog 37 #[.pointer (some ⟨p, 0, none⟩)] w fun e w' => e = .returned (.tuple #[.string (outS s), .int .i64 (outE s)]) ∧ Below w.heap.size w w' := by
  cases s with
  | none =>
    have c1 := h.1.c1
    have hO1 : outS none = { data := #[] } := rfl
    have hO2 : outE none = 3 := rfl
    rw [hO1, hO2]
    go_enter Try.func37, Try.ntmps37
    go_wp2
    go_quiet (fail)
    go_wp2
    go_ret2
    exact ⟨rfl, below_drewN (Below.refl _ _) nq⟩
  | some l =>
    have c1 := h.1.c1
    have c0 := h.1.c0
    have hcv := h.2.conv
    obtain ⟨ad, n1, c1', rfl⟩ := h.2.shape
    have hO2 : outE (some l) = 0 := rfl
    have hO1 : (⟨l.toArray⟩ : ByteArray) = outS (some l) := rfl
    rw [hO1] at hcv
    rw [hO2]
    generalize outS (some l) = S at hcv ⊢
    go_enter Try.func37, Try.ntmps37
    go_wp2
    go_ret2
    exact ⟨rfl, Below.refl _ _⟩
end Go.Proofs.Ytmcnempkddahcaa
