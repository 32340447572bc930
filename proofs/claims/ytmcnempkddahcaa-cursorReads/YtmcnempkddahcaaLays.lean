/-
  lays: a value laid down by the program's writer.
-/
import Derived.Test.YtmcnempkddahcaaVal
namespace Go.Proofs.Ytmcnempkddahcaa
open Go.RowKit
theorem wrap_un (k : IntKind) (b : Nat) (hs : k.signed = false) (hb : k.bits = b) (n : Nat) : k.wrap (n : Int) = ((n % 2 ^ b : Nat) : Int) := by
  simp only [IntKind.wrap, hs, hb]; simp
def iw (V : VL) : Nat := (IntKind.u64.wrap V.I).toNat
theorem iw_eq (V : VL) : IntKind.u64.wrap V.I = (iw V : Int) := by
  unfold iw
  have : 0 ≤ IntKind.u64.wrap V.I := wrap_u64_nonneg _
  omega
/-- The bytes of a value. -/
def vb (V : VL) (x : Nat) : List UInt8 :=
  if kd V.K = 0 then nb x 1 else if kd V.K = 1 then nb x 2 else if kd V.K = 2 then nb x 4 else if kd V.K = 3 then nb x 8 else if kd V.K = 4 then nb (iw V) 8 else if kd V.K = 5 then hl V.h
  else if kd V.K = 6 then nb (textOf V).size 2 ++ (textOf V).data.toList else (textOf V).data.toList
def layS (V : VL) (x : Nat) (s : Option (List UInt8)) : Option (List UInt8) := if longB V then none else s.map (· ++ vb V x)
theorem vb_length (V : VL) (x : Nat) (hS : V.S.size ≤ 1048576) : (vb V x).length ≤ 2097152 := by
  have := textOf_size V
  unfold vb
  (repeat' split) <;> simp only [nb_length, hl_length, List.length_append, str_len] <;> omega
theorem kd_cases (K : Int) : kd K = 0 ∨ kd K = 1 ∨ kd K = 2 ∨ kd K = 3 ∨ kd K = 4 ∨ kd K = 5 ∨ kd K = 6 ∨ kd K = 7 := by have := kd_range K; omega
theorem vb_at (V : VL) (x : Nat) (k : Int) (hk : kd V.K = k) : vb V x = if k = 0 then nb x 1 else if k = 1 then nb x 2 else if k = 2 then nb x 4 else if k = 3 then nb x 8 else if k = 4 then nb (iw V) 8 else if k = 5 then hl V.h
  else if k = 6 then nb (textOf V).size 2 ++ (textOf V).data.toList else (textOf V).data.toList := by unfold vb; rw [hk]
theorem long_at (V : VL) (k : Int) (hk : kd V.K = k) (h6 : k ≠ 6) : longB V = false := by unfold longB; rw [hk, decide_eq_false h6, Bool.false_and]
theorem lay_at (V : VL) (x : Nat) (s : Option (List UInt8)) (k : Int) (hk : kd V.K = k) (h6 : k ≠ 6) : layS V x s = s.map (· ++ vb V x) := by
  unfold layS; rw [long_at V k hk h6]; rfl
theorem vb_six (V : VL) (x : Nat) (hk : kd V.K = 6) : vb V x = nb (textOf V).size 2 ++ (textOf V).data.toList := by
  rw [vb_at V x 6 hk]
  rw [if_neg (by decide), if_neg (by decide), if_neg (by decide), if_neg (by decide), if_neg (by decide), if_neg (by decide), if_pos rfl]
theorem lay_six (V : VL) (x : Nat) (s : Option (List UInt8)) (hk : kd V.K = 6) : layS V x s = txt s (textOf V) := by
  unfold layS longB txt
  rw [hk, decide_eq_true rfl, Bool.true_and, vb_six V x hk]
  by_cases h : (textOf V).size > 65535
  · rw [if_pos h, if_pos (decide_eq_true h)]
  · rw [if_neg h, if_neg (by rw [decide_eq_false h]; decide)]
    cases s
    · rfl
    · simp only [Option.map_some, List.append_assoc]
theorem nb_low (x n : Nat) (m : Nat) (hm : m = 256 ^ n) : nb (x % m) n = nb x n := nb_mod _ _ _ (by rw [hm, Nat.mod_mod])

set_option maxRecDepth 5000 in
set_option maxHeartbeats 4000000 in
theorem lays_0 (V : VL) (x : Nat) (hV : V.ok x) (hk : kd V.K = 0) (p : Nat) (v : Value) (s : Option (List UInt8)) (w : World) (hC : CW w p v s) (hlen : ∀ l, s = some l → l.length + 2097152 ≤ 140737488355328) :
    Calls Try.prog 30 #[.pointer (some ⟨p, 0, none⟩), .agg (tabv (vv V) 37)] w fun e w' => e = .returned (.tuple #[]) ∧ ∃ v', CW w' p v' (layS V x s) ∧ Mw p w v w' v' := by
  have g0 := Has.new w 56 (vv V) 37 _ rfl
  have gb := (Below.refl w.heap.size w).alloc (Nat.le_refl _) (.cells (tabv (vv V) 37) 56)
  have HG := hide gb
  have HH := hide g0
  have HC := hide (hC.below gb)
  have HK := hide (valKind V)
  have HL := hide hlen
  have HV := hide hV
  rw [hk] at HK
  rw [lay_at V x s 0 hk (by decide), vb_at V x 0 hk]
  rw [if_pos rfl, ← nb_low x 1 256 rfl]
  obtain ⟨C, hCc⟩ : ∃ C : Int, ((x % 256 : Nat) : Int) = C := ⟨_, rfl⟩
  have KC : Hid (∀ w : World, (convert 37 5 (.int .u64 V.U)).run Try.prog w = .ok (.int .u8 C) w) := fun w => run_conv 37 5 .u64 .u8 V.U C (by kernel_rfl) (by kernel_rfl) (by kernel_rfl) (by rw [hV.u, wrap_un .u8 8 rfl rfl, ← hCc]) w
  have HCC := hide hCc.symm
  clear hCc
  clear g0 gb hlen hV hC
  go_enter Try.func30, Try.ntmps30
  go_wp2_with (refine wpList_load_part rfl 56 _ rfl w.heap.size 0 rfl 56 _ 37 37 _ HH.out (by omega) Try.underlying56 rfl info56 (vv V) (fun i _ => by rw [Nat.zero_add]) ?_)
  refine (HK.out _).mono ?_
  rintro e w1 ⟨rfl, hb1⟩
  have HH1 := hide (HH.out.below hb1 HH.out.lt)
  have hC1 := HC.out.below hb1
  have hM1 : Mw p w v w1 v := Mw.of_below (HG.out.trans (hb1.mono HG.out.size))
  obtain ⟨d0, d1, d2, d3, d4⟩ := vcells HH1.out
  clear hb1 HK HC d0 d3 d4
  go_wp2_with (first | (refine wpW_conv _ _ _ rfl (.int .u64 V.U) (.int .u8 C) (by rfl) (by rfl) (KC.out _) ?_) | fail)
  refine (wU8 C (x % 256) (by omega) HCC.out p _ _ _ hC1 (fun l e => by have := HL.out l e; omega)).mono ?_
  rintro e w5 ⟨rfl, v5, hC5, hM5⟩
  go_wp2
  go_end0
  exact ⟨rfl, v5, hC5, hM1.trans hM5⟩
set_option maxRecDepth 5000 in
set_option maxHeartbeats 4000000 in
theorem lays_1 (V : VL) (x : Nat) (hV : V.ok x) (hk : kd V.K = 1) (p : Nat) (v : Value) (s : Option (List UInt8)) (w : World) (hC : CW w p v s) (hlen : ∀ l, s = some l → l.length + 2097152 ≤ 140737488355328) :
    Calls Try.prog 30 #[.pointer (some ⟨p, 0, none⟩), .agg (tabv (vv V) 37)] w fun e w' => e = .returned (.tuple #[]) ∧ ∃ v', CW w' p v' (layS V x s) ∧ Mw p w v w' v' := by
  have g0 := Has.new w 56 (vv V) 37 _ rfl
  have gb := (Below.refl w.heap.size w).alloc (Nat.le_refl _) (.cells (tabv (vv V) 37) 56)
  have HG := hide gb
  have HH := hide g0
  have HC := hide (hC.below gb)
  have HK := hide (valKind V)
  have HL := hide hlen
  have HV := hide hV
  rw [hk] at HK
  rw [lay_at V x s 1 hk (by decide), vb_at V x 1 hk]
  rw [if_neg (by decide), if_pos rfl, ← nb_low x 2 65536 rfl]
  obtain ⟨C, hCc⟩ : ∃ C : Int, ((x % 65536 : Nat) : Int) = C := ⟨_, rfl⟩
  have KC : Hid (∀ w : World, (convert 37 45 (.int .u64 V.U)).run Try.prog w = .ok (.int .u16 C) w) := fun w => run_conv 37 45 .u64 .u16 V.U C (by kernel_rfl) (by kernel_rfl) (by kernel_rfl) (by rw [hV.u, wrap_un .u16 16 rfl rfl, ← hCc]) w
  have HCC := hide hCc.symm
  clear hCc
  clear g0 gb hlen hV hC
  go_enter Try.func30, Try.ntmps30
  go_wp2_with (refine wpList_load_part rfl 56 _ rfl w.heap.size 0 rfl 56 _ 37 37 _ HH.out (by omega) Try.underlying56 rfl info56 (vv V) (fun i _ => by rw [Nat.zero_add]) ?_)
  refine (HK.out _).mono ?_
  rintro e w1 ⟨rfl, hb1⟩
  have HH1 := hide (HH.out.below hb1 HH.out.lt)
  have hC1 := HC.out.below hb1
  have hM1 : Mw p w v w1 v := Mw.of_below (HG.out.trans (hb1.mono HG.out.size))
  obtain ⟨d0, d1, d2, d3, d4⟩ := vcells HH1.out
  clear hb1 HK HC d0 d3 d4
  go_wp2_with (first | (refine wpW_conv _ _ _ rfl (.int .u64 V.U) (.int .u16 C) (by rfl) (by rfl) (KC.out _) ?_) | fail)
  refine (wU16 C (x % 65536) HCC.out p _ _ _ hC1 (fun l e => by have := HL.out l e; omega)).mono ?_
  rintro e w5 ⟨rfl, v5, hC5, hM5⟩
  go_wp2
  go_end0
  exact ⟨rfl, v5, hC5, hM1.trans hM5⟩
set_option maxRecDepth 5000 in
set_option maxHeartbeats 4000000 in
theorem lays_2 (V : VL) (x : Nat) (hV : V.ok x) (hk : kd V.K = 2) (p : Nat) (v : Value) (s : Option (List UInt8)) (w : World) (hC : CW w p v s) (hlen : ∀ l, s = some l → l.length + 2097152 ≤ 140737488355328) :
    Calls Try.prog 30 #[.pointer (some ⟨p, 0, none⟩), .agg (tabv (vv V) 37)] w fun e w' => e = .returned (.tuple #[]) ∧ ∃ v', CW w' p v' (layS V x s) ∧ Mw p w v w' v' := by
  have g0 := Has.new w 56 (vv V) 37 _ rfl
  have gb := (Below.refl w.heap.size w).alloc (Nat.le_refl _) (.cells (tabv (vv V) 37) 56)
  have HG := hide gb
  have HH := hide g0
  have HC := hide (hC.below gb)
  have HK := hide (valKind V)
  have HL := hide hlen
  have HV := hide hV
  rw [hk] at HK
  rw [lay_at V x s 2 hk (by decide), vb_at V x 2 hk]
  rw [if_neg (by decide), if_neg (by decide), if_pos rfl, ← nb_low x 4 4294967296 rfl]
  obtain ⟨C, hCc⟩ : ∃ C : Int, ((x % 4294967296 : Nat) : Int) = C := ⟨_, rfl⟩
  have KC : Hid (∀ w : World, (convert 37 42 (.int .u64 V.U)).run Try.prog w = .ok (.int .u32 C) w) := fun w => run_conv 37 42 .u64 .u32 V.U C (by kernel_rfl) (by kernel_rfl) (by kernel_rfl) (by rw [hV.u, wrap_un .u32 32 rfl rfl, ← hCc]) w
  have HCC := hide hCc.symm
  clear hCc
  clear g0 gb hlen hV hC
  go_enter Try.func30, Try.ntmps30
  go_wp2_with (refine wpList_load_part rfl 56 _ rfl w.heap.size 0 rfl 56 _ 37 37 _ HH.out (by omega) Try.underlying56 rfl info56 (vv V) (fun i _ => by rw [Nat.zero_add]) ?_)
  refine (HK.out _).mono ?_
  rintro e w1 ⟨rfl, hb1⟩
  have HH1 := hide (HH.out.below hb1 HH.out.lt)
  have hC1 := HC.out.below hb1
  have hM1 : Mw p w v w1 v := Mw.of_below (HG.out.trans (hb1.mono HG.out.size))
  obtain ⟨d0, d1, d2, d3, d4⟩ := vcells HH1.out
  clear hb1 HK HC d0 d3 d4
  go_wp2_with (first | (refine wpW_conv _ _ _ rfl (.int .u64 V.U) (.int .u32 C) (by rfl) (by rfl) (KC.out _) ?_) | fail)
  refine (wU32 C (x % 4294967296) HCC.out p _ _ _ hC1 (fun l e => by have := HL.out l e; omega)).mono ?_
  rintro e w5 ⟨rfl, v5, hC5, hM5⟩
  go_wp2
  go_end0
  exact ⟨rfl, v5, hC5, hM1.trans hM5⟩
set_option maxRecDepth 5000 in
set_option maxHeartbeats 4000000 in
theorem lays_3 (V : VL) (x : Nat) (hV : V.ok x) (hk : kd V.K = 3) (p : Nat) (v : Value) (s : Option (List UInt8)) (w : World) (hC : CW w p v s) (hlen : ∀ l, s = some l → l.length + 2097152 ≤ 140737488355328) :
    Calls Try.prog 30 #[.pointer (some ⟨p, 0, none⟩), .agg (tabv (vv V) 37)] w fun e w' => e = .returned (.tuple #[]) ∧ ∃ v', CW w' p v' (layS V x s) ∧ Mw p w v w' v' := by
  have g0 := Has.new w 56 (vv V) 37 _ rfl
  have gb := (Below.refl w.heap.size w).alloc (Nat.le_refl _) (.cells (tabv (vv V) 37) 56)
  have HG := hide gb
  have HH := hide g0
  have HC := hide (hC.below gb)
  have HK := hide (valKind V)
  have HL := hide hlen
  have HV := hide hV
  rw [hk] at HK
  rw [lay_at V x s 3 hk (by decide), vb_at V x 3 hk]
  rw [if_neg (by decide), if_neg (by decide), if_neg (by decide), if_pos rfl]
  clear g0 gb hlen hV hC
  go_enter Try.func30, Try.ntmps30
  go_wp2_with (refine wpList_load_part rfl 56 _ rfl w.heap.size 0 rfl 56 _ 37 37 _ HH.out (by omega) Try.underlying56 rfl info56 (vv V) (fun i _ => by rw [Nat.zero_add]) ?_)
  refine (HK.out _).mono ?_
  rintro e w1 ⟨rfl, hb1⟩
  have HH1 := hide (HH.out.below hb1 HH.out.lt)
  have hC1 := HC.out.below hb1
  have hM1 : Mw p w v w1 v := Mw.of_below (HG.out.trans (hb1.mono HG.out.size))
  obtain ⟨d0, d1, d2, d3, d4⟩ := vcells HH1.out
  clear hb1 HK HC d0 d3 d4
  go_wp2_with fail
  refine (wU64 V.U x HV.out.u p _ _ _ hC1 (fun l e => by have := HL.out l e; omega)).mono ?_
  rintro e w5 ⟨rfl, v5, hC5, hM5⟩
  go_wp2
  go_end0
  exact ⟨rfl, v5, hC5, hM1.trans hM5⟩
set_option maxRecDepth 5000 in
set_option maxHeartbeats 4000000 in
theorem lays_4 (V : VL) (x : Nat) (hV : V.ok x) (hk : kd V.K = 4) (p : Nat) (v : Value) (s : Option (List UInt8)) (w : World) (hC : CW w p v s) (hlen : ∀ l, s = some l → l.length + 2097152 ≤ 140737488355328) :
    Calls Try.prog 30 #[.pointer (some ⟨p, 0, none⟩), .agg (tabv (vv V) 37)] w fun e w' => e = .returned (.tuple #[]) ∧ ∃ v', CW w' p v' (layS V x s) ∧ Mw p w v w' v' := by
  have g0 := Has.new w 56 (vv V) 37 _ rfl
  have gb := (Below.refl w.heap.size w).alloc (Nat.le_refl _) (.cells (tabv (vv V) 37) 56)
  have HG := hide gb
  have HH := hide g0
  have HC := hide (hC.below gb)
  have HK := hide (valKind V)
  have HL := hide hlen
  have HV := hide hV
  rw [hk] at HK
  rw [lay_at V x s 4 hk (by decide), vb_at V x 4 hk]
  rw [if_neg (by decide), if_neg (by decide), if_neg (by decide), if_neg (by decide), if_pos rfl]
  clear g0 gb hlen hV hC
  go_enter Try.func30, Try.ntmps30
  go_wp2_with (refine wpList_load_part rfl 56 _ rfl w.heap.size 0 rfl 56 _ 37 37 _ HH.out (by omega) Try.underlying56 rfl info56 (vv V) (fun i _ => by rw [Nat.zero_add]) ?_)
  refine (HK.out _).mono ?_
  rintro e w1 ⟨rfl, hb1⟩
  have HH1 := hide (HH.out.below hb1 HH.out.lt)
  have hC1 := HC.out.below hb1
  have hM1 : Mw p w v w1 v := Mw.of_below (HG.out.trans (hb1.mono HG.out.size))
  obtain ⟨d0, d1, d2, d3, d4⟩ := vcells HH1.out
  clear hb1 HK HC d0 d3 d4
  go_wp2_with fail
  refine (wI64 V.I (iw V) (iw_eq V) p _ _ _ hC1 (fun l e => by have := HL.out l e; omega)).mono ?_
  rintro e w5 ⟨rfl, v5, hC5, hM5⟩
  go_wp2
  go_end0
  exact ⟨rfl, v5, hC5, hM1.trans hM5⟩
set_option maxRecDepth 5000 in
set_option maxHeartbeats 4000000 in
theorem lays_5 (V : VL) (x : Nat) (hV : V.ok x) (hk : kd V.K = 5) (p : Nat) (v : Value) (s : Option (List UInt8)) (w : World) (hC : CW w p v s) (hlen : ∀ l, s = some l → l.length + 2097152 ≤ 140737488355328) :
    Calls Try.prog 30 #[.pointer (some ⟨p, 0, none⟩), .agg (tabv (vv V) 37)] w fun e w' => e = .returned (.tuple #[]) ∧ ∃ v', CW w' p v' (layS V x s) ∧ Mw p w v w' v' := by
  have g0 := Has.new w 56 (vv V) 37 _ rfl
  have gb := (Below.refl w.heap.size w).alloc (Nat.le_refl _) (.cells (tabv (vv V) 37) 56)
  have HG := hide gb
  have HH := hide g0
  have HC := hide (hC.below gb)
  have HK := hide (valKind V)
  have HL := hide hlen
  have HV := hide hV
  rw [hk] at HK
  rw [lay_at V x s 5 hk (by decide), vb_at V x 5 hk]
  rw [if_neg (by decide), if_neg (by decide), if_neg (by decide), if_neg (by decide), if_neg (by decide), if_pos rfl]
  clear g0 gb hlen hV hC
  go_enter Try.func30, Try.ntmps30
  go_wp2_with (refine wpList_load_part rfl 56 _ rfl w.heap.size 0 rfl 56 _ 37 37 _ HH.out (by omega) Try.underlying56 rfl info56 (vv V) (fun i _ => by rw [Nat.zero_add]) ?_)
  refine (HK.out _).mono ?_
  rintro e w1 ⟨rfl, hb1⟩
  have HH1 := hide (HH.out.below hb1 HH.out.lt)
  have hC1 := HC.out.below hb1
  have hM1 : Mw p w v w1 v := Mw.of_below (HG.out.trans (hb1.mono HG.out.size))
  obtain ⟨d0, d1, d2, d3, d4⟩ := vcells HH1.out
  clear hb1 HK HC d0 d3 d4
  go_wp2_with (first | (refine wpList_load_part rfl 54 _ rfl w.heap.size 3 rfl 56 _ 37 32 _ HH1.out (by omega) Try.underlying54 rfl info54 (bv V.h) (fun i hi => by unfold vv bv; rw [if_neg (by omega), if_neg (by omega), if_neg (by omega), if_pos (by omega), Nat.add_sub_cancel_left]) ?_) | fail)
  refine (wHash V.h p _ _ _ hC1 (fun l e => by have := HL.out l e; omega)).mono ?_
  rintro e w5 ⟨rfl, v5, hC5, hM5⟩
  go_wp2
  go_end0
  exact ⟨rfl, v5, hC5, hM1.trans hM5⟩
set_option maxRecDepth 5000 in
set_option maxHeartbeats 4000000 in
theorem lays_6 (V : VL) (x : Nat) (hV : V.ok x) (hk : kd V.K = 6) (p : Nat) (v : Value) (s : Option (List UInt8)) (w : World) (hC : CW w p v s) (hlen : ∀ l, s = some l → l.length + 2097152 ≤ 140737488355328) :
    Calls Try.prog 30 #[.pointer (some ⟨p, 0, none⟩), .agg (tabv (vv V) 37)] w fun e w' => e = .returned (.tuple #[]) ∧ ∃ v', CW w' p v' (layS V x s) ∧ Mw p w v w' v' := by
  have g0 := Has.new w 56 (vv V) 37 _ rfl
  have gb := (Below.refl w.heap.size w).alloc (Nat.le_refl _) (.cells (tabv (vv V) 37) 56)
  have HG := hide gb
  have HH := hide g0
  have HC := hide (hC.below gb)
  have HK := hide (valKind V)
  have HL := hide hlen
  have HV := hide hV
  rw [hk] at HK
  rw [lay_six V x s hk]
  have hz := textOf_size V
  have hvs := hV.s
  have HT := hide (fun w => valText V w hV.s)
  obtain ⟨t, ht⟩ : ∃ t, textOf V = t := ⟨_, rfl⟩
  rw [ht] at hz HT ⊢
  have HZ : Hid (t.size ≤ 1118576) := by show _ ≤ _; omega
  clear hz hvs ht
  clear g0 gb hlen hV hC
  go_enter Try.func30, Try.ntmps30
  go_wp2_with (refine wpList_load_part rfl 56 _ rfl w.heap.size 0 rfl 56 _ 37 37 _ HH.out (by omega) Try.underlying56 rfl info56 (vv V) (fun i _ => by rw [Nat.zero_add]) ?_)
  refine (HK.out _).mono ?_
  rintro e w1 ⟨rfl, hb1⟩
  have HH1 := hide (HH.out.below hb1 HH.out.lt)
  have hC1 := HC.out.below hb1
  have hM1 : Mw p w v w1 v := Mw.of_below (HG.out.trans (hb1.mono HG.out.size))
  obtain ⟨d0, d1, d2, d3, d4⟩ := vcells HH1.out
  clear hb1 HK HC d0 d3 d4
  go_wp2_with (first | (refine wpList_load_part rfl 56 _ rfl w.heap.size 0 rfl 56 _ 37 37 _ HH1.out (by omega) Try.underlying56 rfl info56 (vv V) (fun i _ => by rw [Nat.zero_add]) ?_) | fail)
  refine (HT.out _).mono ?_
  rintro e w2 ⟨rfl, hb2⟩
  have hC2 := hC1.below hb2
  have hM1 := hM1.trans (Mw.of_below hb2)
  clear hC1 hb2
  go_wp2_with fail
  refine (wText t p _ _ _ hC2 (by have := HZ.out; omega) (fun l e => by have := HL.out l e; omega)).mono ?_
  rintro e w5 ⟨rfl, v5, hC5, hM5⟩
  go_wp2
  go_end0
  exact ⟨rfl, v5, hC5, hM1.trans hM5⟩
set_option maxRecDepth 5000 in
set_option maxHeartbeats 4000000 in
theorem lays_7 (V : VL) (x : Nat) (hV : V.ok x) (hk : kd V.K = 7) (p : Nat) (v : Value) (s : Option (List UInt8)) (w : World) (hC : CW w p v s) (hlen : ∀ l, s = some l → l.length + 2097152 ≤ 140737488355328) :
    Calls Try.prog 30 #[.pointer (some ⟨p, 0, none⟩), .agg (tabv (vv V) 37)] w fun e w' => e = .returned (.tuple #[]) ∧ ∃ v', CW w' p v' (layS V x s) ∧ Mw p w v w' v' := by
  have g0 := Has.new w 56 (vv V) 37 _ rfl
  have gb := (Below.refl w.heap.size w).alloc (Nat.le_refl _) (.cells (tabv (vv V) 37) 56)
  have HG := hide gb
  have HH := hide g0
  have HC := hide (hC.below gb)
  have HK := hide (valKind V)
  have HL := hide hlen
  have HV := hide hV
  rw [hk] at HK
  rw [lay_at V x s 7 hk (by decide), vb_at V x 7 hk]
  rw [if_neg (by decide), if_neg (by decide), if_neg (by decide), if_neg (by decide), if_neg (by decide), if_neg (by decide), if_neg (by decide)]
  have hz := textOf_size V
  have hvs := hV.s
  have HT := hide (fun w => valText V w hV.s)
  obtain ⟨t, ht⟩ : ∃ t, textOf V = t := ⟨_, rfl⟩
  rw [ht] at hz HT ⊢
  have HZ : Hid (t.size ≤ 1118576) := by show _ ≤ _; omega
  clear hz hvs ht
  clear g0 gb hlen hV hC
  go_enter Try.func30, Try.ntmps30
  go_wp2_with (refine wpList_load_part rfl 56 _ rfl w.heap.size 0 rfl 56 _ 37 37 _ HH.out (by omega) Try.underlying56 rfl info56 (vv V) (fun i _ => by rw [Nat.zero_add]) ?_)
  refine (HK.out _).mono ?_
  rintro e w1 ⟨rfl, hb1⟩
  have HH1 := hide (HH.out.below hb1 HH.out.lt)
  have hC1 := HC.out.below hb1
  have hM1 : Mw p w v w1 v := Mw.of_below (HG.out.trans (hb1.mono HG.out.size))
  obtain ⟨d0, d1, d2, d3, d4⟩ := vcells HH1.out
  clear hb1 HK HC d0 d3 d4
  go_wp2_with (first | (refine wpList_load_part rfl 56 _ rfl w.heap.size 0 rfl 56 _ 37 37 _ HH1.out (by omega) Try.underlying56 rfl info56 (vv V) (fun i _ => by rw [Nat.zero_add]) ?_) | fail)
  refine (HT.out _).mono ?_
  rintro e w2 ⟨rfl, hb2⟩
  have hC2 := hC1.below hb2
  have hM1 := hM1.trans (Mw.of_below hb2)
  clear hC1 hb2
  go_wp2_with fail
  refine (wRaw t p _ _ _ hC2 (fun l e => by have := HL.out l e; have := HZ.out; omega)).mono ?_
  rintro e w5 ⟨rfl, v5, hC5, hM5⟩
  go_wp2
  go_end0
  exact ⟨rfl, v5, hC5, hM1.trans hM5⟩
theorem lays_any (V : VL) (x : Nat) (hV : V.ok x) (p : Nat) (v : Value) (s : Option (List UInt8)) (w : World) (hC : CW w p v s) (hlen : ∀ l, s = some l → l.length + 2097152 ≤ 140737488355328) :
    Calls Try.prog 30 #[.pointer (some ⟨p, 0, none⟩), .agg (tabv (vv V) 37)] w fun e w' => e = .returned (.tuple #[]) ∧ ∃ v', CW w' p v' (layS V x s) ∧ Mw p w v w' v' := by
  rcases kd_cases V.K with h | h | h | h | h | h | h | h
  · exact lays_0 V x hV h p v s w hC hlen
  · exact lays_1 V x hV h p v s w hC hlen
  · exact lays_2 V x hV h p v s w hC hlen
  · exact lays_3 V x hV h p v s w hC hlen
  · exact lays_4 V x hV h p v s w hC hlen
  · exact lays_5 V x hV h p v s w hC hlen
  · exact lays_6 V x hV h p v s w hC hlen
  · exact lays_7 V x hV h p v s w hC hlen
end Go.Proofs.Ytmcnempkddahcaa
