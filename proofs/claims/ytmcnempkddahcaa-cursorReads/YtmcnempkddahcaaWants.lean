/-
  wants: a value laid down by the document's writer.
-/
import Derived.Test.YtmcnempkddahcaaRefW
namespace Go.Proofs.Ytmcnempkddahcaa
open Go.RowKit
set_option linter.unusedVariables false

set_option maxRecDepth 5000 in
set_option maxHeartbeats 4000000 in
theorem wants_0 (V : VL) (x : Nat) (hV : V.ok x) (hk : kd V.K = 0) (p : Nat) (v : Value) (s : Option (List UInt8)) (w : World) (hC : RW w p v s) (hlen : ∀ l, s = some l → l.length + 2097152 ≤ 140737488355328) :
    Calls Try.prog 36 #[.pointer (some ⟨p, 0, none⟩), .agg (tabv (vv V) 37)] w fun e w' => e = .returned (.tuple #[]) ∧ ∃ v', RW w' p v' (layS V x s) ∧ Mw p w v w' v' := by
  have g0 := Has.new w 56 (vv V) 37 _ rfl
  have gb := (Below.refl w.heap.size w).alloc (Nat.le_refl _) (.cells (tabv (vv V) 37) 56)
  have HG := hide gb
  have HH := hide g0
  have HC := hide (hC.below gb)
  have HK := hide (valKind V)
  have HL := hide hlen
  have HV := hide hV
  rw [hk] at HK
  rw [lay_at V x s 0 hk (by decide), vb_at V x 0 hk]
  rw [if_pos rfl, ← nb_low x 1 256 rfl]
  obtain ⟨C, hCc⟩ : ∃ C : Int, ((x % 256 : Nat) : Int) = C := ⟨_, rfl⟩
  have KC : Hid (∀ w : World, (convert 37 5 (.int .u64 V.U)).run Try.prog w = .ok (.int .u8 C) w) := fun w => run_conv 37 5 .u64 .u8 V.U C (by kernel_rfl) (by kernel_rfl) (by kernel_rfl) (by rw [hV.u, wrap_un .u8 8 rfl rfl, ← hCc]) w
  have HCC := hide hCc.symm
  clear hCc
  clear g0 gb hlen hV hC
  go_enter Try.func36, Try.ntmps36
  go_wp2_with (refine wpList_load_part rfl 56 _ rfl w.heap.size 0 rfl 56 _ 37 37 _ HH.out (by omega) Try.underlying56 rfl info56 (vv V) (fun i _ => by rw [Nat.zero_add]) ?_)
  refine (HK.out _).mono ?_
  rintro e w1 ⟨rfl, hb1⟩
  have HH1 := hide (HH.out.below hb1 HH.out.lt)
  have hC1 := HC.out.below hb1
  have hM1 : Mw p w v w1 v := Mw.of_below (HG.out.trans (hb1.mono HG.out.size))
  obtain ⟨d0, d1, d2, d3, d4⟩ := vcells HH1.out
  clear hb1 HK HC d0 d3 d4
  go_wp2_with (first | (refine wpW_conv _ _ _ rfl (.int .u64 V.U) (.int .u8 C) (by rfl) (by rfl) (KC.out _) ?_) | fail)
  refine (qU8 C (x % 256) (Nat.mod_lt _ (by decide)) HCC.out p _ _ _ hC1 (fun l e => by have := HL.out l e; omega)).mono ?_
  rintro e w5 ⟨rfl, v5, hC5, hM5⟩
  go_wp2
  go_end0
  exact ⟨rfl, v5, hC5, hM1.trans hM5⟩
set_option maxRecDepth 5000 in
set_option maxHeartbeats 4000000 in
theorem wants_1 (V : VL) (x : Nat) (hV : V.ok x) (hk : kd V.K = 1) (p : Nat) (v : Value) (s : Option (List UInt8)) (w : World) (hC : RW w p v s) (hlen : ∀ l, s = some l → l.length + 2097152 ≤ 140737488355328) :
    Calls Try.prog 36 #[.pointer (some ⟨p, 0, none⟩), .agg (tabv (vv V) 37)] w fun e w' => e = .returned (.tuple #[]) ∧ ∃ v', RW w' p v' (layS V x s) ∧ Mw p w v w' v' := by
  have g0 := Has.new w 56 (vv V) 37 _ rfl
  have gb := (Below.refl w.heap.size w).alloc (Nat.le_refl _) (.cells (tabv (vv V) 37) 56)
  have HG := hide gb
  have HH := hide g0
  have HC := hide (hC.below gb)
  have HK := hide (valKind V)
  have HL := hide hlen
  have HV := hide hV
  rw [hk] at HK
  rw [lay_at V x s 1 hk (by decide), vb_at V x 1 hk]
  rw [if_neg (by decide), if_pos rfl, ← nb_low x 2 65536 rfl]
  obtain ⟨C, hCc⟩ : ∃ C : Int, ((x % 65536 : Nat) : Int) = C := ⟨_, rfl⟩
  have KC : Hid (∀ w : World, (convert 37 45 (.int .u64 V.U)).run Try.prog w = .ok (.int .u16 C) w) := fun w => run_conv 37 45 .u64 .u16 V.U C (by kernel_rfl) (by kernel_rfl) (by kernel_rfl) (by rw [hV.u, wrap_un .u16 16 rfl rfl, ← hCc]) w
  have HCC := hide hCc.symm
  clear hCc
  clear g0 gb hlen hV hC
  go_enter Try.func36, Try.ntmps36
  go_wp2_with (refine wpList_load_part rfl 56 _ rfl w.heap.size 0 rfl 56 _ 37 37 _ HH.out (by omega) Try.underlying56 rfl info56 (vv V) (fun i _ => by rw [Nat.zero_add]) ?_)
  refine (HK.out _).mono ?_
  rintro e w1 ⟨rfl, hb1⟩
  have HH1 := hide (HH.out.below hb1 HH.out.lt)
  have hC1 := HC.out.below hb1
  have hM1 : Mw p w v w1 v := Mw.of_below (HG.out.trans (hb1.mono HG.out.size))
  obtain ⟨d0, d1, d2, d3, d4⟩ := vcells HH1.out
  clear hb1 HK HC d0 d3 d4
  go_wp2_with (first | (refine wpW_conv _ _ _ rfl (.int .u64 V.U) (.int .u16 C) (by rfl) (by rfl) (KC.out _) ?_) | fail)
  refine (qU16 C (x % 65536) (Nat.mod_lt _ (by decide)) HCC.out p _ _ _ hC1 (fun l e => by have := HL.out l e; omega)).mono ?_
  rintro e w5 ⟨rfl, v5, hC5, hM5⟩
  go_wp2
  go_end0
  exact ⟨rfl, v5, hC5, hM1.trans hM5⟩
set_option maxRecDepth 5000 in
set_option maxHeartbeats 4000000 in
theorem wants_2 (V : VL) (x : Nat) (hV : V.ok x) (hk : kd V.K = 2) (p : Nat) (v : Value) (s : Option (List UInt8)) (w : World) (hC : RW w p v s) (hlen : ∀ l, s = some l → l.length + 2097152 ≤ 140737488355328) :
    Calls Try.prog 36 #[.pointer (some ⟨p, 0, none⟩), .agg (tabv (vv V) 37)] w fun e w' => e = .returned (.tuple #[]) ∧ ∃ v', RW w' p v' (layS V x s) ∧ Mw p w v w' v' := by
  have g0 := Has.new w 56 (vv V) 37 _ rfl
  have gb := (Below.refl w.heap.size w).alloc (Nat.le_refl _) (.cells (tabv (vv V) 37) 56)
  have HG := hide gb
  have HH := hide g0
  have HC := hide (hC.below gb)
  have HK := hide (valKind V)
  have HL := hide hlen
  have HV := hide hV
  rw [hk] at HK
  rw [lay_at V x s 2 hk (by decide), vb_at V x 2 hk]
  rw [if_neg (by decide), if_neg (by decide), if_pos rfl, ← nb_low x 4 4294967296 rfl]
  obtain ⟨C, hCc⟩ : ∃ C : Int, ((x % 4294967296 : Nat) : Int) = C := ⟨_, rfl⟩
  have KC : Hid (∀ w : World, (convert 37 42 (.int .u64 V.U)).run Try.prog w = .ok (.int .u32 C) w) := fun w => run_conv 37 42 .u64 .u32 V.U C (by kernel_rfl) (by kernel_rfl) (by kernel_rfl) (by rw [hV.u, wrap_un .u32 32 rfl rfl, ← hCc]) w
  have HCC := hide hCc.symm
  clear hCc
  clear g0 gb hlen hV hC
  go_enter Try.func36, Try.ntmps36
  go_wp2_with (refine wpList_load_part rfl 56 _ rfl w.heap.size 0 rfl 56 _ 37 37 _ HH.out (by omega) Try.underlying56 rfl info56 (vv V) (fun i _ => by rw [Nat.zero_add]) ?_)
  refine (HK.out _).mono ?_
  rintro e w1 ⟨rfl, hb1⟩
  have HH1 := hide (HH.out.below hb1 HH.out.lt)
  have hC1 := HC.out.below hb1
  have hM1 : Mw p w v w1 v := Mw.of_below (HG.out.trans (hb1.mono HG.out.size))
  obtain ⟨d0, d1, d2, d3, d4⟩ := vcells HH1.out
  clear hb1 HK HC d0 d3 d4
  go_wp2_with (first | (refine wpW_conv _ _ _ rfl (.int .u64 V.U) (.int .u32 C) (by rfl) (by rfl) (KC.out _) ?_) | fail)
  refine (qU32 C (x % 4294967296) (Nat.mod_lt _ (by decide)) HCC.out p _ _ _ hC1 (fun l e => by have := HL.out l e; omega)).mono ?_
  rintro e w5 ⟨rfl, v5, hC5, hM5⟩
  go_wp2
  go_end0
  exact ⟨rfl, v5, hC5, hM1.trans hM5⟩
set_option maxRecDepth 5000 in
set_option maxHeartbeats 4000000 in
theorem wants_3 (V : VL) (x : Nat) (hV : V.ok x) (hk : kd V.K = 3) (p : Nat) (v : Value) (s : Option (List UInt8)) (w : World) (hC : RW w p v s) (hlen : ∀ l, s = some l → l.length + 2097152 ≤ 140737488355328) :
    Calls Try.prog 36 #[.pointer (some ⟨p, 0, none⟩), .agg (tabv (vv V) 37)] w fun e w' => e = .returned (.tuple #[]) ∧ ∃ v', RW w' p v' (layS V x s) ∧ Mw p w v w' v' := by
  have g0 := Has.new w 56 (vv V) 37 _ rfl
  have gb := (Below.refl w.heap.size w).alloc (Nat.le_refl _) (.cells (tabv (vv V) 37) 56)
  have HG := hide gb
  have HH := hide g0
  have HC := hide (hC.below gb)
  have HK := hide (valKind V)
  have HL := hide hlen
  have HV := hide hV
  rw [hk] at HK
  rw [lay_at V x s 3 hk (by decide), vb_at V x 3 hk]
  rw [if_neg (by decide), if_neg (by decide), if_neg (by decide), if_pos rfl]
  clear g0 gb hlen hV hC
  go_enter Try.func36, Try.ntmps36
  go_wp2_with (refine wpList_load_part rfl 56 _ rfl w.heap.size 0 rfl 56 _ 37 37 _ HH.out (by omega) Try.underlying56 rfl info56 (vv V) (fun i _ => by rw [Nat.zero_add]) ?_)
  refine (HK.out _).mono ?_
  rintro e w1 ⟨rfl, hb1⟩
  have HH1 := hide (HH.out.below hb1 HH.out.lt)
  have hC1 := HC.out.below hb1
  have hM1 : Mw p w v w1 v := Mw.of_below (HG.out.trans (hb1.mono HG.out.size))
  obtain ⟨d0, d1, d2, d3, d4⟩ := vcells HH1.out
  clear hb1 HK HC d0 d3 d4
  go_wp2_with fail
  refine (qU64 V.U x HV.out.u p _ _ _ hC1 (fun l e => by have := HL.out l e; omega)).mono ?_
  rintro e w5 ⟨rfl, v5, hC5, hM5⟩
  go_wp2
  go_end0
  exact ⟨rfl, v5, hC5, hM1.trans hM5⟩
set_option maxRecDepth 5000 in
set_option maxHeartbeats 4000000 in
theorem wants_4 (V : VL) (x : Nat) (hV : V.ok x) (hk : kd V.K = 4) (p : Nat) (v : Value) (s : Option (List UInt8)) (w : World) (hC : RW w p v s) (hlen : ∀ l, s = some l → l.length + 2097152 ≤ 140737488355328) :
    Calls Try.prog 36 #[.pointer (some ⟨p, 0, none⟩), .agg (tabv (vv V) 37)] w fun e w' => e = .returned (.tuple #[]) ∧ ∃ v', RW w' p v' (layS V x s) ∧ Mw p w v w' v' := by
  have g0 := Has.new w 56 (vv V) 37 _ rfl
  have gb := (Below.refl w.heap.size w).alloc (Nat.le_refl _) (.cells (tabv (vv V) 37) 56)
  have HG := hide gb
  have HH := hide g0
  have HC := hide (hC.below gb)
  have HK := hide (valKind V)
  have HL := hide hlen
  have HV := hide hV
  rw [hk] at HK
  rw [lay_at V x s 4 hk (by decide), vb_at V x 4 hk]
  rw [if_neg (by decide), if_neg (by decide), if_neg (by decide), if_neg (by decide), if_pos rfl]
  clear g0 gb hlen hV hC
  go_enter Try.func36, Try.ntmps36
  go_wp2_with (refine wpList_load_part rfl 56 _ rfl w.heap.size 0 rfl 56 _ 37 37 _ HH.out (by omega) Try.underlying56 rfl info56 (vv V) (fun i _ => by rw [Nat.zero_add]) ?_)
  refine (HK.out _).mono ?_
  rintro e w1 ⟨rfl, hb1⟩
  have HH1 := hide (HH.out.below hb1 HH.out.lt)
  have hC1 := HC.out.below hb1
  have hM1 : Mw p w v w1 v := Mw.of_below (HG.out.trans (hb1.mono HG.out.size))
  obtain ⟨d0, d1, d2, d3, d4⟩ := vcells HH1.out
  clear hb1 HK HC d0 d3 d4
  go_wp2_with fail
  refine (qI64 V.I (iw V) (iw_eq V) p _ _ _ hC1 (fun l e => by have := HL.out l e; omega)).mono ?_
  rintro e w5 ⟨rfl, v5, hC5, hM5⟩
  go_wp2
  go_end0
  exact ⟨rfl, v5, hC5, hM1.trans hM5⟩
set_option maxRecDepth 5000 in
set_option maxHeartbeats 4000000 in
theorem wants_5 (V : VL) (x : Nat) (hV : V.ok x) (hk : kd V.K = 5) (p : Nat) (v : Value) (s : Option (List UInt8)) (w : World) (hC : RW w p v s) (hlen : ∀ l, s = some l → l.length + 2097152 ≤ 140737488355328) :
    Calls Try.prog 36 #[.pointer (some ⟨p, 0, none⟩), .agg (tabv (vv V) 37)] w fun e w' => e = .returned (.tuple #[]) ∧ ∃ v', RW w' p v' (layS V x s) ∧ Mw p w v w' v' := by
  have g0 := Has.new w 56 (vv V) 37 _ rfl
  have gb := (Below.refl w.heap.size w).alloc (Nat.le_refl _) (.cells (tabv (vv V) 37) 56)
  have HG := hide gb
  have HH := hide g0
  have HC := hide (hC.below gb)
  have HK := hide (valKind V)
  have HL := hide hlen
  have HV := hide hV
  rw [hk] at HK
  rw [lay_at V x s 5 hk (by decide), vb_at V x 5 hk]
  rw [if_neg (by decide), if_neg (by decide), if_neg (by decide), if_neg (by decide), if_neg (by decide), if_pos rfl]
  clear g0 gb hlen hV hC
  go_enter Try.func36, Try.ntmps36
  go_wp2_with (refine wpList_load_part rfl 56 _ rfl w.heap.size 0 rfl 56 _ 37 37 _ HH.out (by omega) Try.underlying56 rfl info56 (vv V) (fun i _ => by rw [Nat.zero_add]) ?_)
  refine (HK.out _).mono ?_
  rintro e w1 ⟨rfl, hb1⟩
  have HH1 := hide (HH.out.below hb1 HH.out.lt)
  have hC1 := HC.out.below hb1
  have hM1 : Mw p w v w1 v := Mw.of_below (HG.out.trans (hb1.mono HG.out.size))
  obtain ⟨d0, d1, d2, d3, d4⟩ := vcells HH1.out
  clear hb1 HK HC d0 d3 d4
  go_wp2_with (first | (refine wpList_load_part rfl 54 _ rfl w.heap.size 3 rfl 56 _ 37 32 _ HH1.out (by omega) Try.underlying54 rfl info54 (bv V.h) (fun i hi => by unfold vv bv; rw [if_neg (by omega), if_neg (by omega), if_neg (by omega), if_pos (by omega), Nat.add_sub_cancel_left]) ?_) | fail)
  refine (qHash V.h p _ _ _ hC1 (fun l e => by have := HL.out l e; omega)).mono ?_
  rintro e w5 ⟨rfl, v5, hC5, hM5⟩
  go_wp2
  go_end0
  exact ⟨rfl, v5, hC5, hM1.trans hM5⟩
set_option maxRecDepth 5000 in
set_option maxHeartbeats 4000000 in
theorem wants_6 (V : VL) (x : Nat) (hV : V.ok x) (hk : kd V.K = 6) (p : Nat) (v : Value) (s : Option (List UInt8)) (w : World) (hC : RW w p v s) (hlen : ∀ l, s = some l → l.length + 2097152 ≤ 140737488355328) :
    Calls Try.prog 36 #[.pointer (some ⟨p, 0, none⟩), .agg (tabv (vv V) 37)] w fun e w' => e = .returned (.tuple #[]) ∧ ∃ v', RW w' p v' (layS V x s) ∧ Mw p w v w' v' := by
  have g0 := Has.new w 56 (vv V) 37 _ rfl
  have gb := (Below.refl w.heap.size w).alloc (Nat.le_refl _) (.cells (tabv (vv V) 37) 56)
  have HG := hide gb
  have HH := hide g0
  have HC := hide (hC.below gb)
  have HK := hide (valKind V)
  have HL := hide hlen
  have HV := hide hV
  rw [hk] at HK
  rw [lay_six V x s hk]
  have hz := textOf_size V
  have hvs := hV.s
  have HT := hide (fun w => valText V w hV.s)
  obtain ⟨t, ht⟩ : ∃ t, textOf V = t := ⟨_, rfl⟩
  rw [ht] at hz HT ⊢
  have HZ : Hid (t.size ≤ 1118576) := by show _ ≤ _; omega
  clear hz hvs ht
  clear g0 gb hlen hV hC
  go_enter Try.func36, Try.ntmps36
  go_wp2_with (refine wpList_load_part rfl 56 _ rfl w.heap.size 0 rfl 56 _ 37 37 _ HH.out (by omega) Try.underlying56 rfl info56 (vv V) (fun i _ => by rw [Nat.zero_add]) ?_)
  refine (HK.out _).mono ?_
  rintro e w1 ⟨rfl, hb1⟩
  have HH1 := hide (HH.out.below hb1 HH.out.lt)
  have hC1 := HC.out.below hb1
  have hM1 : Mw p w v w1 v := Mw.of_below (HG.out.trans (hb1.mono HG.out.size))
  obtain ⟨d0, d1, d2, d3, d4⟩ := vcells HH1.out
  clear hb1 HK HC d0 d3 d4
  go_wp2_with (first | (refine wpList_load_part rfl 56 _ rfl w.heap.size 0 rfl 56 _ 37 37 _ HH1.out (by omega) Try.underlying56 rfl info56 (vv V) (fun i _ => by rw [Nat.zero_add]) ?_) | fail)
  refine (HT.out _).mono ?_
  rintro e w2 ⟨rfl, hb2⟩
  have hC2 := hC1.below hb2
  have hM1 := hM1.trans (Mw.of_below hb2)
  clear hC1 hb2
  go_wp2_with fail
  refine (qText t p _ _ _ hC2 (by have := HZ.out; omega) (fun l e => by have := HL.out l e; omega)).mono ?_
  rintro e w5 ⟨rfl, v5, hC5, hM5⟩
  go_wp2
  go_end0
  exact ⟨rfl, v5, hC5, hM1.trans hM5⟩
set_option maxRecDepth 5000 in
set_option maxHeartbeats 4000000 in
theorem wants_7 (V : VL) (x : Nat) (hV : V.ok x) (hk : kd V.K = 7) (p : Nat) (v : Value) (s : Option (List UInt8)) (w : World) (hC : RW w p v s) (hlen : ∀ l, s = some l → l.length + 2097152 ≤ 140737488355328) :
    Calls Try.prog 36 #[.pointer (some ⟨p, 0, none⟩), .agg (tabv (vv V) 37)] w fun e w' => e = .returned (.tuple #[]) ∧ ∃ v', RW w' p v' (layS V x s) ∧ Mw p w v w' v' := by
  have g0 := Has.new w 56 (vv V) 37 _ rfl
  have gb := (Below.refl w.heap.size w).alloc (Nat.le_refl _) (.cells (tabv (vv V) 37) 56)
  have HG := hide gb
  have HH := hide g0
  have HC := hide (hC.below gb)
  have HK := hide (valKind V)
  have HL := hide hlen
  have HV := hide hV
  rw [hk] at HK
  rw [lay_at V x s 7 hk (by decide), vb_at V x 7 hk]
  rw [if_neg (by decide), if_neg (by decide), if_neg (by decide), if_neg (by decide), if_neg (by decide), if_neg (by decide), if_neg (by decide)]
  have hz := textOf_size V
  have hvs := hV.s
  have HT := hide (fun w => valText V w hV.s)
  obtain ⟨t, ht⟩ : ∃ t, textOf V = t := ⟨_, rfl⟩
  rw [ht] at hz HT ⊢
  have HZ : Hid (t.size ≤ 1118576) := by show _ ≤ _; omega
  clear hz hvs ht
  clear g0 gb hlen hV hC
  go_enter Try.func36, Try.ntmps36
  go_wp2_with (refine wpList_load_part rfl 56 _ rfl w.heap.size 0 rfl 56 _ 37 37 _ HH.out (by omega) Try.underlying56 rfl info56 (vv V) (fun i _ => by rw [Nat.zero_add]) ?_)
  refine (HK.out _).mono ?_
  rintro e w1 ⟨rfl, hb1⟩
  have HH1 := hide (HH.out.below hb1 HH.out.lt)
  have hC1 := HC.out.below hb1
  have hM1 : Mw p w v w1 v := Mw.of_below (HG.out.trans (hb1.mono HG.out.size))
  obtain ⟨d0, d1, d2, d3, d4⟩ := vcells HH1.out
  clear hb1 HK HC d0 d3 d4
  go_wp2_with (first | (refine wpList_load_part rfl 56 _ rfl w.heap.size 0 rfl 56 _ 37 37 _ HH1.out (by omega) Try.underlying56 rfl info56 (vv V) (fun i _ => by rw [Nat.zero_add]) ?_) | fail)
  refine (HT.out _).mono ?_
  rintro e w2 ⟨rfl, hb2⟩
  have hC2 := hC1.below hb2
  have hM1 := hM1.trans (Mw.of_below hb2)
  clear hC1 hb2
  go_wp2_with fail
  refine (qRaw t p _ _ _ hC2 (fun l e => by have := HL.out l e; have := HZ.out; omega)).mono ?_
  rintro e w5 ⟨rfl, v5, hC5, hM5⟩
  go_wp2
  go_end0
  exact ⟨rfl, v5, hC5, hM1.trans hM5⟩
theorem wants_any (V : VL) (x : Nat) (hV : V.ok x) (p : Nat) (v : Value) (s : Option (List UInt8)) (w : World) (hC : RW w p v s) (hlen : ∀ l, s = some l → l.length + 2097152 ≤ 140737488355328) :
    Calls Try.prog 36 #[.pointer (some ⟨p, 0, none⟩), .agg (tabv (vv V) 37)] w fun e w' => e = .returned (.tuple #[]) ∧ ∃ v', RW w' p v' (layS V x s) ∧ Mw p w v w' v' := by
  rcases kd_cases V.K with h | h | h | h | h | h | h | h
  · exact wants_0 V x hV h p v s w hC hlen
  · exact wants_1 V x hV h p v s w hC hlen
  · exact wants_2 V x hV h p v s w hC hlen
  · exact wants_3 V x hV h p v s w hC hlen
  · exact wants_4 V x hV h p v s w hC hlen
  · exact wants_5 V x hV h p v s w hC hlen
  · exact wants_6 V x hV h p v s w hC hlen
  · exact wants_7 V x hV h p v s w hC hlen
end Go.Proofs.Ytmcnempkddahcaa
