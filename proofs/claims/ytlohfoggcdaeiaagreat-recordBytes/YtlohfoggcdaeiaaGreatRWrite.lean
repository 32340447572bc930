/-
  Write (printed by gen_r6.py).
-/
import Derived.Test.YtlohfoggcdaeiaaGreatRLay
namespace Go.Proofs.YtlohfoggcdaeiaaGreat
open Go.RowKit S
set_option linter.unusedVariables false
set_option linter.unusedSimpArgs false
open Cu (nb be hl ofL CW Mw CR Mr RS takeS takeA hOf nil8 num doneS)
def layR (r : Rc) (l : List Upd) : List UInt8 :=
  if r.kind = 1 then bytesU r.upd
  else if r.kind = 2 then nb r.idx.toNat 8 ++ (nb r.co.toNat 2 ++ nb r.cp.toNat 2)
  else if r.kind = 3 then nb r.idx.toNat 8 ++ (nb r.upds.n 2 ++ (bytesUs l ++ hl r.sig))
  else if r.kind = 4 then nb r.idx.toNat 8 ++ (hl r.sec ++ hl r.pt)
  else if r.kind = 5 then nb r.code.toNat 2
  else nb r.idx.toNat 8
def bytesR (r : Rc) (l : List Upd) : List UInt8 := UInt8.ofNat r.kind.toNat :: layR r l
def wrS (r : Rc) (l : List Upd) : ByteArray := if validR r l = true then ofL (bytesR r l) else nilB
def wrE (r : Rc) (l : List Upd) : Int := if validR r l = true then 0 else 170
theorem validR_own {r : Rc} {l : List Upd} (h : validR r l = true) : bareB (strip r) = true ∧ ownV r l = true := by
  unfold validR at h
  simp only [Bool.and_eq_true] at h
  exact h.2
theorem conv8 (k : Int) (h0 : 0 ≤ k) (h1 : k < 256) (w : World) : (convert 3 5 (.int .i64 k)).run Tryz.prog w = .ok (.int .u8 k) w := by
  have h := run_convert_int (P := Tryz.prog) (w := w) 3 5 .i64 k (by kernel_rfl) (by kernel_rfl)
  rw [show Tryz.prog.intKind 5 = .u8 by kernel_rfl, show IntKind.u8.wrap k = k by rw [IntKind.wrap_u8]; omega] at h
  exact h
set_option maxRecDepth 100000 in
set_option maxHeartbeats 40000000 in
theorem write_no (r : Rc) (l : List Upd) (hn : l.length = r.upds.n) (w : World) (hS : Upds w r.upds.ad l) (hv : validR r l = false) : Calls Tryz.prog 11 #[.agg (tabv r.v 138)] w fun e w' => e = .returned (.tuple #[.string (wrS r l), .int .i64 (wrE r l)]) ∧ Below w.heap.size w w' := by
  have HV := hide hv
  have HS : Hid (wrS r l = nilB ∧ wrE r l = 170) := ⟨by unfold wrS; rw [hv]; rfl, by unfold wrE; rw [hv]; rfl⟩
  obtain ⟨w1, hW1⟩ : ∃ wX, w.alloc (.cells (tabv r.v 138) 38) = wX := ⟨_, rfl⟩
  have r1 : Has w1 w.heap.size 38 r.v 138 := by rw [← hW1]; exact Has.new w 38 r.v 138 _ rfl
  have b1 : Below w.heap.size w w1 := by rw [← hW1]; exact (Below.refl w.heap.size w).alloc (Nat.le_refl _) _
  have R1 := hide r1
  have OF := hide (of_any r l hn w1 (hS.below b1))
  rw [HV.out] at OF
  rw [HS.out.1, HS.out.2]
  clear hv
  go_enter Tryz.func11, Tryz.ntmps11
  go_wp2_with (first | refine wpW_load_at 38 _ rfl (w.heap.size) (0) (by rfl) (by rfl) _ 138 _ (R1.out.at_ 0 (by omega) (fun i hi => by rw [Nat.zero_add])) Tryz.underlying38 rfl infoRc ?_ | fail)
  refine OF.out.mono ?_
  rintro e w2 ⟨rfl, hb2⟩
  go_wp2
  go_ret2
  exact ⟨rfl, b1.trans (hb2.mono b1.size)⟩
set_option maxRecDepth 100000 in
set_option maxHeartbeats 40000000 in
theorem write_1 (r : Rc) (l : List Upd) (hn : l.length = r.upds.n) (w : World) (hS : Upds w r.upds.ad l) (hk : r.kind = 1) (hv : validR r l = true) : Calls Tryz.prog 11 #[.agg (tabv r.v 138)] w fun e w' => e = .returned (.tuple #[.string (wrS r l), .int .i64 (wrE r l)]) ∧ Below w.heap.size w w' := by
  have HV := hide hv
  have ho := (validR_own hv).2
  unfold ownV at ho
  rw [hk] at ho
  simp only [Int.reduceEq, if_true, if_false, reduceIte] at ho
  have HO := hide ho
  obtain ⟨T, hT⟩ : ∃ T, layR r l = T := ⟨_, rfl⟩
  have HS : Hid (wrS r l = ofL ([] ++ nb 1 1 ++ T) ∧ wrE r l = 0) := ⟨by unfold wrS bytesR; rw [if_pos hv, hk, hT, nb_one]; rfl, by unfold wrE; rw [if_pos hv]⟩
  have HC : Hid (chV r = .iface 99 (.agg (tabv r.upd.v 36))) := by show _ = _; unfold chV; rw [hk]; rfl
  have ML : Hid (∀ w : World, (method 304 99 (.agg (tabv r.upd.v 36)) "escrow/record.lay").run Tryz.prog w = .ok (129, .agg (tabv r.upd.v 36)) w) := fun w => by kernel_rfl
  have KC := hide (conv8 1 (by omega) (by omega))
  have LA : Hid (∀ (p : Nat) (v : Value) (L : List UInt8) (wx : World), CW wx p v (some L) → L.length ≤ 1000000 → Below w.heap.size w wx → w.heap.size ≤ p → Calls Tryz.prog 129 #[.agg (tabv r.upd.v 36), .pointer (some ⟨p, 0, none⟩)] wx fun e w' => e = .returned (.tuple #[]) ∧ ∃ v', CW w' p v' (some (L ++ T)) ∧ Mw p wx v w' v') := fun p v L wx hC hL hb hp => by
    have := lOurs_any r.upd ho p v L wx hC hL
    rw [show bytesU r.upd = T by rw [← hT]; unfold layR; rw [hk]; rfl] at this
    exact this
  obtain ⟨w1, hW1⟩ : ∃ wX, w.alloc (.cells (tabv r.v 138) 38) = wX := ⟨_, rfl⟩
  have r1 : Has w1 w.heap.size 38 r.v 138 := by rw [← hW1]; exact Has.new w 38 r.v 138 _ rfl
  have b1 : Below w.heap.size w w1 := by rw [← hW1]; exact (Below.refl w.heap.size w).alloc (Nat.le_refl _) _
  have R1 := hide r1
  have OF := hide (of_any r l hn w1 (hS.below b1))
  rw [HV.out] at OF
  rw [HS.out.1, HS.out.2]
  rw [HC.out] at OF
  have hb1 := hide b1
  have c0 : w1.cell? ⟨w.heap.size, 0, none⟩ = some (.int .i64 1) := by rw [← hk]; exact r1.cell 0 (by omega)
  have hkk := hide hk
  clear hv ho hT hk HC HV HS HO hn hS b1
  go_enter Tryz.func11, Tryz.ntmps11
  go_wp2_with (first | refine wpW_load_at 38 _ rfl (w.heap.size) (0) (by rfl) (by rfl) _ 138 _ (R1.out.at_ 0 (by omega) (fun i hi => by rw [Nat.zero_add])) Tryz.underlying38 rfl infoRc ?_ | fail)
  refine OF.out.mono ?_
  rintro e w2 ⟨rfl, hb2⟩
  have R2 := hide (R1.out.below hb2 R1.out.lt)
  have B2 : Hid (Below w.heap.size w w2) := hb1.out.trans (hb2.mono hb1.out.size)
  clear hb1 hb2 OF hW1 r1 R1 c0
  go_wp2_with fail
  refine (Cu.wNew _).mono ?_
  rintro e w3 ⟨rfl, hC3, hb3, hs3⟩
  obtain ⟨p, hp⟩ : ∃ p, w2.heap.size = p := ⟨_, rfl⟩
  rw [hp] at hC3 ⊢
  have hwp : w.heap.size ≤ p := by rw [← hp]; exact B2.out.size
  have R3 := hide (R2.out.below hb3 R2.out.lt)
  have B3 : Hid (Below w.heap.size w w3) := B2.out.trans (hb3.mono B2.out.size)
  have hgp : w.heap.size ≠ p := by rw [← hp]; exact Nat.ne_of_lt R2.out.lt
  have c3 : w3.cell? ⟨w.heap.size, 0, none⟩ = some (.int .i64 1) := by have := R3.out.cell 0 (by omega); rw [this]; exact congrArg some (by show Value.int .i64 r.kind = _; rw [hkk.out])
  clear hs3 hb3 hp R2 B2
  go_wp2_with (first | refine Cu.wpList_conv rfl _ _ _ rfl .i64 .u8 1 1 (by rfl) (KC.out _) ?_ | fail)
  refine (Cu.wU8 1 1 (by omega) rfl p _ (some []) _ hC3 (fun l e => by cases e; simp)).mono ?_
  rintro e w4 ⟨rfl, v4, hC4, hM4⟩
  have hC4 : CW w4 p v4 (some ([] ++ nb 1 1)) := hC4
  have B4 : Hid (Below w.heap.size w w4) := B3.out.trans (hM4.below hwp B3.out.size (fun k hk => by have := (hC3.own k hk).1; omega))
  clear hM4 hC3 B3 R3 c3 KC
  have ML' := ML.out
  have C4 := hide hC4
  clear hC4
  go_wp2_with fail
  refine (LA.out p v4 _ _ C4.out (by simp [Cu.nb_length]) B4.out hwp).mono ?_
  rintro e w5 ⟨rfl, v5, hC5, hM5⟩
  have B5 : Below w.heap.size w w5 := B4.out.trans (hM5.below hwp B4.out.size (fun k hk => by have := (C4.out.own k hk).1; omega))
  clear ML' ML LA
  go_wp2_with fail
  refine (Cu.wOut p v5 (some ([] ++ nb 1 1 ++ T)) _ hC5).mono ?_
  rintro e w6 ⟨rfl, hb6⟩
  go_wp2
  go_ret2
  exact ⟨rfl, B5.trans (hb6.mono B5.size)⟩
set_option maxRecDepth 100000 in
set_option maxHeartbeats 40000000 in
theorem write_2 (r : Rc) (l : List Upd) (hn : l.length = r.upds.n) (w : World) (hS : Upds w r.upds.ad l) (hk : r.kind = 2) (hv : validR r l = true) : Calls Tryz.prog 11 #[.agg (tabv r.v 138)] w fun e w' => e = .returned (.tuple #[.string (wrS r l), .int .i64 (wrE r l)]) ∧ Below w.heap.size w w' := by
  have HV := hide hv
  have ho := (validR_own hv).2
  unfold ownV at ho
  rw [hk] at ho
  simp only [Int.reduceEq, if_true, if_false, reduceIte, Bool.and_eq_true] at ho
  have HO := hide ho
  obtain ⟨T, hT⟩ : ∃ T, layR r l = T := ⟨_, rfl⟩
  have HS : Hid (wrS r l = ofL ([] ++ nb 2 1 ++ T) ∧ wrE r l = 0) := ⟨by unfold wrS bytesR; rw [if_pos hv, hk, hT, nb_one]; rfl, by unfold wrE; rw [if_pos hv]⟩
  have HC : Hid (chV r = .iface 101 (.agg (tabv (Sg.v ⟨r.idx, r.co, r.cp⟩) 3))) := by show _ = _; unfold chV; rw [hk]; rfl
  have ML : Hid (∀ w : World, (method 304 101 (.agg (tabv (Sg.v ⟨r.idx, r.co, r.cp⟩) 3)) "escrow/record.lay").run Tryz.prog w = .ok (156, .agg (tabv (Sg.v ⟨r.idx, r.co, r.cp⟩) 3)) w) := fun w => by kernel_rfl
  have KC := hide (conv8 2 (by omega) (by omega))
  have LA : Hid (∀ (p : Nat) (v : Value) (L : List UInt8) (wx : World), CW wx p v (some L) → L.length ≤ 1000000 → Below w.heap.size w wx → w.heap.size ≤ p → Calls Tryz.prog 156 #[.agg (tabv (Sg.v ⟨r.idx, r.co, r.cp⟩) 3), .pointer (some ⟨p, 0, none⟩)] wx fun e w' => e = .returned (.tuple #[]) ∧ ∃ v', CW w' p v' (some (L ++ T)) ∧ Mw p wx v w' v') := fun p v L wx hC hL hb hp => by
    have := lSigned_any r.idx r.co r.cp ho.1 ((cntB_iff _).1 ho.2.1) ((cntB_iff _).1 ho.2.2) p v L wx hC hL
    rw [show nb r.idx.toNat 8 ++ (nb r.co.toNat 2 ++ nb r.cp.toNat 2) = T by rw [← hT]; unfold layR; rw [hk]; rfl] at this
    exact this
  obtain ⟨w1, hW1⟩ : ∃ wX, w.alloc (.cells (tabv r.v 138) 38) = wX := ⟨_, rfl⟩
  have r1 : Has w1 w.heap.size 38 r.v 138 := by rw [← hW1]; exact Has.new w 38 r.v 138 _ rfl
  have b1 : Below w.heap.size w w1 := by rw [← hW1]; exact (Below.refl w.heap.size w).alloc (Nat.le_refl _) _
  have R1 := hide r1
  have OF := hide (of_any r l hn w1 (hS.below b1))
  rw [HV.out] at OF
  rw [HS.out.1, HS.out.2]
  rw [HC.out] at OF
  have hb1 := hide b1
  have c0 : w1.cell? ⟨w.heap.size, 0, none⟩ = some (.int .i64 2) := by rw [← hk]; exact r1.cell 0 (by omega)
  have hkk := hide hk
  clear hv ho hT hk HC HV HS HO hn hS b1
  go_enter Tryz.func11, Tryz.ntmps11
  go_wp2_with (first | refine wpW_load_at 38 _ rfl (w.heap.size) (0) (by rfl) (by rfl) _ 138 _ (R1.out.at_ 0 (by omega) (fun i hi => by rw [Nat.zero_add])) Tryz.underlying38 rfl infoRc ?_ | fail)
  refine OF.out.mono ?_
  rintro e w2 ⟨rfl, hb2⟩
  have R2 := hide (R1.out.below hb2 R1.out.lt)
  have B2 : Hid (Below w.heap.size w w2) := hb1.out.trans (hb2.mono hb1.out.size)
  clear hb1 hb2 OF hW1 r1 R1 c0
  go_wp2_with fail
  refine (Cu.wNew _).mono ?_
  rintro e w3 ⟨rfl, hC3, hb3, hs3⟩
  obtain ⟨p, hp⟩ : ∃ p, w2.heap.size = p := ⟨_, rfl⟩
  rw [hp] at hC3 ⊢
  have hwp : w.heap.size ≤ p := by rw [← hp]; exact B2.out.size
  have R3 := hide (R2.out.below hb3 R2.out.lt)
  have B3 : Hid (Below w.heap.size w w3) := B2.out.trans (hb3.mono B2.out.size)
  have hgp : w.heap.size ≠ p := by rw [← hp]; exact Nat.ne_of_lt R2.out.lt
  have c3 : w3.cell? ⟨w.heap.size, 0, none⟩ = some (.int .i64 2) := by have := R3.out.cell 0 (by omega); rw [this]; exact congrArg some (by show Value.int .i64 r.kind = _; rw [hkk.out])
  clear hs3 hb3 hp R2 B2
  go_wp2_with (first | refine Cu.wpList_conv rfl _ _ _ rfl .i64 .u8 2 2 (by rfl) (KC.out _) ?_ | fail)
  refine (Cu.wU8 2 2 (by omega) rfl p _ (some []) _ hC3 (fun l e => by cases e; simp)).mono ?_
  rintro e w4 ⟨rfl, v4, hC4, hM4⟩
  have hC4 : CW w4 p v4 (some ([] ++ nb 2 1)) := hC4
  have B4 : Hid (Below w.heap.size w w4) := B3.out.trans (hM4.below hwp B3.out.size (fun k hk => by have := (hC3.own k hk).1; omega))
  clear hM4 hC3 B3 R3 c3 KC
  have ML' := ML.out
  have C4 := hide hC4
  clear hC4
  go_wp2_with fail
  refine (LA.out p v4 _ _ C4.out (by simp [Cu.nb_length]) B4.out hwp).mono ?_
  rintro e w5 ⟨rfl, v5, hC5, hM5⟩
  have B5 : Below w.heap.size w w5 := B4.out.trans (hM5.below hwp B4.out.size (fun k hk => by have := (C4.out.own k hk).1; omega))
  clear ML' ML LA
  go_wp2_with fail
  refine (Cu.wOut p v5 (some ([] ++ nb 2 1 ++ T)) _ hC5).mono ?_
  rintro e w6 ⟨rfl, hb6⟩
  go_wp2
  go_ret2
  exact ⟨rfl, B5.trans (hb6.mono B5.size)⟩
set_option maxRecDepth 100000 in
set_option maxHeartbeats 40000000 in
theorem write_3 (r : Rc) (l : List Upd) (hn : l.length = r.upds.n) (w : World) (hS : Upds w r.upds.ad l) (hk : r.kind = 3) (hv : validR r l = true) : Calls Tryz.prog 11 #[.agg (tabv r.v 138)] w fun e w' => e = .returned (.tuple #[.string (wrS r l), .int .i64 (wrE r l)]) ∧ Below w.heap.size w w' := by
  have HV := hide hv
  have ho := (validR_own hv).2
  unfold ownV at ho
  rw [hk] at ho
  simp only [Int.reduceEq, if_true, if_false, reduceIte, Bool.and_eq_true] at ho
  have HO := hide ho
  obtain ⟨T, hT⟩ : ∃ T, layR r l = T := ⟨_, rfl⟩
  have HS : Hid (wrS r l = ofL ([] ++ nb 3 1 ++ T) ∧ wrE r l = 0) := ⟨by unfold wrS bytesR; rw [if_pos hv, hk, hT, nb_one]; rfl, by unfold wrE; rw [if_pos hv]⟩
  have HC : Hid (chV r = .iface 103 (.agg (tabv (Cm.v ⟨r.idx, r.upds, r.sig⟩) 34))) := by show _ = _; unfold chV; rw [hk]; rfl
  have ML : Hid (∀ w : World, (method 304 103 (.agg (tabv (Cm.v ⟨r.idx, r.upds, r.sig⟩) 34)) "escrow/record.lay").run Tryz.prog w = .ok (161, .agg (tabv (Cm.v ⟨r.idx, r.upds, r.sig⟩) 34)) w) := fun w => by kernel_rfl
  have KC := hide (conv8 3 (by omega) (by omega))
  have LA : Hid (∀ (p : Nat) (v : Value) (L : List UInt8) (wx : World), CW wx p v (some L) → L.length ≤ 1000000 → Below w.heap.size w wx → w.heap.size ≤ p → Calls Tryz.prog 161 #[.agg (tabv (Cm.v ⟨r.idx, r.upds, r.sig⟩) 34), .pointer (some ⟨p, 0, none⟩)] wx fun e w' => e = .returned (.tuple #[]) ∧ ∃ v', CW w' p v' (some (L ++ T)) ∧ Mw p wx v w' v') := fun p v L wx hC hL hb hp => by
    have := lCame_any r.idx r.upds.ad r.upds.n r.upds.c r.sig l ho.1 hn (of_decide_eq_true ho.2.1) ho.2.2 p v L wx hC hL (fun w' v' hM => hS.below (hb.trans (hM.below hp hb.size (fun k hk => by have := (hC.own k hk).1; omega))))
    rw [show nb r.idx.toNat 8 ++ (nb r.upds.n 2 ++ (bytesUs l ++ hl r.sig)) = T by rw [← hT]; unfold layR; rw [hk]; rfl] at this
    exact this
  obtain ⟨w1, hW1⟩ : ∃ wX, w.alloc (.cells (tabv r.v 138) 38) = wX := ⟨_, rfl⟩
  have r1 : Has w1 w.heap.size 38 r.v 138 := by rw [← hW1]; exact Has.new w 38 r.v 138 _ rfl
  have b1 : Below w.heap.size w w1 := by rw [← hW1]; exact (Below.refl w.heap.size w).alloc (Nat.le_refl _) _
  have R1 := hide r1
  have OF := hide (of_any r l hn w1 (hS.below b1))
  rw [HV.out] at OF
  rw [HS.out.1, HS.out.2]
  rw [HC.out] at OF
  have hb1 := hide b1
  have c0 : w1.cell? ⟨w.heap.size, 0, none⟩ = some (.int .i64 3) := by rw [← hk]; exact r1.cell 0 (by omega)
  have hkk := hide hk
  clear hv ho hT hk HC HV HS HO hn hS b1
  go_enter Tryz.func11, Tryz.ntmps11
  go_wp2_with (first | refine wpW_load_at 38 _ rfl (w.heap.size) (0) (by rfl) (by rfl) _ 138 _ (R1.out.at_ 0 (by omega) (fun i hi => by rw [Nat.zero_add])) Tryz.underlying38 rfl infoRc ?_ | fail)
  refine OF.out.mono ?_
  rintro e w2 ⟨rfl, hb2⟩
  have R2 := hide (R1.out.below hb2 R1.out.lt)
  have B2 : Hid (Below w.heap.size w w2) := hb1.out.trans (hb2.mono hb1.out.size)
  clear hb1 hb2 OF hW1 r1 R1 c0
  go_wp2_with fail
  refine (Cu.wNew _).mono ?_
  rintro e w3 ⟨rfl, hC3, hb3, hs3⟩
  obtain ⟨p, hp⟩ : ∃ p, w2.heap.size = p := ⟨_, rfl⟩
  rw [hp] at hC3 ⊢
  have hwp : w.heap.size ≤ p := by rw [← hp]; exact B2.out.size
  have R3 := hide (R2.out.below hb3 R2.out.lt)
  have B3 : Hid (Below w.heap.size w w3) := B2.out.trans (hb3.mono B2.out.size)
  have hgp : w.heap.size ≠ p := by rw [← hp]; exact Nat.ne_of_lt R2.out.lt
  have c3 : w3.cell? ⟨w.heap.size, 0, none⟩ = some (.int .i64 3) := by have := R3.out.cell 0 (by omega); rw [this]; exact congrArg some (by show Value.int .i64 r.kind = _; rw [hkk.out])
  clear hs3 hb3 hp R2 B2
  go_wp2_with (first | refine Cu.wpList_conv rfl _ _ _ rfl .i64 .u8 3 3 (by rfl) (KC.out _) ?_ | fail)
  refine (Cu.wU8 3 3 (by omega) rfl p _ (some []) _ hC3 (fun l e => by cases e; simp)).mono ?_
  rintro e w4 ⟨rfl, v4, hC4, hM4⟩
  have hC4 : CW w4 p v4 (some ([] ++ nb 3 1)) := hC4
  have B4 : Hid (Below w.heap.size w w4) := B3.out.trans (hM4.below hwp B3.out.size (fun k hk => by have := (hC3.own k hk).1; omega))
  clear hM4 hC3 B3 R3 c3 KC
  have ML' := ML.out
  have C4 := hide hC4
  clear hC4
  go_wp2_with fail
  refine (LA.out p v4 _ _ C4.out (by simp [Cu.nb_length]) B4.out hwp).mono ?_
  rintro e w5 ⟨rfl, v5, hC5, hM5⟩
  have B5 : Below w.heap.size w w5 := B4.out.trans (hM5.below hwp B4.out.size (fun k hk => by have := (C4.out.own k hk).1; omega))
  clear ML' ML LA
  go_wp2_with fail
  refine (Cu.wOut p v5 (some ([] ++ nb 3 1 ++ T)) _ hC5).mono ?_
  rintro e w6 ⟨rfl, hb6⟩
  go_wp2
  go_ret2
  exact ⟨rfl, B5.trans (hb6.mono B5.size)⟩
set_option maxRecDepth 100000 in
set_option maxHeartbeats 40000000 in
theorem write_4 (r : Rc) (l : List Upd) (hn : l.length = r.upds.n) (w : World) (hS : Upds w r.upds.ad l) (hk : r.kind = 4) (hv : validR r l = true) : Calls Tryz.prog 11 #[.agg (tabv r.v 138)] w fun e w' => e = .returned (.tuple #[.string (wrS r l), .int .i64 (wrE r l)]) ∧ Below w.heap.size w w' := by
  have HV := hide hv
  have ho := (validR_own hv).2
  unfold ownV at ho
  rw [hk] at ho
  simp only [Int.reduceEq, if_true, if_false, reduceIte] at ho
  have HO := hide ho
  obtain ⟨T, hT⟩ : ∃ T, layR r l = T := ⟨_, rfl⟩
  have HS : Hid (wrS r l = ofL ([] ++ nb 4 1 ++ T) ∧ wrE r l = 0) := ⟨by unfold wrS bytesR; rw [if_pos hv, hk, hT, nb_one]; rfl, by unfold wrE; rw [if_pos hv]⟩
  have HC : Hid (chV r = .iface 105 (.agg (tabv (Rv.v ⟨r.idx, r.sec, r.pt⟩) 65))) := by show _ = _; unfold chV; rw [hk]; rfl
  have ML : Hid (∀ w : World, (method 304 105 (.agg (tabv (Rv.v ⟨r.idx, r.sec, r.pt⟩) 65)) "escrow/record.lay").run Tryz.prog w = .ok (164, .agg (tabv (Rv.v ⟨r.idx, r.sec, r.pt⟩) 65)) w) := fun w => by kernel_rfl
  have KC := hide (conv8 4 (by omega) (by omega))
  have LA : Hid (∀ (p : Nat) (v : Value) (L : List UInt8) (wx : World), CW wx p v (some L) → L.length ≤ 1000000 → Below w.heap.size w wx → w.heap.size ≤ p → Calls Tryz.prog 164 #[.agg (tabv (Rv.v ⟨r.idx, r.sec, r.pt⟩) 65), .pointer (some ⟨p, 0, none⟩)] wx fun e w' => e = .returned (.tuple #[]) ∧ ∃ v', CW w' p v' (some (L ++ T)) ∧ Mw p wx v w' v') := fun p v L wx hC hL hb hp => by
    have := lRevoked_any r.idx r.sec r.pt ho p v L wx hC hL
    rw [show nb r.idx.toNat 8 ++ (hl r.sec ++ hl r.pt) = T by rw [← hT]; unfold layR; rw [hk]; rfl] at this
    exact this
  obtain ⟨w1, hW1⟩ : ∃ wX, w.alloc (.cells (tabv r.v 138) 38) = wX := ⟨_, rfl⟩
  have r1 : Has w1 w.heap.size 38 r.v 138 := by rw [← hW1]; exact Has.new w 38 r.v 138 _ rfl
  have b1 : Below w.heap.size w w1 := by rw [← hW1]; exact (Below.refl w.heap.size w).alloc (Nat.le_refl _) _
  have R1 := hide r1
  have OF := hide (of_any r l hn w1 (hS.below b1))
  rw [HV.out] at OF
  rw [HS.out.1, HS.out.2]
  rw [HC.out] at OF
  have hb1 := hide b1
  have c0 : w1.cell? ⟨w.heap.size, 0, none⟩ = some (.int .i64 4) := by rw [← hk]; exact r1.cell 0 (by omega)
  have hkk := hide hk
  clear hv ho hT hk HC HV HS HO hn hS b1
  go_enter Tryz.func11, Tryz.ntmps11
  go_wp2_with (first | refine wpW_load_at 38 _ rfl (w.heap.size) (0) (by rfl) (by rfl) _ 138 _ (R1.out.at_ 0 (by omega) (fun i hi => by rw [Nat.zero_add])) Tryz.underlying38 rfl infoRc ?_ | fail)
  refine OF.out.mono ?_
  rintro e w2 ⟨rfl, hb2⟩
  have R2 := hide (R1.out.below hb2 R1.out.lt)
  have B2 : Hid (Below w.heap.size w w2) := hb1.out.trans (hb2.mono hb1.out.size)
  clear hb1 hb2 OF hW1 r1 R1 c0
  go_wp2_with fail
  refine (Cu.wNew _).mono ?_
  rintro e w3 ⟨rfl, hC3, hb3, hs3⟩
  obtain ⟨p, hp⟩ : ∃ p, w2.heap.size = p := ⟨_, rfl⟩
  rw [hp] at hC3 ⊢
  have hwp : w.heap.size ≤ p := by rw [← hp]; exact B2.out.size
  have R3 := hide (R2.out.below hb3 R2.out.lt)
  have B3 : Hid (Below w.heap.size w w3) := B2.out.trans (hb3.mono B2.out.size)
  have hgp : w.heap.size ≠ p := by rw [← hp]; exact Nat.ne_of_lt R2.out.lt
  have c3 : w3.cell? ⟨w.heap.size, 0, none⟩ = some (.int .i64 4) := by have := R3.out.cell 0 (by omega); rw [this]; exact congrArg some (by show Value.int .i64 r.kind = _; rw [hkk.out])
  clear hs3 hb3 hp R2 B2
  go_wp2_with (first | refine Cu.wpList_conv rfl _ _ _ rfl .i64 .u8 4 4 (by rfl) (KC.out _) ?_ | fail)
  refine (Cu.wU8 4 4 (by omega) rfl p _ (some []) _ hC3 (fun l e => by cases e; simp)).mono ?_
  rintro e w4 ⟨rfl, v4, hC4, hM4⟩
  have hC4 : CW w4 p v4 (some ([] ++ nb 4 1)) := hC4
  have B4 : Hid (Below w.heap.size w w4) := B3.out.trans (hM4.below hwp B3.out.size (fun k hk => by have := (hC3.own k hk).1; omega))
  clear hM4 hC3 B3 R3 c3 KC
  have ML' := ML.out
  have C4 := hide hC4
  clear hC4
  go_wp2_with fail
  refine (LA.out p v4 _ _ C4.out (by simp [Cu.nb_length]) B4.out hwp).mono ?_
  rintro e w5 ⟨rfl, v5, hC5, hM5⟩
  have B5 : Below w.heap.size w w5 := B4.out.trans (hM5.below hwp B4.out.size (fun k hk => by have := (C4.out.own k hk).1; omega))
  clear ML' ML LA
  go_wp2_with fail
  refine (Cu.wOut p v5 (some ([] ++ nb 4 1 ++ T)) _ hC5).mono ?_
  rintro e w6 ⟨rfl, hb6⟩
  go_wp2
  go_ret2
  exact ⟨rfl, B5.trans (hb6.mono B5.size)⟩
set_option maxRecDepth 100000 in
set_option maxHeartbeats 40000000 in
theorem write_5 (r : Rc) (l : List Upd) (hn : l.length = r.upds.n) (w : World) (hS : Upds w r.upds.ad l) (hk : r.kind = 5) (hv : validR r l = true) : Calls Tryz.prog 11 #[.agg (tabv r.v 138)] w fun e w' => e = .returned (.tuple #[.string (wrS r l), .int .i64 (wrE r l)]) ∧ Below w.heap.size w w' := by
  have HV := hide hv
  have ho := (validR_own hv).2
  unfold ownV at ho
  rw [hk] at ho
  simp only [Int.reduceEq, if_true, if_false, reduceIte] at ho
  have HO := hide ho
  obtain ⟨T, hT⟩ : ∃ T, layR r l = T := ⟨_, rfl⟩
  have HS : Hid (wrS r l = ofL ([] ++ nb 5 1 ++ T) ∧ wrE r l = 0) := ⟨by unfold wrS bytesR; rw [if_pos hv, hk, hT, nb_one]; rfl, by unfold wrE; rw [if_pos hv]⟩
  have HC : Hid (chV r = .iface 107 (.agg #[.int .i64 r.code])) := by show _ = _; unfold chV; rw [hk]; rfl
  have ML : Hid (∀ w : World, (method 304 107 (.agg #[.int .i64 r.code]) "escrow/record.lay").run Tryz.prog w = .ok (179, .agg #[.int .i64 r.code]) w) := fun w => by kernel_rfl
  have KC := hide (conv8 5 (by omega) (by omega))
  have LA : Hid (∀ (p : Nat) (v : Value) (L : List UInt8) (wx : World), CW wx p v (some L) → L.length ≤ 1000000 → Below w.heap.size w wx → w.heap.size ≤ p → Calls Tryz.prog 179 #[.agg #[.int .i64 r.code], .pointer (some ⟨p, 0, none⟩)] wx fun e w' => e = .returned (.tuple #[]) ∧ ∃ v', CW w' p v' (some (L ++ T)) ∧ Mw p wx v w' v') := fun p v L wx hC hL hb hp => by
    have := lFailed_any r.code ((codB_iff _).1 ho) p v L wx hC hL
    rw [show nb r.code.toNat 2 = T by rw [← hT]; unfold layR; rw [hk]; rfl] at this
    exact this
  obtain ⟨w1, hW1⟩ : ∃ wX, w.alloc (.cells (tabv r.v 138) 38) = wX := ⟨_, rfl⟩
  have r1 : Has w1 w.heap.size 38 r.v 138 := by rw [← hW1]; exact Has.new w 38 r.v 138 _ rfl
  have b1 : Below w.heap.size w w1 := by rw [← hW1]; exact (Below.refl w.heap.size w).alloc (Nat.le_refl _) _
  have R1 := hide r1
  have OF := hide (of_any r l hn w1 (hS.below b1))
  rw [HV.out] at OF
  rw [HS.out.1, HS.out.2]
  rw [HC.out] at OF
  have hb1 := hide b1
  have c0 : w1.cell? ⟨w.heap.size, 0, none⟩ = some (.int .i64 5) := by rw [← hk]; exact r1.cell 0 (by omega)
  have hkk := hide hk
  clear hv ho hT hk HC HV HS HO hn hS b1
  go_enter Tryz.func11, Tryz.ntmps11
  go_wp2_with (first | refine wpW_load_at 38 _ rfl (w.heap.size) (0) (by rfl) (by rfl) _ 138 _ (R1.out.at_ 0 (by omega) (fun i hi => by rw [Nat.zero_add])) Tryz.underlying38 rfl infoRc ?_ | fail)
  refine OF.out.mono ?_
  rintro e w2 ⟨rfl, hb2⟩
  have R2 := hide (R1.out.below hb2 R1.out.lt)
  have B2 : Hid (Below w.heap.size w w2) := hb1.out.trans (hb2.mono hb1.out.size)
  clear hb1 hb2 OF hW1 r1 R1 c0
  go_wp2_with fail
  refine (Cu.wNew _).mono ?_
  rintro e w3 ⟨rfl, hC3, hb3, hs3⟩
  obtain ⟨p, hp⟩ : ∃ p, w2.heap.size = p := ⟨_, rfl⟩
  rw [hp] at hC3 ⊢
  have hwp : w.heap.size ≤ p := by rw [← hp]; exact B2.out.size
  have R3 := hide (R2.out.below hb3 R2.out.lt)
  have B3 : Hid (Below w.heap.size w w3) := B2.out.trans (hb3.mono B2.out.size)
  have hgp : w.heap.size ≠ p := by rw [← hp]; exact Nat.ne_of_lt R2.out.lt
  have c3 : w3.cell? ⟨w.heap.size, 0, none⟩ = some (.int .i64 5) := by have := R3.out.cell 0 (by omega); rw [this]; exact congrArg some (by show Value.int .i64 r.kind = _; rw [hkk.out])
  clear hs3 hb3 hp R2 B2
  go_wp2_with (first | refine Cu.wpList_conv rfl _ _ _ rfl .i64 .u8 5 5 (by rfl) (KC.out _) ?_ | fail)
  refine (Cu.wU8 5 5 (by omega) rfl p _ (some []) _ hC3 (fun l e => by cases e; simp)).mono ?_
  rintro e w4 ⟨rfl, v4, hC4, hM4⟩
  have hC4 : CW w4 p v4 (some ([] ++ nb 5 1)) := hC4
  have B4 : Hid (Below w.heap.size w w4) := B3.out.trans (hM4.below hwp B3.out.size (fun k hk => by have := (hC3.own k hk).1; omega))
  clear hM4 hC3 B3 R3 c3 KC
  have ML' := ML.out
  have C4 := hide hC4
  clear hC4
  go_wp2_with fail
  refine (LA.out p v4 _ _ C4.out (by simp [Cu.nb_length]) B4.out hwp).mono ?_
  rintro e w5 ⟨rfl, v5, hC5, hM5⟩
  have B5 : Below w.heap.size w w5 := B4.out.trans (hM5.below hwp B4.out.size (fun k hk => by have := (C4.out.own k hk).1; omega))
  clear ML' ML LA
  go_wp2_with fail
  refine (Cu.wOut p v5 (some ([] ++ nb 5 1 ++ T)) _ hC5).mono ?_
  rintro e w6 ⟨rfl, hb6⟩
  go_wp2
  go_ret2
  exact ⟨rfl, B5.trans (hb6.mono B5.size)⟩
set_option maxRecDepth 100000 in
set_option maxHeartbeats 40000000 in
theorem write_6 (r : Rc) (l : List Upd) (hn : l.length = r.upds.n) (w : World) (hS : Upds w r.upds.ad l) (hk : r.kind = 6) (hv : validR r l = true) : Calls Tryz.prog 11 #[.agg (tabv r.v 138)] w fun e w' => e = .returned (.tuple #[.string (wrS r l), .int .i64 (wrE r l)]) ∧ Below w.heap.size w w' := by
  have HV := hide hv
  have ho := (validR_own hv).2
  unfold ownV at ho
  rw [hk] at ho
  simp only [Int.reduceEq, if_true, if_false, reduceIte] at ho
  have HO := hide ho
  obtain ⟨T, hT⟩ : ∃ T, layR r l = T := ⟨_, rfl⟩
  have HS : Hid (wrS r l = ofL ([] ++ nb 6 1 ++ T) ∧ wrE r l = 0) := ⟨by unfold wrS bytesR; rw [if_pos hv, hk, hT, nb_one]; rfl, by unfold wrE; rw [if_pos hv]⟩
  have HC : Hid (chV r = .iface 109 (.agg #[.int .i64 r.idx])) := by show _ = _; unfold chV; rw [hk]; rfl
  have ML : Hid (∀ w : World, (method 304 109 (.agg #[.int .i64 r.idx]) "escrow/record.lay").run Tryz.prog w = .ok (182, .agg #[.int .i64 r.idx]) w) := fun w => by kernel_rfl
  have KC := hide (conv8 6 (by omega) (by omega))
  have LA : Hid (∀ (p : Nat) (v : Value) (L : List UInt8) (wx : World), CW wx p v (some L) → L.length ≤ 1000000 → Below w.heap.size w wx → w.heap.size ≤ p → Calls Tryz.prog 182 #[.agg #[.int .i64 r.idx], .pointer (some ⟨p, 0, none⟩)] wx fun e w' => e = .returned (.tuple #[]) ∧ ∃ v', CW w' p v' (some (L ++ T)) ∧ Mw p wx v w' v') := fun p v L wx hC hL hb hp => by
    have := lClosed_any r.idx ho p v L wx hC hL
    rw [show nb r.idx.toNat 8 = T by rw [← hT]; unfold layR; rw [hk]; rfl] at this
    exact this
  obtain ⟨w1, hW1⟩ : ∃ wX, w.alloc (.cells (tabv r.v 138) 38) = wX := ⟨_, rfl⟩
  have r1 : Has w1 w.heap.size 38 r.v 138 := by rw [← hW1]; exact Has.new w 38 r.v 138 _ rfl
  have b1 : Below w.heap.size w w1 := by rw [← hW1]; exact (Below.refl w.heap.size w).alloc (Nat.le_refl _) _
  have R1 := hide r1
  have OF := hide (of_any r l hn w1 (hS.below b1))
  rw [HV.out] at OF
  rw [HS.out.1, HS.out.2]
  rw [HC.out] at OF
  have hb1 := hide b1
  have c0 : w1.cell? ⟨w.heap.size, 0, none⟩ = some (.int .i64 6) := by rw [← hk]; exact r1.cell 0 (by omega)
  have hkk := hide hk
  clear hv ho hT hk HC HV HS HO hn hS b1
  go_enter Tryz.func11, Tryz.ntmps11
  go_wp2_with (first | refine wpW_load_at 38 _ rfl (w.heap.size) (0) (by rfl) (by rfl) _ 138 _ (R1.out.at_ 0 (by omega) (fun i hi => by rw [Nat.zero_add])) Tryz.underlying38 rfl infoRc ?_ | fail)
  refine OF.out.mono ?_
  rintro e w2 ⟨rfl, hb2⟩
  have R2 := hide (R1.out.below hb2 R1.out.lt)
  have B2 : Hid (Below w.heap.size w w2) := hb1.out.trans (hb2.mono hb1.out.size)
  clear hb1 hb2 OF hW1 r1 R1 c0
  go_wp2_with fail
  refine (Cu.wNew _).mono ?_
  rintro e w3 ⟨rfl, hC3, hb3, hs3⟩
  obtain ⟨p, hp⟩ : ∃ p, w2.heap.size = p := ⟨_, rfl⟩
  rw [hp] at hC3 ⊢
  have hwp : w.heap.size ≤ p := by rw [← hp]; exact B2.out.size
  have R3 := hide (R2.out.below hb3 R2.out.lt)
  have B3 : Hid (Below w.heap.size w w3) := B2.out.trans (hb3.mono B2.out.size)
  have hgp : w.heap.size ≠ p := by rw [← hp]; exact Nat.ne_of_lt R2.out.lt
  have c3 : w3.cell? ⟨w.heap.size, 0, none⟩ = some (.int .i64 6) := by have := R3.out.cell 0 (by omega); rw [this]; exact congrArg some (by show Value.int .i64 r.kind = _; rw [hkk.out])
  clear hs3 hb3 hp R2 B2
  go_wp2_with (first | refine Cu.wpList_conv rfl _ _ _ rfl .i64 .u8 6 6 (by rfl) (KC.out _) ?_ | fail)
  refine (Cu.wU8 6 6 (by omega) rfl p _ (some []) _ hC3 (fun l e => by cases e; simp)).mono ?_
  rintro e w4 ⟨rfl, v4, hC4, hM4⟩
  have hC4 : CW w4 p v4 (some ([] ++ nb 6 1)) := hC4
  have B4 : Hid (Below w.heap.size w w4) := B3.out.trans (hM4.below hwp B3.out.size (fun k hk => by have := (hC3.own k hk).1; omega))
  clear hM4 hC3 B3 R3 c3 KC
  have ML' := ML.out
  have C4 := hide hC4
  clear hC4
  go_wp2_with fail
  refine (LA.out p v4 _ _ C4.out (by simp [Cu.nb_length]) B4.out hwp).mono ?_
  rintro e w5 ⟨rfl, v5, hC5, hM5⟩
  have B5 : Below w.heap.size w w5 := B4.out.trans (hM5.below hwp B4.out.size (fun k hk => by have := (C4.out.own k hk).1; omega))
  clear ML' ML LA
  go_wp2_with fail
  refine (Cu.wOut p v5 (some ([] ++ nb 6 1 ++ T)) _ hC5).mono ?_
  rintro e w6 ⟨rfl, hb6⟩
  go_wp2
  go_ret2
  exact ⟨rfl, B5.trans (hb6.mono B5.size)⟩
theorem rcwrite_any (r : Rc) (l : List Upd) (hn : l.length = r.upds.n) (w : World) (hS : Upds w r.upds.ad l) : Calls Tryz.prog 11 #[.agg (tabv r.v 138)] w fun e w' => e = .returned (.tuple #[.string (wrS r l), .int .i64 (wrE r l)]) ∧ Below w.heap.size w w' := by
  cases hv : validR r l with
  | false => exact write_no r l hn w hS hv
  | true =>
    have hk : isRec r.kind = true := by unfold validR at hv; simp only [Bool.and_eq_true] at hv; exact hv.1
    unfold isRec at hk
    simp only [Bool.and_eq_true, decide_eq_true_eq] at hk
    rcases (show r.kind = 1 ∨ r.kind = 2 ∨ r.kind = 3 ∨ r.kind = 4 ∨ r.kind = 5 ∨ r.kind = 6 by omega) with h | h | h | h | h | h
    · exact write_1 r l hn w hS h hv
    · exact write_2 r l hn w hS h hv
    · exact write_3 r l hn w hS h hv
    · exact write_4 r l hn w hS h hv
    · exact write_5 r l hn w hS h hv
    · exact write_6 r l hn w hS h hv
end Go.Proofs.YtlohfoggcdaeiaaGreat
