/-
  Write of the code (printed by gen_write.py).
-/
import Derived.Test.YtlohfoggcdaeiaaGreatUNext
namespace Go.Proofs.YtlohfoggcdaeiaaGreat
set_option maxRecDepth 20000
open Go.RowKit S
set_option linter.unusedVariables false
set_option linter.unusedSimpArgs false
open Cu (nb hl ofL CW Mw CR Mr)
def bytesU (u : Upd) : List UInt8 :=
  (nb u.kind.toNat 1 ++ nb u.id.toNat 2) ++ (if u.kind = 1 then nb u.amt.toNat 8 ++ hl u.hash else if u.kind = 2 then hl u.hash else nb u.note.size 2 ++ u.note.data.toList)
def writeS (u : Upd) : ByteArray := if validB u = true then ofL (bytesU u) else nilB
def writeE (u : Upd) : Int := if validB u = true then 0 else 120
theorem Has.mw {w w' : World} {g p m : Nat} {t : TypeId} {f : Nat → Value} {v v' : Value} {s : Option (List UInt8)} (h : Has w g t f m) (hM : Mw p w v w' v') (hg : g < p) (hC : CW w p v s) : Has w' g t f m := by
  unfold Has
  rw [hM.block g h.lt (by omega) (fun e => by have := hC.own g e; omega)]
  exact h
theorem below_mw {B p : Nat} {w0 w w' : World} {v v' : Value} {s : Option (List UInt8)} (hb : Below B w0 w) (hM : Mw p w v w' v') (hp : B ≤ p) (hB : B ≤ w.heap.size) (hC : CW w p v s) : Below B w0 w' :=
  hb.trans (hM.below hp hB (fun k hk => by have := hC.own k hk; omega))
theorem Has.mr {w w' : World} {g p m : Nat} {t : TypeId} {f : Nat → Value} (h : Has w g t f m) (hM : Mr p w w') (hg : g ≠ p) : Has w' g t f m := by
  unfold Has; rw [hM.block g h.lt hg]; exact h
set_option maxRecDepth 100000 in
set_option maxHeartbeats 4000000 in
theorem wr_add (i a : Int) (h : Nat → UInt8) (nt : ByteArray) (w : World) (hi0 : 0 ≤ i) (hi1 : i < 2048) (ha0 : 0 ≤ a) (ha1 : a ≤ 1152921504606846976) (hn : nt.size ≤ 64) (hv : validB ⟨1, i, a, h, nt⟩ = true) : Calls Tryz.prog 134 #[.agg (tabv (Upd.v ⟨1, i, a, h, nt⟩) 36)] w fun e w' => e = .returned (.tuple #[.string (ofL (bytesU ⟨1, i, a, h, nt⟩)), .int .i64 0]) ∧ Below w.heap.size w w' := by
  obtain ⟨w3, hW⟩ : ∃ x, w.alloc (.cells (tabv (Upd.mk 1 i a h nt).v 36) 36) = x := ⟨_, rfl⟩
  have g0 : Has w3 w.heap.size 36 (Upd.mk 1 i a h nt).v 36 := by rw [← hW]; exact Has.new w 36 (Upd.mk 1 i a h nt).v 36 _ rfl
  have gb : Below w.heap.size w w3 := by rw [← hW]; exact (Below.refl w.heap.size w).alloc (Nat.le_refl _) _
  have G0 := hide g0
  have HV := hide (fun w : World => valid_any ⟨1, i, a, h, nt⟩ w)
  rw [hv] at HV
  have K2 : Hid (∀ w : World, (convert 2 115 (.int .i64 i)).run Tryz.prog w = .ok (.int .u16 i) w) := fun w => by
    have h := run_convert_int (P := Tryz.prog) (w := w) 2 115 .i64 i (by kernel_rfl) (by kernel_rfl)
    rw [show Tryz.prog.intKind 115 = .u16 by kernel_rfl, show IntKind.u16.wrap i = i by simp [IntKind.wrap, IntKind.bits, IntKind.signed]; omega] at h
    exact h
  have HI : Hid (i = (i.toNat : Int)) := by show _ = _; omega
  have HA : Hid (IntKind.u64.wrap a = (a.toNat : Int)) := by show _ = _; simp [IntKind.wrap, IntKind.bits, IntKind.signed]; omega
  have HN := hide hn
  clear hv g0 hi0 hi1 ha0 ha1 hn
  go_enter Tryz.func134, Tryz.ntmps134
  go_wp2_with (first | refine wpW_load_at 36 _ rfl (w.heap.size) (0) (by rfl) (by rfl) _ 36 _ (G0.out.at_ 0 (by omega) (fun i hi => by rw [Nat.zero_add])) Tryz.underlying36 rfl infoU ?_ | fail)
  refine (HV.out _).mono ?_
  rintro e w4 ⟨rfl, hb4⟩
  have gb4 := gb.trans (hb4.mono gb.size)
  have G4 := hide (G0.out.below hb4 G0.out.lt)
  clear hW hb4 gb HV
  go_wp2_with fail
  refine (Cu.wNew _).mono ?_
  rintro e w5 ⟨rfl, hN5⟩
  obtain ⟨hC5, hb5, hs5⟩ := hN5
  have hp : w.heap.size < w4.heap.size := G4.out.lt
  have G5 := hide (G4.out.below hb5 G4.out.lt)
  have gb5 := gb4.trans (hb5.mono gb4.size)
  have hl5 : ([] : List UInt8).length = 0 := rfl
  generalize hL5 : ([] : List UInt8) = L5 at hC5 hl5
  generalize w4.heap.size = p at hC5 hp hs5 ⊢
  have HP := hide hp
  have HL5 := hide hL5
  clear hb5 hs5 gb4 G4 hL5
  have c5_0 : w5.cell? ⟨w.heap.size, 0, none⟩ = some (.int .i64 1) := G5.out.cell 0 (by omega)
  go_wp2_with fail
  refine (Cu.wU8 1 1 (by omega) rfl p _ (some L5) _ hC5 (fun l e => by cases e; omega)).mono ?_
  rintro e w6 ⟨rfl, v6, hC6, hM6⟩
  have hC6 : CW w6 p v6 (some (L5 ++ nb 1 1)) := hC6
  have G6 := hide (G5.out.mw hM6 HP.out hC5)
  have gb6 := below_mw gb5 hM6 (Nat.le_of_lt HP.out) gb5.size hC5
  have hl6 : (L5 ++ nb 1 1).length = 1 := by rw [List.length_append, hl5]; simp [Cu.nb_length, Cu.hl_length]
  generalize hL6 : (L5 ++ nb 1 1) = L6 at hC6 hl6
  have HL6 := hide hL6
  clear hC5 hM6 hL6 gb5 c5_0
  have c6_1 : w6.cell? ⟨w.heap.size, 1, none⟩ = some (.int .i64 i) := G6.out.cell 1 (by omega)
  go_wp2_with (first | refine Cu.wpList_conv rfl _ _ _ rfl .i64 .u16 i i (by rfl) (K2.out _) ?_ | fail)
  refine (Cu.wU16 i i.toNat HI.out p v6 (some L6) _ hC6 (fun l e => by cases e; omega)).mono ?_
  rintro e w7 ⟨rfl, v7, hC7, hM7⟩
  have hC7 : CW w7 p v7 (some (L6 ++ nb i.toNat 2)) := hC7
  have G7 := hide (G6.out.mw hM7 HP.out hC6)
  have gb7 := below_mw gb6 hM7 (Nat.le_of_lt HP.out) gb6.size hC6
  have hl7 : (L6 ++ nb i.toNat 2).length = 3 := by rw [List.length_append, hl6]; simp [Cu.nb_length, Cu.hl_length]
  generalize hL7 : (L6 ++ nb i.toNat 2) = L7 at hC7 hl7
  have HL7 := hide hL7
  clear hC6 hM7 hL7 gb6 c6_1
  have c7_0 : w7.cell? ⟨w.heap.size, 0, none⟩ = some (.int .i64 1) := G7.out.cell 0 (by omega)
  have c7_2 : w7.cell? ⟨w.heap.size, 2, none⟩ = some (.int .i64 a) := G7.out.cell 2 (by omega)
  go_wp2_with fail
  refine (Cu.wI64 a a.toNat HA.out p v7 (some L7) _ hC7 (fun l e => by cases e; omega)).mono ?_
  rintro e w8 ⟨rfl, v8, hC8, hM8⟩
  have hC8 : CW w8 p v8 (some (L7 ++ nb a.toNat 8)) := hC8
  have G8 := hide (G7.out.mw hM8 HP.out hC7)
  have gb8 := below_mw gb7 hM8 (Nat.le_of_lt HP.out) gb7.size hC7
  have hl8 : (L7 ++ nb a.toNat 8).length = 11 := by rw [List.length_append, hl7]; simp [Cu.nb_length, Cu.hl_length]
  generalize hL8 : (L7 ++ nb a.toNat 8) = L8 at hC8 hl8
  have HL8 := hide hL8
  clear hC7 hM8 hL8 gb7 c7_0 c7_2
  have c8_0 : w8.cell? ⟨w.heap.size, 0, none⟩ = some (.int .i64 1) := G8.out.cell 0 (by omega)
  have A8 := hide G8.out.at_hash
  go_wp2_with (first | refine wpW_load_at 25 _ rfl (w.heap.size) (3) (by rfl) (by rfl) _ 32 _ (A8.out) Tryz.underlying25 rfl info26 ?_ | fail)
  refine (Cu.wHash h p v8 (some L8) _ hC8 (fun l e => by cases e; omega)).mono ?_
  rintro e w9 ⟨rfl, v9, hC9, hM9⟩
  have hC9 : CW w9 p v9 (some (L8 ++ hl h)) := hC9
  have G9 := hide (G8.out.mw hM9 HP.out hC8)
  have gb9 := below_mw gb8 hM9 (Nat.le_of_lt HP.out) gb8.size hC8
  have hl9 : (L8 ++ hl h).length = 43 := by rw [List.length_append, hl8]; simp [Cu.nb_length, Cu.hl_length]
  generalize hL9 : (L8 ++ hl h) = L9 at hC9 hl9
  have HL9 := hide hL9
  clear hC8 hM9 hL9 gb8 c8_0
  go_wp2_with fail
  refine (Cu.wOut p v9 (some L9) _ hC9).mono ?_
  rintro e w20 ⟨rfl, hb20⟩
  have gb20 := gb9.trans (hb20.mono gb9.size)
  have eo : Cu.outS (some L9) = ofL (bytesU ⟨1, i, a, h, nt⟩) := by
    rw [← HL9.out, ← HL8.out, ← HL7.out, ← HL6.out, ← HL5.out]
    simp [Cu.outS, ofL, bytesU]
  have ee : Cu.outE (some L9) = 0 := rfl
  rw [eo, ee]
  clear eo ee hb20
  go_wp2
  go_ret2
  exact ⟨rfl, gb20⟩
set_option maxRecDepth 100000 in
set_option maxHeartbeats 4000000 in
theorem wr_ful (i a : Int) (h : Nat → UInt8) (nt : ByteArray) (w : World) (hi0 : 0 ≤ i) (hi1 : i < 2048) (ha0 : 0 ≤ a) (ha1 : a ≤ 1152921504606846976) (hn : nt.size ≤ 64) (hv : validB ⟨2, i, a, h, nt⟩ = true) : Calls Tryz.prog 134 #[.agg (tabv (Upd.v ⟨2, i, a, h, nt⟩) 36)] w fun e w' => e = .returned (.tuple #[.string (ofL (bytesU ⟨2, i, a, h, nt⟩)), .int .i64 0]) ∧ Below w.heap.size w w' := by
  obtain ⟨w3, hW⟩ : ∃ x, w.alloc (.cells (tabv (Upd.mk 2 i a h nt).v 36) 36) = x := ⟨_, rfl⟩
  have g0 : Has w3 w.heap.size 36 (Upd.mk 2 i a h nt).v 36 := by rw [← hW]; exact Has.new w 36 (Upd.mk 2 i a h nt).v 36 _ rfl
  have gb : Below w.heap.size w w3 := by rw [← hW]; exact (Below.refl w.heap.size w).alloc (Nat.le_refl _) _
  have G0 := hide g0
  have HV := hide (fun w : World => valid_any ⟨2, i, a, h, nt⟩ w)
  rw [hv] at HV
  have K2 : Hid (∀ w : World, (convert 2 115 (.int .i64 i)).run Tryz.prog w = .ok (.int .u16 i) w) := fun w => by
    have h := run_convert_int (P := Tryz.prog) (w := w) 2 115 .i64 i (by kernel_rfl) (by kernel_rfl)
    rw [show Tryz.prog.intKind 115 = .u16 by kernel_rfl, show IntKind.u16.wrap i = i by simp [IntKind.wrap, IntKind.bits, IntKind.signed]; omega] at h
    exact h
  have HI : Hid (i = (i.toNat : Int)) := by show _ = _; omega
  have HA : Hid (IntKind.u64.wrap a = (a.toNat : Int)) := by show _ = _; simp [IntKind.wrap, IntKind.bits, IntKind.signed]; omega
  have HN := hide hn
  clear hv g0 hi0 hi1 ha0 ha1 hn
  go_enter Tryz.func134, Tryz.ntmps134
  go_wp2_with (first | refine wpW_load_at 36 _ rfl (w.heap.size) (0) (by rfl) (by rfl) _ 36 _ (G0.out.at_ 0 (by omega) (fun i hi => by rw [Nat.zero_add])) Tryz.underlying36 rfl infoU ?_ | fail)
  refine (HV.out _).mono ?_
  rintro e w4 ⟨rfl, hb4⟩
  have gb4 := gb.trans (hb4.mono gb.size)
  have G4 := hide (G0.out.below hb4 G0.out.lt)
  clear hW hb4 gb HV
  go_wp2_with fail
  refine (Cu.wNew _).mono ?_
  rintro e w5 ⟨rfl, hN5⟩
  obtain ⟨hC5, hb5, hs5⟩ := hN5
  have hp : w.heap.size < w4.heap.size := G4.out.lt
  have G5 := hide (G4.out.below hb5 G4.out.lt)
  have gb5 := gb4.trans (hb5.mono gb4.size)
  have hl5 : ([] : List UInt8).length = 0 := rfl
  generalize hL5 : ([] : List UInt8) = L5 at hC5 hl5
  generalize w4.heap.size = p at hC5 hp hs5 ⊢
  have HP := hide hp
  have HL5 := hide hL5
  clear hb5 hs5 gb4 G4 hL5
  have c5_0 : w5.cell? ⟨w.heap.size, 0, none⟩ = some (.int .i64 2) := G5.out.cell 0 (by omega)
  go_wp2_with fail
  refine (Cu.wU8 2 2 (by omega) rfl p _ (some L5) _ hC5 (fun l e => by cases e; omega)).mono ?_
  rintro e w6 ⟨rfl, v6, hC6, hM6⟩
  have hC6 : CW w6 p v6 (some (L5 ++ nb 2 1)) := hC6
  have G6 := hide (G5.out.mw hM6 HP.out hC5)
  have gb6 := below_mw gb5 hM6 (Nat.le_of_lt HP.out) gb5.size hC5
  have hl6 : (L5 ++ nb 2 1).length = 1 := by rw [List.length_append, hl5]; simp [Cu.nb_length, Cu.hl_length]
  generalize hL6 : (L5 ++ nb 2 1) = L6 at hC6 hl6
  have HL6 := hide hL6
  clear hC5 hM6 hL6 gb5 c5_0
  have c6_1 : w6.cell? ⟨w.heap.size, 1, none⟩ = some (.int .i64 i) := G6.out.cell 1 (by omega)
  go_wp2_with (first | refine Cu.wpList_conv rfl _ _ _ rfl .i64 .u16 i i (by rfl) (K2.out _) ?_ | fail)
  refine (Cu.wU16 i i.toNat HI.out p v6 (some L6) _ hC6 (fun l e => by cases e; omega)).mono ?_
  rintro e w7 ⟨rfl, v7, hC7, hM7⟩
  have hC7 : CW w7 p v7 (some (L6 ++ nb i.toNat 2)) := hC7
  have G7 := hide (G6.out.mw hM7 HP.out hC6)
  have gb7 := below_mw gb6 hM7 (Nat.le_of_lt HP.out) gb6.size hC6
  have hl7 : (L6 ++ nb i.toNat 2).length = 3 := by rw [List.length_append, hl6]; simp [Cu.nb_length, Cu.hl_length]
  generalize hL7 : (L6 ++ nb i.toNat 2) = L7 at hC7 hl7
  have HL7 := hide hL7
  clear hC6 hM7 hL7 gb6 c6_1
  have c7_0 : w7.cell? ⟨w.heap.size, 0, none⟩ = some (.int .i64 2) := G7.out.cell 0 (by omega)
  have A7 := hide G7.out.at_hash
  go_wp2_with (first | refine wpW_load_at 25 _ rfl (w.heap.size) (3) (by rfl) (by rfl) _ 32 _ (A7.out) Tryz.underlying25 rfl info26 ?_ | fail)
  refine (Cu.wHash h p v7 (some L7) _ hC7 (fun l e => by cases e; omega)).mono ?_
  rintro e w8 ⟨rfl, v8, hC8, hM8⟩
  have hC8 : CW w8 p v8 (some (L7 ++ hl h)) := hC8
  have G8 := hide (G7.out.mw hM8 HP.out hC7)
  have gb8 := below_mw gb7 hM8 (Nat.le_of_lt HP.out) gb7.size hC7
  have hl8 : (L7 ++ hl h).length = 35 := by rw [List.length_append, hl7]; simp [Cu.nb_length, Cu.hl_length]
  generalize hL8 : (L7 ++ hl h) = L8 at hC8 hl8
  have HL8 := hide hL8
  clear hC7 hM8 hL8 gb7 c7_0
  go_wp2_with fail
  refine (Cu.wOut p v8 (some L8) _ hC8).mono ?_
  rintro e w20 ⟨rfl, hb20⟩
  have gb20 := gb8.trans (hb20.mono gb8.size)
  have eo : Cu.outS (some L8) = ofL (bytesU ⟨2, i, a, h, nt⟩) := by
    rw [← HL8.out, ← HL7.out, ← HL6.out, ← HL5.out]
    simp [Cu.outS, ofL, bytesU]
  have ee : Cu.outE (some L8) = 0 := rfl
  rw [eo, ee]
  clear eo ee hb20
  go_wp2
  go_ret2
  exact ⟨rfl, gb20⟩
set_option maxRecDepth 100000 in
set_option maxHeartbeats 4000000 in
theorem wr_fail (i a : Int) (h : Nat → UInt8) (nt : ByteArray) (w : World) (hi0 : 0 ≤ i) (hi1 : i < 2048) (ha0 : 0 ≤ a) (ha1 : a ≤ 1152921504606846976) (hn : nt.size ≤ 64) (hv : validB ⟨3, i, a, h, nt⟩ = true) : Calls Tryz.prog 134 #[.agg (tabv (Upd.v ⟨3, i, a, h, nt⟩) 36)] w fun e w' => e = .returned (.tuple #[.string (ofL (bytesU ⟨3, i, a, h, nt⟩)), .int .i64 0]) ∧ Below w.heap.size w w' := by
  obtain ⟨w3, hW⟩ : ∃ x, w.alloc (.cells (tabv (Upd.mk 3 i a h nt).v 36) 36) = x := ⟨_, rfl⟩
  have g0 : Has w3 w.heap.size 36 (Upd.mk 3 i a h nt).v 36 := by rw [← hW]; exact Has.new w 36 (Upd.mk 3 i a h nt).v 36 _ rfl
  have gb : Below w.heap.size w w3 := by rw [← hW]; exact (Below.refl w.heap.size w).alloc (Nat.le_refl _) _
  have G0 := hide g0
  have HV := hide (fun w : World => valid_any ⟨3, i, a, h, nt⟩ w)
  rw [hv] at HV
  have K2 : Hid (∀ w : World, (convert 2 115 (.int .i64 i)).run Tryz.prog w = .ok (.int .u16 i) w) := fun w => by
    have h := run_convert_int (P := Tryz.prog) (w := w) 2 115 .i64 i (by kernel_rfl) (by kernel_rfl)
    rw [show Tryz.prog.intKind 115 = .u16 by kernel_rfl, show IntKind.u16.wrap i = i by simp [IntKind.wrap, IntKind.bits, IntKind.signed]; omega] at h
    exact h
  have HI : Hid (i = (i.toNat : Int)) := by show _ = _; omega
  have HA : Hid (IntKind.u64.wrap a = (a.toNat : Int)) := by show _ = _; simp [IntKind.wrap, IntKind.bits, IntKind.signed]; omega
  have HN := hide hn
  clear hv g0 hi0 hi1 ha0 ha1 hn
  go_enter Tryz.func134, Tryz.ntmps134
  go_wp2_with (first | refine wpW_load_at 36 _ rfl (w.heap.size) (0) (by rfl) (by rfl) _ 36 _ (G0.out.at_ 0 (by omega) (fun i hi => by rw [Nat.zero_add])) Tryz.underlying36 rfl infoU ?_ | fail)
  refine (HV.out _).mono ?_
  rintro e w4 ⟨rfl, hb4⟩
  have gb4 := gb.trans (hb4.mono gb.size)
  have G4 := hide (G0.out.below hb4 G0.out.lt)
  clear hW hb4 gb HV
  go_wp2_with fail
  refine (Cu.wNew _).mono ?_
  rintro e w5 ⟨rfl, hN5⟩
  obtain ⟨hC5, hb5, hs5⟩ := hN5
  have hp : w.heap.size < w4.heap.size := G4.out.lt
  have G5 := hide (G4.out.below hb5 G4.out.lt)
  have gb5 := gb4.trans (hb5.mono gb4.size)
  have hl5 : ([] : List UInt8).length = 0 := rfl
  generalize hL5 : ([] : List UInt8) = L5 at hC5 hl5
  generalize w4.heap.size = p at hC5 hp hs5 ⊢
  have HP := hide hp
  have HL5 := hide hL5
  clear hb5 hs5 gb4 G4 hL5
  have c5_0 : w5.cell? ⟨w.heap.size, 0, none⟩ = some (.int .i64 3) := G5.out.cell 0 (by omega)
  go_wp2_with fail
  refine (Cu.wU8 3 3 (by omega) rfl p _ (some L5) _ hC5 (fun l e => by cases e; omega)).mono ?_
  rintro e w6 ⟨rfl, v6, hC6, hM6⟩
  have hC6 : CW w6 p v6 (some (L5 ++ nb 3 1)) := hC6
  have G6 := hide (G5.out.mw hM6 HP.out hC5)
  have gb6 := below_mw gb5 hM6 (Nat.le_of_lt HP.out) gb5.size hC5
  have hl6 : (L5 ++ nb 3 1).length = 1 := by rw [List.length_append, hl5]; simp [Cu.nb_length, Cu.hl_length]
  generalize hL6 : (L5 ++ nb 3 1) = L6 at hC6 hl6
  have HL6 := hide hL6
  clear hC5 hM6 hL6 gb5 c5_0
  have c6_1 : w6.cell? ⟨w.heap.size, 1, none⟩ = some (.int .i64 i) := G6.out.cell 1 (by omega)
  go_wp2_with (first | refine Cu.wpList_conv rfl _ _ _ rfl .i64 .u16 i i (by rfl) (K2.out _) ?_ | fail)
  refine (Cu.wU16 i i.toNat HI.out p v6 (some L6) _ hC6 (fun l e => by cases e; omega)).mono ?_
  rintro e w7 ⟨rfl, v7, hC7, hM7⟩
  have hC7 : CW w7 p v7 (some (L6 ++ nb i.toNat 2)) := hC7
  have G7 := hide (G6.out.mw hM7 HP.out hC6)
  have gb7 := below_mw gb6 hM7 (Nat.le_of_lt HP.out) gb6.size hC6
  have hl7 : (L6 ++ nb i.toNat 2).length = 3 := by rw [List.length_append, hl6]; simp [Cu.nb_length, Cu.hl_length]
  generalize hL7 : (L6 ++ nb i.toNat 2) = L7 at hC7 hl7
  have HL7 := hide hL7
  clear hC6 hM7 hL7 gb6 c6_1
  have c7_0 : w7.cell? ⟨w.heap.size, 0, none⟩ = some (.int .i64 3) := G7.out.cell 0 (by omega)
  have c7_35 : w7.cell? ⟨w.heap.size, 35, none⟩ = some (.string nt) := G7.out.cell 35 (by omega)
  go_wp2_with fail
  refine (Cu.wText nt p v7 (some L7) _ hC7 (by have := HN.out; omega) (fun l e => by cases e; omega)).mono ?_
  rintro e w8 ⟨rfl, v8, hC8, hM8⟩
  have et : Cu.txt (some L7) nt = some ((L7 ++ nb nt.size 2) ++ nt.data.toList) := by unfold Cu.txt; rw [if_neg (by have := HN.out; omega)]; rfl
  rw [et] at hC8
  have G8 := hide (G7.out.mw hM8 HP.out hC7)
  have gb8 := below_mw gb7 hM8 (Nat.le_of_lt HP.out) gb7.size hC7
  generalize hL8 : ((L7 ++ nb nt.size 2) ++ nt.data.toList) = L8 at hC8
  have HL8 := hide hL8
  clear hC7 hM8 hL8 gb7 c7_0 c7_35
  go_wp2_with fail
  refine (Cu.wOut p v8 (some L8) _ hC8).mono ?_
  rintro e w20 ⟨rfl, hb20⟩
  have gb20 := gb8.trans (hb20.mono gb8.size)
  have eo : Cu.outS (some L8) = ofL (bytesU ⟨3, i, a, h, nt⟩) := by
    rw [← HL8.out, ← HL7.out, ← HL6.out, ← HL5.out]
    simp [Cu.outS, ofL, bytesU]
  have ee : Cu.outE (some L8) = 0 := rfl
  rw [eo, ee]
  clear eo ee hb20
  go_wp2
  go_ret2
  exact ⟨rfl, gb20⟩
set_option maxRecDepth 100000 in
set_option maxHeartbeats 4000000 in
theorem wr_no (u : Upd) (w : World) (hv : validB u = false) : Calls Tryz.prog 134 #[.agg (tabv u.v 36)] w fun e w' => e = .returned (.tuple #[.string nilB, .int .i64 120]) ∧ Below w.heap.size w w' := by
  obtain ⟨w3, hW⟩ : ∃ x, w.alloc (.cells (tabv u.v 36) 36) = x := ⟨_, rfl⟩
  have g0 : Has w3 w.heap.size 36 u.v 36 := by rw [← hW]; exact Has.new w 36 u.v 36 _ rfl
  have gb : Below w.heap.size w w3 := by rw [← hW]; exact (Below.refl w.heap.size w).alloc (Nat.le_refl _) _

  have G0 := hide g0
  have HV := hide (fun w : World => valid_any u w)
  rw [hv] at HV
  clear hv g0
  go_enter Tryz.func134, Tryz.ntmps134
  go_wp2_with (first | refine wpW_load_at 36 _ rfl (w.heap.size) (0) (by rfl) (by rfl) _ 36 _ (G0.out.at_ 0 (by omega) (fun i hi => by rw [Nat.zero_add])) Tryz.underlying36 rfl infoU ?_ | fail)
  refine (HV.out _).mono ?_
  rintro e w4 ⟨rfl, hb4⟩
  have gb4 := gb.trans (hb4.mono gb.size)
  clear hW hb4 gb HV
  go_wp2
  go_ret2
  exact ⟨rfl, gb4⟩
theorem valid_id {u : Upd} (h : validB u = true) : 0 ≤ u.id ∧ u.id < 2048 := by
  unfold validB at h
  rw [Bool.and_eq_true] at h
  have h1 := h.1
  rw [Bool.not_eq_true', Bool.or_eq_false_iff, decide_eq_false_iff_not, decide_eq_false_iff_not] at h1
  omega
theorem valid_kinds {u : Upd} (h : validB u = true) : (u.kind = 1 ∧ 1 ≤ u.amt ∧ u.amt ≤ 1152921504606846976 ∧ noteE u = true) ∨ (u.kind = 2 ∧ u.amt = 0 ∧ noteE u = true) ∨ (u.kind = 3 ∧ u.amt = 0 ∧ zeroH u.hash = true ∧ u.note.size ≤ 64) := by
  unfold validB at h
  rw [Bool.and_eq_true] at h
  have h2 := h.2
  split at h2
  · rename_i hk
    simp only [Bool.and_eq_true, decide_eq_true_eq] at h2
    exact .inl ⟨beq_iff_eq.1 hk, h2.1.1, h2.1.2, h2.2⟩
  · split at h2
    · rename_i hk
      simp only [Bool.and_eq_true, beq_iff_eq] at h2
      exact .inr (.inl ⟨beq_iff_eq.1 hk, h2.1, h2.2⟩)
    · split at h2
      · rename_i hk
        simp only [Bool.and_eq_true, beq_iff_eq, decide_eq_true_eq] at h2
        exact .inr (.inr ⟨beq_iff_eq.1 hk, h2.1.1, h2.1.2, by omega⟩)
      · cases h2
theorem noteE_nil {u : Upd} (h : noteE u = true) : u.note = nilB := by
  unfold noteE at h
  rw [List.isEmpty_iff, ByteArray.toList_eq] at h
  exact ByteArray.ext (Array.ext' h)
theorem write_any (u : Upd) (w : World) : Calls Tryz.prog 134 #[.agg (tabv u.v 36)] w fun e w' => e = .returned (.tuple #[.string (writeS u), .int .i64 (writeE u)]) ∧ Below w.heap.size w w' := by
  unfold writeS writeE
  cases hv : validB u with
  | false =>
    rw [if_neg (by decide), if_neg (by decide)]
    exact wr_no u w hv
  | true =>
    rw [if_pos rfl, if_pos rfl]
    have hi := valid_id hv
    have hk := valid_kinds hv
    obtain ⟨k, i, a, h, nt⟩ := u
    rcases hk with ⟨hk, h1, h2, h3⟩ | ⟨hk, h1, h2⟩ | ⟨hk, h1, h2, h3⟩
    · have := noteE_nil h3
      simp only at hi hk h1 h2 this
      subst hk this
      exact wr_add i a h nilB w hi.1 hi.2 (by omega) h2 (by decide) hv
    · have := noteE_nil h2
      simp only at hi hk h1 this
      subst hk this
      exact wr_ful i a h nilB w hi.1 hi.2 (by omega) (by omega) (by decide) hv
    · simp only at hi hk h1 h3
      subst hk
      exact wr_fail i a h nt w hi.1 hi.2 (by omega) (by omega) h3 hv
end Go.Proofs.YtlohfoggcdaeiaaGreat
