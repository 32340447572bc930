import Derived.Test.YtlohfoggcdaeiaaGreatCurRef
import Derived.Test.YtlohfoggcdaeiaaGreatRWrite
import Derived.Test.YtlohfoggcdaeiaaGreatUDoc
import Derived.Test.YtlohfoggcdaeiaaGreatCurHashRead
import Derived.Test.YtlohfoggcdaeiaaGreatCurWriter2
import Derived.Test.YtlohfoggcdaeiaaGreatCurRead
import Derived.Test.YtlohfoggcdaeiaaGreatRRdB
/-
  A row of bytes that grows in memory of the call's own (by hand).
-/
namespace Go.Proofs.YtlohfoggcdaeiaaGreat
open Go.RowKit S
set_option linter.unusedVariables false
set_option linter.unusedSimpArgs false
open Cu (nb be hl ofL Bytes Mv byteV)
/-- v is the row L, laid since w0 in blocks from B on; below B nothing has turned. -/
structure RowB (B : Nat) (w0 w : World) (v : Value) (L : List UInt8) : Prop where
  row : Bytes w B v L
  low : Below B w0 w
  size : B ≤ w.heap.size
theorem RowB.new (w : World) (c : UInt8) (X : Int) (hX : X = (c.toNat : Int)) : RowB w.heap.size w (w.alloc (.cells #[.int .u8 X] 5)) (.slice (some ⟨w.heap.size, 0, none⟩) 1 1) [c] := by
  subst hX
  refine ⟨⟨by simp, .inr ⟨w.heap.size, 1, #[.int .u8 (c.toNat : Int)], rfl, Nat.le_refl _, heap_alloc_new w _, Nat.le_refl _, by decide, by rfl, by rfl⟩⟩, (Below.refl _ _).alloc (Nat.le_refl _) _, ?_⟩
  have := ((Below.refl w.heap.size w).alloc (Nat.le_refl _) (.cells #[.int .u8 (c.toNat : Int)] 5)).size
  exact this
theorem RowB.call {B : Nat} {w0 w w' : World} {v : Value} {L : List UInt8} (h : RowB B w0 w v L) (hb : Below w.heap.size w w') : RowB B w0 w' v L :=
  ⟨h.row.same (fun k hk => hb.block k (h.row.lt k hk)), h.low.trans (hb.mono h.size), Nat.le_trans h.size hb.size⟩
theorem RowB.app {B : Nat} {w0 w w' : World} {v v' : Value} {L L' : List UInt8} (h : RowB B w0 w v L) (hB : Bytes w' B v' L') (hM : Mv w v w' v') : RowB B w0 w' v' L' :=
  ⟨hB, h.low.trans (Cu.grown_below hM.gr (fun k hk => h.row.block k hk) h.size), Nat.le_trans h.size hM.gr.size⟩
theorem src_part {w : World} {g o m : Nat} {T : TypeId} {f : Nat → Value} {h : Nat → UInt8} (hH : Has w g T f m) (ho : o + 32 ≤ m) (hf : ∀ j, j < 32 → f (o + j) = bv h j) : Src Tryz.prog 1 77 (.slice (some ⟨g, o, none⟩) 32 32) (hl h).length ((hl h).map byteV) w := by
  rw [Cu.hl_length, Cu.hl_bv]
  refine Src.ofSlice w Tryz.underlying77 ⟨g, o, none⟩ 32 32 _ (by simp [tabv]) (fun j u hu => ?_) (fun u hu => ?_)
  · have hj : j < 32 := by have := (List.getElem?_eq_some_iff.1 hu).1; rw [Array.length_toList, tabv_size] at this; exact this
    rw [Array.getElem?_toList, tabv_get _ _ _ hj] at hu
    have hadd : (⟨g, o, none⟩ : Addr).add j = ⟨g, o + j, none⟩ := by unfold Addr.add; split <;> simp_all
    rw [hadd, hH.cell (o + j) (by omega), hf j hj]
    exact hu
  · simp only [tabv, List.mem_map, List.mem_range] at hu
    obtain ⟨i, _, rfl⟩ := hu
    rfl
theorem ix_of {r : Rc} {l : List Upd} (hv : validR r l = true) (hk : 1 ≤ r.kind ∧ r.kind ≤ 6) : 0 ≤ r.idx ∧ r.idx ≤ 281474976710655 := by
  rw [valid_doc r l hk] at hv
  simp only [Bool.and_eq_true] at hv
  have := hv.2.2
  unfold ixB at this
  simpa using this
end Go.Proofs.YtlohfoggcdaeiaaGreat
/-
  The document's Write of a record that is none (printed by gen_r32.py).
-/
namespace Go.Proofs.YtlohfoggcdaeiaaGreat
open Go.RowKit S
set_option linter.unusedVariables false
set_option linter.unusedSimpArgs false
open Cu (nb be hl ofL CW Mw CR Mr RS takeS takeA hOf nil8 doneS Bytes Mv byteV)
set_option maxRecDepth 100000 in
set_option maxHeartbeats 40000000 in
theorem dwrite_0 (r : Rc) (l : List Upd) (hv : validR r l = false) (hn0 : l.length = r.upds.n) (hz : r.upds.n ≤ 140737488351232) (w : World) (hS : Upds w r.upds.ad l) : Calls Tryz.prog 20 #[.agg (tabv r.v 138)] w fun e w' => e = .returned (.tuple #[.string (wrS r l), .int .i64 (wrE r l)]) ∧ Below w.heap.size w w' := by
  have HS : Hid (nilB = wrS r l ∧ wrE r l = 170) := ⟨by unfold wrS; rw [hv]; rfl, by unfold wrE; rw [hv]; rfl⟩
  obtain ⟨w1, hW1⟩ : ∃ wX, w.alloc (.cells (tabv r.v 138) 38) = wX := ⟨_, rfl⟩
  have r1 : Has w1 w.heap.size 38 r.v 138 := by rw [← hW1]; exact Has.new w 38 r.v 138 _ rfl
  have b1 : Below w.heap.size w w1 := by rw [← hW1]; exact (Below.refl w.heap.size w).alloc (Nat.le_refl _) _
  have R1 := hide r1
  have G1 : Hid (Below w.heap.size w w1) := b1
  have VM := hide (dvalid_any r l hn0 hz w1 (hS.below b1))
  rw [hv] at VM
  have HU := hide (fun (wx : World) (hx : Below w.heap.size w wx) => hS.below hx)
  clear r1 b1 hv hS
  go_enter Tryz.func20, Tryz.ntmps20
  go_wp2_with (first | refine wpW_load_at 38 _ rfl (w.heap.size) (0) (by rfl) (by rfl) _ 138 _ (R1.out.at_ 0 (by omega) (fun i hi => by rw [Nat.zero_add])) Tryz.underlying38 rfl infoRc ?_ | fail)
  refine VM.out.mono ?_
  rintro e w2 ⟨rfl, hb⟩
  have R2 := hide (R1.out.below hb R1.out.lt)
  have G2 : Hid (Below w.heap.size w w2) := G1.out.trans (hb.mono G1.out.size)
  clear hb R1 G1 hW1 VM
  go_wp2
  go_ret2
  exact ⟨by rw [← HS.out.1, HS.out.2]; rfl, G2.out⟩
end Go.Proofs.YtlohfoggcdaeiaaGreat
/-
  The document's Write of a record, kind 1 (printed by gen_r32.py).
-/
namespace Go.Proofs.YtlohfoggcdaeiaaGreat
open Go.RowKit S
set_option linter.unusedVariables false
set_option linter.unusedSimpArgs false
open Cu (nb be hl ofL CW Mw CR Mr RS takeS takeA hOf nil8 doneS Bytes Mv byteV)
set_option maxRecDepth 100000 in
set_option maxHeartbeats 40000000 in
theorem dwrite_1 (r : Rc) (l : List Upd) (hk : r.kind = 1) (hv : validR r l = true) (hn0 : l.length = r.upds.n) (hz : r.upds.n ≤ 140737488351232) (w : World) (hS : Upds w r.upds.ad l) : Calls Tryz.prog 20 #[.agg (tabv r.v 138)] w fun e w' => e = .returned (.tuple #[.string (wrS r l), .int .i64 (wrE r l)]) ∧ Below w.heap.size w w' := by
  have HS : Hid (ofL (bytesR r l) = wrS r l ∧ wrE r l = 0) := ⟨by unfold wrS; rw [if_pos hv], by unfold wrE; rw [if_pos hv]⟩
  have hix := ix_of hv (by omega)
  have hown := (validR_own hv).2
  have hu : validB r.upd = true := by unfold ownV at hown; rw [hk] at hown; exact hown
  have HW : Hid (writeS r.upd = ofL (bytesU r.upd) ∧ (writeS r.upd).data.toList = bytesU r.upd ∧ (bytesU r.upd).length ≤ 69) := by
    have e : writeS r.upd = ofL (bytesU r.upd) := by unfold writeS; rw [if_pos hu]
    exact ⟨e, by rw [e, Cu.ofL_data], bytesU_69 hu⟩
  clear hu
  have K8 := hide (fun w : World => conv8 1 (by omega) (by omega) w)
  have KI : Hid (∀ w : World, (convert 2 79 (.int .i64 r.idx)).run Tryz.prog w = .ok (.int .u64 r.idx) w) := fun w => conv_u64 2 (by kernel_rfl) (by kernel_rfl) r.idx hix.1 (by omega) w
  have B8 := hide (fun w : World => Cu.refBytes r.idx r.idx.toNat 8 (by omega) 8 rfl (by omega) w)
  obtain ⟨S8, hS8⟩ : ∃ x, ofL (nb r.idx.toNat 8) = x := ⟨_, rfl⟩
  rw [hS8] at B8
  have z8 : Hid (S8.data.toList = nb r.idx.toNat 8 ∧ S8.data.toList.length = 8) := by rw [← hS8, Cu.ofL_data]; exact ⟨rfl, by rw [Cu.nb_length]⟩
  clear hS8 hix hown
  obtain ⟨w1, hW1⟩ : ∃ wX, w.alloc (.cells (tabv r.v 138) 38) = wX := ⟨_, rfl⟩
  have r1 : Has w1 w.heap.size 38 r.v 138 := by rw [← hW1]; exact Has.new w 38 r.v 138 _ rfl
  have b1 : Below w.heap.size w w1 := by rw [← hW1]; exact (Below.refl w.heap.size w).alloc (Nat.le_refl _) _
  have R1 := hide r1
  have G1 : Hid (Below w.heap.size w w1) := b1
  have VM := hide (dvalid_any r l hn0 hz w1 (hS.below b1))
  rw [hv] at VM
  have HU := hide (fun (wx : World) (hx : Below w.heap.size w wx) => hS.below hx)
  clear r1 b1 hv hS
  go_enter Tryz.func20, Tryz.ntmps20
  go_wp2_with (first | refine wpW_load_at 38 _ rfl (w.heap.size) (0) (by rfl) (by rfl) _ 138 _ (R1.out.at_ 0 (by omega) (fun i hi => by rw [Nat.zero_add])) Tryz.underlying38 rfl infoRc ?_ | fail)
  refine VM.out.mono ?_
  rintro e w2 ⟨rfl, hb⟩
  have R2 := hide (R1.out.below hb R1.out.lt)
  have G2 : Hid (Below w.heap.size w w2) := G1.out.trans (hb.mono G1.out.size)
  clear hb R1 G1 hW1 VM
  generalize hg1 : w.heap.size = g1 at R2 G2 HU ⊢
  have HG := hide hg1
  have HLT : Hid (g1 < w2.heap.size) := R2.out.lt
  have c0 : w2.cell? ⟨g1, 0, none⟩ = some (.int .i64 1) := by rw [R2.out.cell 0 (by omega), ← hk]; rfl
  have q3 := RowB.new w2 1 1 rfl
  obtain ⟨w3, hW3⟩ : ∃ z, w2.alloc (.cells #[.int .u8 1] 5) = z := ⟨_, rfl⟩
  rw [hW3] at q3
  clear hg1
  go_upto_region 4 with (first | rw [hW3] | refine Cu.wpList_conv rfl _ _ _ rfl .i64 .u8 1 1 (by rfl) (K8.out _) ?_ | fail)
  try rw [hW3]
  generalize hv3 : Value.slice (some ⟨w2.heap.size, 0, none⟩) 1 1 = v3 at q3 ⊢
  obtain ⟨Bn, hBn⟩ : ∃ z, w2.heap.size = z := ⟨_, rfl⟩
  rw [hBn] at q3 HLT
  have HGB : Hid (∀ wx, Below Bn w2 wx → Below g1 w wx) := fun wx hx => G2.out.trans (hx.mono (Nat.le_of_lt HLT.out))
  have RR : Hid (∀ wx, Below Bn w2 wx → Has wx g1 38 r.v 138) := fun wx hx => R2.out.below (hBn ▸ hx) R2.out.lt
  have Q3 := hide q3
  have c38 : w3.cell? ⟨g1, 38, none⟩ = some (.int .i64 r.idx) := (RR.out _ q3.low).cell 38 (by omega)
  obtain ⟨L3, hL3⟩ : ∃ z, ([1] : List UInt8) = z := ⟨_, rfl⟩
  rw [hL3] at Q3
  have E3 : Hid (L3 = [1]) := hL3.symm
  clear hW3 hv3 hBn G2 q3 c0 hL3 R2
  go_wp2_with (first | refine Cu.wpList_conv rfl _ _ _ rfl .i64 .u64 r.idx r.idx (by rfl) (KI.out _) ?_ | fail)
  refine (B8.out _).mono ?_
  rintro e w4 ⟨rfl, hb⟩
  have Q4 := hide (Q3.out.call hb)
  have c0 : w4.cell? ⟨g1, 0, none⟩ = some (.int .i64 1) := by rw [(RR.out _ Q4.out.low).cell 0 (by omega), ← hk]; rfl
  clear hb Q3 c38 B8
  go_upto_region 8 with fail
  clear c0
  have R4 := hide (RR.out _ Q4.out.low)
  have RW := hide (rwrite_any r.upd w4)
  go_wp2_with (first | refine wpW_load_at 36 _ rfl (g1) (1) (by rfl) (by rfl) _ 36 _ ((R4.out.at_ 1 (by omega) (fun i hi => r.v_upd i hi))) Tryz.underlying36 rfl infoU ?_ | fail)
  refine RW.out.mono ?_
  rintro e w5 ⟨rfl, hb⟩
  have Q5 := hide (Q4.out.call hb)
  clear hb Q4 R4 RW
  obtain ⟨SU, hSU⟩ : ∃ z, writeS r.upd = z := ⟨_, rfl⟩
  rw [hSU] at HW ⊢
  clear hSU
  have hln : L3.length + (SU.data.toList).length ≤ 140737488355328 := by have hl3 : L3.length = 1 := (by rw [E3.out]; rfl); have := HW.out.2.2; rw [HW.out.2.1]; omega
  go_upto_region 29 with (first | (at_builtin; refine Cu.wpList_append_src rfl _ _ _ rfl Bn _ L3 rfl Q5.out.row (.string SU) (SU.data.toList) rfl (Cu.src_text SU _) hln Q5.out.size ?_; intro ad6 n6 c6 w6 hB hM) | fail)
  generalize hv6 : Value.slice ad6 n6 c6 = v6 at hB hM ⊢
  obtain ⟨L6, hL6⟩ : ∃ z, L3 ++ SU.data.toList = z := ⟨_, rfl⟩
  rw [hL6] at hB
  have E6 := hide hL6.symm
  have Q6 := hide (Q5.out.app hB hM)
  clear hB hM hv6 hL6 Q5 hln
  have CV : Hid (∀ wx, wx = w6 → (convert 77 9 v6).run Tryz.prog wx = .ok (.string ⟨L6.toArray⟩) wx) := fun wx hx => by rw [hx]; exact Q6.out.row.conv
  have HEO : Hid ((⟨L6.toArray⟩ : ByteArray) = wrS r l) := by
    show _ = _
    rw [← HS.out.1, show L6 = bytesR r l by rw [E6.out, E3.out, HW.out.2.1]; unfold bytesR layR; rw [hk]; simp]
    rfl
  go_wp2_with (first | refine Cu.wpW_conv 77 9 _ rfl v6 (.string ⟨L6.toArray⟩) (by rfl) (by rfl) (CV.out _ rfl) ?_ | fail)
  go_ret2
  exact ⟨by rw [← HEO.out, HS.out.2]; rfl, by rw [HG.out]; exact HGB.out _ Q6.out.low⟩
end Go.Proofs.YtlohfoggcdaeiaaGreat
/-
  The document's Write of a record, kind 2 (printed by gen_r32.py).
-/
namespace Go.Proofs.YtlohfoggcdaeiaaGreat
open Go.RowKit S
set_option linter.unusedVariables false
set_option linter.unusedSimpArgs false
open Cu (nb be hl ofL CW Mw CR Mr RS takeS takeA hOf nil8 doneS Bytes Mv byteV)
set_option maxRecDepth 100000 in
set_option maxHeartbeats 40000000 in
theorem dwrite_2 (r : Rc) (l : List Upd) (hk : r.kind = 2) (hv : validR r l = true) (hn0 : l.length = r.upds.n) (hz : r.upds.n ≤ 140737488351232) (w : World) (hS : Upds w r.upds.ad l) : Calls Tryz.prog 20 #[.agg (tabv r.v 138)] w fun e w' => e = .returned (.tuple #[.string (wrS r l), .int .i64 (wrE r l)]) ∧ Below w.heap.size w w' := by
  have HS : Hid (ofL (bytesR r l) = wrS r l ∧ wrE r l = 0) := ⟨by unfold wrS; rw [if_pos hv], by unfold wrE; rw [if_pos hv]⟩
  have hix := ix_of hv (by omega)
  have hown := (validR_own hv).2
  have hc : cntB r.co = true ∧ cntB r.cp = true := by unfold ownV at hown; rw [hk] at hown; have h2 : (idxB r.idx && (cntB r.co && cntB r.cp)) = true := hown; simp only [Bool.and_eq_true] at h2; exact h2.2
  have hc1 := (cntB_iff _).1 hc.1
  have hc2 := (cntB_iff _).1 hc.2
  have KC : Hid (∀ w : World, (convert 3 79 (.int .i64 r.co)).run Tryz.prog w = .ok (.int .u64 r.co) w) := fun w => conv_u64 3 (by kernel_rfl) (by kernel_rfl) r.co (by omega) (by omega) w
  have BC := hide (fun w : World => Cu.refBytes r.co r.co.toNat 2 (by omega) 2 rfl (by omega) w)
  obtain ⟨SC, hSC⟩ : ∃ x, ofL (nb r.co.toNat 2) = x := ⟨_, rfl⟩
  rw [hSC] at BC
  have zC : Hid (SC.data.toList = nb r.co.toNat 2 ∧ SC.data.toList.length = 2) := by rw [← hSC, Cu.ofL_data]; exact ⟨rfl, by rw [Cu.nb_length]⟩
  clear hSC
  have KD : Hid (∀ w : World, (convert 3 79 (.int .i64 r.cp)).run Tryz.prog w = .ok (.int .u64 r.cp) w) := fun w => conv_u64 3 (by kernel_rfl) (by kernel_rfl) r.cp (by omega) (by omega) w
  have BD := hide (fun w : World => Cu.refBytes r.cp r.cp.toNat 2 (by omega) 2 rfl (by omega) w)
  obtain ⟨SD, hSD⟩ : ∃ x, ofL (nb r.cp.toNat 2) = x := ⟨_, rfl⟩
  rw [hSD] at BD
  have zD : Hid (SD.data.toList = nb r.cp.toNat 2 ∧ SD.data.toList.length = 2) := by rw [← hSD, Cu.ofL_data]; exact ⟨rfl, by rw [Cu.nb_length]⟩
  clear hSD
  clear hc hc1 hc2
  have K8 := hide (fun w : World => conv8 2 (by omega) (by omega) w)
  have KI : Hid (∀ w : World, (convert 2 79 (.int .i64 r.idx)).run Tryz.prog w = .ok (.int .u64 r.idx) w) := fun w => conv_u64 2 (by kernel_rfl) (by kernel_rfl) r.idx hix.1 (by omega) w
  have B8 := hide (fun w : World => Cu.refBytes r.idx r.idx.toNat 8 (by omega) 8 rfl (by omega) w)
  obtain ⟨S8, hS8⟩ : ∃ x, ofL (nb r.idx.toNat 8) = x := ⟨_, rfl⟩
  rw [hS8] at B8
  have z8 : Hid (S8.data.toList = nb r.idx.toNat 8 ∧ S8.data.toList.length = 8) := by rw [← hS8, Cu.ofL_data]; exact ⟨rfl, by rw [Cu.nb_length]⟩
  clear hS8 hix hown
  obtain ⟨w1, hW1⟩ : ∃ wX, w.alloc (.cells (tabv r.v 138) 38) = wX := ⟨_, rfl⟩
  have r1 : Has w1 w.heap.size 38 r.v 138 := by rw [← hW1]; exact Has.new w 38 r.v 138 _ rfl
  have b1 : Below w.heap.size w w1 := by rw [← hW1]; exact (Below.refl w.heap.size w).alloc (Nat.le_refl _) _
  have R1 := hide r1
  have G1 : Hid (Below w.heap.size w w1) := b1
  have VM := hide (dvalid_any r l hn0 hz w1 (hS.below b1))
  rw [hv] at VM
  have HU := hide (fun (wx : World) (hx : Below w.heap.size w wx) => hS.below hx)
  clear r1 b1 hv hS
  go_enter Tryz.func20, Tryz.ntmps20
  go_wp2_with (first | refine wpW_load_at 38 _ rfl (w.heap.size) (0) (by rfl) (by rfl) _ 138 _ (R1.out.at_ 0 (by omega) (fun i hi => by rw [Nat.zero_add])) Tryz.underlying38 rfl infoRc ?_ | fail)
  refine VM.out.mono ?_
  rintro e w2 ⟨rfl, hb⟩
  have R2 := hide (R1.out.below hb R1.out.lt)
  have G2 : Hid (Below w.heap.size w w2) := G1.out.trans (hb.mono G1.out.size)
  clear hb R1 G1 hW1 VM
  generalize hg1 : w.heap.size = g1 at R2 G2 HU ⊢
  have HG := hide hg1
  have HLT : Hid (g1 < w2.heap.size) := R2.out.lt
  have c0 : w2.cell? ⟨g1, 0, none⟩ = some (.int .i64 2) := by rw [R2.out.cell 0 (by omega), ← hk]; rfl
  have q3 := RowB.new w2 2 2 rfl
  obtain ⟨w3, hW3⟩ : ∃ z, w2.alloc (.cells #[.int .u8 2] 5) = z := ⟨_, rfl⟩
  rw [hW3] at q3
  clear hg1
  go_upto_region 4 with (first | rw [hW3] | refine Cu.wpList_conv rfl _ _ _ rfl .i64 .u8 2 2 (by rfl) (K8.out _) ?_ | fail)
  try rw [hW3]
  generalize hv3 : Value.slice (some ⟨w2.heap.size, 0, none⟩) 1 1 = v3 at q3 ⊢
  obtain ⟨Bn, hBn⟩ : ∃ z, w2.heap.size = z := ⟨_, rfl⟩
  rw [hBn] at q3 HLT
  have HGB : Hid (∀ wx, Below Bn w2 wx → Below g1 w wx) := fun wx hx => G2.out.trans (hx.mono (Nat.le_of_lt HLT.out))
  have RR : Hid (∀ wx, Below Bn w2 wx → Has wx g1 38 r.v 138) := fun wx hx => R2.out.below (hBn ▸ hx) R2.out.lt
  have Q3 := hide q3
  have c38 : w3.cell? ⟨g1, 38, none⟩ = some (.int .i64 r.idx) := (RR.out _ q3.low).cell 38 (by omega)
  obtain ⟨L3, hL3⟩ : ∃ z, ([2] : List UInt8) = z := ⟨_, rfl⟩
  rw [hL3] at Q3
  have E3 : Hid (L3 = [2]) := hL3.symm
  clear hW3 hv3 hBn G2 q3 c0 hL3 R2
  go_wp2_with (first | refine Cu.wpList_conv rfl _ _ _ rfl .i64 .u64 r.idx r.idx (by rfl) (KI.out _) ?_ | fail)
  refine (B8.out _).mono ?_
  rintro e w4 ⟨rfl, hb⟩
  have Q4 := hide (Q3.out.call hb)
  have c0 : w4.cell? ⟨g1, 0, none⟩ = some (.int .i64 2) := by rw [(RR.out _ Q4.out.low).cell 0 (by omega), ← hk]; rfl
  clear hb Q3 c38 B8
  have hln : L3.length + (S8.data.toList).length ≤ 140737488355328 := by rw [z8.out.2, E3.out]; simp
  go_upto_region 12 with (first | (at_builtin; refine Cu.wpList_append_src rfl _ _ _ rfl Bn _ L3 rfl Q4.out.row (.string S8) (S8.data.toList) rfl (Cu.src_text S8 _) hln Q4.out.size ?_; intro ad5 n5 c5 w5 hB hM) | fail)
  generalize hv5 : Value.slice ad5 n5 c5 = v5 at hB hM ⊢
  obtain ⟨L5, hL5⟩ : ∃ z, L3 ++ S8.data.toList = z := ⟨_, rfl⟩
  rw [hL5] at hB
  have E5 := hide hL5.symm
  have Q5 := hide (Q4.out.app hB hM)
  clear hB hM hv5 hL5 Q4 hln
  clear c0
  have cX : w5.cell? ⟨g1, 39, none⟩ = some (.int .i64 r.co) := (RR.out _ Q5.out.low).cell 39 (by omega)
  go_wp2_with (first | refine Cu.wpList_conv rfl _ _ _ rfl .i64 .u64 r.co r.co (by rfl) (KC.out _) ?_ | fail)
  refine (BC.out _).mono ?_
  rintro e w6 ⟨rfl, hb⟩
  have Q6 := hide (Q5.out.call hb)
  clear hb Q5 cX KC BC
  have hln : L5.length + (SC.data.toList).length ≤ 140737488355328 := by have hl5 : L5.length = 9 := (by rw [E5.out, E3.out, List.length_append, z8.out.2]; rfl); rw [zC.out.2]; omega
  go_upto_region 13 with (first | (at_builtin; refine Cu.wpList_append_src rfl _ _ _ rfl Bn _ L5 rfl Q6.out.row (.string SC) (SC.data.toList) rfl (Cu.src_text SC _) hln Q6.out.size ?_; intro ad7 n7 c7 w7 hB hM) | fail)
  generalize hv7 : Value.slice ad7 n7 c7 = v7 at hB hM ⊢
  obtain ⟨L7, hL7⟩ : ∃ z, L5 ++ SC.data.toList = z := ⟨_, rfl⟩
  rw [hL7] at hB
  have E7 := hide hL7.symm
  have Q7 := hide (Q6.out.app hB hM)
  clear hB hM hv7 hL7 Q6 hln
  have cX : w7.cell? ⟨g1, 40, none⟩ = some (.int .i64 r.cp) := (RR.out _ Q7.out.low).cell 40 (by omega)
  go_wp2_with (first | refine Cu.wpList_conv rfl _ _ _ rfl .i64 .u64 r.cp r.cp (by rfl) (KD.out _) ?_ | fail)
  refine (BD.out _).mono ?_
  rintro e w8 ⟨rfl, hb⟩
  have Q8 := hide (Q7.out.call hb)
  clear hb Q7 cX KD BD
  have hln : L7.length + (SD.data.toList).length ≤ 140737488355328 := by have hl5 : L5.length = 9 := (by rw [E5.out, E3.out, List.length_append, z8.out.2]; rfl); have hl7 : L7.length = 11 := (by rw [E7.out, List.length_append, hl5, zC.out.2]); rw [zD.out.2]; omega
  go_upto_region 29 with (first | (at_builtin; refine Cu.wpList_append_src rfl _ _ _ rfl Bn _ L7 rfl Q8.out.row (.string SD) (SD.data.toList) rfl (Cu.src_text SD _) hln Q8.out.size ?_; intro ad9 n9 c9 w9 hB hM) | fail)
  generalize hv9 : Value.slice ad9 n9 c9 = v9 at hB hM ⊢
  obtain ⟨L9, hL9⟩ : ∃ z, L7 ++ SD.data.toList = z := ⟨_, rfl⟩
  rw [hL9] at hB
  have E9 := hide hL9.symm
  have Q9 := hide (Q8.out.app hB hM)
  clear hB hM hv9 hL9 Q8 hln
  have CV : Hid (∀ wx, wx = w9 → (convert 77 9 v9).run Tryz.prog wx = .ok (.string ⟨L9.toArray⟩) wx) := fun wx hx => by rw [hx]; exact Q9.out.row.conv
  have HEO : Hid ((⟨L9.toArray⟩ : ByteArray) = wrS r l) := by
    show _ = _
    rw [← HS.out.1, show L9 = bytesR r l by rw [E9.out, E7.out, E5.out, E3.out, z8.out.1, zC.out.1, zD.out.1]; unfold bytesR layR; rw [hk]; simp]
    rfl
  go_wp2_with (first | refine Cu.wpW_conv 77 9 _ rfl v9 (.string ⟨L9.toArray⟩) (by rfl) (by rfl) (CV.out _ rfl) ?_ | fail)
  go_ret2
  exact ⟨by rw [← HEO.out, HS.out.2]; rfl, by rw [HG.out]; exact HGB.out _ Q9.out.low⟩
end Go.Proofs.YtlohfoggcdaeiaaGreat
/-
  The document's Write of a record, kind 3 (printed by gen_r32.py).
-/
namespace Go.Proofs.YtlohfoggcdaeiaaGreat
open Go.RowKit S
set_option linter.unusedVariables false
set_option linter.unusedSimpArgs false
open Cu (nb be hl ofL CW Mw CR Mr RS takeS takeA hOf nil8 doneS Bytes Mv byteV)
set_option maxRecDepth 100000 in
set_option maxHeartbeats 40000000 in
theorem dwrite_3 (r : Rc) (l : List Upd) (hk : r.kind = 3) (hv : validR r l = true) (hn0 : l.length = r.upds.n) (hz : r.upds.n ≤ 140737488351232) (w : World) (hS : Upds w r.upds.ad l) : Calls Tryz.prog 20 #[.agg (tabv r.v 138)] w fun e w' => e = .returned (.tuple #[.string (wrS r l), .int .i64 (wrE r l)]) ∧ Below w.heap.size w w' := by
  have HS : Hid (ofL (bytesR r l) = wrS r l ∧ wrE r l = 0) := ⟨by unfold wrS; rw [if_pos hv], by unfold wrE; rw [if_pos hv]⟩
  have hix := ix_of hv (by omega)
  have hown := (validR_own hv).2
  have hc : r.upds.n ≤ 512 ∧ l.all validB = true := by unfold ownV at hown; rw [hk] at hown; have h2 : (idxB r.idx && (decide (r.upds.n ≤ 512) && l.all validB)) = true := hown; simp only [Bool.and_eq_true, decide_eq_true_eq] at h2; exact h2.2
  have h512 := hc.1
  have HAL := hide hc.2
  have KC : Hid (∀ w : World, (convert 3 79 (.int .i64 (r.upds.n : Int))).run Tryz.prog w = .ok (.int .u64 (r.upds.n : Int)) w) := fun w => conv_u64 3 (by kernel_rfl) (by kernel_rfl) (r.upds.n : Int) (by omega) (by omega) w
  have BC := hide (fun w : World => Cu.refBytes (r.upds.n : Int) r.upds.n 2 (by omega) 2 rfl (by omega) w)
  obtain ⟨SC, hSC⟩ : ∃ x, ofL (nb r.upds.n 2) = x := ⟨_, rfl⟩
  rw [hSC] at BC
  have zC : Hid (SC.data.toList = nb r.upds.n 2 ∧ SC.data.toList.length = 2) := by rw [← hSC, Cu.ofL_data]; exact ⟨rfl, by rw [Cu.nb_length]⟩
  clear hSC
  clear hc
  have K8 := hide (fun w : World => conv8 3 (by omega) (by omega) w)
  have KI : Hid (∀ w : World, (convert 2 79 (.int .i64 r.idx)).run Tryz.prog w = .ok (.int .u64 r.idx) w) := fun w => conv_u64 2 (by kernel_rfl) (by kernel_rfl) r.idx hix.1 (by omega) w
  have B8 := hide (fun w : World => Cu.refBytes r.idx r.idx.toNat 8 (by omega) 8 rfl (by omega) w)
  obtain ⟨S8, hS8⟩ : ∃ x, ofL (nb r.idx.toNat 8) = x := ⟨_, rfl⟩
  rw [hS8] at B8
  have z8 : Hid (S8.data.toList = nb r.idx.toNat 8 ∧ S8.data.toList.length = 8) := by rw [← hS8, Cu.ofL_data]; exact ⟨rfl, by rw [Cu.nb_length]⟩
  clear hS8 hix hown
  obtain ⟨w1, hW1⟩ : ∃ wX, w.alloc (.cells (tabv r.v 138) 38) = wX := ⟨_, rfl⟩
  have r1 : Has w1 w.heap.size 38 r.v 138 := by rw [← hW1]; exact Has.new w 38 r.v 138 _ rfl
  have b1 : Below w.heap.size w w1 := by rw [← hW1]; exact (Below.refl w.heap.size w).alloc (Nat.le_refl _) _
  have R1 := hide r1
  have G1 : Hid (Below w.heap.size w w1) := b1
  have VM := hide (dvalid_any r l hn0 hz w1 (hS.below b1))
  rw [hv] at VM
  have HU := hide (fun (wx : World) (hx : Below w.heap.size w wx) => hS.below hx)
  clear r1 b1 hv hS
  go_enter Tryz.func20, Tryz.ntmps20
  go_wp2_with (first | refine wpW_load_at 38 _ rfl (w.heap.size) (0) (by rfl) (by rfl) _ 138 _ (R1.out.at_ 0 (by omega) (fun i hi => by rw [Nat.zero_add])) Tryz.underlying38 rfl infoRc ?_ | fail)
  refine VM.out.mono ?_
  rintro e w2 ⟨rfl, hb⟩
  have R2 := hide (R1.out.below hb R1.out.lt)
  have G2 : Hid (Below w.heap.size w w2) := G1.out.trans (hb.mono G1.out.size)
  clear hb R1 G1 hW1 VM
  generalize hg1 : w.heap.size = g1 at R2 G2 HU ⊢
  have HG := hide hg1
  have HLT : Hid (g1 < w2.heap.size) := R2.out.lt
  have c0 : w2.cell? ⟨g1, 0, none⟩ = some (.int .i64 3) := by rw [R2.out.cell 0 (by omega), ← hk]; rfl
  have q3 := RowB.new w2 3 3 rfl
  obtain ⟨w3, hW3⟩ : ∃ z, w2.alloc (.cells #[.int .u8 3] 5) = z := ⟨_, rfl⟩
  rw [hW3] at q3
  clear hg1
  go_upto_region 4 with (first | rw [hW3] | refine Cu.wpList_conv rfl _ _ _ rfl .i64 .u8 3 3 (by rfl) (K8.out _) ?_ | fail)
  try rw [hW3]
  generalize hv3 : Value.slice (some ⟨w2.heap.size, 0, none⟩) 1 1 = v3 at q3 ⊢
  obtain ⟨Bn, hBn⟩ : ∃ z, w2.heap.size = z := ⟨_, rfl⟩
  rw [hBn] at q3 HLT
  have HGB : Hid (∀ wx, Below Bn w2 wx → Below g1 w wx) := fun wx hx => G2.out.trans (hx.mono (Nat.le_of_lt HLT.out))
  have RR : Hid (∀ wx, Below Bn w2 wx → Has wx g1 38 r.v 138) := fun wx hx => R2.out.below (hBn ▸ hx) R2.out.lt
  have Q3 := hide q3
  have c38 : w3.cell? ⟨g1, 38, none⟩ = some (.int .i64 r.idx) := (RR.out _ q3.low).cell 38 (by omega)
  obtain ⟨L3, hL3⟩ : ∃ z, ([3] : List UInt8) = z := ⟨_, rfl⟩
  rw [hL3] at Q3
  have E3 : Hid (L3 = [3]) := hL3.symm
  clear hW3 hv3 hBn G2 q3 c0 hL3 R2
  go_wp2_with (first | refine Cu.wpList_conv rfl _ _ _ rfl .i64 .u64 r.idx r.idx (by rfl) (KI.out _) ?_ | fail)
  refine (B8.out _).mono ?_
  rintro e w4 ⟨rfl, hb⟩
  have Q4 := hide (Q3.out.call hb)
  have c0 : w4.cell? ⟨g1, 0, none⟩ = some (.int .i64 3) := by rw [(RR.out _ Q4.out.low).cell 0 (by omega), ← hk]; rfl
  clear hb Q3 c38 B8
  have hln : L3.length + (S8.data.toList).length ≤ 140737488355328 := by rw [z8.out.2, E3.out]; simp
  go_upto_region 16 with (first | (at_builtin; refine Cu.wpList_append_src rfl _ _ _ rfl Bn _ L3 rfl Q4.out.row (.string S8) (S8.data.toList) rfl (Cu.src_text S8 _) hln Q4.out.size ?_; intro ad5 n5 c5 w5 hB hM) | fail)
  generalize hv5 : Value.slice ad5 n5 c5 = v5 at hB hM ⊢
  obtain ⟨L5, hL5⟩ : ∃ z, L3 ++ S8.data.toList = z := ⟨_, rfl⟩
  rw [hL5] at hB
  have E5 := hide hL5.symm
  have Q5 := hide (Q4.out.app hB hM)
  clear hB hM hv5 hL5 Q4 hln
  clear c0
  have cX : w5.cell? ⟨g1, 37, none⟩ = some (.slice r.upds.ad r.upds.n r.upds.c) := (RR.out _ Q5.out.low).cell 37 (by omega)
  go_wp2_with (first | refine Cu.wpList_conv rfl _ _ _ rfl .i64 .u64 (r.upds.n : Int) (r.upds.n : Int) (by rfl) (KC.out _) ?_ | fail)
  refine (BC.out _).mono ?_
  rintro e w6 ⟨rfl, hb⟩
  have Q6 := hide (Q5.out.call hb)
  clear hb Q5 cX KC BC
  have hln : L5.length + (SC.data.toList).length ≤ 140737488355328 := by have hl5 : L5.length = 9 := (by rw [E5.out, E3.out, List.length_append, z8.out.2]; rfl); rw [zC.out.2]; omega
  go_upto_region 17 with (first | (at_builtin; refine Cu.wpList_append_src rfl _ _ _ rfl Bn _ L5 rfl Q6.out.row (.string SC) (SC.data.toList) rfl (Cu.src_text SC _) hln Q6.out.size ?_; intro ad7 n7 c7 w7 hB hM) | fail)
  generalize hv7 : Value.slice ad7 n7 c7 = v7 at hB hM ⊢
  obtain ⟨L7, hL7⟩ : ∃ z, L5 ++ SC.data.toList = z := ⟨_, rfl⟩
  rw [hL7] at hB
  have E7 := hide hL7.symm
  have Q7 := hide (Q6.out.app hB hM)
  clear hB hM hv7 hL7 Q6 hln
  have HL7 : Hid (L7.length = 11) := by
    show _ = _
    have hl5 : L5.length = 9 := by rw [E5.out, E3.out, List.length_append, z8.out.2]; rfl
    rw [E7.out, List.length_append, hl5, zC.out.2]
  have E7' : Hid (L7 = 3 :: (nb r.idx.toNat 8 ++ nb r.upds.n 2)) := by show _ = _; rw [E7.out, E5.out, E3.out, z8.out.1, zC.out.1]; simp
  clear E7 E5 E3 z8 zC
  go_wp2
  go_loopw [4, 8] (fun bx ix wr => ∃ (j : Nat) (Lr : List UInt8), j ≤ r.upds.n ∧ ix = .int .i64 (j : Int) ∧ Hid (Lr = L7 ++ bytesUs (l.take j)) ∧ Hid (RowB Bn w2 wr bx Lr)) (fun _ ix _ => r.upds.n - (intOf ix).toNat)
  case atStart => exact ⟨0, L7, Nat.zero_le _, rfl, (by show _ = _; simp [bytesUs]), Q7.out⟩
  case round =>
    obtain ⟨j, Lr, hj, rfl, ELr, Qr⟩ := hrel
    clear Q7
    have hlr : Hid (Lr.length ≤ 11 + 69 * 512) := by
      show _ ≤ _
      rw [ELr.out, List.length_append, HL7.out]
      have h1 := bytesUs_len (l := l.take j) (by rw [List.all_eq_true]; intro x hx; exact List.all_eq_true.1 HAL.out x (List.mem_of_mem_take hx))
      rw [List.length_take] at h1
      omega
    have cL : wr.cell? ⟨g1, 37, none⟩ = some (.slice r.upds.ad r.upds.n r.upds.c) := (RR.out _ Qr.out.low).cell 37 (by omega)
    by_cases hjn : j < r.upds.n
    · have hd : decide ((j : Int) < (r.upds.n : Int)) = true := decide_eq_true (by omega)
      have hd' : decide (j < r.upds.n) = true := decide_eq_true hjn
      obtain ⟨u, hu⟩ : ∃ u, l[j]? = some u := ⟨_, List.getElem?_eq_getElem (by omega)⟩
      obtain ⟨bb, oo, ha, hbb, hA⟩ := (HU.out _ (HGB.out _ Qr.out.low)).get j u hu
      have jlt : (j : Int) < (r.upds.n : Int) := by omega
      have j0 : (0 : Int) ≤ (j : Int) := by omega
      rw [ha] at cL
      have HA := hide hA
      have RW := hide (rwrite_any u wr)
      have huv : validB u = true := List.all_eq_true.1 HAL.out u (List.mem_of_getElem? hu)
      have HW : Hid ((writeS u).data.toList = bytesU u ∧ (bytesU u).length ≤ 69) := by
        have e : writeS u = ofL (bytesU u) := by unfold writeS; rw [if_pos huv]
        exact ⟨by rw [e, Cu.ofL_data], bytesU_69 huv⟩
      have HUJ := hide hu
      have HJ := hide hjn
      clear hA hu ha huv
      go_wp2_with (first | refine wpW_load_at 36 _ rfl (bb) (oo + j * 36) (by rfl) (by rfl) _ 36 _ (HA.out) Tryz.underlying36 rfl infoU ?_ | fail)
      refine RW.out.mono ?_
      rintro e w8 ⟨rfl, hb⟩
      have Q8 := hide (Qr.out.call hb)
      obtain ⟨SU, hSU⟩ : ∃ z, writeS u = z := ⟨_, rfl⟩
      rw [hSU] at HW ⊢
      clear hSU hb RW HA cL
      have hln : Lr.length + (SU.data.toList).length ≤ 140737488355328 := by have h1 := hlr.out; have h2 := HW.out.2; rw [HW.out.1]; omega
      go_upto_region 19 with (first | (at_builtin; refine Cu.wpList_append_src rfl _ _ _ rfl Bn _ Lr rfl Q8.out.row (.string SU) (SU.data.toList) rfl (Cu.src_text SU _) hln Q8.out.size ?_; intro ad9 n9 c9 w9 hB hM) | fail)
      generalize hv9 : Value.slice ad9 n9 c9 = v9 at hB hM ⊢
      obtain ⟨L9, hL9⟩ : ∃ z, Lr ++ SU.data.toList = z := ⟨_, rfl⟩
      rw [hL9] at hB
      have E9 := hide hL9.symm
      have Q9 := hide (Q8.out.app hB hM)
      clear hB hM hv9 hL9 Q8 hln
      have EN : Hid (L9 = L7 ++ bytesUs (l.take (j + 1))) := by show _ = _; rw [E9.out, ELr.out, bytesUs_next HUJ.out, HW.out.1, List.append_assoc]
      clear E9 ELr
      go_wp2
      go_roundw
      case rel => exact ⟨j + 1, _, by have := HJ.out; omega, by go_num, EN.out, Q9.out⟩
      case measure => have := HJ.out; simp [intOf]; omega
    · obtain rfl : r.upds.n = j := by omega
      have hd : decide ((r.upds.n : Int) < (r.upds.n : Int)) = false := decide_eq_false (by omega)
      have hd' : decide (r.upds.n < r.upds.n) = false := decide_eq_false (by omega)
      have EL : Hid (Lr = L7 ++ bytesUs l) := by show _ = _; rw [ELr.out, List.take_of_length_le (by omega)]
      go_upto_region 22 with fail
      clear hd hd' cL ELr hj hjn
      have hln : Lr.length + (hl r.sig).length ≤ 140737488355328 := by have h1 := hlr.out; rw [Cu.hl_length]; omega
      go_upto_region 29 with (first | (at_builtin; refine Cu.wpList_append_src rfl _ _ _ rfl Bn _ Lr rfl Qr.out.row (.slice (some ⟨g1, 41, none⟩) 32 32) (hl r.sig) rfl (src_part (RR.out _ Qr.out.low) (by omega) (fun j hj => r.v_sig j hj)) hln Qr.out.size ?_; intro ad9 n9 c9 w9 hB hM) | fail)
      generalize hv9 : Value.slice ad9 n9 c9 = v9 at hB hM ⊢
      obtain ⟨L9, hL9⟩ : ∃ z, Lr ++ hl r.sig = z := ⟨_, rfl⟩
      rw [hL9] at hB
      have E9 := hide hL9.symm
      have Q9 := hide (Qr.out.app hB hM)
      clear hB hM hv9 hL9 Qr hln
      have CV : Hid (∀ wx, wx = w9 → (convert 77 9 v9).run Tryz.prog wx = .ok (.string ⟨L9.toArray⟩) wx) := fun wx hx => by rw [hx]; exact Q9.out.row.conv
      have HEO : Hid ((⟨L9.toArray⟩ : ByteArray) = wrS r l) := by
        show _ = _
        rw [← HS.out.1, show L9 = bytesR r l by rw [E9.out, EL.out, E7'.out]; unfold bytesR layR; rw [hk]; simp]
        rfl
      go_wp2_with (first | refine Cu.wpW_conv 77 9 _ rfl v9 (.string ⟨L9.toArray⟩) (by rfl) (by rfl) (CV.out _ rfl) ?_ | fail)
      go_ret2
      exact ⟨by rw [← HEO.out, HS.out.2]; rfl, by rw [HG.out]; exact HGB.out _ Q9.out.low⟩
end Go.Proofs.YtlohfoggcdaeiaaGreat
