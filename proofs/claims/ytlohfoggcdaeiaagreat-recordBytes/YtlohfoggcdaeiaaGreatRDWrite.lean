import Derived.Test.YtlohfoggcdaeiaaGreatRDW3
import Derived.Test.YtlohfoggcdaeiaaGreatRRdB
/-
  The document's Write of a record, kind 4 (printed by gen_r32.py).
-/
namespace Go.Proofs.YtlohfoggcdaeiaaGreat
open Go.RowKit S
set_option linter.unusedVariables false
set_option linter.unusedSimpArgs false
open Cu (nb be hl ofL CW Mw CR Mr RS takeS takeA hOf nil8 doneS Bytes Mv byteV)
set_option maxRecDepth 100000 in
set_option maxHeartbeats 40000000 in
theorem dwrite_4 (r : Rc) (l : List Upd) (hk : r.kind = 4) (hv : validR r l = true) (hn0 : l.length = r.upds.n) (hz : r.upds.n ≤ 140737488351232) (w : World) (hS : Upds w r.upds.ad l) : Calls Tryz.prog 20 #[.agg (tabv r.v 138)] w fun e w' => e = .returned (.tuple #[.string (wrS r l), .int .i64 (wrE r l)]) ∧ Below w.heap.size w w' := by
  have HS : Hid (ofL (bytesR r l) = wrS r l ∧ wrE r l = 0) := ⟨by unfold wrS; rw [if_pos hv], by unfold wrE; rw [if_pos hv]⟩
  have hix := ix_of hv (by omega)
  have hown := (validR_own hv).2
  have K8 := hide (fun w : World => conv8 4 (by omega) (by omega) w)
  have KI : Hid (∀ w : World, (convert 2 79 (.int .i64 r.idx)).run Tryz.prog w = .ok (.int .u64 r.idx) w) := fun w => conv_u64 2 (by kernel_rfl) (by kernel_rfl) r.idx hix.1 (by omega) w
  have B8 := hide (fun w : World => Cu.refBytes r.idx r.idx.toNat 8 (by omega) 8 rfl (by omega) w)
  obtain ⟨S8, hS8⟩ : ∃ x, ofL (nb r.idx.toNat 8) = x := ⟨_, rfl⟩
  rw [hS8] at B8
  have z8 : Hid (S8.data.toList = nb r.idx.toNat 8 ∧ S8.data.toList.length = 8) := by rw [← hS8, Cu.ofL_data]; exact ⟨rfl, by rw [Cu.nb_length]⟩
  clear hS8 hix hown
  obtain ⟨w1, hW1⟩ : ∃ wX, w.alloc (.cells (tabv r.v 138) 38) = wX := ⟨_, rfl⟩
  have r1 : Has w1 w.heap.size 38 r.v 138 := by rw [← hW1]; exact Has.new w 38 r.v 138 _ rfl
  have b1 : Below w.heap.size w w1 := by rw [← hW1]; exact (Below.refl w.heap.size w).alloc (Nat.le_refl _) _
  have R1 := hide r1
  have G1 : Hid (Below w.heap.size w w1) := b1
  have VM := hide (dvalid_any r l hn0 hz w1 (hS.below b1))
  rw [hv] at VM
  have HU := hide (fun (wx : World) (hx : Below w.heap.size w wx) => hS.below hx)
  clear r1 b1 hv hS
  go_enter Tryz.func20, Tryz.ntmps20
  go_wp2_with (first | refine wpW_load_at 38 _ rfl (w.heap.size) (0) (by rfl) (by rfl) _ 138 _ (R1.out.at_ 0 (by omega) (fun i hi => by rw [Nat.zero_add])) Tryz.underlying38 rfl infoRc ?_ | fail)
  refine VM.out.mono ?_
  rintro e w2 ⟨rfl, hb⟩
  have R2 := hide (R1.out.below hb R1.out.lt)
  have G2 : Hid (Below w.heap.size w w2) := G1.out.trans (hb.mono G1.out.size)
  clear hb R1 G1 hW1 VM
  generalize hg1 : w.heap.size = g1 at R2 G2 HU ⊢
  have HG := hide hg1
  have HLT : Hid (g1 < w2.heap.size) := R2.out.lt
  have c0 : w2.cell? ⟨g1, 0, none⟩ = some (.int .i64 4) := by rw [R2.out.cell 0 (by omega), ← hk]; rfl
  have q3 := RowB.new w2 4 4 rfl
  obtain ⟨w3, hW3⟩ : ∃ z, w2.alloc (.cells #[.int .u8 4] 5) = z := ⟨_, rfl⟩
  rw [hW3] at q3
  clear hg1
  go_upto_region 4 with (first | rw [hW3] | refine Cu.wpList_conv rfl _ _ _ rfl .i64 .u8 4 4 (by rfl) (K8.out _) ?_ | fail)
  try rw [hW3]
  generalize hv3 : Value.slice (some ⟨w2.heap.size, 0, none⟩) 1 1 = v3 at q3 ⊢
  obtain ⟨Bn, hBn⟩ : ∃ z, w2.heap.size = z := ⟨_, rfl⟩
  rw [hBn] at q3 HLT
  have HGB : Hid (∀ wx, Below Bn w2 wx → Below g1 w wx) := fun wx hx => G2.out.trans (hx.mono (Nat.le_of_lt HLT.out))
  have RR : Hid (∀ wx, Below Bn w2 wx → Has wx g1 38 r.v 138) := fun wx hx => R2.out.below (hBn ▸ hx) R2.out.lt
  have Q3 := hide q3
  have c38 : w3.cell? ⟨g1, 38, none⟩ = some (.int .i64 r.idx) := (RR.out _ q3.low).cell 38 (by omega)
  obtain ⟨L3, hL3⟩ : ∃ z, ([4] : List UInt8) = z := ⟨_, rfl⟩
  rw [hL3] at Q3
  have E3 : Hid (L3 = [4]) := hL3.symm
  clear hW3 hv3 hBn G2 q3 c0 hL3 R2
  go_wp2_with (first | refine Cu.wpList_conv rfl _ _ _ rfl .i64 .u64 r.idx r.idx (by rfl) (KI.out _) ?_ | fail)
  refine (B8.out _).mono ?_
  rintro e w4 ⟨rfl, hb⟩
  have Q4 := hide (Q3.out.call hb)
  have c0 : w4.cell? ⟨g1, 0, none⟩ = some (.int .i64 4) := by rw [(RR.out _ Q4.out.low).cell 0 (by omega), ← hk]; rfl
  clear hb Q3 c38 B8
  have hln : L3.length + (S8.data.toList).length ≤ 140737488355328 := by rw [z8.out.2, E3.out]; simp
  go_upto_region 25 with (first | (at_builtin; refine Cu.wpList_append_src rfl _ _ _ rfl Bn _ L3 rfl Q4.out.row (.string S8) (S8.data.toList) rfl (Cu.src_text S8 _) hln Q4.out.size ?_; intro ad5 n5 c5 w5 hB hM) | fail)
  generalize hv5 : Value.slice ad5 n5 c5 = v5 at hB hM ⊢
  obtain ⟨L5, hL5⟩ : ∃ z, L3 ++ S8.data.toList = z := ⟨_, rfl⟩
  rw [hL5] at hB
  have E5 := hide hL5.symm
  have Q5 := hide (Q4.out.app hB hM)
  clear hB hM hv5 hL5 Q4 hln
  clear c0
  have hln : L5.length + (hl r.sec).length ≤ 140737488355328 := by have hl5 : L5.length = 9 := (by rw [E5.out, E3.out, List.length_append, z8.out.2]; rfl); rw [Cu.hl_length]; omega
  go_upto_region 26 with (first | (at_builtin; refine Cu.wpList_append_src rfl _ _ _ rfl Bn _ L5 rfl Q5.out.row (.slice (some ⟨g1, 73, none⟩) 32 32) (hl r.sec) rfl (src_part (RR.out _ Q5.out.low) (by omega) (fun j hj => r.v_sec j hj)) hln Q5.out.size ?_; intro ad6 n6 c6 w6 hB hM) | fail)
  generalize hv6 : Value.slice ad6 n6 c6 = v6 at hB hM ⊢
  obtain ⟨L6, hL6⟩ : ∃ z, L5 ++ hl r.sec = z := ⟨_, rfl⟩
  rw [hL6] at hB
  have E6 := hide hL6.symm
  have Q6 := hide (Q5.out.app hB hM)
  clear hB hM hv6 hL6 Q5 hln
  have hln : L6.length + (hl r.pt).length ≤ 140737488355328 := by have hl5 : L5.length = 9 := (by rw [E5.out, E3.out, List.length_append, z8.out.2]; rfl); have hl6 : L6.length = 41 := (by rw [E6.out, List.length_append, hl5, Cu.hl_length]); rw [Cu.hl_length]; omega
  go_upto_region 29 with (first | (at_builtin; refine Cu.wpList_append_src rfl _ _ _ rfl Bn _ L6 rfl Q6.out.row (.slice (some ⟨g1, 105, none⟩) 32 32) (hl r.pt) rfl (src_part (RR.out _ Q6.out.low) (by omega) (fun j hj => r.v_pt j hj)) hln Q6.out.size ?_; intro ad7 n7 c7 w7 hB hM) | fail)
  generalize hv7 : Value.slice ad7 n7 c7 = v7 at hB hM ⊢
  obtain ⟨L7, hL7⟩ : ∃ z, L6 ++ hl r.pt = z := ⟨_, rfl⟩
  rw [hL7] at hB
  have E7 := hide hL7.symm
  have Q7 := hide (Q6.out.app hB hM)
  clear hB hM hv7 hL7 Q6 hln
  have CV : Hid (∀ wx, wx = w7 → (convert 77 9 v7).run Tryz.prog wx = .ok (.string ⟨L7.toArray⟩) wx) := fun wx hx => by rw [hx]; exact Q7.out.row.conv
  have HEO : Hid ((⟨L7.toArray⟩ : ByteArray) = wrS r l) := by
    show _ = _
    rw [← HS.out.1, show L7 = bytesR r l by rw [E7.out, E6.out, E5.out, E3.out, z8.out.1]; unfold bytesR layR; rw [hk]; simp]
    rfl
  go_wp2_with (first | refine Cu.wpW_conv 77 9 _ rfl v7 (.string ⟨L7.toArray⟩) (by rfl) (by rfl) (CV.out _ rfl) ?_ | fail)
  go_ret2
  exact ⟨by rw [← HEO.out, HS.out.2]; rfl, by rw [HG.out]; exact HGB.out _ Q7.out.low⟩
end Go.Proofs.YtlohfoggcdaeiaaGreat
/-
  The document's Write of a record, kind 5 (printed by gen_r32.py).
-/
namespace Go.Proofs.YtlohfoggcdaeiaaGreat
open Go.RowKit S
set_option linter.unusedVariables false
set_option linter.unusedSimpArgs false
open Cu (nb be hl ofL CW Mw CR Mr RS takeS takeA hOf nil8 doneS Bytes Mv byteV)
set_option maxRecDepth 100000 in
set_option maxHeartbeats 40000000 in
theorem dwrite_5 (r : Rc) (l : List Upd) (hk : r.kind = 5) (hv : validR r l = true) (hn0 : l.length = r.upds.n) (hz : r.upds.n ≤ 140737488351232) (w : World) (hS : Upds w r.upds.ad l) : Calls Tryz.prog 20 #[.agg (tabv r.v 138)] w fun e w' => e = .returned (.tuple #[.string (wrS r l), .int .i64 (wrE r l)]) ∧ Below w.heap.size w w' := by
  have HS : Hid (ofL (bytesR r l) = wrS r l ∧ wrE r l = 0) := ⟨by unfold wrS; rw [if_pos hv], by unfold wrE; rw [if_pos hv]⟩
  have hix := ix_of hv (by omega)
  have hown := (validR_own hv).2
  have hc := (codB_iff _).1 (show codB r.code = true by unfold ownV at hown; rw [hk] at hown; exact hown)
  have KC : Hid (∀ w : World, (convert 3 79 (.int .i64 r.code)).run Tryz.prog w = .ok (.int .u64 r.code) w) := fun w => conv_u64 3 (by kernel_rfl) (by kernel_rfl) r.code (by omega) (by omega) w
  have BC := hide (fun w : World => Cu.refBytes r.code r.code.toNat 2 (by omega) 2 rfl (by omega) w)
  obtain ⟨SC, hSC⟩ : ∃ x, ofL (nb r.code.toNat 2) = x := ⟨_, rfl⟩
  rw [hSC] at BC
  have zC : Hid (SC.data.toList = nb r.code.toNat 2 ∧ SC.data.toList.length = 2) := by rw [← hSC, Cu.ofL_data]; exact ⟨rfl, by rw [Cu.nb_length]⟩
  clear hSC
  clear hc
  have K8 := hide (fun w : World => conv8 5 (by omega) (by omega) w)
  have KI : Hid (∀ w : World, (convert 2 79 (.int .i64 r.idx)).run Tryz.prog w = .ok (.int .u64 r.idx) w) := fun w => conv_u64 2 (by kernel_rfl) (by kernel_rfl) r.idx hix.1 (by omega) w
  have B8 := hide (fun w : World => Cu.refBytes r.idx r.idx.toNat 8 (by omega) 8 rfl (by omega) w)
  obtain ⟨S8, hS8⟩ : ∃ x, ofL (nb r.idx.toNat 8) = x := ⟨_, rfl⟩
  rw [hS8] at B8
  have z8 : Hid (S8.data.toList = nb r.idx.toNat 8 ∧ S8.data.toList.length = 8) := by rw [← hS8, Cu.ofL_data]; exact ⟨rfl, by rw [Cu.nb_length]⟩
  clear hS8 hix hown
  obtain ⟨w1, hW1⟩ : ∃ wX, w.alloc (.cells (tabv r.v 138) 38) = wX := ⟨_, rfl⟩
  have r1 : Has w1 w.heap.size 38 r.v 138 := by rw [← hW1]; exact Has.new w 38 r.v 138 _ rfl
  have b1 : Below w.heap.size w w1 := by rw [← hW1]; exact (Below.refl w.heap.size w).alloc (Nat.le_refl _) _
  have R1 := hide r1
  have G1 : Hid (Below w.heap.size w w1) := b1
  have VM := hide (dvalid_any r l hn0 hz w1 (hS.below b1))
  rw [hv] at VM
  have HU := hide (fun (wx : World) (hx : Below w.heap.size w wx) => hS.below hx)
  clear r1 b1 hv hS
  go_enter Tryz.func20, Tryz.ntmps20
  go_wp2_with (first | refine wpW_load_at 38 _ rfl (w.heap.size) (0) (by rfl) (by rfl) _ 138 _ (R1.out.at_ 0 (by omega) (fun i hi => by rw [Nat.zero_add])) Tryz.underlying38 rfl infoRc ?_ | fail)
  refine VM.out.mono ?_
  rintro e w2 ⟨rfl, hb⟩
  have R2 := hide (R1.out.below hb R1.out.lt)
  have G2 : Hid (Below w.heap.size w w2) := G1.out.trans (hb.mono G1.out.size)
  clear hb R1 G1 hW1 VM
  generalize hg1 : w.heap.size = g1 at R2 G2 HU ⊢
  have HG := hide hg1
  have HLT : Hid (g1 < w2.heap.size) := R2.out.lt
  have c0 : w2.cell? ⟨g1, 0, none⟩ = some (.int .i64 5) := by rw [R2.out.cell 0 (by omega), ← hk]; rfl
  have q3 := RowB.new w2 5 5 rfl
  obtain ⟨w3, hW3⟩ : ∃ z, w2.alloc (.cells #[.int .u8 5] 5) = z := ⟨_, rfl⟩
  rw [hW3] at q3
  clear hg1
  go_upto_region 4 with (first | rw [hW3] | refine Cu.wpList_conv rfl _ _ _ rfl .i64 .u8 5 5 (by rfl) (K8.out _) ?_ | fail)
  try rw [hW3]
  generalize hv3 : Value.slice (some ⟨w2.heap.size, 0, none⟩) 1 1 = v3 at q3 ⊢
  obtain ⟨Bn, hBn⟩ : ∃ z, w2.heap.size = z := ⟨_, rfl⟩
  rw [hBn] at q3 HLT
  have HGB : Hid (∀ wx, Below Bn w2 wx → Below g1 w wx) := fun wx hx => G2.out.trans (hx.mono (Nat.le_of_lt HLT.out))
  have RR : Hid (∀ wx, Below Bn w2 wx → Has wx g1 38 r.v 138) := fun wx hx => R2.out.below (hBn ▸ hx) R2.out.lt
  have Q3 := hide q3
  have c38 : w3.cell? ⟨g1, 38, none⟩ = some (.int .i64 r.idx) := (RR.out _ q3.low).cell 38 (by omega)
  obtain ⟨L3, hL3⟩ : ∃ z, ([5] : List UInt8) = z := ⟨_, rfl⟩
  rw [hL3] at Q3
  have E3 : Hid (L3 = [5]) := hL3.symm
  clear hW3 hv3 hBn G2 q3 c0 hL3 R2
  go_wp2_with (first | refine Cu.wpList_conv rfl _ _ _ rfl .i64 .u64 r.idx r.idx (by rfl) (KI.out _) ?_ | fail)
  refine (B8.out _).mono ?_
  rintro e w4 ⟨rfl, hb⟩
  have Q4 := hide (Q3.out.call hb)
  have c0 : w4.cell? ⟨g1, 0, none⟩ = some (.int .i64 5) := by rw [(RR.out _ Q4.out.low).cell 0 (by omega), ← hk]; rfl
  clear hb Q3 c38 B8
  go_upto_region 28 with fail
  clear c0
  have cX : w4.cell? ⟨g1, 137, none⟩ = some (.int .i64 r.code) := (RR.out _ Q4.out.low).cell 137 (by omega)
  go_wp2_with (first | refine Cu.wpList_conv rfl _ _ _ rfl .i64 .u64 r.code r.code (by rfl) (KC.out _) ?_ | fail)
  refine (BC.out _).mono ?_
  rintro e w5 ⟨rfl, hb⟩
  have Q5 := hide (Q4.out.call hb)
  clear hb Q4 cX KC BC
  have hln : L3.length + (SC.data.toList).length ≤ 140737488355328 := by have hl3 : L3.length = 1 := (by rw [E3.out]; rfl); rw [zC.out.2]; omega
  go_upto_region 29 with (first | (at_builtin; refine Cu.wpList_append_src rfl _ _ _ rfl Bn _ L3 rfl Q5.out.row (.string SC) (SC.data.toList) rfl (Cu.src_text SC _) hln Q5.out.size ?_; intro ad6 n6 c6 w6 hB hM) | fail)
  generalize hv6 : Value.slice ad6 n6 c6 = v6 at hB hM ⊢
  obtain ⟨L6, hL6⟩ : ∃ z, L3 ++ SC.data.toList = z := ⟨_, rfl⟩
  rw [hL6] at hB
  have E6 := hide hL6.symm
  have Q6 := hide (Q5.out.app hB hM)
  clear hB hM hv6 hL6 Q5 hln
  have CV : Hid (∀ wx, wx = w6 → (convert 77 9 v6).run Tryz.prog wx = .ok (.string ⟨L6.toArray⟩) wx) := fun wx hx => by rw [hx]; exact Q6.out.row.conv
  have HEO : Hid ((⟨L6.toArray⟩ : ByteArray) = wrS r l) := by
    show _ = _
    rw [← HS.out.1, show L6 = bytesR r l by rw [E6.out, E3.out, zC.out.1]; unfold bytesR layR; rw [hk]; simp]
    rfl
  go_wp2_with (first | refine Cu.wpW_conv 77 9 _ rfl v6 (.string ⟨L6.toArray⟩) (by rfl) (by rfl) (CV.out _ rfl) ?_ | fail)
  go_ret2
  exact ⟨by rw [← HEO.out, HS.out.2]; rfl, by rw [HG.out]; exact HGB.out _ Q6.out.low⟩
end Go.Proofs.YtlohfoggcdaeiaaGreat
/-
  The document's Write of a record, kind 6 (printed by gen_r32.py).
-/
namespace Go.Proofs.YtlohfoggcdaeiaaGreat
open Go.RowKit S
set_option linter.unusedVariables false
set_option linter.unusedSimpArgs false
open Cu (nb be hl ofL CW Mw CR Mr RS takeS takeA hOf nil8 doneS Bytes Mv byteV)
set_option maxRecDepth 100000 in
set_option maxHeartbeats 40000000 in
theorem dwrite_6 (r : Rc) (l : List Upd) (hk : r.kind = 6) (hv : validR r l = true) (hn0 : l.length = r.upds.n) (hz : r.upds.n ≤ 140737488351232) (w : World) (hS : Upds w r.upds.ad l) : Calls Tryz.prog 20 #[.agg (tabv r.v 138)] w fun e w' => e = .returned (.tuple #[.string (wrS r l), .int .i64 (wrE r l)]) ∧ Below w.heap.size w w' := by
  have HS : Hid (ofL (bytesR r l) = wrS r l ∧ wrE r l = 0) := ⟨by unfold wrS; rw [if_pos hv], by unfold wrE; rw [if_pos hv]⟩
  have hix := ix_of hv (by omega)
  have hown := (validR_own hv).2
  have K8 := hide (fun w : World => conv8 6 (by omega) (by omega) w)
  have KI : Hid (∀ w : World, (convert 2 79 (.int .i64 r.idx)).run Tryz.prog w = .ok (.int .u64 r.idx) w) := fun w => conv_u64 2 (by kernel_rfl) (by kernel_rfl) r.idx hix.1 (by omega) w
  have B8 := hide (fun w : World => Cu.refBytes r.idx r.idx.toNat 8 (by omega) 8 rfl (by omega) w)
  obtain ⟨S8, hS8⟩ : ∃ x, ofL (nb r.idx.toNat 8) = x := ⟨_, rfl⟩
  rw [hS8] at B8
  have z8 : Hid (S8.data.toList = nb r.idx.toNat 8 ∧ S8.data.toList.length = 8) := by rw [← hS8, Cu.ofL_data]; exact ⟨rfl, by rw [Cu.nb_length]⟩
  clear hS8 hix hown
  obtain ⟨w1, hW1⟩ : ∃ wX, w.alloc (.cells (tabv r.v 138) 38) = wX := ⟨_, rfl⟩
  have r1 : Has w1 w.heap.size 38 r.v 138 := by rw [← hW1]; exact Has.new w 38 r.v 138 _ rfl
  have b1 : Below w.heap.size w w1 := by rw [← hW1]; exact (Below.refl w.heap.size w).alloc (Nat.le_refl _) _
  have R1 := hide r1
  have G1 : Hid (Below w.heap.size w w1) := b1
  have VM := hide (dvalid_any r l hn0 hz w1 (hS.below b1))
  rw [hv] at VM
  have HU := hide (fun (wx : World) (hx : Below w.heap.size w wx) => hS.below hx)
  clear r1 b1 hv hS
  go_enter Tryz.func20, Tryz.ntmps20
  go_wp2_with (first | refine wpW_load_at 38 _ rfl (w.heap.size) (0) (by rfl) (by rfl) _ 138 _ (R1.out.at_ 0 (by omega) (fun i hi => by rw [Nat.zero_add])) Tryz.underlying38 rfl infoRc ?_ | fail)
  refine VM.out.mono ?_
  rintro e w2 ⟨rfl, hb⟩
  have R2 := hide (R1.out.below hb R1.out.lt)
  have G2 : Hid (Below w.heap.size w w2) := G1.out.trans (hb.mono G1.out.size)
  clear hb R1 G1 hW1 VM
  generalize hg1 : w.heap.size = g1 at R2 G2 HU ⊢
  have HG := hide hg1
  have HLT : Hid (g1 < w2.heap.size) := R2.out.lt
  have c0 : w2.cell? ⟨g1, 0, none⟩ = some (.int .i64 6) := by rw [R2.out.cell 0 (by omega), ← hk]; rfl
  have q3 := RowB.new w2 6 6 rfl
  obtain ⟨w3, hW3⟩ : ∃ z, w2.alloc (.cells #[.int .u8 6] 5) = z := ⟨_, rfl⟩
  rw [hW3] at q3
  clear hg1
  go_upto_region 4 with (first | rw [hW3] | refine Cu.wpList_conv rfl _ _ _ rfl .i64 .u8 6 6 (by rfl) (K8.out _) ?_ | fail)
  try rw [hW3]
  generalize hv3 : Value.slice (some ⟨w2.heap.size, 0, none⟩) 1 1 = v3 at q3 ⊢
  obtain ⟨Bn, hBn⟩ : ∃ z, w2.heap.size = z := ⟨_, rfl⟩
  rw [hBn] at q3 HLT
  have HGB : Hid (∀ wx, Below Bn w2 wx → Below g1 w wx) := fun wx hx => G2.out.trans (hx.mono (Nat.le_of_lt HLT.out))
  have RR : Hid (∀ wx, Below Bn w2 wx → Has wx g1 38 r.v 138) := fun wx hx => R2.out.below (hBn ▸ hx) R2.out.lt
  have Q3 := hide q3
  have c38 : w3.cell? ⟨g1, 38, none⟩ = some (.int .i64 r.idx) := (RR.out _ q3.low).cell 38 (by omega)
  obtain ⟨L3, hL3⟩ : ∃ z, ([6] : List UInt8) = z := ⟨_, rfl⟩
  rw [hL3] at Q3
  have E3 : Hid (L3 = [6]) := hL3.symm
  clear hW3 hv3 hBn G2 q3 c0 hL3 R2
  go_wp2_with (first | refine Cu.wpList_conv rfl _ _ _ rfl .i64 .u64 r.idx r.idx (by rfl) (KI.out _) ?_ | fail)
  refine (B8.out _).mono ?_
  rintro e w4 ⟨rfl, hb⟩
  have Q4 := hide (Q3.out.call hb)
  have c0 : w4.cell? ⟨g1, 0, none⟩ = some (.int .i64 6) := by rw [(RR.out _ Q4.out.low).cell 0 (by omega), ← hk]; rfl
  clear hb Q3 c38 B8
  have hln : L3.length + (S8.data.toList).length ≤ 140737488355328 := by rw [z8.out.2, E3.out]; simp
  go_upto_region 29 with (first | (at_builtin; refine Cu.wpList_append_src rfl _ _ _ rfl Bn _ L3 rfl Q4.out.row (.string S8) (S8.data.toList) rfl (Cu.src_text S8 _) hln Q4.out.size ?_; intro ad5 n5 c5 w5 hB hM) | fail)
  generalize hv5 : Value.slice ad5 n5 c5 = v5 at hB hM ⊢
  obtain ⟨L5, hL5⟩ : ∃ z, L3 ++ S8.data.toList = z := ⟨_, rfl⟩
  rw [hL5] at hB
  have E5 := hide hL5.symm
  have Q5 := hide (Q4.out.app hB hM)
  clear hB hM hv5 hL5 Q4 hln
  clear c0
  have CV : Hid (∀ wx, wx = w5 → (convert 77 9 v5).run Tryz.prog wx = .ok (.string ⟨L5.toArray⟩) wx) := fun wx hx => by rw [hx]; exact Q5.out.row.conv
  have HEO : Hid ((⟨L5.toArray⟩ : ByteArray) = wrS r l) := by
    show _ = _
    rw [← HS.out.1, show L5 = bytesR r l by rw [E5.out, E3.out, z8.out.1]; unfold bytesR layR; rw [hk]; simp]
    rfl
  go_wp2_with (first | refine Cu.wpW_conv 77 9 _ rfl v5 (.string ⟨L5.toArray⟩) (by rfl) (by rfl) (CV.out _ rfl) ?_ | fail)
  go_ret2
  exact ⟨by rw [← HEO.out, HS.out.2]; rfl, by rw [HG.out]; exact HGB.out _ Q5.out.low⟩
end Go.Proofs.YtlohfoggcdaeiaaGreat
/-
  The document's Write of a record (printed by gen_r32.py).
-/
namespace Go.Proofs.YtlohfoggcdaeiaaGreat
open Go.RowKit S
set_option linter.unusedVariables false
set_option linter.unusedSimpArgs false
open Cu (nb be hl ofL CW Mw CR Mr RS takeS takeA hOf nil8 doneS Bytes Mv byteV)
theorem dwrite_any (r : Rc) (l : List Upd) (hn0 : l.length = r.upds.n) (hz : r.upds.n ≤ 140737488351232) (w : World) (hS : Upds w r.upds.ad l) : Calls Tryz.prog 20 #[.agg (tabv r.v 138)] w fun e w' => e = .returned (.tuple #[.string (wrS r l), .int .i64 (wrE r l)]) ∧ Below w.heap.size w w' := by
  cases hv : validR r l with
  | false => exact dwrite_0 r l hv hn0 hz w hS
  | true =>
    have hk : 1 ≤ r.kind ∧ r.kind ≤ 6 := Classical.byContradiction fun h => by rw [valid_none r l h] at hv; cases hv
    have : r.kind = 1 ∨ r.kind = 2 ∨ r.kind = 3 ∨ r.kind = 4 ∨ r.kind = 5 ∨ r.kind = 6 := by omega
    rcases this with h | h | h | h | h | h
    · exact dwrite_1 r l h hv hn0 hz w hS
    · exact dwrite_2 r l h hv hn0 hz w hS
    · exact dwrite_3 r l h hv hn0 hz w hS
    · exact dwrite_4 r l h hv hn0 hz w hS
    · exact dwrite_5 r l h hv hn0 hz w hS
    · exact dwrite_6 r l h hv hn0 hz w hS
end Go.Proofs.YtlohfoggcdaeiaaGreat
