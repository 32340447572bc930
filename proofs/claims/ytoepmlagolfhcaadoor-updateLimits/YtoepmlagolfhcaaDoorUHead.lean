/-
  head: the chapter's examples in short (printed by gen_head.py).
-/
import Derived.Test.YtoepmlagolfhcaaDoorURow
namespace Go.Proofs.YtoepmlagolfhcaaDoor
open Go.RowKit S
set_option linter.unusedVariables false
set_option linter.unusedSimpArgs false
def noB : ByteArray := ⟨#[110, 111]⟩
def failA : Upd := ⟨3, 5, 0, fun _ => 0, ⟨#[110, 111]⟩⟩
theorem head_w : writeS failA = ⟨#[3, 0, 5, 0, 2, 110, 111]⟩ := by decide +kernel
theorem head_e : writeE failA = 0 := by decide +kernel
theorem head_r : readC ⟨#[3, 0, 5, 0, 2, 110, 111, 33]⟩ = (failA, 7, 0) := by kernel_rfl
theorem head_s : readC ⟨#[3, 0, 5, 0, 65]⟩ = (Upd.zero, 0, 120) := by kernel_rfl
def addA : Upd := ⟨1, 0, 7, fun _ => 0, nilB⟩
theorem head_v : validB addA = true := by decide +kernel
theorem head_n : nextA [] [] addA = 0 := by decide +kernel
theorem head_n2 : nextA [addA] [] addA = 120 := by decide +kernel
theorem head_f : [addA].find? (isAdd 0) = some addA := by kernel_rfl
theorem head_m : [addA].find? (isRem 0) = none := by kernel_rfl
set_option maxRecDepth 100000 in
theorem built_fail : Tryd.prog.built 26 [(0, .int .i64 3), (1, .int .i64 5), (4, .string ⟨#[110, 111]⟩)] = some (tabv failA.v 36) := by kernel_rfl
set_option maxRecDepth 100000 in
theorem built_add : Tryd.prog.built 26 [(0, .int .i64 1), (2, .int .i64 7)] = some (tabv addA.v 36) := by kernel_rfl
theorem eqU_fail (w : World) : (Op.equalIn 10000 26 (.agg (tabv failA.v 36)) (.agg (tabv failA.v 36))).run Tryd.prog w = .ok true w := by rw [eqUD, eqU_refl]
theorem eqU_add (w : World) : (Op.equalIn 10000 26 (.agg (tabv addA.v 36)) (.agg (tabv addA.v 36))).run Tryd.prog w = .ok true w := by rw [eqUD, eqU_refl]
set_option maxRecDepth 100000 in
set_option maxHeartbeats 4000000 in
theorem head_any (n : Num) (w : World) (hG : Glob n w) : Calls Tryd.prog 4 #[] w fun e w' => e = .returned (.bool true) ∧ Below w.heap.size w w' := by
  have W1 := hide (fun w : World => write_any failA w)
  rw [head_w, head_e] at W1
  have R1 := hide (fun w : World => read_any ⟨#[3, 0, 5, 0, 2, 110, 111, 33]⟩ w (by decide))
  rw [head_r] at R1
  have R2 := hide (fun w : World => read_any ⟨#[3, 0, 5, 0, 65]⟩ w (by decide))
  rw [head_s] at R2
  have FI := hide (fun (ad : Option Addr) (cap : Nat) (w : World) (h : Upds w ad [addA]) => find_any ad 1 cap [addA] rfl (by omega) 0 w h)
  rw [head_f] at FI
  have RM := hide (fun (ad : Option Addr) (cap : Nat) (w : World) (h : Upds w ad [addA]) => rem_any ad 1 cap [addA] rfl (by omega) 0 w h)
  rw [head_m] at RM
  have VA := hide (fun w : World => valid_any addA w)
  rw [head_v] at VA
  have N1 := hide (fun (w : World) (hG : Glob n w) => next_any n none none 0 0 0 0 [] [] rfl rfl (by omega) (by omega) addA w hG (.inl rfl) (.inl rfl))
  rw [head_n] at N1
  have N2 := hide (fun (ad : Option Addr) (w : World) (hG : Glob n w) (h : Upds w ad [addA]) => next_any n ad none 1 0 1 0 [addA] [] rfl rfl (by omega) (by omega) addA w hG h (.inl rfl))
  rw [head_n2] at N2
  have E1 := hide eqU_fail
  have E2 := hide eqU_add
  have gu := guardU
  obtain ⟨fa, hfa⟩ : ∃ x, failA = x := ⟨_, rfl⟩
  obtain ⟨aa, haa⟩ : ∃ x, addA = x := ⟨_, rfl⟩
  have BF := hide built_fail
  have BA := hide built_add
  rw [hfa] at W1 R1 E1 BF
  rw [haa] at FI RM VA N1 N2 E2 BA
  obtain ⟨zz, hzz⟩ : ∃ x, Upd.zero = x := ⟨_, rfl⟩
  rw [hzz] at R2
  clear hfa haa
  have e1 := E1.out
  have e2 := E2.out
  have kb := Below.refl w.heap.size w
  go_enter Tryd.func4, Tryd.ntmps4
  go_wp2_with (first | refine wpW_build (by rfl) 26 #[(0, .const (.int .i64 3)), (1, .const (.int .i64 5)), (4, .const (.string ⟨#[110, 111]⟩))] rfl [(0, .int .i64 3), (1, .int .i64 5), (4, .string ⟨#[110, 111]⟩)] (by simp [Act.eval]) _ BF.out ?_ | fail)
  refine (W1.out _).mono ?_
  rintro e w1 ⟨rfl, hb1⟩
  go_wp2_with fail
  refine (R1.out _).mono ?_
  rintro e w2 ⟨rfl, hb2⟩
  obtain ⟨w3, w4, hW3, q3, hW4, r4, rb4⟩ := newU w2 fa
  have kb4 := ((kb.trans hb1).trans (hb2.mono hb1.size)).trans (rb4.mono (Nat.le_trans hb1.size hb2.size))
  have Q3 := hide q3
  clear hb1 hb2 q3 rb4
  go_wp2_with (first | refine wpList_storeU rfl _ _ rfl rfl (w2.heap.size) (fa) rfl rfl _ Q3.out ?_ | fail)
  refine (R2.out _).mono ?_
  rintro e w5 ⟨rfl, hb5⟩
  have r5 := r4.below hb5 r4.lt
  have kb5 := kb4.trans (hb5.mono kb4.size)
  obtain ⟨w6, w7, hW6, q6, hW7, r7, rb7⟩ := newU w5 zz
  have r5 := r5.below rb7 r5.lt
  have kb7 := kb5.trans (rb7.mono kb5.size)
  obtain ⟨w8, w9, hW8, q8, hW9, r9, rb9⟩ := newU w7 aa
  have R5 := hide (r5.below rb9 r5.lt)
  have R9 := hide r9
  have kb9 := kb7.trans (rb9.mono kb7.size)
  have Q6 := hide q6
  have Q8 := hide q8
  have hls : ∀ w : World, (Instr.buildSlice 35 1 #[(0, .agg (tabv aa.v 36))]).run Tryd.prog w = .ok (.slice (some ⟨w.heap.size, 0, none⟩) 1 1) (w.alloc (.cells (tabv aa.v 36) 26)) := fun w => run_sliceU w aa
  have LS := hide hls
  have lt9 : w7.heap.size < w9.heap.size := r9.lt
  have LT9 := hide lt9
  clear hb5 r4 r5 q6 q8 r7 r9 rb7 rb9 kb4 kb5 kb7 hW3 hW4 Q3 hls lt9
  generalize w2.heap.size = g3 at R5 ⊢
  go_wp2_with (first | refine wpList_storeU rfl _ _ rfl rfl (w5.heap.size) (zz) rfl rfl _ Q6.out ?_ | refine wpList_storeU rfl _ _ rfl rfl (w7.heap.size) (aa) rfl rfl _ Q8.out ?_ | refine wpW_build (by rfl) 26 #[(0, .const (.int .i64 1)), (2, .const (.int .i64 7))] rfl [(0, .int .i64 1), (2, .int .i64 7)] (by simp [Act.eval]) _ BA.out ?_ | refine wpW_load_at 26 _ rfl (g3) (0) (by rfl) (by rfl) _ 36 _ (R5.out.at_ 0 (by omega) (fun i hi => by rw [Nat.zero_add])) Tryd.underlying26 rfl infoU ?_ | refine wpW_build (by rfl) 26 #[(0, .const (.int .i64 3)), (1, .const (.int .i64 5)), (4, .const (.string ⟨#[110, 111]⟩))] rfl [(0, .int .i64 3), (1, .int .i64 5), (4, .string ⟨#[110, 111]⟩)] (by simp [Act.eval]) _ BF.out ?_ | refine wpW_load_at 26 _ rfl (w7.heap.size) (0) (by rfl) (by rfl) _ 36 _ (R9.out.at_ 0 (by omega) (fun i hi => by rw [Nat.zero_add])) Tryd.underlying26 rfl infoU ?_ | refine wpW_slice1 (by rfl) 35 _ rfl (.agg (tabv aa.v 36)) rfl (LS.out _) ?_ | fail)
  have b9 : Below w9.heap.size w9 (w9.alloc (.cells (tabv aa.v 36) 26)) := (Below.refl _ _).alloc (Nat.le_refl _) _
  refine (FI.out _ _ _ (upds_one w9 aa)).mono ?_
  rintro e wa ⟨rfl, hba⟩
  have bb := b9.trans (hba.mono (by simp))
  have ra := R9.out.below bb R9.out.lt
  have kba := kb9.trans (bb.mono kb9.size)
  obtain ⟨wb, wc, hWb, qb, hWc, rc, rbc⟩ := newU wa aa
  have rc9 := ra.below rbc ra.lt
  have kbc := kba.trans (rbc.mono kba.size)
  have Rc9 := hide rc9
  have Rc := hide rc
  have Qb := hide qb
  clear hba b9 bb ra kba rbc qb rc rc9 kb9 hW6 hW7 hW8 hW9 Q6 Q8 R5 R9 LT9
  generalize w7.heap.size = g9 at Rc9 ⊢
  rw [show (some aa).isSome = true from rfl, show orZ (some aa) = aa from rfl]
  go_wp2_with (first | refine wpList_storeU rfl _ _ rfl rfl (wa.heap.size) (aa) rfl rfl _ Qb.out ?_ | refine wpW_load_at 26 _ rfl g9 0 (by rfl) (by rfl) _ 36 _ (by first | exact Rc9.out.at_ 0 (by omega) (fun i hi => by rw [Nat.zero_add]) | (rw [hWc]; exact Rc9.out.at_ 0 (by omega) (fun i hi => by rw [Nat.zero_add]))) Tryd.underlying26 rfl infoU ?_ | refine wpW_slice1 (by rfl) 35 _ rfl (.agg (tabv aa.v 36)) rfl (LS.out _) ?_ | fail)
  try rw [hWc]
  have bc : Below wc.heap.size wc (wc.alloc (.cells (tabv aa.v 36) 26)) := (Below.refl _ _).alloc (Nat.le_refl _) _
  refine (RM.out _ _ _ (upds_one wc aa)).mono ?_
  rintro e wd ⟨rfl, hbd⟩
  have bb := bc.trans (hbd.mono (by simp))
  have rd9 := Rc9.out.below bb Rc9.out.lt
  have rd := Rc.out.below bb Rc.out.lt
  have kbd := kbc.trans (bb.mono kbc.size)
  obtain ⟨we, wf, hWe, qe, hWf, rf, rbf⟩ := newU wd (orZ none)
  have Rf9 := hide (rd9.below rbf rd9.lt)
  have Rf := hide (rd.below rbf rd.lt)
  have kbf := kbd.trans (rbf.mono kbd.size)
  have Qe := hide qe
  clear hbd bc bb rd9 rd kbd rbf qe rf kbc hWb hWc Qb Rc9 Rc
  generalize wa.heap.size = ga at Rf ⊢
  rw [show (none : Option Upd).isSome = false from rfl]
  go_wp2_with (first | refine wpList_storeU rfl _ _ rfl rfl (wd.heap.size) (orZ none) rfl rfl _ Qe.out ?_ | refine wpW_load_at 26 _ rfl g9 0 (by rfl) (by rfl) _ 36 _ (by first | exact Rf9.out.at_ 0 (by omega) (fun i hi => by rw [Nat.zero_add]) | (rw [hWf]; exact Rf9.out.at_ 0 (by omega) (fun i hi => by rw [Nat.zero_add]))) Tryd.underlying26 rfl infoU ?_ | fail)
  try rw [hWf]
  refine (VA.out _).mono ?_
  rintro e wg ⟨rfl, hbg⟩
  have Rg9 := hide (Rf9.out.below hbg Rf9.out.lt)
  have Rg := hide (Rf.out.below hbg Rf.out.lt)
  have kbg := kbf.trans (hbg.mono kbf.size)
  clear hbg kbf Rf9 Rf hWe hWf Qe
  go_wp2_with (first | refine wpW_load_at 26 _ rfl (ga) (0) (by rfl) (by rfl) _ 36 _ (Rg.out.at_ 0 (by omega) (fun i hi => by rw [Nat.zero_add])) Tryd.underlying26 rfl infoU ?_ | refine wpW_load_at 26 _ rfl (g9) (0) (by rfl) (by rfl) _ 36 _ (Rg9.out.at_ 0 (by omega) (fun i hi => by rw [Nat.zero_add])) Tryd.underlying26 rfl infoU ?_ | fail)
  refine (N1.out _ (hG.up kbg (Nat.le_refl _))).mono ?_
  rintro e wh ⟨rfl, hbh⟩
  have Rh9 := hide (Rg9.out.below hbh Rg9.out.lt)
  have kbh := kbg.trans (hbh.mono kbg.size)
  clear hbh kbg Rg9 Rg
  obtain ⟨wi, hwi⟩ : ∃ wi, wh.alloc (.cells (tabv aa.v 36) 26) = wi := ⟨_, rfl⟩
  have hls : (Instr.buildSlice 35 1 #[(0, .agg (tabv aa.v 36))]).run Tryd.prog wh = .ok (.slice (some ⟨wh.heap.size, 0, none⟩) 1 1) wi := by rw [← hwi]; exact run_sliceU wh aa
  have LH := hide hls
  have bi : Below wh.heap.size wh wi := by rw [← hwi]; exact (Below.refl _ _).alloc (Nat.le_refl _) _
  have ui : Upds wi (some ⟨wh.heap.size, 0, none⟩) [aa] := by rw [← hwi]; exact upds_one wh aa
  have Ri9 := hide (Rh9.out.below bi Rh9.out.lt)
  have kbi := kbh.trans (bi.mono kbh.size)
  clear hls bi hwi
  go_wp2_with (first | refine wpW_load_at 26 _ rfl (g9) (0) (by rfl) (by rfl) _ 36 _ (Rh9.out.at_ 0 (by omega) (fun i hi => by rw [Nat.zero_add])) Tryd.underlying26 rfl infoU ?_ | refine wpW_slice1 (by rfl) 35 _ rfl (.agg (tabv aa.v 36)) rfl LH.out ?_ | refine wpW_load_at 26 _ rfl (g9) (0) (by rfl) (by rfl) _ 36 _ (Ri9.out.at_ 0 (by omega) (fun i hi => by rw [Nat.zero_add])) Tryd.underlying26 rfl infoU ?_ | fail)
  refine (N2.out _ _ (hG.up kbi (Nat.le_refl _)) ui).mono ?_
  rintro e wj ⟨rfl, hbj⟩
  have kbj := kbi.trans (hbj.mono kbi.size)
  clear hbj kbi
  go_wp2
  go_ret
  exact ⟨by simp, kbj⟩
end Go.Proofs.YtoepmlagolfhcaaDoor
