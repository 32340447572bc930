/-
  message, what reads the fields of the code (printed by gen_m3.py).
-/
import Derived.Test.YtfohdolhobooiaaMCode
import Derived.Deep.DeepCutAuto
import Derived.Deep.Cut
namespace Go.Proofs.Ytfohdolhobooiaa
open Go.RowKit S
set_option linter.unusedVariables false
set_option linter.unusedSimpArgs false
open Cu (nb be hl ofL CW Mw CR Mr RS takeS takeA hOf nil8 num doneS)
def msgR (K I : Int) (st2 : RS) : (Msg × Bool) × RS :=
  if K = 4 then ((⟨4, 0, 0, I, 0, hOf (takeA 32 st2), z32, nilB⟩, true), takeS 32 st2)
  else if K = 5 then ((⟨5, 0, 0, I, 0, hOf (takeA 32 (takeS 32 st2)), hOf (takeA 32 st2), nilB⟩, true), takeS 32 (takeS 32 st2))
  else if K = 6 then ((⟨6, 0, 0, I, IntKind.i64.wrap (num 8 st2 : Int), z32, hOf (takeA 32 (takeS 8 st2)), nilB⟩, true), takeS 32 (takeS 8 st2))
  else if K = 7 then ((⟨7, 0, 0, I, 0, z32, z32, nilB⟩, true), st2)
  else ((Msg.zero, false), st2)
def msgC (st : RS) : (Msg × Bool) × RS := msgR (num 1 st : Int) (IntKind.i64.wrap (num 8 (takeS 1 st) : Int)) (takeS 8 (takeS 1 st))
/-- message's variables. -/
structure MS (w0 : World) (p g1 g2 g4 : Nat) (st : RS) (m : Msg) (w : World) : Prop where
  cr : CR w p st
  ptr : Has w g1 55 (fun _ => .pointer (some ⟨p, 0, none⟩)) 1
  res : Has w g2 25 Msg.zero.v 70
  var : Has w g4 25 m.v 70
  mr : Mr p w0 w
  ord : p < g1 ∧ g1 < g2 ∧ g2 < g4 ∧ w0.heap.size = g1
section
variable {w0 : World} {p g1 g2 g4 : Nat} {st : RS} {m : Msg} {w w' : World}
theorem MS.call {st' : RS} (h : MS w0 p g1 g2 g4 st m w) (hC : CR w' p st') (hM : Mr p w w') : MS w0 p g1 g2 g4 st' m w' :=
  ⟨hC, h.ptr.mr hM (by have := h.ord; omega), h.res.mr hM (by have := h.ord; omega), h.var.mr hM (by have := h.ord; omega), h.mr.trans hM, h.ord⟩
theorem MS.set (h : MS w0 p g1 g2 g4 st m w) (i : Nat) (v : Value) {m' : Msg} (hv : Has (w.setCell ⟨g4, i, none⟩ v) g4 25 m'.v 70) : MS w0 p g1 g2 g4 st m' (w.setCell ⟨g4, i, none⟩ v) := by
  have ho := h.ord
  exact ⟨h.cr.same (Below.heap_setCell w ⟨g4, i, none⟩ _ p (by show p ≠ g4; omega)), h.ptr.other _ _ (by show g1 ≠ g4; omega), h.res.other _ _ (by show g2 ≠ g4; omega), hv, h.mr.low ((Below.refl _ _).setCell (by show w0.heap.size ≤ g4; omega) _), ho⟩
theorem MS.row (h : MS w0 p g1 g2 g4 st m w) (m' : Msg) : MS w0 p g1 g2 g4 st m' (w.setRow g4 (tabv m'.v 70)) := by
  have ho := h.ord
  have hb : Below g4 w (w.setRow g4 (tabv m'.v 70)) := below_setRow (Below.refl _ _) (Nat.le_refl _) _
  exact ⟨h.cr.same (hb.block p (by omega)), h.ptr.below hb (by omega), h.res.below hb (by omega), h.var.row _ _ rfl, h.mr.low (hb.mono (by omega)), ho⟩
end
set_option maxRecDepth 100000 in
set_option maxHeartbeats 4000000 in
theorem message_any (p : Nat) (st : RS) (w : World) (hC : CR w p st) : Calls Try.prog 23 #[.agg #[.pointer (some ⟨p, 0, none⟩)]] w fun e w' => e = .returned (.tuple #[.agg (tabv (msgC st).1.1.v 70), .bool (msgC st).1.2]) ∧ CR w' p (msgC st).2 ∧ Mr p w w' := by
  obtain ⟨w1, hW1⟩ : ∃ wX, w.alloc (.cells #[.pointer (some ⟨p, 0, none⟩)] 55) = wX := ⟨_, rfl⟩
  have r1 : Has w1 w.heap.size 55 (fun _ => .pointer (some ⟨p, 0, none⟩)) 1 := by rw [← hW1]; exact Has.new w 55 (fun _ => .pointer (some ⟨p, 0, none⟩)) 1 _ rfl
  have b1 : Below w.heap.size w w1 := by rw [← hW1]; exact (Below.refl w.heap.size w).alloc (Nat.le_refl _) _
  obtain ⟨w2, wX2, hW2, r2, _, _, _, b2⟩ := newM w1 Msg.zero
  have R2 := hide r2
  have R1 := hide (r1.below b2 r1.lt)
  have hC2 := (hC.below b1).below b2
  have L1 : Hid (w.heap.size < w1.heap.size) := r1.lt
  have L2 : Hid (w1.heap.size < w2.heap.size) := r2.lt
  have LP : Hid (p < w.heap.size) := hC.lt
  have gb : Below w.heap.size w w2 := b1.trans (b2.mono b1.size)
  have c1 : w2.cell? ⟨w.heap.size, 0, none⟩ = some (.pointer (some ⟨p, 0, none⟩)) := R1.out.cell 0 (by omega)
  obtain ⟨X, hX⟩ : ∃ X, msgC st = X := ⟨_, rfl⟩
  rw [hX]
  unfold msgC at hX
  have hk1 := num1_lt st
  obtain ⟨K, hK⟩ : ∃ K : Int, (num 1 st : Int) = K := ⟨_, rfl⟩
  obtain ⟨st1, hs1⟩ : ∃ s, takeS 1 st = s := ⟨_, rfl⟩
  rw [hK, hs1] at hX
  obtain ⟨I, hI⟩ : ∃ I : Int, IntKind.i64.wrap (num 8 st1 : Int) = I := ⟨_, rfl⟩
  obtain ⟨st2, hs2⟩ : ∃ s, takeS 8 st1 = s := ⟨_, rfl⟩
  rw [hI, hs2] at hX
  have KC : Hid (∀ w : World, (convert 5 3 (.int .u8 K)).run Try.prog w = .ok (.int .i64 K) w) := fun w => by
    have h := run_convert_int (P := Try.prog) (w := w) 5 3 .u8 K (by kernel_rfl) (by kernel_rfl)
    rw [show Try.prog.intKind 3 = .i64 by kernel_rfl, show IntKind.i64.wrap K = K by rw [IntKind.wrap_i64]; omega] at h
    exact h
  have U8 := fun (w : World) (h : CR w p st) => Cu.rU8 p st w h
  have hK' : (Cu.be (takeA 1 st).data.toList : Int) = K := hK
  simp only [hK', hs1] at U8
  have U8 := hide U8
  have HI := hide hI
  have HS2 := hide hs2
  have HX := hide hX
  clear hk1 hK hs1 hI hs2 hX hK' r1 b1 r2 b2
  go_enter Try.func23, Try.ntmps23
  go_wp2_with fail
  refine (U8.out _ hC2).mono ?_
  rintro e w3 ⟨rfl, hC3, hM3⟩
  obtain ⟨w4, w5, hW4, r4, hW5, r5, b5, b4⟩ := newM w3 ⟨K, 0, 0, 0, 0, z32, z32, nilB⟩
  have R4 := hide r4
  have hsz := hM3.size
  have M5 : Hid (MS w p w.heap.size w1.heap.size w3.heap.size st1 ⟨K, 0, 0, 0, 0, z32, z32, nilB⟩ w5) := ⟨hC3.below b5, (R1.out.mr hM3 (by have := LP.out; omega)).below b5 (by have := L1.out; have := L2.out; omega), (R2.out.mr hM3 (by have := LP.out; have := L1.out; omega)).below b5 (by have := L2.out; omega), r5, ((Mr.of gb).trans hM3).low (b5.mono (by have := L1.out; have := L2.out; omega)), by have := LP.out; have := L1.out; have := L2.out; omega⟩
  generalize hg4 : w3.heap.size = g4 at R4 M5 hW5 ⊢
  clear hC2 c1 hC3 hM3 r4 r5 b5 b4 hsz R1 R2 gb U8
  have c1 : w5.cell? ⟨w.heap.size, 0, none⟩ = some (.pointer (some ⟨p, 0, none⟩)) := M5.out.ptr.cell 0 (by omega)
  go_wp2_with (first | rw [hW5] | refine Cu.wpList_conv rfl _ _ _ rfl .u8 .i64 K K (by rfl) (KC.out _) ?_ | refine wpW_build (by rfl) 25 #[(0, .tmp 8)] rfl [(0, .int .i64 K)] (by first | rfl | (simp [Act.eval, Act.put]; done)) _ (builtMK K) ?_ | refine wpList_storeM rfl _ _ rfl rfl (g4) (⟨K, 0, 0, 0, 0, z32, z32, nilB⟩) rfl rfl _ R4.out ?_ | fail)
  try rw [hW5]
  clear hW4 hW5 hg4 R4 KC L1 L2 LP hW1 hW2
  generalize hg1 : w.heap.size = g1 at M5 c1 ⊢
  generalize w1.heap.size = g2 at M5 ⊢
  refine (Cu.rI64 p st1 _ M5.out.cr I HI.out).mono ?_
  rintro e w6 ⟨rfl, hC6, hM6⟩
  rw [HS2.out] at hC6
  have M6 := hide (M5.out.call hC6 hM6)
  have z1 : w6.cell? ⟨g4, 3, none⟩ = some (.int .i64 0) := M6.out.var.cell 3 (by omega)
  have z2 := M6.out.var.frozen 3
  obtain ⟨w7, hW7⟩ : ∃ z, w6.setCell ⟨g4, 3, none⟩ (.int .i64 I) = z := ⟨_, rfl⟩
  have M7 : Hid (MS w p g1 g2 g4 st2 ⟨K, 0, 0, I, 0, z32, z32, nilB⟩ w7) := by rw [← hW7]; exact M6.out.set 3 _ (M6.out.var.setIdx I)
  clear hC6 hM6 M5 c1 HI HS2
  have c0 : w7.cell? ⟨g4, 0, none⟩ = some (.int .i64 K) := M7.out.var.cell 0 (by omega)
  have c1 : w7.cell? ⟨g1, 0, none⟩ = some (.pointer (some ⟨p, 0, none⟩)) := M7.out.ptr.cell 0 (by omega)
  by_cases k4 : K = 4
  · subst k4
    have HXX := HX.out
    clear HX
    rw [show msgR 4 I st2 = _ from rfl] at HXX
    simp only [msgR, Int.reduceEq, if_true, if_false, reduceIte] at HXX
    have HX := hide HXX.symm
    clear HXX
    go_upto_region 5 with fail
    try rw [hW7]
    clear hW7 z1 z2
    go_wp2_with (first | fail)
    refine (Cu.rHash p st2 _ M7.out.cr).mono ?_
    rintro e w8 ⟨rfl, hCq, hMq⟩
    have M8 := hide (M7.out.call hCq hMq)
    clear hCq hMq M7 c0 c1
    obtain ⟨w9, hWq9⟩ : ∃ z, w8.setRow g4 (tabv (Msg.v ⟨4, 0, 0, I, 0, (hOf (takeA 32 st2)), z32, nilB⟩) 70) = z := ⟨_, rfl⟩
    have M9 : Hid (MS w p g1 g2 g4 (takeS 32 st2) ⟨4, 0, 0, I, 0, (hOf (takeA 32 st2)), z32, nilB⟩ w9) := by rw [← hWq9]; exact M8.out.row ⟨4, 0, 0, I, 0, (hOf (takeA 32 st2)), z32, nilB⟩
    have c0 : w9.cell? ⟨g4, 0, none⟩ = some (.int .i64 4) := M9.out.var.cell 0 (by omega)
    have c1 : w9.cell? ⟨g1, 0, none⟩ = some (.pointer (some ⟨p, 0, none⟩)) := M9.out.ptr.cell 0 (by omega)
    obtain ⟨wz, hWz⟩ : ∃ z, w9.setRow g2 (tabv (Msg.mk 4 0 0 I 0 (hOf (takeA 32 st2)) z32 nilB).v 70) = z := ⟨_, rfl⟩
    have HR : Hid (Has wz g2 25 (Msg.mk 4 0 0 I 0 (hOf (takeA 32 st2)) z32 nilB).v 70) := by rw [← hWz]; exact M9.out.res.row _ _ rfl
    have hb : Below g2 w9 wz := by rw [← hWz]; exact below_setRow (Below.refl _ _) (Nat.le_refl _) _
    have HC : Hid (CR wz p (takeS 32 st2)) := M9.out.cr.same (hb.block p (by have := M9.out.ord; omega))
    have HM : Hid (Mr p w wz) := M9.out.mr.low (hb.mono (by have := M9.out.ord; omega))
    clear hb
    go_upto_region 14 with (first | refine wpList_storeMH rfl _ _ rfl rfl g4 ⟨4, 0, 0, I, 0, z32, z32, nilB⟩ (hOf (takeA 32 st2)) rfl rfl M8.out.var ?_ | fail)
    try rw [hWq9]
    go_wp2_with (first | refine wpW_load_at 25 _ rfl (g4) (0) (by rfl) (by rfl) _ 70 _ (M9.out.var.at_ 0 (by omega) (fun i hi => by rw [Nat.zero_add])) Try.underlying25 rfl infoM ?_ | refine wpList_storeM rfl _ _ rfl rfl (g2) (⟨4, 0, 0, I, 0, (hOf (takeA 32 st2)), z32, nilB⟩) rfl rfl _ M9.out.res ?_ | fail)
    try rw [hWz]
    (try simp only [Exit.inBlock, Exit.then])
    exact bodyPost_ret (resMT _ g2 _ _ (.bool true) 2 3 HR.out rfl rfl _ rfl) rfl ⟨by rw [HX.out], by rw [HX.out]; exact HC.out, HM.out⟩
  have b4 : (K == 4) = false := beq_false_of_ne k4
  by_cases k5 : K = 5
  · subst k5
    have HXX := HX.out
    clear HX
    rw [show msgR 5 I st2 = _ from rfl] at HXX
    simp only [msgR, Int.reduceEq, if_true, if_false, reduceIte] at HXX
    have HX := hide HXX.symm
    clear HXX
    go_upto_region 5 with fail
    try rw [hW7]
    clear hW7 z1 z2
    go_wp2_with (first | fail)
    refine (Cu.rHash p st2 _ M7.out.cr).mono ?_
    rintro e w8 ⟨rfl, hCq, hMq⟩
    have M8 := hide (M7.out.call hCq hMq)
    clear hCq hMq M7 c0 c1
    obtain ⟨w9, hWq9⟩ : ∃ z, w8.setRow g4 (tabv (Msg.v ⟨5, 0, 0, I, 0, z32, (hOf (takeA 32 st2)), nilB⟩) 70) = z := ⟨_, rfl⟩
    have M9 : Hid (MS w p g1 g2 g4 (takeS 32 st2) ⟨5, 0, 0, I, 0, z32, (hOf (takeA 32 st2)), nilB⟩ w9) := by rw [← hWq9]; exact M8.out.row ⟨5, 0, 0, I, 0, z32, (hOf (takeA 32 st2)), nilB⟩
    have c0 : w9.cell? ⟨g4, 0, none⟩ = some (.int .i64 5) := M9.out.var.cell 0 (by omega)
    have c1 : w9.cell? ⟨g1, 0, none⟩ = some (.pointer (some ⟨p, 0, none⟩)) := M9.out.ptr.cell 0 (by omega)
    go_wp2_with (first | refine wpList_storeMS rfl _ _ rfl rfl g4 ⟨5, 0, 0, I, 0, z32, z32, nilB⟩ (hOf (takeA 32 st2)) rfl rfl M8.out.var ?_ | fail)
    try rw [hWq9]
    refine (Cu.rHash p (takeS 32 st2) _ M9.out.cr).mono ?_
    rintro e w10 ⟨rfl, hCq, hMq⟩
    have M10 := hide (M9.out.call hCq hMq)
    clear hCq hMq M9 c0 c1
    obtain ⟨w11, hWq11⟩ : ∃ z, w10.setRow g4 (tabv (Msg.v ⟨5, 0, 0, I, 0, (hOf (takeA 32 (takeS 32 st2))), (hOf (takeA 32 st2)), nilB⟩) 70) = z := ⟨_, rfl⟩
    have M11 : Hid (MS w p g1 g2 g4 (takeS 32 (takeS 32 st2)) ⟨5, 0, 0, I, 0, (hOf (takeA 32 (takeS 32 st2))), (hOf (takeA 32 st2)), nilB⟩ w11) := by rw [← hWq11]; exact M10.out.row ⟨5, 0, 0, I, 0, (hOf (takeA 32 (takeS 32 st2))), (hOf (takeA 32 st2)), nilB⟩
    have c0 : w11.cell? ⟨g4, 0, none⟩ = some (.int .i64 5) := M11.out.var.cell 0 (by omega)
    have c1 : w11.cell? ⟨g1, 0, none⟩ = some (.pointer (some ⟨p, 0, none⟩)) := M11.out.ptr.cell 0 (by omega)
    obtain ⟨wz, hWz⟩ : ∃ z, w11.setRow g2 (tabv (Msg.mk 5 0 0 I 0 (hOf (takeA 32 (takeS 32 st2))) (hOf (takeA 32 st2)) nilB).v 70) = z := ⟨_, rfl⟩
    have HR : Hid (Has wz g2 25 (Msg.mk 5 0 0 I 0 (hOf (takeA 32 (takeS 32 st2))) (hOf (takeA 32 st2)) nilB).v 70) := by rw [← hWz]; exact M11.out.res.row _ _ rfl
    have hb : Below g2 w11 wz := by rw [← hWz]; exact below_setRow (Below.refl _ _) (Nat.le_refl _) _
    have HC : Hid (CR wz p (takeS 32 (takeS 32 st2))) := M11.out.cr.same (hb.block p (by have := M11.out.ord; omega))
    have HM : Hid (Mr p w wz) := M11.out.mr.low (hb.mono (by have := M11.out.ord; omega))
    clear hb
    go_upto_region 14 with (first | refine wpList_storeMH rfl _ _ rfl rfl g4 ⟨5, 0, 0, I, 0, z32, (hOf (takeA 32 st2)), nilB⟩ (hOf (takeA 32 (takeS 32 st2))) rfl rfl M10.out.var ?_ | fail)
    try rw [hWq11]
    go_wp2_with (first | refine wpW_load_at 25 _ rfl (g4) (0) (by rfl) (by rfl) _ 70 _ (M11.out.var.at_ 0 (by omega) (fun i hi => by rw [Nat.zero_add])) Try.underlying25 rfl infoM ?_ | refine wpList_storeM rfl _ _ rfl rfl (g2) (⟨5, 0, 0, I, 0, (hOf (takeA 32 (takeS 32 st2))), (hOf (takeA 32 st2)), nilB⟩) rfl rfl _ M11.out.res ?_ | fail)
    try rw [hWz]
    (try simp only [Exit.inBlock, Exit.then])
    exact bodyPost_ret (resMT _ g2 _ _ (.bool true) 2 3 HR.out rfl rfl _ rfl) rfl ⟨by rw [HX.out], by rw [HX.out]; exact HC.out, HM.out⟩
  have b5 : (K == 5) = false := beq_false_of_ne k5
  by_cases k6 : K = 6
  · subst k6
    have HXX := HX.out
    clear HX
    rw [show msgR 6 I st2 = _ from rfl] at HXX
    simp only [msgR, Int.reduceEq, if_true, if_false, reduceIte] at HXX
    have HX := hide HXX.symm
    clear HXX
    go_upto_region 5 with fail
    try rw [hW7]
    clear hW7 z1 z2
    go_wp2_with (first | fail)
    refine (Cu.rI64 p st2 _ M7.out.cr _ rfl).mono ?_
    rintro e w8 ⟨rfl, hCq, hMq⟩
    have M8 := hide (M7.out.call hCq hMq)
    clear hCq hMq M7 c0 c1
    have z1 : w8.cell? ⟨g4, 4, none⟩ = some (.int .i64 0) := M8.out.var.cell 4 (by omega)
    have z2 := M8.out.var.frozen 4
    obtain ⟨w9, hWq9⟩ : ∃ z, w8.setCell ⟨g4, 4, none⟩ (.int .i64 (IntKind.i64.wrap (num 8 st2 : Int))) = z := ⟨_, rfl⟩
    have M9 : Hid (MS w p g1 g2 g4 (takeS 8 st2) ⟨6, 0, 0, I, (IntKind.i64.wrap (num 8 st2 : Int)), z32, z32, nilB⟩ w9) := by rw [← hWq9]; exact M8.out.set 4 _ (M8.out.var.setNxt _)
    have c0 : w9.cell? ⟨g4, 0, none⟩ = some (.int .i64 6) := M9.out.var.cell 0 (by omega)
    have c1 : w9.cell? ⟨g1, 0, none⟩ = some (.pointer (some ⟨p, 0, none⟩)) := M9.out.ptr.cell 0 (by omega)
    go_wp2_with (first | fail)
    refine (Cu.rHash p (takeS 8 st2) _ M9.out.cr).mono ?_
    rintro e w10 ⟨rfl, hCq, hMq⟩
    have M10 := hide (M9.out.call hCq hMq)
    clear hCq hMq M9 c0 c1
    obtain ⟨w11, hWq11⟩ : ∃ z, w10.setRow g4 (tabv (Msg.v ⟨6, 0, 0, I, (IntKind.i64.wrap (num 8 st2 : Int)), z32, (hOf (takeA 32 (takeS 8 st2))), nilB⟩) 70) = z := ⟨_, rfl⟩
    have M11 : Hid (MS w p g1 g2 g4 (takeS 32 (takeS 8 st2)) ⟨6, 0, 0, I, (IntKind.i64.wrap (num 8 st2 : Int)), z32, (hOf (takeA 32 (takeS 8 st2))), nilB⟩ w11) := by rw [← hWq11]; exact M10.out.row ⟨6, 0, 0, I, (IntKind.i64.wrap (num 8 st2 : Int)), z32, (hOf (takeA 32 (takeS 8 st2))), nilB⟩
    have c0 : w11.cell? ⟨g4, 0, none⟩ = some (.int .i64 6) := M11.out.var.cell 0 (by omega)
    have c1 : w11.cell? ⟨g1, 0, none⟩ = some (.pointer (some ⟨p, 0, none⟩)) := M11.out.ptr.cell 0 (by omega)
    obtain ⟨wz, hWz⟩ : ∃ z, w11.setRow g2 (tabv (Msg.mk 6 0 0 I (IntKind.i64.wrap (num 8 st2 : Int)) z32 (hOf (takeA 32 (takeS 8 st2))) nilB).v 70) = z := ⟨_, rfl⟩
    have HR : Hid (Has wz g2 25 (Msg.mk 6 0 0 I (IntKind.i64.wrap (num 8 st2 : Int)) z32 (hOf (takeA 32 (takeS 8 st2))) nilB).v 70) := by rw [← hWz]; exact M11.out.res.row _ _ rfl
    have hb : Below g2 w11 wz := by rw [← hWz]; exact below_setRow (Below.refl _ _) (Nat.le_refl _) _
    have HC : Hid (CR wz p (takeS 32 (takeS 8 st2))) := M11.out.cr.same (hb.block p (by have := M11.out.ord; omega))
    have HM : Hid (Mr p w wz) := M11.out.mr.low (hb.mono (by have := M11.out.ord; omega))
    clear hb
    go_upto_region 14 with (first | refine wpList_storeMS rfl _ _ rfl rfl g4 ⟨6, 0, 0, I, (IntKind.i64.wrap (num 8 st2 : Int)), z32, z32, nilB⟩ (hOf (takeA 32 (takeS 8 st2))) rfl rfl M10.out.var ?_ | fail)
    try rw [hWq11]
    go_wp2_with (first | refine wpW_load_at 25 _ rfl (g4) (0) (by rfl) (by rfl) _ 70 _ (M11.out.var.at_ 0 (by omega) (fun i hi => by rw [Nat.zero_add])) Try.underlying25 rfl infoM ?_ | refine wpList_storeM rfl _ _ rfl rfl (g2) (⟨6, 0, 0, I, (IntKind.i64.wrap (num 8 st2 : Int)), z32, (hOf (takeA 32 (takeS 8 st2))), nilB⟩) rfl rfl _ M11.out.res ?_ | fail)
    try rw [hWz]
    (try simp only [Exit.inBlock, Exit.then])
    exact bodyPost_ret (resMT _ g2 _ _ (.bool true) 2 3 HR.out rfl rfl _ rfl) rfl ⟨by rw [HX.out], by rw [HX.out]; exact HC.out, HM.out⟩
  have b6 : (K == 6) = false := beq_false_of_ne k6
  by_cases k7 : K = 7
  · subst k7
    have HXX := HX.out
    clear HX
    rw [show msgR 7 I st2 = _ from rfl] at HXX
    simp only [msgR, Int.reduceEq, if_true, if_false, reduceIte] at HXX
    have HX := hide HXX.symm
    clear HXX
    go_upto_region 5 with fail
    try rw [hW7]
    clear hW7 z1 z2
    obtain ⟨wz, hWz⟩ : ∃ z, w7.setRow g2 (tabv (Msg.mk 7 0 0 I 0 z32 z32 nilB).v 70) = z := ⟨_, rfl⟩
    have HR : Hid (Has wz g2 25 (Msg.mk 7 0 0 I 0 z32 z32 nilB).v 70) := by rw [← hWz]; exact M7.out.res.row _ _ rfl
    have hb : Below g2 w7 wz := by rw [← hWz]; exact below_setRow (Below.refl _ _) (Nat.le_refl _) _
    have HC : Hid (CR wz p st2) := M7.out.cr.same (hb.block p (by have := M7.out.ord; omega))
    have HM : Hid (Mr p w wz) := M7.out.mr.low (hb.mono (by have := M7.out.ord; omega))
    clear hb
    go_wp2_with (first | refine wpW_load_at 25 _ rfl (g4) (0) (by rfl) (by rfl) _ 70 _ (M7.out.var.at_ 0 (by omega) (fun i hi => by rw [Nat.zero_add])) Try.underlying25 rfl infoM ?_ | refine wpList_storeM rfl _ _ rfl rfl (g2) (⟨7, 0, 0, I, 0, z32, z32, nilB⟩) rfl rfl _ M7.out.res ?_ | fail)
    try rw [hWz]
    (try simp only [Exit.inBlock, Exit.then])
    exact bodyPost_ret (resMT _ g2 _ _ (.bool true) 2 3 HR.out rfl rfl _ rfl) rfl ⟨by rw [HX.out], by rw [HX.out]; exact HC.out, HM.out⟩
  have b7 : (K == 7) = false := beq_false_of_ne k7
  have HXX := HX.out
  clear HX
  unfold msgR at HXX
  rw [if_neg k4, if_neg k5, if_neg k6, if_neg k7] at HXX
  have HX := hide HXX.symm
  clear HXX k4 k5 k6 k7
  go_upto_region 5 with fail
  try rw [hW7]
  clear hW7 z1 z2
  obtain ⟨wz, hWz⟩ : ∃ z, w7.setRow g2 (tabv (Msg.zero).v 70) = z := ⟨_, rfl⟩
  have HR : Hid (Has wz g2 25 (Msg.zero).v 70) := by rw [← hWz]; exact M7.out.res.row _ _ rfl
  have hb : Below g2 w7 wz := by rw [← hWz]; exact below_setRow (Below.refl _ _) (Nat.le_refl _) _
  have HC : Hid (CR wz p st2) := M7.out.cr.same (hb.block p (by have := M7.out.ord; omega))
  have HM : Hid (Mr p w wz) := M7.out.mr.low (hb.mono (by have := M7.out.ord; omega))
  clear hb
  go_wp2_with (first | refine wpW_build (by rfl) 25 #[] rfl [] (by first | rfl | (simp [Act.eval, Act.put]; done)) _ builtMZ ?_ | refine wpList_storeM rfl _ _ rfl rfl (g2) (Msg.zero) rfl rfl _ M7.out.res ?_ | fail)
  try rw [hWz]
  (try simp only [Exit.inBlock, Exit.then])
  exact bodyPost_ret (resMT _ g2 _ _ (.bool false) 2 3 HR.out rfl rfl _ rfl) rfl ⟨by rw [HX.out], by rw [HX.out]; exact HC.out, HM.out⟩
end Go.Proofs.Ytfohdolhobooiaa
