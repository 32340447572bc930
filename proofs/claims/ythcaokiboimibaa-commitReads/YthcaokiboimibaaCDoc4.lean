/-
  The document's Read: the walk (printed by gen_c16.py).
-/
import Derived.Test.YthcaokiboimibaaCDoc4M
import Derived.Test.YthcaokiboimibaaGLast
namespace Go.Proofs.Ythcaokiboimibaa
open Go.RowKit S
set_option linter.unusedVariables false
set_option linter.unusedSimpArgs false
open Cu (nb be hl ofL)
theorem RdOk.szR {b : ByteArray} {o n : Int} {h : Nat → UInt8} {x y : Int} {l : List Pen} (k : RdOk b o n h x y l) : b.size = 59 + 49 * l.length := by rw [k.eq, Cu.ofL_size, textB_length]
/-- The document's Read's variables. -/
structure DW (w : World) (g0 g1 gL : Nat) (X Y : Int) (v : Value) (ps : List Pen) (wr : World) : Prop where
  r0 : Has wr g0 23 (bv (fun _ => 0)) 32
  r1 : Has wr g1 26 (ledv 0 0 (.slice none 0 0)) 3
  rL : Has wr gL 26 (ledv X Y v) 3
  row : OwnP (gL + 1) wr v ps
  bel : Below g0 w wr
structure DX (w : World) (g0 g1 gH gL : Nat) (h : Nat → UInt8) (X Y : Int) (v : Value) (ps : List Pen) (wr : World) : Prop where
  r0 : Has wr g0 23 (bv (fun _ => 0)) 32
  r1 : Has wr g1 26 (ledv 0 0 (.slice none 0 0)) 3
  rH : Has wr gH 23 (bv h) 32
  rL : Has wr gL 26 (ledv X Y v) 3
  row : OwnP (gL + 1) wr v ps
  bel : Below g0 w wr
section
variable {w : World} {g0 g1 gH gL : Nat} {h : Nat → UInt8} {X Y : Int} {v : Value} {ps : List Pen} {wr w' : World}
theorem DW.below (k : DW w g0 g1 gL X Y v ps wr) (hb : Below wr.heap.size wr w') : DW w g0 g1 gL X Y v ps w' :=
  ⟨k.r0.below hb k.r0.lt, k.r1.below hb k.r1.lt, k.rL.below hb k.rL.lt, k.row.below hb, k.bel.trans (hb.mono (Nat.le_of_lt k.r0.lt))⟩
theorem DX.below (k : DX w g0 g1 gH gL h X Y v ps wr) (hb : Below wr.heap.size wr w') : DX w g0 g1 gH gL h X Y v ps w' :=
  ⟨k.r0.below hb k.r0.lt, k.r1.below hb k.r1.lt, k.rH.below hb k.rH.lt, k.rL.below hb k.rL.lt, k.row.below hb, k.bel.trans (hb.mono (Nat.le_of_lt k.r0.lt))⟩
theorem DW.app {v' : Value} {s : Pen} (k : DW w g0 g1 gL X Y v ps wr) (hg : g0 < g1 ∧ g1 < gL) (hO : OwnP (gL + 1) w' v' (ps ++ [s])) (gr : ∀ g, g < wr.heap.size → v.ownBlock ≠ some g → w'.heap[g]? = wr.heap[g]?) (hB : Below (gL + 1) wr w') : DW w g0 g1 gL X Y v' (ps ++ [s]) (w'.setCell ⟨gL, 2, none⟩ v') := by
  have e : ∀ g, g ≤ gL → g < wr.heap.size → w'.heap[g]? = wr.heap[g]? := fun g hg2 hlt => gr g hlt (fun e => by have := (k.row.lt g e).1; omega)
  have e2 : ∀ g, g < gL → (w'.setCell ⟨gL, 2, none⟩ v').heap[g]? = w'.heap[g]? := fun g hg2 => Below.heap_setCell w' ⟨gL, 2, none⟩ _ g (by show g ≠ gL; omega)
  refine ⟨(k.r0.same ((e2 _ (by omega)).trans (e _ (by omega) k.r0.lt))), (k.r1.same ((e2 _ (by omega)).trans (e _ (by omega) k.r1.lt))), (k.rL.same (e _ (Nat.le_refl _) k.rL.lt)).openL v', hO.same (fun i hi => Below.heap_setCell w' ⟨gL, 2, none⟩ _ i (by have := (hO.lt i hi).1; show i ≠ gL; omega)), ?_⟩
  exact (k.bel.trans (hB.mono (by omega))).setCell (show g0 ≤ gL by omega) _
end
theorem idx_text (b : ByteArray) (k : Nat) (hk : k < b.size) (w : World) : (Instr.index 9 (.string b) (.int .i64 (k : Int))).run Try.prog w = .ok (.int .u8 ((Cu.byteAt b.data.toList k).toNat : Int)) w := Cu.index_text b k hk w
theorem run_idx {o : Oper} {a : Act} (w : World) (x y : Operand) (b : ByteArray) (k : Nat) (c : Int) (hk : k < b.size) (hc : ((Cu.byteAt b.data.toList k).toNat : Int) = c) (ho : o.op = .index 9 x y) (hx : a.eval x = .string b) (hy : a.eval y = .int .i64 (k : Int)) : (execOp a.eval o).run Try.prog w = .ok (.value (.int .u8 c)) w := by
  unfold execOp
  simp only [ho, hx, hy, idx_text b k hk w, Sem.run_bind, Result.andThen_ok]
  rw [hc]
  rfl
set_option maxRecDepth 100000 in
theorem built_p4D (o : Bool) (i a : Int) (h : Nat → UInt8) : Try.prog.built 39 [(0, .bool o), (1, .int .i64 i), (2, .int .i64 a), (3, .agg (tabv (bv h) 32))] = some (tabv (⟨o, i, a, h⟩ : Pen).v 35) := by kernel_rfl
theorem run_conv {o : Oper} {a : Act} (w : World) (s d : TypeId) (x : Operand) (X r : Value) (ho : o.op = .convert s d x) (hx : a.eval x = X) (hr : (convert s d X).run Try.prog w = .ok r w) : (execOp a.eval o).run Try.prog w = .ok (.value r) w := by
  unfold execOp
  simp only [ho, hx, hr, Sem.run_bind, Result.andThen_ok]
  rfl
set_option maxRecDepth 100000 in
set_option maxHeartbeats 4000000 in
theorem rread_any (b : ByteArray) (hb : b.size ≤ 140737488351232) (w : World) : Calls Try.prog 18 #[.string b] w fun e w' => RdPost b w.heap.size w e w' := by
  obtain ⟨wa, hWa⟩ : ∃ z, w.alloc (.cells #[.int .u8 0, .int .u8 0, .int .u8 0, .int .u8 0, .int .u8 0, .int .u8 0, .int .u8 0, .int .u8 0, .int .u8 0, .int .u8 0, .int .u8 0, .int .u8 0, .int .u8 0, .int .u8 0, .int .u8 0, .int .u8 0, .int .u8 0, .int .u8 0, .int .u8 0, .int .u8 0, .int .u8 0, .int .u8 0, .int .u8 0, .int .u8 0, .int .u8 0, .int .u8 0, .int .u8 0, .int .u8 0, .int .u8 0, .int .u8 0, .int .u8 0, .int .u8 0] 23) = z := ⟨_, rfl⟩
  obtain ⟨wb, hWb⟩ : ∃ z, wa.alloc (.cells #[.int .i64 0, .int .i64 0, .slice none 0 0] 26) = z := ⟨_, rfl⟩
  have ra : Has wa w.heap.size 23 (bv (fun _ => 0)) 32 := by rw [← hWa, zero32c]; exact Has.new w 23 _ 32 _ rfl
  have ba : Below w.heap.size w wa := by rw [← hWa]; exact (Below.refl _ _).alloc (Nat.le_refl _) _
  have rb : Has wb wa.heap.size 26 (ledv 0 0 (.slice none 0 0)) 3 := by rw [← hWb, zeroL]; exact Has.new wa 26 _ 3 _ rfl
  have bb : Below wa.heap.size wa wb := by rw [← hWb]; exact (Below.refl _ _).alloc (Nat.le_refl _) _
  have gb : Below w.heap.size w wb := ba.trans (bb.mono ba.size)
  have I0 := hide (ra.below bb ra.lt)
  have I1 := hide rb
  have l0 : w.heap.size < wa.heap.size := ra.lt
  have HBZ := hide hb
  obtain ⟨sz, hsz⟩ : ∃ z, b.size = z := ⟨_, rfl⟩
  have HSZ := hide hsz
  have hszi : (sz : Int) ≤ 140737488351232 := by omega
  clear ra ba rb bb hb
  go_enter Try.func18, Try.ntmps18
  go_upto_region 1 with fail
  generalize hg0 : w.heap.size = g0 at I0 l0 gb ⊢
  generalize hg1 : wa.heap.size = g1 at I1 l0 ⊢
  have HL0 : Hid (g0 < g1) := l0
  have GB := hide gb
  clear hWa hWb hg1 l0 gb
  by_cases d1 : sz < 59
  · have e1 : decide ((sz : Int) < 59) = true := decide_eq_true (by omega)
    have e2 : decide (sz < 59) = true := decide_eq_true d1
    have HNO : Hid (∀ o' n' h' x' y' l', ¬ RdOk b o' n' h' x' y' l') := fun o' n' h' x' y' l' hr => by have := hr.szR; rw [HSZ.out] at this; omega
    have q1' := hide (I1.out.row_other g0 (tabv (bv (fun _ => (0 : UInt8))) 32) (by have := HL0.out; omega))
    go_wp2_with (first | refine wpW_build (by rfl) 23 #[] rfl [] (by simp) _ builtH0 ?_ | refine wpW_build (by rfl) 26 #[] rfl [] (by simp) _ builtL0 ?_ | refine wpList_storeHH rfl _ _ rfl rfl g0 (fun _ => 0) rfl rfl _ I0.out ?_ | refine wpList_storeL rfl _ _ rfl rfl g1 0 0 (.slice none 0 0) rfl rfl rfl _ q1'.out ?_)
    have q0 := (I0.out.row (tabv (bv (fun _ => (0 : UInt8))) 32) (bv (fun _ => 0)) rfl).row_other g1 (tabv (ledv 0 0 (.slice none 0 0)) 3) (by have := HL0.out; omega)
    have q1 := q1'.out.row (tabv (ledv 0 0 (.slice none 0 0)) 3) (ledv 0 0 (.slice none 0 0)) rfl
    exact bodyPost_ret (resR5 _ g0 g1 _ _ _ _ _ _ q0 q1 rfl rfl rfl rfl rfl _ rfl) rfl (rdPost 0 0 (fun _ => 0) 0 0 [] (.slice none 0 0) 4 rfl (OwnP.nil _ _) (by first | exact below_setRow (below_setRow GB.out (Nat.le_refl _) _) (by have := HL0.out; omega) _ | (rw [hg0]; exact below_setRow (below_setRow GB.out (Nat.le_refl _) _) (by have := HL0.out; omega) _)) (.inr ⟨rfl, rfl, rfl, rfl, rfl, rfl, rfl, HNO.out⟩))
  have e1 : decide ((sz : Int) < 59) = false := decide_eq_false (by omega)
  have e2 : decide (sz < 59) = false := decide_eq_false d1
  obtain ⟨t, ht⟩ : ∃ t, sz = 59 + t := ⟨sz - 59, by omega⟩
  have zt : IntKind.i64.wrap ((sz : Int) - 59) = (t : Int) := by rw [IntKind.wrap_i64]; omega
  have zr : Int.tmod (t : Int) 49 = ((t % 49 : Nat) : Int) := by rw [Int.tmod_eq_emod_of_nonneg (by omega)]; rfl
  obtain ⟨r, hr⟩ : ∃ r, t % 49 = r := ⟨_, rfl⟩
  rw [hr] at zr
  by_cases d2 : ¬ r = 0
  · have f1 : ((r : Int) == 0) = false := beq_false_of_ne (by omega)
    have f2 : ((r : Int) != 0) = true := bne_iff_ne.2 (by omega)
    have f3 : (r == 0) = false := beq_false_of_ne d2
    have f4 : (r != 0) = true := bne_iff_ne.2 d2
    have f5 : decide (r = 0) = false := decide_eq_false d2
    have HNO : Hid (∀ o' n' h' x' y' l', ¬ RdOk b o' n' h' x' y' l') := fun o' n' h' x' y' l' hr => by have := hr.szR; rw [HSZ.out] at this; omega
    have g9 : (((sz : Int) - 59) % 49 != 0) = true := bne_iff_ne.2 (by omega)
    have g8 : (((sz : Int) - 59) % 49 == 0) = false := beq_false_of_ne (by omega)
    clear ht hr d2
    have q1' := hide (I1.out.row_other g0 (tabv (bv (fun _ => (0 : UInt8))) 32) (by have := HL0.out; omega))
    go_wp2_with (first | refine wpW_build (by rfl) 23 #[] rfl [] (by simp) _ builtH0 ?_ | refine wpW_build (by rfl) 26 #[] rfl [] (by simp) _ builtL0 ?_ | refine wpList_storeHH rfl _ _ rfl rfl g0 (fun _ => 0) rfl rfl _ I0.out ?_ | refine wpList_storeL rfl _ _ rfl rfl g1 0 0 (.slice none 0 0) rfl rfl rfl _ q1'.out ?_)
    have q0 := (I0.out.row (tabv (bv (fun _ => (0 : UInt8))) 32) (bv (fun _ => 0)) rfl).row_other g1 (tabv (ledv 0 0 (.slice none 0 0)) 3) (by have := HL0.out; omega)
    have q1 := q1'.out.row (tabv (ledv 0 0 (.slice none 0 0)) 3) (ledv 0 0 (.slice none 0 0)) rfl
    exact bodyPost_ret (resR5 _ g0 g1 _ _ _ _ _ _ q0 q1 rfl rfl rfl rfl rfl _ rfl) rfl (rdPost 0 0 (fun _ => 0) 0 0 [] (.slice none 0 0) 4 rfl (OwnP.nil _ _) (by first | exact below_setRow (below_setRow GB.out (Nat.le_refl _) _) (by have := HL0.out; omega) _ | (rw [hg0]; exact below_setRow (below_setRow GB.out (Nat.le_refl _) _) (by have := HL0.out; omega) _)) (.inr ⟨rfl, rfl, rfl, rfl, rfl, rfl, rfl, HNO.out⟩))
  obtain d2 := Classical.not_not.1 d2
  obtain ⟨K, hK⟩ : ∃ K, t = 49 * K := ⟨t / 49, by omega⟩
  have HK : Hid (sz = 59 + 49 * K) := by show _ = _; omega
  subst d2
  rw [show ((0 : Nat) : Int) = 0 from rfl] at zr
  clear hr
  obtain ⟨X, hX⟩ : ∃ z, i64 (be (sub b 41 8)) = z := ⟨_, rfl⟩
  obtain ⟨Y, hY⟩ : ∃ z, i64 (be (sub b 49 8)) = z := ⟨_, rfl⟩
  have HX := hide hX
  have HY := hide hY
  clear hX hY ht hK d1
  go_wp2_with fail
  refine (rget_any b 41 (by have := HK.out; have := HSZ.out; omega) HBZ.out 41 rfl _).mono ?_
  rintro e wx ⟨rfl, hx⟩
  obtain rfl := hx.symm
  rw [HX.out]
  go_wp2_with fail
  refine (rget_any b 49 (by have := HK.out; have := HSZ.out; omega) HBZ.out 49 rfl _).mono ?_
  rintro e wx ⟨rfl, hx⟩
  obtain rfl := hx.symm
  rw [HY.out]
  obtain ⟨w3, w4, hW3, r3, hW4, r4, b4⟩ := newL wb X Y (.slice none 0 0)
  have R3 := hide r3
  have hgL : g1 < wb.heap.size := I1.out.lt
  have K4 : DW w g0 g1 wb.heap.size X Y (.slice none 0 0) [] w4 := ⟨I0.out.below b4 I0.out.lt, I1.out.below b4 I1.out.lt, r4, OwnP.nil _ _, GB.out.trans (b4.mono (by have := HL0.out; omega))⟩
  clear r3 r4 b4 I0 I1 e1 e2 zt zr GB
  go_upto_region 4 with (first | refine wpW_build (by rfl) 26 #[(0, .tmp 27), (1, .tmp 29)] rfl [(0, .int .i64 X), (1, .int .i64 Y)] (by first | rfl | (simp [Act.eval, Act.put]; done)) _ (built_turn X Y) ?_ | refine wpList_storeL rfl _ _ rfl rfl wb.heap.size X Y (.slice none 0 0) rfl rfl rfl _ R3.out ?_)
  try rw [hW4]
  generalize hgl : wb.heap.size = gL at K4 hgL ⊢
  have HGL : Hid (g0 < g1 ∧ g1 < gL) := ⟨HL0.out, hgL⟩
  have KW4 := hide K4
  clear hgl hgL hW3 hW4 R3 K4 HL0
  go_wp2
  go_loopw [8] (fun ix wr => ∃ (j : Nat) (v : Value), j ≤ K ∧ ix = .int .i64 ((59 + 49 * j : Nat) : Int) ∧ Hid (DW w g0 g1 gL X Y v ((List.range j).map (penD b)) wr)) (fun ix _ => sz - (intOf ix).toNat)
  case atStart => exact ⟨0, _, Nat.zero_le _, rfl, KW4.out⟩
  case round =>
    obtain ⟨j, v, hj, rfl, KW⟩ := hrel
    clear KW4
    obtain ⟨at_, hat⟩ : ∃ z, 59 + 49 * j = z := ⟨_, rfl⟩
    rw [hat]
    have HAT := hide hat
    by_cases hlt : j < K
    · have hd : decide ((at_ : Int) < (sz : Int)) = true := decide_eq_true (by have := HK.out; omega)
      have hd2 : decide (at_ < sz) = true := decide_eq_true (by have := HK.out; omega)
      have hatb : at_ + 49 ≤ sz := by have := HK.out; omega
      have y1 : IntKind.i64.wrap ((at_ : Int) + 1) = ((at_ + 1 : Nat) : Int) := by rw [IntKind.wrap_i64]; omega
      have y9 : IntKind.i64.wrap ((at_ : Int) + 9) = ((at_ + 9 : Nat) : Int) := by rw [IntKind.wrap_i64]; omega
      have y17 : IntKind.i64.wrap ((at_ : Int) + 17) = ((at_ + 17 : Nat) : Int) := by rw [IntKind.wrap_i64]; omega
      have y49 : IntKind.i64.wrap ((at_ : Int) + 49) = (at_ : Int) + 49 := by rw [IntKind.wrap_i64]; omega
      have Y1 := hide y1
      have Y9 := hide y9
      have Y17 := hide y17
      have HATB := hide hatb
      have HJ := hide hlt
      obtain ⟨cb, hcb⟩ : ∃ c, Cu.byteAt b.data.toList at_ = c := ⟨_, rfl⟩
      obtain ⟨I1', hI1⟩ : ∃ z, i64 (be (sub b (at_ + 1) 8)) = z := ⟨_, rfl⟩
      obtain ⟨A1, hA1⟩ : ∃ z, i64 (be (sub b (at_ + 9) 8)) = z := ⟨_, rfl⟩
      obtain ⟨H1, hH1⟩ : ∃ z, hAt b (at_ + 17) 32 = z := ⟨_, rfl⟩
      obtain ⟨oB, hoB⟩ : ∃ z, (cb == 1) = z := ⟨_, rfl⟩
      have hoB2 : ((cb.toNat : Int) == 1) = oB := by
        rw [← hoB, Bool.eq_iff_iff, beq_iff_eq, beq_iff_eq, ← UInt8.toNat_inj]
        constructor
        · intro e; have : (1 : UInt8).toNat = 1 := rfl; omega
        · intro e; have : (1 : UInt8).toNat = 1 := rfl; omega
      have HOB := hide hoB2
      have HPD : Hid (penD b j = ⟨oB, I1', A1, H1⟩) := by
        show _ = _
        unfold penD
        rw [show 60 + 49 * j = at_ + 1 by omega, show 68 + 49 * j = at_ + 9 by omega, show 76 + 49 * j = at_ + 17 by omega, hat, hcb, hoB, hI1, hA1, hH1]
      have HCB := hide hcb
      have HI1 := hide hI1
      have HA1 := hide hA1
      have HH1 := hide hH1
      obtain ⟨pN, hpN⟩ : ∃ p, penD b j = p := ⟨_, rfl⟩
      have HPN := hide hpN
      have BP : Hid (Try.prog.built 39 [(0, .bool oB), (1, .int .i64 I1'), (2, .int .i64 A1), (3, .agg (tabv (bv H1) 32))] = some (tabv pN.v 35)) := by rw [← hpN, HPD.out]; exact built_p4D _ _ _ _
      have hps : Hid (((List.range j).map (penD b)).length ≤ 3000000000000) := by show _ ≤ _; rw [List.length_map, List.length_range]; have := HK.out; omega
      obtain ⟨adv, nv, cv, hv⟩ := KW.out.row.form
      subst hv
      clear y1 y9 y17 hat hcb hI1 hA1 hH1 hoB hoB2 hpN hatb hlt
      go_wp2
      refine wp_region_noPanic ?_
      refine wp_region_T (S := fun wx => Has wx gL 26 (ledv X Y (.slice adv nv cv)) 3) 22 (by kernel_rfl) (KW.out.rL.below (Below.refl _ _).drew KW.out.rL.lt) (fun hHeld => ?_)
      have KD := hide (KW.out.below (Below.refl _ _).drew)
      generalize hwd : World.drew wr = wd at hHeld KD ⊢
      refine takeT 0 (some 37) (.pointer (some ⟨gL, 2, none⟩)) rfl rfl (by kernel_rfl) (by kernel_rfl) (by kernel_rfl) (by kernel_rfl) (by decide) (fun _ _ _ h => h) (by rfl) (fun w hw => by first | rfl | (go_simp; done) | (go_simp; rfl) | (go_simp; omega)) hHeld ?_
      simp only [Act.put, List.setIfInBounds_toArray, List.set_cons_zero, List.set_cons_succ]
      refine takeT 1 (some 38) (.slice adv nv cv) rfl rfl (by kernel_rfl) (by kernel_rfl) (by kernel_rfl) (by kernel_rfl) (by decide) (fun _ _ _ h => h) (by rfl) (fun w hw => by have c : w.cell? ⟨gL, 2, none⟩ = some (.slice adv nv cv) := hw.cell 2 (by omega); first | (go_simp; done) | (go_simp; rfl)) hHeld ?_
      simp only [Act.put, List.setIfInBounds_toArray, List.set_cons_zero, List.set_cons_succ]
      refine takeT 2 (some 39) (.string b) rfl rfl (by kernel_rfl) (by kernel_rfl) (by kernel_rfl) (by kernel_rfl) (by decide) (fun _ _ _ h => h) (by rfl) (fun w hw => by first | rfl | (go_simp; done) | (go_simp; rfl) | (go_simp; omega)) hHeld ?_
      simp only [Act.put, List.setIfInBounds_toArray, List.set_cons_zero, List.set_cons_succ]
      refine takeT 3 (some 40) (.int .i64 (at_ : Int)) rfl rfl (by kernel_rfl) (by kernel_rfl) (by kernel_rfl) (by kernel_rfl) (by decide) (fun _ _ _ h => h) (by rfl) (fun w hw => by first | rfl | (go_simp; done) | (go_simp; rfl) | (go_simp; omega)) hHeld ?_
      simp only [Act.put, List.setIfInBounds_toArray, List.set_cons_zero, List.set_cons_succ]
      refine takeT 4 (some 41) (.int .u8 (cb.toNat : Int)) rfl rfl (by kernel_rfl) (by kernel_rfl) (by kernel_rfl) (by kernel_rfl) (by decide) (fun _ _ _ h => h) (by rfl) (fun w hw => run_idx w _ _ b at_ (cb.toNat : Int) (by have := HATB.out; have := HSZ.out; omega) (by rw [HCB.out]) rfl (by rfl) (by rfl)) hHeld ?_
      simp only [Act.put, List.setIfInBounds_toArray, List.set_cons_zero, List.set_cons_succ]
      refine takeT 5 (some 42) (.bool oB) rfl rfl (by kernel_rfl) (by kernel_rfl) (by kernel_rfl) (by kernel_rfl) (by decide) (fun _ _ _ h => h) (by rfl) (fun w hw => by have z := HOB.out; first | rfl | (go_simp; done) | (go_simp; rfl) | (go_simp; omega)) hHeld ?_
      simp only [Act.put, List.setIfInBounds_toArray, List.set_cons_zero, List.set_cons_succ]
      refine takeT 6 (some 43) (.string b) rfl rfl (by kernel_rfl) (by kernel_rfl) (by kernel_rfl) (by kernel_rfl) (by decide) (fun _ _ _ h => h) (by rfl) (fun w hw => by first | rfl | (go_simp; done) | (go_simp; rfl) | (go_simp; omega)) hHeld ?_
      simp only [Act.put, List.setIfInBounds_toArray, List.set_cons_zero, List.set_cons_succ]
      refine takeT 7 (some 44) (.int .i64 (at_ : Int)) rfl rfl (by kernel_rfl) (by kernel_rfl) (by kernel_rfl) (by kernel_rfl) (by decide) (fun _ _ _ h => h) (by rfl) (fun w hw => by first | rfl | (go_simp; done) | (go_simp; rfl) | (go_simp; omega)) hHeld ?_
      simp only [Act.put, List.setIfInBounds_toArray, List.set_cons_zero, List.set_cons_succ]
      refine takeT 8 (some 45) (.int .i64 ((at_ + 1 : Nat) : Int)) rfl rfl (by kernel_rfl) (by kernel_rfl) (by kernel_rfl) (by kernel_rfl) (by decide) (fun _ _ _ h => h) (by rfl) (fun w hw => by have z := Y1.out; first | rfl | (go_simp; done) | (go_simp; rfl) | (go_simp; omega)) hHeld ?_
      simp only [Act.put, List.setIfInBounds_toArray, List.set_cons_zero, List.set_cons_succ]
      refine takeT 10 (some 47) (.string b) rfl rfl (by kernel_rfl) (by kernel_rfl) (by kernel_rfl) (by kernel_rfl) (by decide) (fun _ _ _ h => h) (by rfl) (fun w hw => by first | rfl | (go_simp; done) | (go_simp; rfl) | (go_simp; omega)) hHeld ?_
      simp only [Act.put, List.setIfInBounds_toArray, List.set_cons_zero, List.set_cons_succ]
      refine takeT 11 (some 48) (.int .i64 (at_ : Int)) rfl rfl (by kernel_rfl) (by kernel_rfl) (by kernel_rfl) (by kernel_rfl) (by decide) (fun _ _ _ h => h) (by rfl) (fun w hw => by first | rfl | (go_simp; done) | (go_simp; rfl) | (go_simp; omega)) hHeld ?_
      simp only [Act.put, List.setIfInBounds_toArray, List.set_cons_zero, List.set_cons_succ]
      refine takeT 12 (some 49) (.int .i64 ((at_ + 9 : Nat) : Int)) rfl rfl (by kernel_rfl) (by kernel_rfl) (by kernel_rfl) (by kernel_rfl) (by decide) (fun _ _ _ h => h) (by rfl) (fun w hw => by have z := Y9.out; first | rfl | (go_simp; done) | (go_simp; rfl) | (go_simp; omega)) hHeld ?_
      simp only [Act.put, List.setIfInBounds_toArray, List.set_cons_zero, List.set_cons_succ]
      refine takeT 14 (some 51) (.string b) rfl rfl (by kernel_rfl) (by kernel_rfl) (by kernel_rfl) (by kernel_rfl) (by decide) (fun _ _ _ h => h) (by rfl) (fun w hw => by first | rfl | (go_simp; done) | (go_simp; rfl) | (go_simp; omega)) hHeld ?_
      simp only [Act.put, List.setIfInBounds_toArray, List.set_cons_zero, List.set_cons_succ]
      refine takeT 15 (some 52) (.int .i64 (at_ : Int)) rfl rfl (by kernel_rfl) (by kernel_rfl) (by kernel_rfl) (by kernel_rfl) (by decide) (fun _ _ _ h => h) (by rfl) (fun w hw => by first | rfl | (go_simp; done) | (go_simp; rfl) | (go_simp; omega)) hHeld ?_
      simp only [Act.put, List.setIfInBounds_toArray, List.set_cons_zero, List.set_cons_succ]
      refine takeT 16 (some 53) (.int .i64 ((at_ + 17 : Nat) : Int)) rfl rfl (by kernel_rfl) (by kernel_rfl) (by kernel_rfl) (by kernel_rfl) (by decide) (fun _ _ _ h => h) (by rfl) (fun w hw => by have z := Y17.out; first | rfl | (go_simp; done) | (go_simp; rfl) | (go_simp; omega)) hHeld ?_
      simp only [Act.put, List.setIfInBounds_toArray, List.set_cons_zero, List.set_cons_succ]
      refine readyT 9 (by kernel_rfl) rfl (by rfl) (fun K hK => ?_)
      go_simp
      refine (rget_any b (at_ + 1) (by have := HATB.out; have := HSZ.out; omega) HBZ.out _ (by first | rfl | omega) _).mono ?_
      rintro e wx ⟨rfl, hx⟩
      obtain rfl := hx.symm
      rw [HI1.out]
      try go_wp2_with fail
      refine hK.out _ _ (fun _ => hHeld) (fun hH => ?_)
      clear hK hH
      refine readyT 13 (by kernel_rfl) rfl (by rfl) (fun K hK => ?_)
      go_simp
      refine (rget_any b (at_ + 9) (by have := HATB.out; have := HSZ.out; omega) HBZ.out _ (by first | rfl | omega) _).mono ?_
      rintro e wx ⟨rfl, hx⟩
      obtain rfl := hx.symm
      rw [HA1.out]
      try go_wp2_with fail
      refine hK.out _ _ (fun _ => hHeld) (fun hH => ?_)
      clear hK hH
      refine readyT 17 (by kernel_rfl) rfl (by rfl) (fun K hK => ?_)
      go_simp
      refine (rhash_any b (at_ + 17) (by have := HATB.out; have := HSZ.out; omega) HBZ.out _ (by first | rfl | omega) _).mono ?_
      rintro e wq ⟨rfl, hbq⟩
      rw [HH1.out]
      try go_wp2_with fail
      have KQ := hide (KD.out.below hbq)
      refine hK.out _ _ (fun _ => KQ.out.rL) (fun hH => ?_)
      clear hK hH hHeld hbq
      have hHeld := KQ.out.rL
      refine takeT 18 (some 55) (.agg (tabv pN.v 35)) rfl rfl (by kernel_rfl) (by kernel_rfl) (by kernel_rfl) (by kernel_rfl) (by decide) (fun _ _ _ h => h) (by rfl) (fun w hw => run_buildQ w 39 _ rfl [(0, .bool oB), (1, .int .i64 I1'), (2, .int .i64 A1), (3, .agg (tabv (bv H1) 32))] (by first | (simp [Act.eval]; done) | rfl) _ BP.out) hHeld ?_
      simp only [Act.put, List.setIfInBounds_toArray, List.set_cons_zero, List.set_cons_succ]
      obtain ⟨v', wq1, wq2, rS, rA, oA, gr, bA⟩ := run_appPW wq (gL + 1) (.slice adv nv cv) ((List.range j).map (penD b)) pN KQ.out.row (by have := hps.out; omega) KQ.out.rL.lt
      obtain ⟨adn, nn, cn, hvn⟩ := oA.form
      subst hvn
      have eS : wq1 = wq.alloc (.cells (tabv pN.v 35) 39) := by
        have := run_sliceP wq pN
        rw [rS] at this
        simpa using this
      refine readyT 19 (by kernel_rfl) rfl (by rfl) (fun K hK => ?_)
      refine wpRun (v := .slice (some ⟨wq.heap.size, 0, none⟩) 1 1) (w' := wq1) (by simp [execOp, rS, Act.eval, Result.andThen]) ?_
      simp only [Act.put, List.setIfInBounds_toArray, List.set_cons_zero, List.set_cons_succ]
      have hq1 : Has wq1 gL 26 (ledv X Y (.slice adv nv cv)) 3 := by rw [eS]; exact hHeld.old _
      refine hK.out _ _ (fun _ => hq1) (fun hH => ?_)
      clear hK hH hHeld
      have hHeld := hq1
      refine readyT 20 (by kernel_rfl) rfl (by rfl) (fun K hK => ?_)
      refine wpRun (v := .slice adn nn cn) (w' := wq2) (by simp [execOp, resolve, invoke, builtin, rA, Act.eval, Result.andThen]) ?_
      simp only [Act.put, List.setIfInBounds_toArray, List.set_cons_zero, List.set_cons_succ]
      have hq2 : Has wq2 gL 26 (ledv X Y (.slice adv nv cv)) 3 := KQ.out.rL.same (gr gL KQ.out.rL.lt (fun e => by have := (KQ.out.row.lt gL e).1; omega))
      refine hK.out _ _ (fun _ => hq2) (fun hH => ?_)
      clear hK hH hHeld hq1
      have hHeld := hq2
      refine takeT 21 (some 58) (.pointer (some ⟨gL, 2, none⟩)) rfl rfl (by kernel_rfl) (by kernel_rfl) (by kernel_rfl) (by kernel_rfl) (by decide) (fun _ _ _ h => h) (by rfl) (fun w hw => by first | rfl | (go_simp; done) | (go_simp; rfl) | (go_simp; omega)) hHeld ?_
      simp only [Act.put, List.setIfInBounds_toArray, List.set_cons_zero, List.set_cons_succ]
      have cg : wq2.cell? ⟨gL, 2, none⟩ = some (.slice adv nv cv) := hq2.cell 2 (by omega)
      have fg := hq2.frozen 2
      have KN := hide (KQ.out.app HGL.out oA gr bA)
      refine readyT 22 (by kernel_rfl) rfl (by rfl) (fun K hK => ?_)
      go_simp
      refine hK.out _ _ (fun x => absurd rfl x) (fun _ => ?_)
      clear hK
      refine ⟨by kernel_rfl, ?_⟩
      refine NoPanic.normal ?_
      generalize hw3 : World.setCell wq2 ⟨gL, 2, none⟩ (.slice adn nn cn) = wz at KN ⊢
      have KN2 : Hid (DW w g0 g1 gL X Y (.slice adn nn cn) ((List.range (j + 1)).map (penD b)) wz) := by
        have := KN.out
        rw [← HPN.out] at this
        rw [List.range_succ, List.map_append]
        exact this
      clear hw3 cg fg hq2 hHeld rS rA oA gr bA eS KQ KD hwd KN
      go_wp2
      go_roundw
      case rel => exact ⟨j + 1, _, by have := HJ.out; omega, by have := HAT.out; exact int_eq (by omega), KN2.out⟩
      case measure => have := HAT.out; have := HJ.out; have := HK.out; simp [intOf]; omega
    · have hjn : j = K := by omega
      have hd : decide ((at_ : Int) < (sz : Int)) = false := decide_eq_false (by have := HK.out; omega)
      have hd2 : decide (at_ < sz) = false := decide_eq_false (by have := HK.out; omega)
      obtain ⟨ps, hps⟩ : ∃ z, (List.range j).map (penD b) = z := ⟨_, rfl⟩
      rw [hps] at KW
      have HRN : Hid (Rng ps) := by rw [← hps]; exact rangeD b j
      have HLE : Hid (ps.length ≤ 3000000000000) := by show _ ≤ _; rw [← hps, List.length_map, List.length_range]; have := HK.out; omega
      obtain ⟨O, hO⟩ : ∃ z, ((Cu.byteAt b.data.toList 0).toNat : Int) = z := ⟨_, rfl⟩
      obtain ⟨N, hN⟩ : ∃ z, i64 (be (sub b 1 8)) = z := ⟨_, rfl⟩
      obtain ⟨Hp, hHp⟩ : ∃ z, hAt b 9 32 = z := ⟨_, rfl⟩
      have hOb : 0 ≤ O ∧ O < 256 := by rw [← hO]; have := (Cu.byteAt b.data.toList 0).toNat_lt; omega
      have HE : Hid (∀ o' n' h' x' y' l', RdOk b o' n' h' x' y' l' → O = o' ∧ N = n' ∧ eqH Hp h' = true ∧ X = x' ∧ Y = y' ∧ eqL ps l') := fun o' n' h' x' y' l' hr => by
        have h1 := hr.headD
        rw [hO, hN, hHp, HX.out, HY.out] at h1
        have h2 := hr.pens
        have h3 := hr.szR
        rw [HSZ.out, HK.out] at h3
        rw [show l'.length = j by omega, hps] at h2
        exact ⟨h1.1, h1.2.1, h1.2.2.1, h1.2.2.2.1, h1.2.2.2.2, h2⟩
      have HOO := hide hO
      have HNN := hide hN
      have HHP := hide hHp
      have K1 : Hid (∀ w : World, (convert 5 3 (.int .u8 O)).run Try.prog w = .ok (.int .i64 O) w) := fun w => by
        have h := run_convert_int (P := Try.prog) (w := w) 5 3 .u8 O (by kernel_rfl) (by kernel_rfl)
        rw [show Try.prog.intKind 3 = .i64 by kernel_rfl, show IntKind.i64.wrap O = O by rw [IntKind.wrap_i64]; omega] at h
        exact h
      have HS9 : Hid (59 ≤ b.size) := by show _ ≤ _; have := HK.out; have := HSZ.out; omega
      clear hps hO hN hHp hOb hjn HX HY hat
      go_upto_region 8 with fail
      go_cut [9, 10, 11] from 59 to 65 (fun s9 s10 s11 wx => ∃ gH, s9 = .int .i64 O ∧ s10 = .int .i64 N ∧ s11 = .pointer (some ⟨gH, 0, none⟩) ∧ gL < gH ∧ Has wx gH 23 (bv Hp) 32 ∧ Below wr.heap.size wr wx)
      case first =>
        refine wp_region_noPanic ?_
        refine wp_region_held_drew (S := fun wx => Below wr.heap.size wr wx) (by kernel_rfl) ((Below.refl _ _).drew) (fun hHeld => ?_)
        generalize hwd : World.drew wr = wd at hHeld ⊢
        refine takeH 0 (some 59) (.string b) rfl rfl (by kernel_rfl) (by kernel_rfl) (by kernel_rfl) (fun _ _ _ h => h) (by rfl) (fun w hw => by first | rfl | (go_simp; done) | (go_simp; rfl) | (go_simp; omega)) hHeld ?_
        simp only [Act.put, List.setIfInBounds_toArray, List.set_cons_zero, List.set_cons_succ]
        refine takeH 1 (some 60) (.int .u8 O) rfl rfl (by kernel_rfl) (by kernel_rfl) (by kernel_rfl) (fun _ _ _ h => h) (by rfl) (fun w hw => run_idx w _ _ b 0 O (by have := HS9.out; omega) HOO.out rfl (by rfl) (by rfl)) hHeld ?_
        simp only [Act.put, List.setIfInBounds_toArray, List.set_cons_zero, List.set_cons_succ]
        refine takeH 2 (some 61) (.int .i64 O) rfl rfl (by kernel_rfl) (by kernel_rfl) (by kernel_rfl) (fun _ _ _ h => h) (by rfl) (fun w hw => run_conv w 5 3 _ (.int .u8 O) (.int .i64 O) rfl (by rfl) (K1.out w)) hHeld ?_
        simp only [Act.put, List.setIfInBounds_toArray, List.set_cons_zero, List.set_cons_succ]
        refine takeH 3 (some 62) (.string b) rfl rfl (by kernel_rfl) (by kernel_rfl) (by kernel_rfl) (fun _ _ _ h => h) (by rfl) (fun w hw => by first | rfl | (go_simp; done) | (go_simp; rfl) | (go_simp; omega)) hHeld ?_
        simp only [Act.put, List.setIfInBounds_toArray, List.set_cons_zero, List.set_cons_succ]
        refine takeH 5 (some 64) (.string b) rfl rfl (by kernel_rfl) (by kernel_rfl) (by kernel_rfl) (fun _ _ _ h => h) (by rfl) (fun w hw => by first | rfl | (go_simp; done) | (go_simp; rfl) | (go_simp; omega)) hHeld ?_
        simp only [Act.put, List.setIfInBounds_toArray, List.set_cons_zero, List.set_cons_succ]
        refine wpAnyH_ready (rs := [4, 7]) (by kernel_rfl) (by simp) (AllReadyH.cons rfl (fun K hK => ?_) (AllReadyH.cons rfl (fun K hK => ?_) AllReadyH.nil))
        · rw [if_pos (by rfl)]
          go_simp
          refine (rget_any b 1 (by have := HS9.out; omega) HBZ.out 1 rfl _).mono ?_
          rintro e wx ⟨rfl, hx⟩
          obtain rfl := hx.symm
          rw [HNN.out]
          try go_wp2_with fail
          refine hK.out _ _ hHeld (fun hH => ?_)
          clear hK hHeld
          have hHeld := hH
          clear hH
          refine wpAnyH_ready (rs := [6, 7]) (by kernel_rfl) (by simp) (AllReadyH.cons rfl (fun K hK => ?_) (AllReadyH.cons rfl (fun K hK => ?_) AllReadyH.nil))
          · rw [if_pos (by rfl)]
            go_simp
            refine (rhash_any b 9 (by have := HS9.out; omega) HBZ.out 9 rfl _).mono ?_
            rintro e wq4 ⟨rfl, hbq⟩
            rw [HHP.out]
            try go_wp2_with fail
            refine hK.out _ _ (hHeld.trans (hbq.mono hHeld.size)) (fun hH => ?_)
            clear hK hHeld
            have hHeld := hH
            clear hH
            refine wpAnyH_ready (rs := [7]) (by kernel_rfl) (by simp) (AllReadyH.cons rfl (fun K hK => ?_) AllReadyH.nil)
            · rw [if_pos (by rfl)]
              go_simp
              have qN : Has (World.alloc wq4 (.cells #[.int .u8 0, .int .u8 0, .int .u8 0, .int .u8 0, .int .u8 0, .int .u8 0, .int .u8 0, .int .u8 0, .int .u8 0, .int .u8 0, .int .u8 0, .int .u8 0, .int .u8 0, .int .u8 0, .int .u8 0, .int .u8 0, .int .u8 0, .int .u8 0, .int .u8 0, .int .u8 0, .int .u8 0, .int .u8 0, .int .u8 0, .int .u8 0, .int .u8 0, .int .u8 0, .int .u8 0, .int .u8 0, .int .u8 0, .int .u8 0, .int .u8 0, .int .u8 0] 23)) (Array.size (World.heap wq4)) 23 (bv (fun _ => 0)) 32 := by rw [zero32c]; exact Has.new wq4 23 _ 32 _ rfl
              have bN : Below (Array.size (World.heap wq4)) wq4 (World.alloc wq4 (.cells #[.int .u8 0, .int .u8 0, .int .u8 0, .int .u8 0, .int .u8 0, .int .u8 0, .int .u8 0, .int .u8 0, .int .u8 0, .int .u8 0, .int .u8 0, .int .u8 0, .int .u8 0, .int .u8 0, .int .u8 0, .int .u8 0, .int .u8 0, .int .u8 0, .int .u8 0, .int .u8 0, .int .u8 0, .int .u8 0, .int .u8 0, .int .u8 0, .int .u8 0, .int .u8 0, .int .u8 0, .int .u8 0, .int .u8 0, .int .u8 0, .int .u8 0, .int .u8 0] 23)) := (Below.refl _ _).alloc (Nat.le_refl _) _
              have hgHs : wr.heap.size ≤ Array.size (World.heap wq4) := hHeld.size
              have sN := hHeld.trans (bN.mono hHeld.size)
              generalize hwe : World.alloc wq4 (.cells #[.int .u8 0, .int .u8 0, .int .u8 0, .int .u8 0, .int .u8 0, .int .u8 0, .int .u8 0, .int .u8 0, .int .u8 0, .int .u8 0, .int .u8 0, .int .u8 0, .int .u8 0, .int .u8 0, .int .u8 0, .int .u8 0, .int .u8 0, .int .u8 0, .int .u8 0, .int .u8 0, .int .u8 0, .int .u8 0, .int .u8 0, .int .u8 0, .int .u8 0, .int .u8 0, .int .u8 0, .int .u8 0, .int .u8 0, .int .u8 0, .int .u8 0, .int .u8 0] 23) = we46 at qN bN sN ⊢
              refine hK.out _ _ sN (fun hH => ?_)
              clear sN bN hwe
              clear hK hHeld
              have hHeld := hH
              clear hH
              generalize hgHe : Array.size (World.heap wq4) = gH at qN hgHs ⊢
              try simp only [Act.put, List.setIfInBounds_toArray, List.set_cons_zero, List.set_cons_succ]
              refine takeH 8 (some 9) (.int .i64 O) rfl rfl (by kernel_rfl) (by kernel_rfl) (by kernel_rfl) (fun _ _ _ h => h) (by rfl) (fun w hw => by first | rfl | (go_simp; done) | (go_simp; rfl) | (go_simp; omega)) hHeld ?_
              simp only [Act.put, List.setIfInBounds_toArray, List.set_cons_zero, List.set_cons_succ]
              refine takeH 9 (some 10) (.int .i64 N) rfl rfl (by kernel_rfl) (by kernel_rfl) (by kernel_rfl) (fun _ _ _ h => h) (by rfl) (fun w hw => by first | rfl | (go_simp; done) | (go_simp; rfl) | (go_simp; omega)) hHeld ?_
              simp only [Act.put, List.setIfInBounds_toArray, List.set_cons_zero, List.set_cons_succ]
              refine wpAnyH_ready (rs := [10]) (by kernel_rfl) (by simp) (AllReadyH.cons rfl (fun K hK => ?_) AllReadyH.nil)
              rw [if_pos (by rfl)]
              refine wp_store_part 23 _ _ rfl rfl gH 0 (bv Hp) 32 rfl rfl 23 _ 32 qN (by omega) info26 (fun i _ => rfl) (bv Hp) (fun i hi => by unfold splice; rw [if_pos (by omega), Nat.sub_zero]) ?_
              have bF : Below wr.heap.size wr (we46.setRow gH (tabv (bv Hp) 32)) := below_setRow hHeld hgHs _
              refine hK.out _ _ bF (fun hH => ?_)
              clear hK hHeld hH
              refine wpAnyH_done (by kernel_rfl) ?_ _
              refine NoPanic.normal ?_
              have rHF : Has (we46.setRow gH (tabv (bv Hp) 32)) gH 23 (bv Hp) 32 := qN.row _ _ rfl
              go_wp2
              go_meet
              exact ⟨_, rfl, rfl, rfl, by have := KW.out.rL.lt; omega, rHF, bF⟩
          · rw [if_pos (by rfl)]
            go_simp
            have qN : Has (World.alloc wd (.cells #[.int .u8 0, .int .u8 0, .int .u8 0, .int .u8 0, .int .u8 0, .int .u8 0, .int .u8 0, .int .u8 0, .int .u8 0, .int .u8 0, .int .u8 0, .int .u8 0, .int .u8 0, .int .u8 0, .int .u8 0, .int .u8 0, .int .u8 0, .int .u8 0, .int .u8 0, .int .u8 0, .int .u8 0, .int .u8 0, .int .u8 0, .int .u8 0, .int .u8 0, .int .u8 0, .int .u8 0, .int .u8 0, .int .u8 0, .int .u8 0, .int .u8 0, .int .u8 0] 23)) (Array.size (World.heap wd)) 23 (bv (fun _ => 0)) 32 := by rw [zero32c]; exact Has.new wd 23 _ 32 _ rfl
            have bN : Below (Array.size (World.heap wd)) wd (World.alloc wd (.cells #[.int .u8 0, .int .u8 0, .int .u8 0, .int .u8 0, .int .u8 0, .int .u8 0, .int .u8 0, .int .u8 0, .int .u8 0, .int .u8 0, .int .u8 0, .int .u8 0, .int .u8 0, .int .u8 0, .int .u8 0, .int .u8 0, .int .u8 0, .int .u8 0, .int .u8 0, .int .u8 0, .int .u8 0, .int .u8 0, .int .u8 0, .int .u8 0, .int .u8 0, .int .u8 0, .int .u8 0, .int .u8 0, .int .u8 0, .int .u8 0, .int .u8 0, .int .u8 0] 23)) := (Below.refl _ _).alloc (Nat.le_refl _) _
            have hgHs : wr.heap.size ≤ Array.size (World.heap wd) := hHeld.size
            have sN := hHeld.trans (bN.mono hHeld.size)
            generalize hwe : World.alloc wd (.cells #[.int .u8 0, .int .u8 0, .int .u8 0, .int .u8 0, .int .u8 0, .int .u8 0, .int .u8 0, .int .u8 0, .int .u8 0, .int .u8 0, .int .u8 0, .int .u8 0, .int .u8 0, .int .u8 0, .int .u8 0, .int .u8 0, .int .u8 0, .int .u8 0, .int .u8 0, .int .u8 0, .int .u8 0, .int .u8 0, .int .u8 0, .int .u8 0, .int .u8 0, .int .u8 0, .int .u8 0, .int .u8 0, .int .u8 0, .int .u8 0, .int .u8 0, .int .u8 0] 23) = we4 at qN bN sN ⊢
            refine hK.out _ _ sN (fun hH => ?_)
            clear sN bN hwe
            clear hK hHeld
            have hHeld := hH
            clear hH
            generalize hgHe : Array.size (World.heap wd) = gH at qN hgHs ⊢
            try simp only [Act.put, List.setIfInBounds_toArray, List.set_cons_zero, List.set_cons_succ]
            refine wpAnyH_ready (rs := [6]) (by kernel_rfl) (by simp) (AllReadyH.cons rfl (fun K hK => ?_) AllReadyH.nil)
            · rw [if_pos (by rfl)]
              go_simp
              refine (rhash_any b 9 (by have := HS9.out; omega) HBZ.out 9 rfl _).mono ?_
              rintro e wq47 ⟨rfl, hbq⟩
              rw [HHP.out]
              try go_wp2_with fail
              have qN := qN.below hbq qN.lt
              refine hK.out _ _ (hHeld.trans (hbq.mono hHeld.size)) (fun hH => ?_)
              clear hK hHeld
              have hHeld := hH
              clear hH
              refine takeH 8 (some 9) (.int .i64 O) rfl rfl (by kernel_rfl) (by kernel_rfl) (by kernel_rfl) (fun _ _ _ h => h) (by rfl) (fun w hw => by first | rfl | (go_simp; done) | (go_simp; rfl) | (go_simp; omega)) hHeld ?_
              simp only [Act.put, List.setIfInBounds_toArray, List.set_cons_zero, List.set_cons_succ]
              refine takeH 9 (some 10) (.int .i64 N) rfl rfl (by kernel_rfl) (by kernel_rfl) (by kernel_rfl) (fun _ _ _ h => h) (by rfl) (fun w hw => by first | rfl | (go_simp; done) | (go_simp; rfl) | (go_simp; omega)) hHeld ?_
              simp only [Act.put, List.setIfInBounds_toArray, List.set_cons_zero, List.set_cons_succ]
              refine wpAnyH_ready (rs := [10]) (by kernel_rfl) (by simp) (AllReadyH.cons rfl (fun K hK => ?_) AllReadyH.nil)
              rw [if_pos (by rfl)]
              refine wp_store_part 23 _ _ rfl rfl gH 0 (bv Hp) 32 rfl rfl 23 _ 32 qN (by omega) info26 (fun i _ => rfl) (bv Hp) (fun i hi => by unfold splice; rw [if_pos (by omega), Nat.sub_zero]) ?_
              have bF : Below wr.heap.size wr (wq47.setRow gH (tabv (bv Hp) 32)) := below_setRow hHeld hgHs _
              refine hK.out _ _ bF (fun hH => ?_)
              clear hK hHeld hH
              refine wpAnyH_done (by kernel_rfl) ?_ _
              refine NoPanic.normal ?_
              have rHF : Has (wq47.setRow gH (tabv (bv Hp) 32)) gH 23 (bv Hp) 32 := qN.row _ _ rfl
              go_wp2
              go_meet
              exact ⟨_, rfl, rfl, rfl, by have := KW.out.rL.lt; omega, rHF, bF⟩
        · rw [if_pos (by rfl)]
          go_simp
          have qN : Has (World.alloc wd (.cells #[.int .u8 0, .int .u8 0, .int .u8 0, .int .u8 0, .int .u8 0, .int .u8 0, .int .u8 0, .int .u8 0, .int .u8 0, .int .u8 0, .int .u8 0, .int .u8 0, .int .u8 0, .int .u8 0, .int .u8 0, .int .u8 0, .int .u8 0, .int .u8 0, .int .u8 0, .int .u8 0, .int .u8 0, .int .u8 0, .int .u8 0, .int .u8 0, .int .u8 0, .int .u8 0, .int .u8 0, .int .u8 0, .int .u8 0, .int .u8 0, .int .u8 0, .int .u8 0] 23)) (Array.size (World.heap wd)) 23 (bv (fun _ => 0)) 32 := by rw [zero32c]; exact Has.new wd 23 _ 32 _ rfl
          have bN : Below (Array.size (World.heap wd)) wd (World.alloc wd (.cells #[.int .u8 0, .int .u8 0, .int .u8 0, .int .u8 0, .int .u8 0, .int .u8 0, .int .u8 0, .int .u8 0, .int .u8 0, .int .u8 0, .int .u8 0, .int .u8 0, .int .u8 0, .int .u8 0, .int .u8 0, .int .u8 0, .int .u8 0, .int .u8 0, .int .u8 0, .int .u8 0, .int .u8 0, .int .u8 0, .int .u8 0, .int .u8 0, .int .u8 0, .int .u8 0, .int .u8 0, .int .u8 0, .int .u8 0, .int .u8 0, .int .u8 0, .int .u8 0] 23)) := (Below.refl _ _).alloc (Nat.le_refl _) _
          have hgHs : wr.heap.size ≤ Array.size (World.heap wd) := hHeld.size
          have sN := hHeld.trans (bN.mono hHeld.size)
          generalize hwe : World.alloc wd (.cells #[.int .u8 0, .int .u8 0, .int .u8 0, .int .u8 0, .int .u8 0, .int .u8 0, .int .u8 0, .int .u8 0, .int .u8 0, .int .u8 0, .int .u8 0, .int .u8 0, .int .u8 0, .int .u8 0, .int .u8 0, .int .u8 0, .int .u8 0, .int .u8 0, .int .u8 0, .int .u8 0, .int .u8 0, .int .u8 0, .int .u8 0, .int .u8 0, .int .u8 0, .int .u8 0, .int .u8 0, .int .u8 0, .int .u8 0, .int .u8 0, .int .u8 0, .int .u8 0] 23) = we at qN bN sN ⊢
          refine hK.out _ _ sN (fun hH => ?_)
          clear sN bN hwe
          clear hK hHeld
          have hHeld := hH
          clear hH
          generalize hgHe : Array.size (World.heap wd) = gH at qN hgHs ⊢
          try simp only [Act.put, List.setIfInBounds_toArray, List.set_cons_zero, List.set_cons_succ]
          refine wpAnyH_ready (rs := [4]) (by kernel_rfl) (by simp) (AllReadyH.cons rfl (fun K hK => ?_) AllReadyH.nil)
          · rw [if_pos (by rfl)]
            go_simp
            refine (rget_any b 1 (by have := HS9.out; omega) HBZ.out 1 rfl _).mono ?_
            rintro e wx ⟨rfl, hx⟩
            obtain rfl := hx.symm
            rw [HNN.out]
            try go_wp2_with fail
            refine hK.out _ _ hHeld (fun hH => ?_)
            clear hK hHeld
            have hHeld := hH
            clear hH
            refine wpAnyH_ready (rs := [6]) (by kernel_rfl) (by simp) (AllReadyH.cons rfl (fun K hK => ?_) AllReadyH.nil)
            · rw [if_pos (by rfl)]
              go_simp
              refine (rhash_any b 9 (by have := HS9.out; omega) HBZ.out 9 rfl _).mono ?_
              rintro e wq74 ⟨rfl, hbq⟩
              rw [HHP.out]
              try go_wp2_with fail
              have qN := qN.below hbq qN.lt
              refine hK.out _ _ (hHeld.trans (hbq.mono hHeld.size)) (fun hH => ?_)
              clear hK hHeld
              have hHeld := hH
              clear hH
              refine takeH 8 (some 9) (.int .i64 O) rfl rfl (by kernel_rfl) (by kernel_rfl) (by kernel_rfl) (fun _ _ _ h => h) (by rfl) (fun w hw => by first | rfl | (go_simp; done) | (go_simp; rfl) | (go_simp; omega)) hHeld ?_
              simp only [Act.put, List.setIfInBounds_toArray, List.set_cons_zero, List.set_cons_succ]
              refine takeH 9 (some 10) (.int .i64 N) rfl rfl (by kernel_rfl) (by kernel_rfl) (by kernel_rfl) (fun _ _ _ h => h) (by rfl) (fun w hw => by first | rfl | (go_simp; done) | (go_simp; rfl) | (go_simp; omega)) hHeld ?_
              simp only [Act.put, List.setIfInBounds_toArray, List.set_cons_zero, List.set_cons_succ]
              refine wpAnyH_ready (rs := [10]) (by kernel_rfl) (by simp) (AllReadyH.cons rfl (fun K hK => ?_) AllReadyH.nil)
              rw [if_pos (by rfl)]
              refine wp_store_part 23 _ _ rfl rfl gH 0 (bv Hp) 32 rfl rfl 23 _ 32 qN (by omega) info26 (fun i _ => rfl) (bv Hp) (fun i hi => by unfold splice; rw [if_pos (by omega), Nat.sub_zero]) ?_
              have bF : Below wr.heap.size wr (wq74.setRow gH (tabv (bv Hp) 32)) := below_setRow hHeld hgHs _
              refine hK.out _ _ bF (fun hH => ?_)
              clear hK hHeld hH
              refine wpAnyH_done (by kernel_rfl) ?_ _
              refine NoPanic.normal ?_
              have rHF : Has (wq74.setRow gH (tabv (bv Hp) 32)) gH 23 (bv Hp) 32 := qN.row _ _ rfl
              go_wp2
              go_meet
              exact ⟨_, rfl, rfl, rfl, by have := KW.out.rL.lt; omega, rHF, bF⟩
      case rest =>
      obtain ⟨gH, rfl, rfl, rfl, hlt8, rHF, bF⟩ := hcut
      have kf := KW.out.below bF
      have HG : Hid (g0 < g1 ∧ g1 < gL ∧ gL < gH) := ⟨HGL.out.1, HGL.out.2, hlt8⟩
      have KX : Hid (DX w g0 g1 gH gL Hp X Y v ps wc) := ⟨kf.r0, kf.r1, rHF, kf.rL, kf.row, kf.bel⟩
      clear bF rHF kf KW hlt8
      have KW := KX
      clear KX
      obtain ⟨adp, cp, hvp, hSp, _, _, _⟩ := KW.out.row.pens
      obtain ⟨np, hnp⟩ : ∃ n, ps.length = n := ⟨_, rfl⟩
      rw [hnp] at hvp
      subst hvp
      have HNP := hide hnp
      have HSP := hide hSp
      have hnp2 : np ≤ 3000000000000 := by rw [← hnp]; exact HLE.out
      clear hSp hnp
      go_wp2_with (first | refine wpW_load_at 23 _ rfl (gH) (0) (by rfl) (by rfl) _ 32 _ (KW.out.rH.at_ 0 (by omega) (fun i hi => by rw [Nat.zero_add])) Try.underlying23 rfl info26 ?_ | refine wpW_load_at 26 _ rfl (gL) (0) (by rfl) (by rfl) _ 3 _ (KW.out.rL.at_ 0 (by omega) (fun i hi => by rw [Nat.zero_add])) Try.underlying26 rfl infoL ?_ | fail)
      refine (rtext_any O N Hp X Y adp np cp ps HNP.out (by omega) HRN.out _ HSP.out).mono ?_
      rintro e w7 ⟨b', c', rfl, hTA, hb7⟩
      have KW7 := hide (KW.out.below hb7)
      have HTA := hide hTA
      clear hb7 hTA KW HSP
      by_cases hc0 : c' = 0
      · subst hc0
        by_cases hbb : b' = b
        · subst hbb
          have HR := hide (HTA.out.ok rfl)
          go_wp2
          refine wp_region_noPanic ?_
          refine wp_region_held_drew (S := fun wx => Has wx gH 23 (bv Hp) 32 ∧ Has wx gL 26 (ledv X Y (.slice adp np cp)) 3) (by kernel_rfl) (⟨KW7.out.rH.below (Below.refl _ _).drew KW7.out.rH.lt, KW7.out.rL.below (Below.refl _ _).drew KW7.out.rL.lt⟩) (fun hHeld => ?_)
          have KD := hide (KW7.out.below (Below.refl _ _).drew)
          generalize hwd : World.drew w7 = wd at hHeld KD ⊢
          refine takeH 0 (some 83) (.int .i64 O) rfl rfl (by kernel_rfl) (by kernel_rfl) (by kernel_rfl) (fun _ _ _ h => h) (by rfl) (fun w hw => by first | rfl | (go_simp; done) | (go_simp; rfl) | (go_simp; omega)) hHeld ?_
          simp only [Act.put, List.setIfInBounds_toArray, List.set_cons_zero, List.set_cons_succ]
          refine takeH 1 (some 84) (.int .i64 N) rfl rfl (by kernel_rfl) (by kernel_rfl) (by kernel_rfl) (fun _ _ _ h => h) (by rfl) (fun w hw => by first | rfl | (go_simp; done) | (go_simp; rfl) | (go_simp; omega)) hHeld ?_
          simp only [Act.put, List.setIfInBounds_toArray, List.set_cons_zero, List.set_cons_succ]
          refine takeH 2 (some 85) (.agg (tabv (bv Hp) 32)) rfl rfl (by kernel_rfl) (by kernel_rfl) (by kernel_rfl) (fun _ _ _ h => h) (by rfl) (fun w hw => run_load_at w 23 _ rfl gH 0 (by rfl) _ 32 _ (hw.1.at_ 0 (by omega) (fun i hi => by rw [Nat.zero_add])) Try.underlying23 rfl info26) hHeld ?_
          simp only [Act.put, List.setIfInBounds_toArray, List.set_cons_zero, List.set_cons_succ]
          refine takeH 3 (some 86) (.agg (tabv (ledv X Y (.slice adp np cp)) 3)) rfl rfl (by kernel_rfl) (by kernel_rfl) (by kernel_rfl) (fun _ _ _ h => h) (by rfl) (fun w hw => run_load_at w 26 _ rfl gL 0 (by rfl) _ 3 _ (hw.2.at_ 0 (by omega) (fun i hi => by rw [Nat.zero_add])) Try.underlying26 rfl infoL) hHeld ?_
          simp only [Act.put, List.setIfInBounds_toArray, List.set_cons_zero, List.set_cons_succ]
          refine takeH 4 (some 2) (.int .i64 O) rfl rfl (by kernel_rfl) (by kernel_rfl) (by kernel_rfl) (fun _ _ _ h => h) (by rfl) (fun w hw => by first | rfl | (go_simp; done) | (go_simp; rfl) | (go_simp; omega)) hHeld ?_
          simp only [Act.put, List.setIfInBounds_toArray, List.set_cons_zero, List.set_cons_succ]
          refine takeH 5 (some 3) (.int .i64 N) rfl rfl (by kernel_rfl) (by kernel_rfl) (by kernel_rfl) (fun _ _ _ h => h) (by rfl) (fun w hw => by first | rfl | (go_simp; done) | (go_simp; rfl) | (go_simp; omega)) hHeld ?_
          simp only [Act.put, List.setIfInBounds_toArray, List.set_cons_zero, List.set_cons_succ]
          refine wpAnyH_ready (rs := [6]) (by kernel_rfl) (by simp) (AllReadyH.cons rfl (fun K hK => ?_) AllReadyH.nil)
          rw [if_pos (by rfl)]
          refine wp_store_part 23 _ _ rfl rfl g0 0 (bv Hp) 32 rfl rfl 23 _ 32 KD.out.r0 (by omega) info26 (fun i _ => rfl) (bv Hp) (fun i hi => by unfold splice; rw [if_pos (by omega), Nat.sub_zero]) ?_
          refine hK.out _ _ ⟨hHeld.1.row_other _ _ (by have := HG.out; omega), hHeld.2.row_other _ _ (by have := HG.out; omega)⟩ (fun hH => ?_)
          clear hK hHeld
          have hHeld := hH
          clear hH
          refine wpAnyH_ready (rs := [7]) (by kernel_rfl) (by simp) (AllReadyH.cons rfl (fun K hK => ?_) AllReadyH.nil)
          rw [if_pos (by rfl)]
          have r1' := KD.out.r1.row_other g0 (tabv (bv Hp) 32) (by have := HG.out; omega)
          refine wp_store_part 26 _ _ rfl rfl g1 0 (ledv X Y (.slice adp np cp)) 3 rfl rfl 26 _ 3 r1' (by omega) infoL (fun i _ => one_ledv _ _ _ rfl i) (ledv X Y (.slice adp np cp)) (fun i hi => by unfold splice; rw [if_pos (by omega), Nat.sub_zero]) ?_
          refine hK.out _ _ ⟨hHeld.1.row_other _ _ (by have := HG.out; omega), hHeld.2.row_other _ _ (by have := HG.out; omega)⟩ (fun hH => ?_)
          clear hK hHeld
          have hHeld := hH
          clear hH
          refine takeH 8 (some 6) (.int .i64 0) rfl rfl (by kernel_rfl) (by kernel_rfl) (by kernel_rfl) (fun _ _ _ h => h) (by rfl) (fun w hw => by first | rfl | (go_simp; done) | (go_simp; rfl) | (go_simp; omega)) hHeld ?_
          simp only [Act.put, List.setIfInBounds_toArray, List.set_cons_zero, List.set_cons_succ]
          refine ⟨by kernel_rfl, ?_⟩
          refine NoPanic.normal ?_
          try go_wp2
          have q0 := (KD.out.r0.row (tabv (bv Hp) 32) (bv Hp) rfl).row_other g1 (tabv (ledv X Y (.slice adp np cp)) 3) (by have := HG.out; omega)
          have q1 := r1'.row (tabv (ledv X Y (.slice adp np cp)) 3) (ledv X Y (.slice adp np cp)) rfl
          have hOF := (KD.out.row.same (fun i hi => (setRow_other _ _ _ _ (by have := (KD.out.row.lt i hi).1; have := HG.out; omega)).trans (setRow_other _ _ _ _ (by have := (KD.out.row.lt i hi).1; have := HG.out; omega)) : ∀ i, (Value.slice adp np cp).ownBlock = some i → ((wd.setRow g0 (tabv (bv Hp) 32)).setRow g1 (tabv (ledv X Y (.slice adp np cp)) 3)).heap[i]? = wd.heap[i]?))
          exact bodyPost_ret (resR5 _ g0 g1 _ _ _ _ _ _ q0 q1 rfl rfl rfl rfl rfl _ rfl) rfl (rdPost O N Hp X Y ps _ 0 rfl (by first | exact hOF.mono (by have := HG.out; omega) | (rw [hg0]; exact hOF.mono (by have := HG.out; omega))) (by first | exact below_setRow (below_setRow KD.out.bel (Nat.le_refl _) _) (by have := HG.out; omega) _ | (rw [hg0]; exact below_setRow (below_setRow KD.out.bel (Nat.le_refl _) _) (by have := HG.out; omega) _)) (.inl ⟨rfl, HR.out.1, HR.out.2.1, HRN.out, HR.out.2.2⟩))
        · have x3 : (b'.toList == b.toList) = false := beq_false_of_ne (ba_ne hbb)
          have x4 : ¬ b'.toList = b.toList := ba_ne hbb
          have HNO : Hid (∀ o' n' h' x' y' l', ¬ RdOk b o' n' h' x' y' l') := fun o' n' h' x' y' l' hr => by
            obtain ⟨e1, e2, e3, e4, e5, e6⟩ := HE.out o' n' h' x' y' l' hr
            have := (HTA.out.good (by rw [e1, e2]; exact hr.arg) (by rw [e4, e5]; exact hr.snd.congr (eqL_symm e6))).1
            rw [e1, e2, e4, e5, textB_congr e3 e6, ← hr.eq] at this
            exact hbb this
          have q1' := hide (KW7.out.r1.row_other g0 (tabv (bv (fun _ => (0 : UInt8))) 32) (by have := HG.out; omega))
          go_wp2_with (first | refine wpW_build (by rfl) 23 #[] rfl [] (by simp) _ builtH0 ?_ | refine wpW_build (by rfl) 26 #[] rfl [] (by simp) _ builtL0 ?_ | refine wpList_storeHH rfl _ _ rfl rfl g0 (fun _ => 0) rfl rfl _ KW7.out.r0 ?_ | refine wpList_storeL rfl _ _ rfl rfl g1 0 0 (.slice none 0 0) rfl rfl rfl _ q1'.out ?_)
          have q0 := (KW7.out.r0.row (tabv (bv (fun _ => (0 : UInt8))) 32) (bv (fun _ => 0)) rfl).row_other g1 (tabv (ledv 0 0 (.slice none 0 0)) 3) (by have := HG.out; omega)
          have q1 := q1'.out.row (tabv (ledv 0 0 (.slice none 0 0)) 3) (ledv 0 0 (.slice none 0 0)) rfl
          exact bodyPost_ret (resR5 _ g0 g1 _ _ _ _ _ _ q0 q1 rfl rfl rfl rfl rfl _ rfl) rfl (rdPost 0 0 (fun _ => 0) 0 0 [] (.slice none 0 0) 4 rfl (OwnP.nil _ _) (by first | exact below_setRow (below_setRow KW7.out.bel (Nat.le_refl _) _) (by have := HG.out; omega) _ | (rw [hg0]; exact below_setRow (below_setRow KW7.out.bel (Nat.le_refl _) _) (by have := HG.out; omega) _)) (.inr ⟨rfl, rfl, rfl, rfl, rfl, rfl, rfl, HNO.out⟩))
      · have x1 : (c' == 0) = false := beq_false_of_ne hc0
        have x2 : (c' != 0) = true := bne_iff_ne.2 hc0
        have HNO : Hid (∀ o' n' h' x' y' l', ¬ RdOk b o' n' h' x' y' l') := fun o' n' h' x' y' l' hr => by
          obtain ⟨e1, e2, e3, e4, e5, e6⟩ := HE.out o' n' h' x' y' l' hr
          exact hc0 (HTA.out.good (by rw [e1, e2]; exact hr.arg) (by rw [e4, e5]; exact hr.snd.congr (eqL_symm e6))).2
        have q1' := hide (KW7.out.r1.row_other g0 (tabv (bv (fun _ => (0 : UInt8))) 32) (by have := HG.out; omega))
        go_wp2_with (first | refine wpW_build (by rfl) 23 #[] rfl [] (by simp) _ builtH0 ?_ | refine wpW_build (by rfl) 26 #[] rfl [] (by simp) _ builtL0 ?_ | refine wpList_storeHH rfl _ _ rfl rfl g0 (fun _ => 0) rfl rfl _ KW7.out.r0 ?_ | refine wpList_storeL rfl _ _ rfl rfl g1 0 0 (.slice none 0 0) rfl rfl rfl _ q1'.out ?_)
        have q0 := (KW7.out.r0.row (tabv (bv (fun _ => (0 : UInt8))) 32) (bv (fun _ => 0)) rfl).row_other g1 (tabv (ledv 0 0 (.slice none 0 0)) 3) (by have := HG.out; omega)
        have q1 := q1'.out.row (tabv (ledv 0 0 (.slice none 0 0)) 3) (ledv 0 0 (.slice none 0 0)) rfl
        exact bodyPost_ret (resR5 _ g0 g1 _ _ _ _ _ _ q0 q1 rfl rfl rfl rfl rfl _ rfl) rfl (rdPost 0 0 (fun _ => 0) 0 0 [] (.slice none 0 0) 4 rfl (OwnP.nil _ _) (by first | exact below_setRow (below_setRow KW7.out.bel (Nat.le_refl _) _) (by have := HG.out; omega) _ | (rw [hg0]; exact below_setRow (below_setRow KW7.out.bel (Nat.le_refl _) _) (by have := HG.out; omega) _)) (.inr ⟨rfl, rfl, rfl, rfl, rfl, rfl, rfl, HNO.out⟩))
end Go.Proofs.Ythcaokiboimibaa
