/-
  take, Read of the code (printed by gen_c5.py).
-/
import Derived.Test.YthmbpddpdbkioaaCSame
namespace Go.Proofs.Ythmbpddpdbkioaa
open Go.RowKit S
set_option linter.unusedVariables false
set_option linter.unusedSimpArgs false
open Cu (nb be hl hOf ofL num nil8 takeS takeA RS CW Mw CR Mr)
theorem Has.mr {w w' : World} {g p m : Nat} {t : TypeId} {f : Nat → Value} (h : Has w g t f m) (hM : Mr p w w') (hg : g ≠ p) : Has w' g t f m := by
  unfold Has; rw [hM.block g h.lt hg]; exact h
section
variable {ops : Array Oper} {rest : List Oper} {o : Oper} {a : Act} {w : World} {Q : Exit → Act → World → Prop}
theorem wpList_storeHP (hgd : o.guard = none) (x y : Operand) (ho : o.op = .store 30 x y) (hd : o.dst = none) (g : Nat) (h : Nat → UInt8) (s : Pen) (hx : a.eval x = .pointer (some ⟨g, 3, none⟩)) (hy : a.eval y = .agg (tabv (bv h) 32)) (hg : Has w g 36 s.v 35) (t : Pen) (ht : t = ⟨s.ours, s.id, s.amt, h⟩)
    (hk : wpList Try.prog ops Q rest a (w.setRow g (tabv t.v 35))) : wpList Try.prog ops Q (o :: rest) a w :=
  wpList_store_part hgd 30 x y ho hd g 3 (bv h) 32 hx hy 36 s.v 35 hg (by omega) info26 (fun i _ => rfl) _ (fun i hi => by
    subst ht
    unfold splice Pen.v bv
    by_cases h0 : i = 0
    · subst h0; simp
    · by_cases h1 : i = 1
      · subst h1; simp
      · by_cases h2 : i = 2
        · subst h2; simp
        · rw [if_pos (by omega), if_neg h0, if_neg h1, if_neg h2]) hk
theorem wpList_storeHH (hgd : o.guard = none) (x y : Operand) (ho : o.op = .store 30 x y) (hd : o.dst = none) (g : Nat) (h : Nat → UInt8) (hx : a.eval x = .pointer (some ⟨g, 0, none⟩)) (hy : a.eval y = .agg (tabv (bv h) 32)) (f : Nat → Value) (hg : Has w g 30 f 32)
    (hk : wpList Try.prog ops Q rest a (w.setRow g (tabv (bv h) 32))) : wpList Try.prog ops Q (o :: rest) a w :=
  wpList_store_part hgd 30 x y ho hd g 0 (bv h) 32 hx hy 30 f 32 hg (by omega) info26 (fun i _ => rfl) (bv h) (fun i hi => by unfold splice; rw [if_pos (by omega), Nat.sub_zero]) hk
end
theorem Has.penO {w : World} {g : Nat} {s : Pen} (h : Has w g 36 s.v 35) (b : Bool) : Has (w.setCell ⟨g, 0, none⟩ (.bool b)) g 36 (⟨b, s.id, s.amt, s.hash⟩ : Pen).v 35 :=
  (h.set 0 (.bool b)).congr _ (fun i hi => by
    unfold upd Pen.v
    by_cases e : i = 0
    · subst e; simp
    · rw [if_neg e]; simp [e])
theorem Has.penI {w : World} {g : Nat} {s : Pen} (h : Has w g 36 s.v 35) (k : Int) : Has (w.setCell ⟨g, 1, none⟩ (.int .i64 k)) g 36 (⟨s.ours, k, s.amt, s.hash⟩ : Pen).v 35 :=
  (h.set 1 (.int .i64 k)).congr _ (fun i hi => by
    unfold upd Pen.v
    by_cases e : i = 1
    · subst e; simp
    · rw [if_neg e]; simp [e])
theorem Has.penA {w : World} {g : Nat} {s : Pen} (h : Has w g 36 s.v 35) (k : Int) : Has (w.setCell ⟨g, 2, none⟩ (.int .i64 k)) g 36 (⟨s.ours, s.id, k, s.hash⟩ : Pen).v 35 :=
  (h.set 2 (.int .i64 k)).congr _ (fun i hi => by
    unfold upd Pen.v
    by_cases e : i = 2
    · subst e; simp
    · rw [if_neg e]; simp [e])
set_option maxRecDepth 100000 in
set_option maxHeartbeats 4000000 in
theorem take_any (p : Nat) (st : RS) (w : World) (h : CR w p st) : Calls Try.prog 31 #[.pointer (some ⟨p, 0, none⟩)] w fun e w' => e = .returned (.agg (tabv (penR st).v 35)) ∧ CR w' p (penS st) ∧ Mr p w w' := by
  have hzz : tabv Pen.zv 35 = tabv Pen.zero.v 35 := by kernel_rfl
  obtain ⟨wa, hWa⟩ : ∃ z, w.alloc (.cells (tabv Pen.zv 35) 36) = z := ⟨_, rfl⟩
  obtain ⟨wb, hWb⟩ : ∃ z, wa.alloc (.cells (tabv Pen.zv 35) 36) = z := ⟨_, rfl⟩
  rw [← zero35] at hWa hWb
  have ra : Has wa w.heap.size 36 Pen.zero.v 35 := by rw [← hWa, zero35, hzz]; exact Has.new w 36 _ 35 _ rfl
  have ba : Below w.heap.size w wa := by rw [← hWa]; exact (Below.refl _ _).alloc (Nat.le_refl _) _
  have rb : Has wb wa.heap.size 36 Pen.zero.v 35 := by rw [← hWb, zero35, hzz]; exact Has.new wa 36 _ 35 _ rfl
  have bb : Below wa.heap.size wa wb := by rw [← hWb]; exact (Below.refl _ _).alloc (Nat.le_refl _) _
  have gb : Below w.heap.size w wb := ba.trans (bb.mono ba.size)
  have I1 := hide (ra.below bb ra.lt)
  have G1 := hide rb
  have h1 : CR wb p st := h.below gb
  have hp : p < w.heap.size := h.lt
  have hgg : w.heap.size < wa.heap.size := ra.lt
  have HB1 : Hid (∀ k, k < w.heap.size → k ≠ p → wb.heap[k]? = w.heap[k]?) := fun k hk _ => gb.block k hk
  have HX1 : Hid (wb.os = w.os ∧ wb.tape = w.tape ∧ wb.output = w.output ∧ w.heap.size ≤ wb.heap.size) := ⟨gb.os, gb.tape, gb.output, gb.size⟩
  obtain ⟨B0, hB0⟩ : ∃ b, decide (be (takeA 1 st).data.toList ≠ 0) = b := ⟨_, rfl⟩
  obtain ⟨X0, hX0⟩ : ∃ x : Int, (be (takeA 1 st).data.toList : Int) = x := ⟨_, rfl⟩
  obtain ⟨Z1, hZ1⟩ : ∃ z, i64 (num 8 (takeS 1 st)) = z := ⟨_, rfl⟩
  obtain ⟨Z2, hZ2⟩ : ∃ z, i64 (num 8 (takeS 8 (takeS 1 st))) = z := ⟨_, rfl⟩
  obtain ⟨Hh, hHh⟩ : ∃ z, hOf (takeA 32 (takeS 8 (takeS 8 (takeS 1 st)))) = z := ⟨_, rfl⟩
  have HP : Hid ((⟨B0, Z1, Z2, Hh⟩ : Pen) = penR st) := by show _ = _; unfold penR; rw [hB0, hZ1, hZ2, hHh]
  have HB0 : Hid ((X0 != 0) = B0 ∧ (X0 == 0) = !B0) := by
    have e : (X0 == 0) = !B0 := by
      rw [← hB0, ← hX0]
      by_cases hz : be (takeA 1 st).data.toList = 0
      · simp [hz]
      · simp [hz]
    exact ⟨by rw [show (X0 != 0) = !(X0 == 0) from rfl, e]; simp, e⟩
  have HX0 := hide hX0
  have HZ1 := hide hZ1
  have HZ2 := hide hZ2
  have HHh := hide hHh
  clear hzz hB0 hX0 hZ1 hZ2 hHh ra ba rb bb gb h
  go_enter Try.func31, Try.ntmps31
  go_upto_region 2 with fail
  generalize hg1 : w.heap.size = g1 at I1 hp hgg HB1 HX1 ⊢
  generalize hg2 : wa.heap.size = g2 at G1 hgg ⊢
  have HG : Hid (p < g1 ∧ g1 < g2) := ⟨hp, hgg⟩
  clear hWa hWb hg2 hp hgg
  go_wp2_with fail
  refine (Cu.rU8 p st _ h1).mono ?_
  rintro e u2 ⟨rfl, hc, hM⟩
  rw [HX0.out]
  have f1 := HB0.out.1
  have f2 := HB0.out.2
  have Gx := G1.out.mr hM (by have := HG.out; omega)
  have I2 := hide (I1.out.mr hM (by have := HG.out; omega))
  have HBx : Hid (∀ k, k < g1 → k ≠ p → u2.heap[k]? = w.heap[k]?) := fun k hk hkp => (hM.block k (by have := HX1.out; omega) hkp).trans (HB1.out k hk hkp)
  have HXx : Hid (u2.os = w.os ∧ u2.tape = w.tape ∧ u2.output = w.output ∧ g1 ≤ u2.heap.size) := ⟨hM.os.trans HX1.out.1, hM.tape.trans HX1.out.2.1, hM.output.trans HX1.out.2.2.1, Nat.le_trans HX1.out.2.2.2 hM.size⟩
  have cz := Gx.cell 0 (by omega)
  have fz := Gx.frozen 0
  have cz' : u2.cell? ⟨g2, 0, none⟩ = some (.bool false) := cz
  obtain ⟨v2, hv2⟩ : ∃ z, u2.setCell ⟨g2, 0, none⟩ (.bool B0) = z := ⟨_, rfl⟩
  have G2 : Hid (Has v2 g2 36 (⟨B0, 0, 0, fun _ => 0⟩ : Pen).v 35) := by rw [← hv2]; exact Gx.penO B0
  have h2 : CR v2 p (takeS 1 st) := by rw [← hv2]; exact hc.same (Below.heap_setCell _ ⟨g2, 0, none⟩ _ p (by have := HG.out; show p ≠ g2; omega))
  have I2 := hide (show Has v2 g1 36 Pen.zero.v 35 by rw [← hv2]; exact I2.out.same (Below.heap_setCell _ ⟨g2, 0, none⟩ _ g1 (by have := HG.out; show g1 ≠ g2; omega)))
  have HB2 : Hid (∀ k, k < g1 → k ≠ p → v2.heap[k]? = w.heap[k]?) := fun k hk hkp => by rw [← hv2, Below.heap_setCell _ ⟨g2, 0, none⟩ _ k (by have := HG.out; show k ≠ g2; omega)]; exact HBx.out k hk hkp
  have HX2 : Hid (v2.os = w.os ∧ v2.tape = w.tape ∧ v2.output = w.output ∧ g1 ≤ v2.heap.size) := by rw [← hv2]; exact ⟨HXx.out.1, HXx.out.2.1, HXx.out.2.2.1, by simpa using HXx.out.2.2.2⟩
  clear cz hM hc HBx HXx Gx HB1 HX1
  go_upto_region 3 with fail
  try rw [hv2]
  clear cz' fz hv2 f1 f2 h1
  go_wp2_with fail
  refine (Cu.rI64 p (takeS 1 st) _ h2 Z1 HZ1.out).mono ?_
  rintro e u3 ⟨rfl, hc, hM⟩
  have Gx := G2.out.mr hM (by have := HG.out; omega)
  have I3 := hide (I2.out.mr hM (by have := HG.out; omega))
  have HBx : Hid (∀ k, k < g1 → k ≠ p → u3.heap[k]? = w.heap[k]?) := fun k hk hkp => (hM.block k (by have := HX2.out; omega) hkp).trans (HB2.out k hk hkp)
  have HXx : Hid (u3.os = w.os ∧ u3.tape = w.tape ∧ u3.output = w.output ∧ g1 ≤ u3.heap.size) := ⟨hM.os.trans HX2.out.1, hM.tape.trans HX2.out.2.1, hM.output.trans HX2.out.2.2.1, Nat.le_trans HX2.out.2.2.2 hM.size⟩
  have cz := Gx.cell 1 (by omega)
  have fz := Gx.frozen 1
  have cz' : u3.cell? ⟨g2, 1, none⟩ = some (.int .i64 0) := cz
  obtain ⟨v3, hv3⟩ : ∃ z, u3.setCell ⟨g2, 1, none⟩ (.int .i64 Z1) = z := ⟨_, rfl⟩
  have G3 : Hid (Has v3 g2 36 (⟨B0, Z1, 0, fun _ => 0⟩ : Pen).v 35) := by rw [← hv3]; exact Gx.penI Z1
  have h3 : CR v3 p (takeS 8 (takeS 1 st)) := by rw [← hv3]; exact hc.same (Below.heap_setCell _ ⟨g2, 1, none⟩ _ p (by have := HG.out; show p ≠ g2; omega))
  have I3 := hide (show Has v3 g1 36 Pen.zero.v 35 by rw [← hv3]; exact I3.out.same (Below.heap_setCell _ ⟨g2, 1, none⟩ _ g1 (by have := HG.out; show g1 ≠ g2; omega)))
  have HB3 : Hid (∀ k, k < g1 → k ≠ p → v3.heap[k]? = w.heap[k]?) := fun k hk hkp => by rw [← hv3, Below.heap_setCell _ ⟨g2, 1, none⟩ _ k (by have := HG.out; show k ≠ g2; omega)]; exact HBx.out k hk hkp
  have HX3 : Hid (v3.os = w.os ∧ v3.tape = w.tape ∧ v3.output = w.output ∧ g1 ≤ v3.heap.size) := by rw [← hv3]; exact ⟨HXx.out.1, HXx.out.2.1, HXx.out.2.2.1, by simpa using HXx.out.2.2.2⟩
  clear cz hM hc HBx HXx Gx HB2 HX2
  go_upto_region 4 with fail
  try rw [hv3]
  clear cz' fz hv3 h2
  go_wp2_with fail
  refine (Cu.rI64 p (takeS 8 (takeS 1 st)) _ h3 Z2 HZ2.out).mono ?_
  rintro e u4 ⟨rfl, hc, hM⟩
  have Gx := G3.out.mr hM (by have := HG.out; omega)
  have I4 := hide (I3.out.mr hM (by have := HG.out; omega))
  have HBx : Hid (∀ k, k < g1 → k ≠ p → u4.heap[k]? = w.heap[k]?) := fun k hk hkp => (hM.block k (by have := HX3.out; omega) hkp).trans (HB3.out k hk hkp)
  have HXx : Hid (u4.os = w.os ∧ u4.tape = w.tape ∧ u4.output = w.output ∧ g1 ≤ u4.heap.size) := ⟨hM.os.trans HX3.out.1, hM.tape.trans HX3.out.2.1, hM.output.trans HX3.out.2.2.1, Nat.le_trans HX3.out.2.2.2 hM.size⟩
  have cz := Gx.cell 2 (by omega)
  have fz := Gx.frozen 2
  have cz' : u4.cell? ⟨g2, 2, none⟩ = some (.int .i64 0) := cz
  obtain ⟨v4, hv4⟩ : ∃ z, u4.setCell ⟨g2, 2, none⟩ (.int .i64 Z2) = z := ⟨_, rfl⟩
  have G4 : Hid (Has v4 g2 36 (⟨B0, Z1, Z2, fun _ => 0⟩ : Pen).v 35) := by rw [← hv4]; exact Gx.penA Z2
  have h4 : CR v4 p (takeS 8 (takeS 8 (takeS 1 st))) := by rw [← hv4]; exact hc.same (Below.heap_setCell _ ⟨g2, 2, none⟩ _ p (by have := HG.out; show p ≠ g2; omega))
  have I4 := hide (show Has v4 g1 36 Pen.zero.v 35 by rw [← hv4]; exact I4.out.same (Below.heap_setCell _ ⟨g2, 2, none⟩ _ g1 (by have := HG.out; show g1 ≠ g2; omega)))
  have HB4 : Hid (∀ k, k < g1 → k ≠ p → v4.heap[k]? = w.heap[k]?) := fun k hk hkp => by rw [← hv4, Below.heap_setCell _ ⟨g2, 2, none⟩ _ k (by have := HG.out; show k ≠ g2; omega)]; exact HBx.out k hk hkp
  have HX4 : Hid (v4.os = w.os ∧ v4.tape = w.tape ∧ v4.output = w.output ∧ g1 ≤ v4.heap.size) := by rw [← hv4]; exact ⟨HXx.out.1, HXx.out.2.1, HXx.out.2.2.1, by simpa using HXx.out.2.2.2⟩
  clear cz hM hc HBx HXx Gx HB3 HX3
  go_upto_region 5 with fail
  try rw [hv4]
  clear cz' fz hv4 h3
  go_wp2_with fail
  refine (Cu.rHash p (takeS 8 (takeS 8 (takeS 1 st))) _ h4).mono ?_
  rintro e u5 ⟨rfl, hc, hM⟩
  rw [HHh.out]
  have Gx := G4.out.mr hM (by have := HG.out; omega)
  have I5 := hide (I4.out.mr hM (by have := HG.out; omega))
  have HBx : Hid (∀ k, k < g1 → k ≠ p → u5.heap[k]? = w.heap[k]?) := fun k hk hkp => (hM.block k (by have := HX4.out; omega) hkp).trans (HB4.out k hk hkp)
  have HXx : Hid (u5.os = w.os ∧ u5.tape = w.tape ∧ u5.output = w.output ∧ g1 ≤ u5.heap.size) := ⟨hM.os.trans HX4.out.1, hM.tape.trans HX4.out.2.1, hM.output.trans HX4.out.2.2.1, Nat.le_trans HX4.out.2.2.2 hM.size⟩
  obtain ⟨v5, hv5⟩ : ∃ z, u5.setRow g2 (tabv (⟨B0, Z1, Z2, Hh⟩ : Pen).v 35) = z := ⟨_, rfl⟩
  have G5 : Hid (Has v5 g2 36 (⟨B0, Z1, Z2, Hh⟩ : Pen).v 35) := by rw [← hv5]; exact Gx.row _ _ rfl
  have GX := hide Gx
  have h5 : CR v5 p (penS st) := by rw [← hv5]; exact hc.same (setRow_other _ _ _ _ (by have := HG.out; omega))
  have I5 := hide (show Has v5 g1 36 Pen.zero.v 35 by rw [← hv5]; exact I5.out.row_other _ _ (by have := HG.out; omega))
  have HB5 : Hid (∀ k, k < g1 → k ≠ p → v5.heap[k]? = w.heap[k]?) := fun k hk hkp => by rw [← hv5, setRow_other _ _ _ _ (by have := HG.out; omega)]; exact HBx.out k hk hkp
  have HX5 : Hid (v5.os = w.os ∧ v5.tape = w.tape ∧ v5.output = w.output ∧ g1 ≤ v5.heap.size) := by rw [← hv5]; exact ⟨HXx.out.1, HXx.out.2.1, HXx.out.2.2.1, by simpa using HXx.out.2.2.2⟩
  clear hM hc HBx HXx Gx HB4 HX4 h4
  go_wp2_with (first | refine wpList_storeHP rfl _ _ rfl rfl g2 Hh (⟨B0, Z1, Z2, fun _ => 0⟩ : Pen) rfl rfl GX.out (⟨B0, Z1, Z2, Hh⟩ : Pen) rfl ?_ | (rw [hv5]; refine wpW_load_at 36 _ rfl (g2) (0) (by rfl) (by rfl) _ 35 _ (G5.out.at_ 0 (by omega) (fun i hi => by rw [Nat.zero_add])) Try.underlying36 rfl infoP ?_) | refine wpW_load_at 36 _ rfl (g2) (0) (by rfl) (by rfl) _ 35 _ (G5.out.at_ 0 (by omega) (fun i hi => by rw [Nat.zero_add])) Try.underlying36 rfl infoP ?_ | refine wpList_storeP rfl _ _ rfl rfl g1 (⟨B0, Z1, Z2, Hh⟩ : Pen) rfl rfl _ I5.out ?_)
  have hF : CR (v5.setRow g1 (tabv (⟨B0, Z1, Z2, Hh⟩ : Pen).v 35)) p (penS st) := h5.same (setRow_other _ _ _ _ (by have := HG.out; omega))
  have hMF : Mr p w (v5.setRow g1 (tabv (⟨B0, Z1, Z2, Hh⟩ : Pen).v 35)) := ⟨HX5.out.1, HX5.out.2.1, HX5.out.2.2.1, by simpa using (by rw [hg1]; exact HX5.out.2.2.2), fun k hk hkp _ => by rw [hg1] at hk; rw [setRow_other _ _ _ _ (by omega)]; exact HB5.out k hk hkp, fun g hg => .inl hg⟩
  exact bodyPost_ret (results_cell_row rfl _ _ g1 36 _ (0, 0) _ rfl (I5.out.row _ (⟨B0, Z1, Z2, Hh⟩ : Pen).v rfl) Try.underlying36 rfl (by rw [tabv_size]; exact infoP)) rfl ⟨by rw [HP.out], hF, hMF⟩
end Go.Proofs.Ythmbpddpdbkioaa
